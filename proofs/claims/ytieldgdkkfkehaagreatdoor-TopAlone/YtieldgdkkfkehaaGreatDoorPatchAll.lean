/-
  What All of package patch returns, for objects that may be, and any bases: all patches in order, or the number of the error; memory that was there stays as it was.
-/
import Derived.Test.YtieldgdkkfkehaaGreatDoorPatchWalks
import Derived.Test.YtieldgdkkfkehaaGreatDoorAtAll
namespace Go.Proofs.YtieldgdkkfkehaaGreatDoor
open Go.RowKit

/-- a patch's three cells. -/
def patC (x : Nat × Int × Int) : List Value := [.int .i64 (x.1 : Int), .int .i64 x.2.1, .int .i64 x.2.2]
def patsC (l : List (Nat × Int × Int)) : List Value := l.flatMap patC
theorem patsC_snoc (l : List (Nat × Int × Int)) (x : Nat × Int × Int) : patsC l ++ [.int .i64 (x.1 : Int), .int .i64 x.2.1, .int .i64 x.2.2] = patsC (l ++ [x]) := by simp [patsC, patC]
/-- one patch more. -/
theorem growPat {B : Nat} {w : World} {v : Value} {l : List (Nat × Int × Int)} (x y z : Int) (hB : B ≤ w.heap.size) (h : w.ownsRow B 97 3 v l.length (patsC l)) (hn : l.length < 1000000) :
    ∃ v' W, (Builtin.append_ #[45, 45] 45 #[v, .slice (some ⟨w.heap.size, 0, none⟩) 1 1]).run Tryz.prog (w.alloc (.cells #[.int .i64 x, .int .i64 y, .int .i64 z] 97)) = .ok v' W ∧ Grown B 97 3 (w.alloc (.cells #[.int .i64 x, .int .i64 y, .int .i64 z] 97)) v (l.length + 1) (patsC l ++ [.int .i64 x, .int .i64 y, .int .i64 z]) v' W :=
  append_from 45 97 3 24 (.agg #[.int .i64 0, .int .i64 0, .int .i64 0]) (by kernel_rfl) (by kernel_rfl) (by rfl) (by decide) B _ v l.length _ (h.alloc _) (some ⟨w.heap.size, 0, none⟩) 1 1 [.int .i64 x, .int .i64 y, .int .i64 z] rfl
    (.inr ⟨_, _, rfl, fun j u hj => by
      match j, hj with
      | 0, hj => simp at hj; subst hj; simp [go_sem]
      | 1, hj => simp at hj; subst hj; simp [go_sem]
      | 2, hj => simp at hj; subst hj; simp [go_sem]
      | j + 3, hj => simp at hj⟩) (fun u hu => by simp at hu; rcases hu with rfl | rfl | rfl <;> rfl) (by simp; omega) (by omega) (by decide)
theorem errV_pos' {f : Nat} (h : f ≠ 0) : ∃ n : Int, errV f = .iface 79 (.int .i64 n) := by
  cases f with
  | zero => exact absurd rfl h
  | succ f => exact ⟨_, rfl⟩

/-- a call of All that returned. -/
inductive AllEnd (w : World) (B : Nat) (l : List (Nat × Int × Int)) (F : Nat) : Ending → Prop
  | bad (hf : F ≠ 0) : AllEnd w B l F (.returned (.tuple #[.slice none 0 0, errV F]))
  | ok (hf : F = 0) (v : Value) (hv : w.ownsRow B 97 3 v l.length (patsC l)) : AllEnd w B l F (.returned (.tuple #[v, .nilIface]))

theorem outB_no {B : Nat → Int} {n : Nat} (h : ¬ outB B n = true) : ∀ i, i < n → 0 ≤ B i ∧ B i ≤ 256 := fun i hi => by
  by_cases e : B i < 0 ∨ 256 < B i
  · exact absurd (anyTo_yes hi (decide_eq_true e)) h
  · omega

set_option maxRecDepth 100000 in
set_option maxHeartbeats 4000000 in
theorem all_any (al ab : Option Addr) (n cl nb cb : Nat) (V : Nat → ObjV) (O : Nat → ObjF) (B : Nat → Int) (P Q : ByteArray → Int) (w : World) (hn : n ≤ 1000) (hnb : nb ≤ maxLen) (hr : ObjsRow w al n V O) (hrb : RowAt w ab nb fun i => .int .i64 (B i)) (hg : ∀ i, i < n → ObjOk (O i)) (hP : Finds (symsF n O) P Q) :
    Calls Tryz.prog 15 #[.slice al n cl, .slice ab nb cb] w fun e w' => AllEnd w' w.heap.size (patsTo O P Q B n) (allF n O P Q nb B) e ∧ Below w.heap.size w w' := by
  have HC := checkBases_any B ab nb cb n w hnb hrb
  generalize hF : allF n O P Q nb B = F
  unfold allF at hF
  by_cases h1 : nb = n
  · subst h1
    rw [if_neg (by simp)] at hF
    rw [if_neg (by simp)] at HC
    by_cases h2 : outB B nb = true
    · rw [if_pos h2] at hF
      subst hF
      rw [if_pos h2] at HC
      simp only [errV] at HC
      clear h2 hr hrb hP hg
      go_enter Tryz.func15, Tryz.ntmps15
      go_wp2_with fail
      refine HC.mono ?_
      rintro e w1 ⟨rfl, rfl⟩
      clear HC
      go_wp2
      go_ret2
      exact ⟨.bad (by decide), Below.refl _ _⟩
    · rw [if_neg h2] at hF
      rw [if_neg h2] at HC
      simp only [errV] at HC
      have hin : PatIn w al nb V O ab B := ⟨hr, hrb, hg, outB_no h2, hn⟩
      have HF : Hid (tiesF O P Q B nb = F) := hF
      clear hF h2 hr hrb hnb
      go_enter Tryz.func15, Tryz.ntmps15
      go_wp2_with fail
      refine HC.mono ?_
      rintro e w1 ⟨rfl, hw1⟩
      replace hw1 := hw1.symm
      subst hw1
      clear HC
      go_wp2
      go_loopw [7, 23] (fun x z wr => ∃ (i : Nat) (v : Value), i ≤ nb ∧ z = .int .i64 i ∧ x = v ∧ wr.ownsRow w.heap.size 97 3 v (patsTo O P Q B i).length (patsC (patsTo O P Q B i)) ∧ Hid (tiesF O P Q B i = 0) ∧ Below w.heap.size w wr) (fun _ z _ => nb - (intOf z).toNat)
      case atStart => exact ⟨0, .slice none 0 0, Nat.zero_le _, rfl, rfl, World.ownsRow_nil _ _ _ _, rfl, Below.refl _ _⟩
      case round =>
        obtain ⟨i, v, hi, rfl, rfl, ho, HT, hb⟩ := hrel
        by_cases hlt : i < nb
        · have hgi := hg i hlt
          have hnT := hgi.nT
          have hlen := patsTo_le P Q B (i := i) (fun j hj => (hg j (by omega)).nT)
          have hin1 := hin.objs
          rcases hin1 with h0 | ⟨bk, o, rfl, hc⟩
          · omega
          have H := (hc i hlt).later hb
          have c0 := H.c0
          have c1 := H.c1
          have c2 := H.c2
          have c3 := H.c3
          have hti := (hc i hlt).here.ties
          have hx : ∀ ob : Obj, Below w.heap.size w (wr.alloc ob) := fun ob => hb.alloc hb.size ob
          clear H hc
          go_wp2
          go_loopw [7, 31] (fun x z wr => ∃ (k : Nat) (v : Value), k ≤ (O i).nT ∧ z = .int .i64 k ∧ x = v ∧ wr.ownsRow w.heap.size 97 3 v (patsTo O P Q B i ++ patsOf O P Q B i k).length (patsC (patsTo O P Q B i ++ patsOf O P Q B i k)) ∧ Hid (faultTo (fun k => (tieW O P Q B i k).1) k = 0) ∧ Below w.heap.size w wr) (fun _ z _ => (O i).nT - (intOf z).toNat)
          case atStart => exact ⟨0, _, Nat.zero_le _, rfl, rfl, by simpa [patsOf] using ho.alloc _, rfl, hx _⟩
          case round =>
            clear ho c0 c1 c2 c3 hx hb
            obtain ⟨k, v, hk, rfl, rfl, ho, HK, hb⟩ := hrel
            by_cases hlk : k < (O i).nT
            · have htk := hgi.ties k hlk
              rcases hti with h0 | ⟨b2, o2, ha2, hs2⟩
              · omega
              obtain ⟨d0, d1, d2, d3, d4⟩ := hs2 k hlk
              replace d0 := cell_later hb d0
              replace d1 := cell_later hb d1
              replace d2 := cell_later hb d2
              replace d3 := cell_later hb d3
              replace d4 := cell_later hb d4
              rw [ha2]
              clear hs2
              have hx : ∀ ob : Obj, Below w.heap.size w (wr.alloc ob) := fun ob => hb.alloc hb.size ob
              have HW := fun (w' : World) (hb : Below w.heap.size w w') => word_any (some ⟨bk, o, none⟩) ab nb cl cb V O B P Q i ((O i).tAt k) ((O i).tKind k) ((O i).tAdd k) ((O i).tName k) ((O i).tWeak k) w' (hin.later hb) hP hlt (by have := hgi.nW; omega) (by omega)
              have hTW : hangF ((O i).tKind k) (B i) ((O i).tAt k) ((O i).tAdd k) (whereG O P Q B (B i) ((O i).tKind k) ((O i).tName k) ((O i).tWeak k)) = tieW O P Q B i k := rfl
              rw [hTW] at HW
              clear hTW htk
              have hln := patsOf_len O P Q B i k
              by_cases hf : (tieW O P Q B i k).1 = 0
              · have HE : Hid (faultTo (fun k => (tieW O P Q B i k).1) (k + 1) = 0) := faultTo_ok HK.out hf
                have hrun : ∀ v, hangE (tieW O P Q B i k) = v → v = .tuple #[.int .i64 (tieW O P Q B i k).2, .nilIface] := fun v e => by rw [← e]; simp [hangE, hf, errV]
                simp only [hrun _ rfl] at HW
                clear hrun hf
                have hb2' := fun ob => (hx ob).size
                go_wp2_with fail
                refine (HW _ (hx _)).mono ?_
                rintro e w2 ⟨rfl, hb2⟩
                have e0 : w2.cell? ⟨wr.heap.size, 0, none⟩ = some (.int .i64 ((O i).tAt k)) := cell_later hb2 (by simp [go_sem])
                have ho2 := owns_below (ho.alloc (.cells #[.int .i64 ((O i).tAt k), .int .i64 ((O i).tKind k), .int .i64 ((O i).tAdd k), .string ((O i).tName k), .bool ((O i).tWeak k)] 67)) hb2
                have hb3 := (hx (.cells #[.int .i64 ((O i).tAt k), .int .i64 ((O i).tKind k), .int .i64 ((O i).tAdd k), .string ((O i).tName k), .bool ((O i).tWeak k)] 67)).trans (hb2.mono (by simp; have := hb.size; omega))
                obtain ⟨v1, W1, happ1, hG1⟩ := growPat (i : Int) ((O i).tAt k) (tieW O P Q B i k).2 hb3.size ho2 (by simp only [List.length_append]; omega)
                have ho3 := hG1.own
                rw [patsC_snoc (patsTo O P Q B i ++ patsOf O P Q B i k) (i, (O i).tAt k, (tieW O P Q B i k).2)] at ho3
                have ho4 : W1.ownsRow w.heap.size 97 3 v1 (patsTo O P Q B i ++ patsOf O P Q B i (k + 1)).length (patsC (patsTo O P Q B i ++ patsOf O P Q B i (k + 1))) := by
                  have e : patsTo O P Q B i ++ patsOf O P Q B i (k + 1) = patsTo O P Q B i ++ patsOf O P Q B i k ++ [(i, (O i).tAt k, (tieW O P Q B i k).2)] := by simp [patsOf]
                  rw [e, List.length_append (bs := [_]), List.length_singleton]
                  exact ho3
                have hb4 : Below w.heap.size w W1 := (hb3.alloc hb3.size _).trans hG1.below
                clear HW hb2 ho2 hb3 hG1 ho ho3 hx hb2'
                go_wp2_with (at_builtin; refine list_run rfl (.tmp 46) (.tmp 52) 45 rfl u7 (.slice (some ⟨w2.heap.size, 0, none⟩) 1 1) _ rfl rfl happ1 ?_)
                go_roundw
                case rel => exact ⟨k + 1, v1, by omega, by go_num, rfl, ho4, HE, hb4⟩
                case measure => simp [intOf]; omega
              · have HE : Hid (F = (tieW O P Q B i k).1) := by
                  show F = _
                  rw [← HF.out]
                  have e1 : faultTo (fun k => (tieW O P Q B i k).1) (O i).nT = (tieW O P Q B i k).1 := faultTo_stop hlk HK.out hf
                  have e2 := faultTo_stop (g := fun i => faultTo (fun k => (tieW O P Q B i k).1) (O i).nT) hlt HT.out (by rw [e1]; exact hf)
                  exact e2.trans e1
                have H0 : Hid ((tieW O P Q B i k).1 ≠ 0) := hf
                obtain ⟨z, hz⟩ := errV_pos' hf
                have hrun : hangE (tieW O P Q B i k) = .tuple #[.int .i64 (tieW O P Q B i k).2, .iface 79 (.int .i64 z)] := by simp [hangE, hz]
                rw [hrun] at HW
                have HZ : Hid (errV F = .iface 79 (.int .i64 z)) := by
                  show errV F = _
                  rw [HE.out]; exact hz
                clear hrun hf hz
                go_wp2_with fail
                refine (HW _ (hx _)).mono ?_
                rintro e w2 ⟨rfl, hb2⟩
                have hb3 := (hx (.cells #[.int .i64 ((O i).tAt k), .int .i64 ((O i).tKind k), .int .i64 ((O i).tAdd k), .string ((O i).tName k), .bool ((O i).tWeak k)] 67)).trans (hb2.mono (by simp; have := hb.size; omega))
                clear HW hb2 hx hb
                go_wp2
                go_ret2
                rw [← HZ.out]
                exact ⟨.bad (by rw [HE.out]; exact H0.out), hb3⟩
            · have e : k = (O i).nT := by omega
              subst e
              have HE : Hid (tiesF O P Q B (i + 1) = 0) := faultTo_ok HT.out HK.out
              have ho2 : wr.ownsRow w.heap.size 97 3 u7 (patsTo O P Q B (i + 1)).length (patsC (patsTo O P Q B (i + 1))) := ho
              clear ho
              go_wp2
              go_roundw
              case rel => exact ⟨i + 1, _, by omega, by go_num, rfl, ho2, HE, hb⟩
              case measure => simp [intOf]; omega
        · have e : i = nb := by omega
          subst e
          go_wp2
          go_ret2
          exact ⟨.ok (HF.out.symm.trans HT.out) _ ho, hb⟩
  · rw [if_pos h1] at hF
    subst hF
    rw [if_pos h1] at HC
    simp only [errV] at HC
    clear h1 hr hrb hP hg
    go_enter Tryz.func15, Tryz.ntmps15
    go_wp2_with fail
    refine HC.mono ?_
    rintro e w1 ⟨rfl, rfl⟩
    clear HC
    go_wp2
    go_ret2
    exact ⟨.bad (by decide), Below.refl _ _⟩
end Go.Proofs.YtieldgdkkfkehaaGreatDoor
