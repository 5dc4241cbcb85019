/-
  What free of package place returns, for every list of ranges: the least page that is free, or that there is none; memory that was there stays as it was.
  What Bases of package place returns, for all sizes and all that is taken: the bases that the document asks for, or the number of the error; memory that was there stays as it was.
-/
import Derived.Test.YtidabcoodolddaaGreatDoorPlaceWalks
import Derived.Test.YtidabcoodolddaaGreatDoorGrowInts
namespace Go.Proofs.YtidabcoodolddaaGreatDoor
open Go.RowKit

/-- the ranges are inside. -/
def RngIn (n : Nat) (f m : Nat → Int) : Prop := ∀ i, i < n → 0 ≤ f i ∧ f i ≤ 300 ∧ 0 ≤ m i ∧ m i ≤ 300

theorem meets_any (x m y k : Int) (bs : Nat) (w : World) (hx : 0 ≤ x ∧ x ≤ 300) (hm : 0 ≤ m ∧ m ≤ 300) (hy : 0 ≤ y ∧ y ≤ 300) (hk : 0 ≤ k ∧ k ≤ 300) (h0 : w.cell? ⟨bs, 0, none⟩ = some (.int .i64 x)) (h1 : w.cell? ⟨bs, 1, none⟩ = some (.int .i64 m)) :
    Calls Tryz.prog 107 #[.agg #[.int .i64 y, .int .i64 k], .pointer (some ⟨bs, 0, none⟩)] w fun e w' => e = .returned (.bool (!(apartB x m y k))) ∧ Below w.heap.size w w' := by
  have hl := World.block_lt_of_cell? _ _ h0
  have g0 : ∀ ob : Obj, (w.alloc ob).cell? ⟨bs, 0, none⟩ = some (.int .i64 x) := fun ob => by rw [World.cell?_alloc_lt _ _ _ hl]; exact h0
  have g1 : ∀ ob : Obj, (w.alloc ob).cell? ⟨bs, 1, none⟩ = some (.int .i64 m) := fun ob => by rw [World.cell?_alloc_lt _ _ _ (show bs < w.heap.size from hl)]; exact h1
  have HA := fun (w : World) => apart_any x m y k w (by omega) (by omega) (by omega) (by omega)
  clear h0 h1 hl hx hm hy hk
  generalize apartB x m y k = B at *
  go_enter Tryz.func107, Tryz.ntmps107
  go_wp2_with fail
  refine (HA _).mono ?_
  rintro e w2 ⟨rfl, hb⟩
  clear HA
  go_wp2
  go_ret
  exact ⟨rfl, ((Below.refl _ _).alloc (Nat.le_refl _) _).trans (hb.mono (by simp))⟩

set_option maxHeartbeats 1000000 in
theorem containsRng_any (f m : Nat → Int) (a : Option Addr) (n c bs : Nat) (x y : Int) (w : World) (hn : n ≤ 1000000000) (hr : RngRow w a n f m) (hi : RngIn n f m) (hx : 0 ≤ x ∧ x ≤ 300) (hy : 0 ≤ y ∧ y ≤ 300) (h0 : w.cell? ⟨bs, 0, none⟩ = some (.int .i64 x)) (h1 : w.cell? ⟨bs, 1, none⟩ = some (.int .i64 y)) :
    Calls Tryz.prog 109 #[.slice a n c, .func (.func 107) #[] #[.pointer (some ⟨bs, 0, none⟩)]] w fun e w' => e = .returned (.bool (meetsB f m n x y)) ∧ Below w.heap.size w w' := by
  generalize hF : meetsB f m n x y = F
  have HF : Hid (anyTo (fun j => !(apartB x y (f j) (m j))) n = F) := hF
  clear hF
  go_enter Tryz.func109, Tryz.ntmps109
  go_wp2
  go_loopw [8] (fun z wr => ∃ k : Nat, k ≤ n ∧ z = .int .i64 k ∧ Hid (anyTo (fun j => !(apartB x y (f j) (m j))) k = false) ∧ Below w.heap.size w wr) (fun z _ => n - (intOf z).toNat)
  case atStart => exact ⟨0, Nat.zero_le _, rfl, rfl, Below.refl _ _⟩
  case round =>
    obtain ⟨k, hk, rfl, HK, hb⟩ := hrel
    by_cases hlt : k < n
    · rcases hr with h0 | ⟨bk, o, rfl, hc⟩
      · omega
      · have hc0 := cell_later hb (hc k hlt).1
        have hc1 := cell_later hb (hc k hlt).2
        have hik := hi k hlt
        have HC := meets_any x y (f k) (m k) bs wr hx hy (by omega) (by omega) (cell_later hb h0) (cell_later hb h1)
        clear hc h0 h1 hi hik hx hy
        cases he : (!(apartB x y (f k) (m k))) with
        | true =>
          have HE : Hid (F = true) := HF.out.symm.trans (anyTo_yes hlt he)
          rw [he] at HC
          clear he
          go_wp2_with fail
          refine HC.mono ?_
          rintro e w2 ⟨rfl, hb2⟩
          clear HC
          go_wp2
          go_ret
          exact ⟨ret_bool HE.out.symm, hb.trans (hb2.mono hb.size)⟩
        | false =>
          have HE : Hid (anyTo (fun j => !(apartB x y (f j) (m j))) (k + 1) = false) := anyTo_no HK.out he
          rw [he] at HC
          clear he
          go_wp2_with fail
          refine HC.mono ?_
          rintro e w2 ⟨rfl, hb2⟩
          clear HC
          go_wp2
          go_roundw
          case rel => exact ⟨k + 1, by omega, by go_num, HE, hb.trans (hb2.mono hb.size)⟩
          case measure => simp [intOf]; omega
    · have HE : Hid (F = false) := by
        have e : k = n := by omega
        rw [← HF.out, ← e]; exact HK.out
      go_wp2
      go_ret
      exact ⟨ret_bool HE.out.symm, hb⟩

/-- a call of free that returned. -/
inductive FreeEnd (f m : Nat → Int) (n : Nat) (many : Int) : Ending → Prop
  | yes (k : Nat) (h : IsBase f m n many k) : FreeEnd f m n many (.returned (.tuple #[.agg #[.int .i64 (16 * (k : Int)), .int .i64 many], .bool true]))
  | no (h : NoBase f m n many) : FreeEnd f m n many (.returned (.tuple #[.agg #[.int .i64 0, .int .i64 0], .bool false]))

set_option maxHeartbeats 2000000 in
theorem free_any (f m : Nat → Int) (a : Option Addr) (n c : Nat) (many : Int) (w : World) (hn : n ≤ 1000000000) (hr : RngRow w a n f m) (hi : RngIn n f m) (hm0 : 1 ≤ many) (hm1 : many ≤ 256) :
    Calls Tryz.prog 76 #[.int .i64 many, .slice a n c] w fun e w' => FreeEnd f m n many e ∧ Below w.heap.size w w' := by
  have hx0 : ∀ ob : Obj, Below w.heap.size w (w.alloc ob) := fun ob => (Below.refl _ _).alloc (Nat.le_refl _) ob
  go_enter Tryz.func76, Tryz.ntmps76
  go_wp2
  go_loopw [6] (fun z wr => ∃ k : Nat, z = .int .i64 (16 * (k : Int)) ∧ k ≤ 17 ∧ Hid (∀ j : Nat, j < k → meetsB f m n (16 * (j : Int)) many = true) ∧ Below (w.heap.size + 1) (w.alloc (.cells #[.int .i64 0, .int .i64 0] 157)) wr) (fun z _ => 300 - (intOf z).toNat)
  case atStart => exact ⟨0, rfl, by omega, fun j hj => by omega, Below.refl _ _⟩
  case round =>
    obtain ⟨k, rfl, hk, HK, hb⟩ := hrel
    have hz : w.heap.size < wr.heap.size := by have := hb.size; simp at this; omega
    have c0 : wr.cell? ⟨w.heap.size, 0, none⟩ = some (.int .i64 0) := by rw [hb.cell (p := ⟨w.heap.size, 0, none⟩) (Nat.lt_succ_self _)]; simp [go_sem]
    have c1 : wr.cell? ⟨w.heap.size, 1, none⟩ = some (.int .i64 0) := by rw [hb.cell (p := ⟨w.heap.size, 1, none⟩) (Nat.lt_succ_self _)]; simp [go_sem]
    have z0 : ∀ o, wr.frozen? ⟨w.heap.size, o, none⟩ = false := fun o => by rw [hb.frozen (p := ⟨w.heap.size, o, none⟩) (Nat.lt_succ_self _)]; simp [go_sem]
    have hbw : Below w.heap.size w wr := (hx0 _).trans (hb.mono (Nat.le_succ _))
    by_cases hin : 16 * (k : Int) + many ≤ 256
    · have HC := fun (w' : World) (hw : Below w.heap.size w w') (bs : Nat) (h0 : w'.cell? ⟨bs, 0, none⟩ = some (.int .i64 (16 * (k : Int)))) (h1 : w'.cell? ⟨bs, 1, none⟩ = some (.int .i64 many)) =>
        containsRng_any f m a n c bs (16 * (k : Int)) many w' hn (hr.later hw) hi (by omega) (by omega) h0 h1
      have hq : ∀ ob : Obj, Below wr.heap.size wr (wr.alloc ob) := fun ob => (Below.refl _ _).alloc (Nat.le_refl _) ob
      clear hr hi
      cases he : meetsB f m n (16 * (k : Int)) many with
      | true =>
        have HE : Hid (∀ j : Nat, j < k + 1 → meetsB f m n (16 * (j : Int)) many = true) := fun j hj => by
          by_cases e : j = k
          · subst e; exact he
          · exact HK.out j (by omega)
        rw [he] at HC
        clear he
        go_wp2_with fail
        refine (HC _ (hbw.trans ((hq _).mono hbw.size)) _ (by simp [go_sem]) (by simp [go_sem])).mono ?_
        rintro e w2 ⟨rfl, hb2⟩
        clear HC
        go_wp2
        go_roundw
        case rel => exact ⟨k + 1, by go_num, by omega, HE, (hb.trans ((hq _).mono (by omega))).trans (hb2.mono (by simp; omega))⟩
        case measure => simp [intOf]; omega
      | false =>
        have HE : Hid (IsBase f m n many k) := ⟨hin, he, HK.out⟩
        rw [he] at HC
        clear he
        go_wp2_with fail
        refine (HC _ (hbw.trans ((hq _).mono hbw.size)) _ (by simp [go_sem]) (by simp [go_sem])).mono ?_
        rintro e w2 ⟨rfl, hb2⟩
        have d0 : w2.cell? ⟨wr.heap.size, 0, none⟩ = some (.int .i64 (16 * (k : Int))) := cell_later hb2 (by simp [go_sem])
        have d1 : w2.cell? ⟨wr.heap.size, 1, none⟩ = some (.int .i64 many) := cell_later hb2 (by simp [go_sem])
        have e0 := cell_later ((hq _).trans (hb2.mono (by simp))) c0
        have e1 := cell_later ((hq _).trans (hb2.mono (by simp))) c1
        have e2 : ∀ o, w2.frozen? ⟨w.heap.size, o, none⟩ = false := fun o => by
          rw [((hq _).trans (hb2.mono (by simp))).frozen (p := ⟨w.heap.size, o, none⟩) hz]; exact z0 o
        have hbe := hbw.trans ((hq _).trans (hb2.mono (by simp)) |>.mono hbw.size)
        clear HC c0 c1 z0 hb2
        go_wp2
        exact bodyPost_ret (v := .tuple #[.agg #[.int .i64 (16 * (k : Int)), .int .i64 many], .bool true]) (by simp [results, Tryz.results76, go_sem, e0, e1]) rfl ⟨.yes k HE.out, (hbe.setCell (Nat.le_refl _) _).setCell (Nat.le_refl _) _⟩
    · have HE : Hid (NoBase f m n many) := fun j hj => HK.out j (by omega)
      have hin' : 256 < 16 * (k : Int) + many := by omega
      clear hr hi
      go_wp2
      exact bodyPost_ret (v := .tuple #[.agg #[.int .i64 0, .int .i64 0], .bool false]) (by simp [results, Tryz.results76, go_sem, c0, c1]) rfl ⟨.no HE.out, (hbw.setCell (Nat.le_refl _) _).setCell (Nat.le_refl _) _⟩
end Go.Proofs.YtidabcoodolddaaGreatDoor

namespace Go.Proofs.YtidabcoodolddaaGreatDoor
open Go.RowKit

/-- a call of Bases that returned. -/
inductive BasesEnd (w : World) (B ns : Nat) (sz : Nat → Int) (nt : Nat) (tf tm : Nat → Int) : Ending → Prop
  | bad (f : Nat) (b : Nat → Int) (hf : f ≠ 0) (h : BasesAre ns sz nt tf tm f b) : BasesEnd w B ns sz nt tf tm (.returned (.tuple #[.slice none 0 0, errV f]))
  | ok (b : Nat → Int) (v : Value) (h : BasesAre ns sz nt tf tm 0 b) (hv : w.ownsRow B 3 1 v ns (joinC (intC b) ns)) : BasesEnd w B ns sz nt tf tm (.returned (.tuple #[v, .nilIface]))

/-- one base more. -/
def setAt (b : Nat → Int) (k : Nat) (x : Int) : Nat → Int := fun j => if j = k then x else b j
theorem setAt_old {b : Nat → Int} {k : Nat} {x : Int} {j : Nat} (h : j < k) : b j = setAt b k x j := by unfold setAt; rw [if_neg (by omega)]
theorem setAt_new {b : Nat → Int} {k : Nat} {x : Int} : setAt b k x k = x := if_pos rfl
theorem errV_pos {f : Nat} (h : f ≠ 0) : ∃ n : Int, errV f = .iface 82 (.int .i64 n) := by
  cases f with
  | zero => exact absurd rfl h
  | succ f => exact ⟨_, rfl⟩

set_option maxRecDepth 100000 in
set_option maxHeartbeats 4000000 in
theorem bases_any (sz tf tm : Nat → Int) (a a' : Option Addr) (ns c nt c' : Nat) (w : World) (hn : ns ≤ maxLen) (hn' : nt ≤ maxLen) (hr : RowAt w a ns fun i => .int .i64 (sz i)) (ht : RngRow w a' nt tf tm) :
    Calls Tryz.prog 53 #[.slice a ns c, .slice a' nt c'] w fun e w' => BasesEnd w' w.heap.size ns sz nt tf tm e ∧ Below w.heap.size w w' := by
  have HC := placeCheck_any sz tf tm a a' ns c nt c' w hn hn' hr ht
  by_cases h0 : placeF ns sz nt tf tm = 0
  · obtain ⟨g1, g2, g3, g4⟩ := placeF_zero h0
    rw [h0] at HC
    have HP : Hid (placeF ns sz nt tf tm = 0) := h0
    clear h0 hn hn'
    go_enter Tryz.func53, Tryz.ntmps53
    go_wp2_with fail
    refine HC.mono ?_
    rintro e w1 ⟨rfl, hb⟩
    clear HC
    have HD := cloneRng_any tf tm a' nt c' w1 (by omega) (ht.later hb)
    simp only [errV]
    go_wp2_with fail
    refine HD.mono ?_
    rintro e w2 ⟨⟨vh, rfl, hown⟩, hb2⟩
    clear HD
    have hown' : w2.ownsRow w.heap.size 157 2 vh nt (joinC (rngC tf tm) nt) := ⟨hown.1, by
      rcases hown.2 with h | ⟨g, cap, cur, h1, h2, h3⟩
      · exact .inl h
      · exact .inr ⟨g, cap, cur, h1, Nat.le_trans hb.size h2, h3⟩⟩
    replace hb := hb.trans (hb2.mono hb.size)
    clear hb2 hown
    go_wp2
    go_loopw [7, 8, 23] (fun x y z wr => ∃ (k : Nat) (vh vb : Value) (b : Nat → Int), k ≤ ns ∧ z = .int .i64 k ∧ x = vh ∧ y = vb ∧ wr.ownsRow w.heap.size 157 2 vh (nt + k) (joinC (rngC (heldF tf nt b) (heldF tm nt fun j => roundF (sz j))) (nt + k)) ∧
        wr.ownsRow w.heap.size 3 1 vb k (joinC (intC b) k) ∧ (∀ j, j < k → 0 ≤ b j ∧ b j ≤ 256) ∧ Hid (∀ j, j < k → Laid tf tm nt sz b j) ∧ Below w.heap.size w wr) (fun _ _ z _ => ns - (intOf z).toNat)
    case atStart => exact ⟨0, vh, .slice none 0 0, fun _ => 0, Nat.zero_le _, rfl, rfl, rfl, by
        rw [Nat.add_zero, joinC_congr (h := rngC tf tm) (fun i hi => by simp [rngC, heldF_old hi])]; exact hown', World.ownsRow_nil _ _ _ _, fun j hj => by omega, fun j hj => by omega, hb⟩
    case round =>
      clear hb hown'
      obtain ⟨k, vh, vb, b, hk, rfl, rfl, rfl, ho, hi, hbb, HL, hb⟩ := hrel
      by_cases hlt : k < ns
      · obtain ⟨ah, ch, rfl, hch, hrow⟩ := rows_rng ho
        have hs := g3 k hlt
        have hrk := roundF_many hs.1 hs.2
        rcases hr with h0 | ⟨bk, o, rfl, hc⟩
        · omega
        have hck := cell_later hb (hc k hlt)
        have HR := fun (w : World) => round_any (sz k) w (by omega) (by omega)
        have HF := free_any (heldF tf nt b) (heldF tm nt fun j => roundF (sz j)) ah (nt + k) ch (roundF (sz k)) wr (by omega) hrow (fun j hj => by
          by_cases e : j < nt
          · rw [heldF_old e, heldF_old e]; have := g4 j e; omega
          · obtain ⟨i, rfl⟩ : ∃ i, j = nt + i := ⟨j - nt, by omega⟩
            rw [heldF_new, heldF_new]
            have h1 := hbb i (by omega); have h2 := g3 i (by omega); have h3 := roundF_many h2.1 h2.2; omega) (by omega) (by omega)
        clear hc hrow
        go_wp2_with fail
        refine (HR _).mono ?_
        rintro e w' ⟨rfl, rfl⟩
        go_wp2_with fail
        refine HF.mono ?_
        rintro e w2 ⟨hend, hb2⟩
        clear HR HF
        have ho2 := owns_below ho hb2
        have hi2 := owns_below hi hb2
        replace hb := hb.trans (hb2.mono hb.size)
        clear hb2 ho hi hck
        cases hend with
        | no hno =>
          have HE : Hid (BasesAre ns sz nt tf tm 8 b) := .full b k HP.out hlt HL.out hno
          clear hno HL HP
          go_wp2
          go_ret2
          exact ⟨.bad 8 b (by decide) HE.out, hb.alloc hb.size _⟩
        | yes q hq =>
          have hq0 := hq.inside
          have HQ : Hid (∀ j, j < k + 1 → Laid tf tm nt sz (setAt b k (16 * (q : Int))) j) := fun j hj => by
            by_cases e : j = k
            · subst e
              exact ⟨q, setAt_new, hq.congr fun x hx => ⟨heldF_congr (fun y hy => setAt_old hy) x hx, rfl⟩⟩
            · exact (HL.out j (by omega)).congr fun y hy => setAt_old (by omega)
          clear hq HL
          have hB2 := hb.size
          obtain ⟨v1, W1, happ1, hG1⟩ := growRng (w := w2.alloc (.cells #[.int .i64 (16 * (q : Int)), .int .i64 (roundF (sz k))] 157)) (16 * (q : Int)) (roundF (sz k)) (by simp; omega) (ho2.alloc _) (by omega)
          have e1 : (w2.alloc (.cells #[.int .i64 (16 * (q : Int)), .int .i64 (roundF (sz k))] 157)).heap.size = w2.heap.size + 1 := by simp
          rw [e1] at happ1
          clear e1
          have hi3 := ((hi2.alloc (.cells #[.int .i64 (16 * (q : Int)), .int .i64 (roundF (sz k))] 157)).alloc (.cells #[.int .i64 (16 * (q : Int)), .int .i64 (roundF (sz k))] 157)).kept hG1.grown (owns_apart hi2 ho2 (by decide))
          have hne : some w2.heap.size ≠ (Value.slice ah (nt + k) ch).ownBlock := fun e => by have := (ho2.lt _ e.symm).2; omega
          have c0 : W1.cell? ⟨w2.heap.size, 0, none⟩ = some (.int .i64 (16 * (q : Int))) := hG1.grown.cell (by simp [go_sem]) hne
          have c1 : W1.cell? ⟨w2.heap.size, 1, none⟩ = some (.int .i64 (roundF (sz k))) := hG1.grown.cell (by simp [go_sem]) hne
          have hb1 : Below w.heap.size w W1 := ((hb.alloc hB2 _).alloc (by simp; omega) _).trans hG1.below
          obtain ⟨v2, W2, happ2, hG2⟩ := growInt (16 * (q : Int)) hb1.size hi3 (by omega)
          have ho3 := (hG1.own.alloc (.cells #[.int .i64 (16 * (q : Int))] 3)).kept hG2.grown (owns_apart hG1.own hi3 (by decide))
          have hb3 : Below w.heap.size w W2 := (hb1.alloc hb1.size _).trans hG2.below
          have hi4 := hG2.own
          rw [joinInt (b' := setAt b k (16 * (q : Int))) (fun i hi => setAt_old hi) setAt_new] at hi4
          rw [joinRng (f' := heldF tf nt (setAt b k (16 * (q : Int)))) (m' := heldF tm nt fun j => roundF (sz j)) (fun i hi => ⟨heldF_congr (fun y hy => setAt_old hy) i hi, rfl⟩) (by rw [heldF_new, setAt_new]) heldF_new] at ho3
          have hbn : ∀ j, j < k + 1 → 0 ≤ setAt b k (16 * (q : Int)) j ∧ setAt b k (16 * (q : Int)) j ≤ 256 := fun j hj => by
            by_cases e : j = k
            · subst e; rw [setAt_new]; omega
            · rw [← setAt_old (by omega)]; exact hbb j (by omega)
          clear hG1 hG2 hi3 ho2 hi2 hb1 hne hbb
          go_wp2_with (at_builtin; first | refine list_run rfl (.tmp 37) (.tmp 39) 153 rfl (.slice ah (nt + k) ch) (.slice (some ⟨w2.heap.size + 1, 0, none⟩) 1 1) _ rfl rfl happ1 ?_ | refine list_run rfl (.tmp 41) (.tmp 44) 45 rfl u8 (.slice (some ⟨W1.heap.size, 0, none⟩) 1 1) _ rfl rfl happ2 ?_)
          go_roundw
          case rel => exact ⟨k + 1, v1, v2, setAt b k (16 * (q : Int)), by omega, by go_num, rfl, rfl, ho3, hi4, hbn, HQ, hb3⟩
          case measure => simp [intOf]; omega
      · have e : k = ns := by omega
        subst e
        go_wp2
        go_ret2
        exact ⟨.ok b _ (.ok b HP.out HL.out) hi, hb⟩
  · obtain ⟨f, hf⟩ := errV_pos h0
    have HE : Hid (BasesAre ns sz nt tf tm (placeF ns sz nt tf tm) (fun _ => 0)) := .bad _ h0
    have HV : Hid (errV (placeF ns sz nt tf tm) = .iface 82 (.int .i64 f)) := hf
    have H0 : Hid (placeF ns sz nt tf tm ≠ 0) := h0
    rw [hf] at HC
    clear hr ht hf h0
    go_enter Tryz.func53, Tryz.ntmps53
    go_wp2_with fail
    refine HC.mono ?_
    rintro e w1 ⟨rfl, hb⟩
    clear HC
    go_wp2
    go_ret2
    exact ⟨by rw [← HV.out]; exact .bad _ _ H0.out HE.out, hb⟩
end Go.Proofs.YtidabcoodolddaaGreatDoor
