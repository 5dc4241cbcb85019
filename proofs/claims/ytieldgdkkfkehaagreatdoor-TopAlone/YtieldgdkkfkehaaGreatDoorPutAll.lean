/-
  What Put of package patch returns: the walk.
-/
import Derived.Test.YtieldgdkkfkehaaGreatDoorPutWalk
namespace Go.Proofs.YtieldgdkkfkehaaGreatDoor
open Go.RowKit

set_option maxHeartbeats 4000000 in
theorem put_any (a a' : Option Addr) (n c np c' : Nat) (A : Nat → Option Addr) (M C : Nat → Nat) (X : Nat → Nat → Int) (p t v : Nat → Int) (w : World) (hn : n ≤ 1000) (hM : ∀ i, i < n → M i ≤ 1000) (hnp : np ≤ 1000) (hr : ListsRow w a n A M C X) (hp : PatRow w a' np p t v) :
    Calls Tryz.prog 17 #[.slice a n c, .slice a' np c'] w fun e w' => PutEnd w' w.heap.size n M X np p t v e ∧ Below w.heap.size w w' := by
  have hmk := fun (w : World) => run_make_row' (P := Tryz.prog) 49 23 (.slice none 0 0) 24 Tryz.underlying49 (by kernel_rfl) rfl .i64 .i64 n (by omega) (by omega) w
  have hrow := World.rowIs_made w (.slice none 0 0) n 23
  have hb0 : Below w.heap.size w (w.alloc (.cells (madeCells #[.slice none 0 0] n) 23)) := (Below.refl _ _).alloc (Nat.le_refl _) _
  have hlt0 : w.heap.size < (w.alloc (.cells (madeCells #[.slice none 0 0] n) 23)).heap.size := by simp
  go_enter Tryz.func17, Tryz.ntmps17
  go_wp2
  clear hmk
  generalize w.alloc (.cells (madeCells #[.slice none 0 0] n) 23) = w0 at *
  go_loopw [16] (fun x wr => ∃ (k : Nat) (A' : Nat → Option Addr) (C' G : Nat → Nat), k ≤ n ∧ x = .int .i64 k ∧ OutAt wr w.heap.size w.heap.size k M A' C' G X ∧ (∀ i, i < n → ∃ u, wr.cell? ⟨w.heap.size, i, none⟩ = some u) ∧ Below w.heap.size w wr) (fun x _ => n - (intOf x).toNat)
  case atStart => exact ⟨0, _, _, _, Nat.zero_le _, rfl, OutAt.none (Nat.le_refl _) hlt0 hrow.frozen _ _, fun i hi => ⟨_, hrow.cell hi⟩, hb0⟩
  case round =>
    clear hrow hb0 hlt0
    obtain ⟨k, A', C', G, hk, rfl, hO, hcs, hb⟩ := hrel
    by_cases hlt : k < n
    · have hr1 := hr.later hb
      rcases hr1 with h0 | ⟨bk, o, rfl, hc⟩
      · omega
      have hck := (hc k hlt).1
      have HC := cloneInt_any (X k) (A k) (M k) (C k) wr (by have := hM k hlt; omega) (hc k hlt).2
      clear hc
      go_wp2_with fail
      refine HC.mono ?_
      rintro e w2 ⟨⟨v', rfl, ho⟩, hb2⟩
      clear HC
      obtain ⟨a2, c2, rfl, _⟩ := owns_shape ho
      obtain ⟨u, hu⟩ := hcs k hlt
      have hu2 := cell_later hb2 hu
      have hz := (hO.later hb2).free k
      obtain ⟨A2, C2, G2, hO2⟩ := hO.more hb2 hb.size hu2 ho
      have hcs2 : ∀ i, i < n → ∃ u, (w2.setCell ⟨w.heap.size, k, none⟩ (.slice a2 (M k) c2)).cell? ⟨w.heap.size, i, none⟩ = some u := fun i hi => by
        obtain ⟨u, hu⟩ := hcs i hi
        exact cell?_setCell_some (cell_later hb2 hu)
      have hb3 : Below w.heap.size w (w2.setCell ⟨w.heap.size, k, none⟩ (.slice a2 (M k) c2)) := (hb.trans (hb2.mono hb.size)).setCell (Nat.le_refl _) _
      clear hO hcs hu hb hb2 ho
      go_wp2
      go_roundw
      case rel => exact ⟨k + 1, A2, C2, G2, by omega, by go_num, hO2, hcs2, hb3⟩
      case measure => simp [intOf]; omega
    · have e : k = n := by omega
      subst e
      clear hcs
      go_wp2
      go_loopw [29] (fun x wr => ∃ j : Nat, j ≤ np ∧ x = .int .i64 j ∧ OutAt wr w.heap.size w.heap.size k M A' C' G (putF X p t v j) ∧ Hid (∀ i, i < j → patOk k M (p i) (t i) = true) ∧ Below w.heap.size w wr) (fun x _ => np - (intOf x).toNat)
      case atStart => exact ⟨0, Nat.zero_le _, rfl, hO, fun i hi => by omega, hb⟩
      case round =>
        clear hO hb
        obtain ⟨j, hj, rfl, hO, HP, hb⟩ := hrel
        by_cases hlj : j < np
        · have hp1 := hp.later hb
          rcases hp1 with h0 | ⟨bp, op, rfl, hc⟩
          · omega
          obtain ⟨p0, p1, p2⟩ := hc j hlj
          clear hc
          have hq : ∀ ob : Obj, Below wr.heap.size wr (wr.alloc ob) := fun ob => (Below.refl _ _).alloc (Nat.le_refl _) ob
          have HI := isPlaceP_any
          cases h1 : isPlaceF (p j) (k : Int) with
          | false =>
            have HE : Hid (BadAt (fun i => patOk k M (p i) (t i)) np) := ⟨j, hlj, by simp [patOk, h1]⟩
            have HI1 := fun (w : World) => HI (p j) (k : Int) w
            simp only [h1] at HI1
            clear h1 HI
            go_wp2
            go_quiet ((go_at_call 41; exact Calls.quiet_of_same (HI1 _)))
            go_wp2
            go_ret2
            exact ⟨.bad HE.out, below_drewN (hb.alloc hb.size _) _⟩
          | true =>
            obtain ⟨x, hx, hxk⟩ : ∃ x : Nat, p j = x ∧ x < k := by
              simp [isPlaceF] at h1
              exact ⟨(p j).toNat, by omega, by omega⟩
            have HI1 := fun (w : World) => HI (x : Int) (k : Int) w
            rw [hx] at h1 p0
            simp only [h1] at HI1
            clear h1
            have htop : ∀ ob, (wr.alloc ob).cell? ⟨w.heap.size, x, none⟩ = some (.slice (A' x) (M x) (C' x)) := fun ob => cell_later (hq ob) (hO.top x hxk)
            have hMx := hM x hxk
            cases h2 : isPlaceF (t j) (M x : Int) with
            | false =>
              have HE : Hid (BadAt (fun i => patOk k M (p i) (t i)) np) := ⟨j, hlj, by simp [patOk, hx, h2]⟩
              have HI2 := fun (w : World) => HI (t j) (M x : Int) w
              simp only [h2] at HI2
              clear h2 HI
              go_wp2
              go_quiet ((first | (go_at_call_of 41 (Value.int IntKind.i64 (x : Int)); exact Calls.quiet_of_same (HI1 _)) | (go_at_call_of 41 (Value.int IntKind.i64 (t j)); exact Calls.quiet_of_same (HI2 _))))
              go_wp2
              go_ret2
              exact ⟨.bad HE.out, below_drewN (hb.alloc hb.size _) _⟩
            | true =>
              obtain ⟨y, hy, hyk⟩ : ∃ y : Nat, t j = y ∧ y < M x := by
                simp [isPlaceF] at h2
                exact ⟨(t j).toNat, by omega, by omega⟩
              have HE : Hid (∀ i, i < j + 1 → patOk k M (p i) (t i) = true) := fun i hi => by
                by_cases e : i = j
                · subst e
                  simp [patOk, hx, hy, isPlaceF, hxk, hyk]
                · exact HP.out i (by omega)
              have HI2 := fun (w : World) => HI (y : Int) (M x : Int) w
              rw [hy] at h2 p1
              simp only [h2] at HI2
              clear h2 HI
              have hO1 := fun ob => (hO.later (hq ob)).put hxk hyk (v j)
              have hadr := hO.adr x hxk (by omega)
              rw [hadr] at htop
              have hcy : ∀ ob, (wr.alloc ob).cell? ⟨G x, y, none⟩ = some (.int .i64 (putF X p t v j x y)) := fun ob => cell_later (hq ob) (hO.row x hxk y hyk)
              have hzy : ∀ ob, (wr.alloc ob).frozen? ⟨G x, y, none⟩ = false := fun ob => (hO.later (hq ob)).rfree x hxk (by omega) y
              have hown := hO.own x hxk (by omega)
              have hpf : ∀ i i', putF X p t v (j + 1) i i' = if i = x ∧ i' = y then v j else putF X p t v j i i' := fun i i' => by
                simp only [putF, hx, hy]
                by_cases e : i = x ∧ i' = y
                · rw [if_pos e, if_pos (by omega)]
                · rw [if_neg e, if_neg (by omega)]
              have HPF : Hid (∀ i i', putF X p t v (j + 1) i i' = if i = x ∧ i' = y then v j else putF X p t v j i i') := hpf
              clear hpf hO hx hy hadr
              go_wp2
              go_quiet ((first | (go_at_call_of 41 (Value.int IntKind.i64 (x : Int)); exact Calls.quiet_of_same (HI1 _)) | (go_at_call_of 41 (Value.int IntKind.i64 (y : Int)); exact Calls.quiet_of_same (HI2 _))))
              go_wp2
              go_region
              go_wp2
              go_roundw
              case rel => exact ⟨j + 1, by omega, by go_num, ((hO1 _).congr fun i _ i' _ => (HPF.out i i').symm).later (below_drewN (Below.refl _ _) _), HE, below_drewN ((hb.alloc hb.size _).setCell hown _) _⟩
              case measure => simp [intOf]; omega
        · have e : j = np := by omega
          subst e
          go_wp2
          go_ret2
          exact ⟨.ok _ _ _ _ HP.out hO, hb⟩
end Go.Proofs.YtieldgdkkfkehaaGreatDoor
