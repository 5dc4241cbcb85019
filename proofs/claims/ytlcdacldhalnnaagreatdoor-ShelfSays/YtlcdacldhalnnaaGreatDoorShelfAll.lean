/-
  What all and sameShelf of the statements do, and the closed fact of a shelf.
-/
import Derived.Test.YtlcdacldhalnnaaGreatDoorShelfDrop
import Derived.Test.YtlcdacldhalnnaaGreatDoorSameAll
namespace Go.Proofs.YtlcdacldhalnnaaGreatDoor
open Go.RowKit

theorem rowsR {w : World} {B k : Nat} {v : Value} {E : Nat → EntF} (h : w.ownsRow B 9 1 v k (joinC (rootC E) k)) : ∃ a c, v = .slice a k c ∧ (k = 0 ∨ ∃ bk, a = some ⟨bk, 0, none⟩ ∧ ∀ i, i < k → w.cell? ⟨bk, i, none⟩ = some (.string (E i).root)) := by
  rcases h.2 with ⟨rfl, rfl⟩ | ⟨g, cap, cur, rfl, _⟩
  · exact ⟨none, 0, rfl, .inl rfl⟩
  · refine ⟨_, cap, rfl, .inr ⟨g, rfl, fun i hi => ?_⟩⟩
    have e := joinC_at (g := rootC E) (s := 1) (n := k) (i := i) (j := 0) (fun _ _ => rfl) hi (by decide)
    rw [Nat.mul_one, Nat.add_zero] at e
    rw [h.cellAt i (by omega), e]
    rfl
set_option maxRecDepth 100000 in
set_option maxHeartbeats 4000000 in
theorem lawShelved_any (w : World) (E : Nat → EntF) (hE : Env w) :
    Calls Tryz.prog 20 #[] w fun e w' => ∃ p g, e = .returned (.tuple #[.pointer (some ⟨p, 0, none⟩), .pointer (some ⟨g, 0, none⟩), .bool true]) ∧ w.heap.size ≤ g ∧ ShelfAt w' g p ∧ (∃ s, Disk w' w.heap.size p 112 s ∧ Stands s 112 E 0 ∧ s.left = -1) ∧ Below w.heap.size w w' := by
  have HN := diskNew_any w 112 (by decide) (by decide)
  go_enter Tryz.func20, Tryz.ntmps20
  go_wp2_with fail
  refine (show Calls _ _ _ _ _ from HN).mono ?_
  rintro e w1 ⟨p, rfl, hD1, hb1⟩
  clear HN
  have HF := format_any w1 w.heap.size p 112 DSt.fresh E hD1 rfl (by decide) rfl
  go_wp2_with fail
  refine (show Calls _ _ _ _ _ from HF).mono ?_
  rintro e w2 ⟨rfl, ⟨s2, hD2, hS2, hl2⟩, hSp2⟩
  clear HF
  have hb2 := hb1.trans hSp2.below
  have HO := open_any w2 w.heap.size p 112 s2 E 0 hD2 hS2 (hE.later hb2)
  go_wp2_with fail
  refine (show Calls _ _ _ _ _ from HO).mono ?_
  rintro e w3 ⟨g, rfl, hge, hg, hb3⟩
  clear HO
  have HFIN : Hid (∃ p' g', Ending.returned (.tuple #[.pointer (some ⟨p, 0, none⟩), .pointer (some ⟨g, 0, none⟩), .bool true]) = .returned (.tuple #[.pointer (some ⟨p', 0, none⟩), .pointer (some ⟨g', 0, none⟩), .bool true]) ∧ w.heap.size ≤ g' ∧ ShelfAt w3 g' p' ∧ (∃ s, Disk w3 w.heap.size p' 112 s ∧ Stands s 112 E 0 ∧ s.left = -1) ∧ Below w.heap.size w w3) :=
    ⟨p, g, rfl, Nat.le_trans hb2.size hge, hg, ⟨s2, hD2.later hb3, hS2, hl2⟩, hb2.trans (hb3.mono hb2.size)⟩
  go_wp2
  refine bodyPost_ret (v := .tuple #[.pointer (some ⟨p, 0, none⟩), .pointer (some ⟨g, 0, none⟩), .bool true]) (by simp [results, Tryz.results20, go_sem]) rfl ?_
  exact HFIN.out
end Go.Proofs.YtlcdacldhalnnaaGreatDoor

