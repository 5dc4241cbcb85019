/-
  The closed fact on objects returns true; memory that was there stays as it was.
-/
import Derived.Test.YtlplncjhggojoaaGreatDoorPlainRef
import Derived.Test.YtlplncjhggojoaaGreatDoorSame
namespace Go.Proofs.YtlplncjhggojoaaGreatDoor
open Go.RowKit

set_option maxRecDepth 100000 in
set_option maxHeartbeats 2000000 in
theorem objects_any (w : World) (hE : Env w) :
    Calls Tryz.prog 4 #[] w fun e w' => e = .returned (.bool true) ∧ Below w.heap.size w w' := by
  have HP := parse_any factS w hE
  obtain ⟨z1, z2, z3, z4, z5, z6⟩ := parse_fact
  rw [z1] at HP
  generalize (parseF factS).2 = X at *
  clear z1
  go_enter Tryz.func4, Tryz.ntmps4
  go_wp2_with fail
  refine HP.mono ?_
  rintro e w1 ⟨⟨⟨xN, dN, xW, dW, xS, dS, xT, dT⟩, rfl, hA⟩, hb1⟩
  clear HP
  have hS : SymsRow w1 xS X.nS X.sName X.sAt X.sWeak := hA.syms
  have hT : TiesRow w1 xT X.nT X.tAt X.tKind X.tAdd X.tName X.tWeak := hA.ties
  rw [z3] at hS
  rw [z5] at hT
  rcases hS with h0 | ⟨bs, os, rfl, hS⟩
  · omega
  rcases hT with h0 | ⟨bt, ot, rfl, hT⟩
  · omega
  have s2 := (hS 0 (by omega)).2.2
  have t1 := (hT 0 (by omega)).2.1
  rw [z4] at s2
  rw [z6] at t1
  unfold ObjV.cells
  simp only [z2, z3, z5]
  have hb2 : ∀ ob : Obj, Below w1.heap.size w1 (w1.alloc ob) := fun ob => (Below.refl _ _).alloc (Nat.le_refl _) ob
  have lt1 : bs < w1.heap.size := World.block_lt_of_cell? _ _ s2
  have lt2 : bt < w1.heap.size := World.block_lt_of_cell? _ _ t1
  have HS := fun W => same_errV 0 0 W
  clear hA hS hT z2 z3 z4 z5 z6
  simp at s2 t1
  go_wp2_with (go_at_call 8; refine (HS _).mono ?_; rintro e w2 ⟨rfl, rfl⟩)
  go_ret
  exact ⟨rfl, hb1.trans ((hb2 _).mono hb1.size)⟩
end Go.Proofs.YtlplncjhggojoaaGreatDoor
