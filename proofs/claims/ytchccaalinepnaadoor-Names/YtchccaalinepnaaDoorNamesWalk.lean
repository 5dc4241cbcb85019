/-
  The law Names returns true; memory that was there stays as it was.
-/
import Derived.Test.YtchccaalinepnaaDoorSame
import Derived.Test.YtchccaalinepnaaDoorSameNumbers
import Derived.Test.YtchccaalinepnaaDoorNamesErr
namespace Go.Proofs.YtchccaalinepnaaDoor
open Go.RowKit

theorem cell_new (w : World) (l : List Value) (t : TypeId) (i : Nat) (v : Value) (h : l[i]? = some v) : (w.alloc (.cells l.toArray t)).cell? ⟨w.heap.size, i, none⟩ = some v := by
  simp [go_sem, h]
theorem cell_old (w : World) (o : Obj) (b i : Nat) (h : b < w.heap.size) : (w.alloc o).cell? ⟨b, i, none⟩ = w.cell? ⟨b, i, none⟩ := by
  simp [go_sem, h]

/-- the numbers that the document names. -/
def numbers : List Int := [8, 6, 4, 8, 6, 40, 2147483647, 500, 16, 256, 1200, 1000000, 3, 64, 120, 60, 60, 1, 2, 3]
def numberAt (i : Nat) : Int := numbers.getD i 0
theorem numbers_at (i : Nat) (h : i < 20) : (numbers.map (Value.int .i64))[i]? = some (.int .i64 (numberAt i)) := by
  have hl : i < numbers.length := h
  simp [numberAt, List.getElem?_eq_getElem hl]
/-- the errors, in their order. -/
def errors : List Value := [.iface 23 (.int .i64 1), .iface 23 (.int .i64 2), .iface 23 (.int .i64 3), .iface 23 (.int .i64 4), .iface 23 (.int .i64 5), .iface 23 (.int .i64 6), .iface 23 (.int .i64 7), .iface 23 (.int .i64 8), .iface 23 (.int .i64 9), .iface 23 (.int .i64 10)]
theorem errors_at (i : Nat) (h : i < 10) : errors[i]? = some (.iface 23 (.int .i64 ((i : Int) + 1))) := by
  match i, h with
  | 0, _ => rfl
  | 1, _ => rfl
  | 2, _ => rfl
  | 3, _ => rfl
  | 4, _ => rfl
  | 5, _ => rfl
  | 6, _ => rfl
  | 7, _ => rfl
  | 8, _ => rfl
  | 9, _ => rfl

/-- what the loop goes over: three blocks of the law's own. -/
structure Laid (w wr : World) : Prop where
  below : Below w.heap.size w wr
  first : ∀ i, i < 20 → wr.cell? ⟨w.heap.size, 0 + i, none⟩ = some (.int .i64 (numberAt i))
  second : ∀ i, i < 20 → wr.cell? ⟨w.heap.size + 1, 0 + i, none⟩ = some (.int .i64 (numberAt i))
  third : ∀ i, i < 10 → wr.cell? ⟨w.heap.size + 1 + 1, i, none⟩ = some (.iface 23 (.int .i64 ((i : Int) + 1)))

theorem laid_start (w : World) : Laid w (((w.alloc (.cells (numbers.map (Value.int .i64)).toArray 3)).alloc (.cells (numbers.map (Value.int .i64)).toArray 3)).alloc (.cells errors.toArray 27)) where
  below := (((Below.refl _ _).alloc (Nat.le_refl _) _).alloc (by simp) _).alloc (by simp; omega) _
  first := fun i hi => by
    rw [cell_old _ _ _ _ (by simp; omega), cell_old _ _ _ _ (by simp), Nat.zero_add]
    exact cell_new _ _ _ _ _ (numbers_at i hi)
  second := fun i hi => by
    rw [cell_old _ _ _ _ (by simp), Nat.zero_add]
    have := cell_new (w.alloc (.cells (numbers.map (Value.int .i64)).toArray 3)) _ 3 _ _ (numbers_at i hi)
    simpa using this
  third := fun i hi => by
    have := cell_new ((w.alloc (.cells (numbers.map (Value.int .i64)).toArray 3)).alloc (.cells (numbers.map (Value.int .i64)).toArray 3)) _ 27 _ _ (errors_at i hi)
    simpa using this

set_option maxHeartbeats 1000000 in
theorem names_walk (w : World) : Calls Tryd.prog 3 #[] w fun e w' => e = .returned (.bool true) ∧ Below w.heap.size w w' := by
  go_enter Tryd.func3, Tryd.ntmps3
  go_wp2
  go_loopw [4] (fun i wr => ∃ k : Nat, k ≤ 10 ∧ i = .int .i64 k ∧ Laid w wr) (fun i _ => 10 - (intOf i).toNat)
  case atStart => exact ⟨0, Nat.zero_le _, rfl, laid_start w⟩
  case round =>
    obtain ⟨k, hk, rfl, hL⟩ := hrel
    by_cases hlt : k < 10
    · have hc := hL.third k hlt
      go_wp2_with fail
      refine (same_errno _ _ _).mono ?_
      rintro e w' ⟨rfl, rfl⟩
      go_wp2
      go_roundw
      case rel => exact ⟨k + 1, by omega, by go_num, hL⟩
      case measure => simp [intOf]; omega
    · go_wp2_with fail
      refine (sameNumbers_some numberAt numberAt 20 _ _ _ _ _ _ _ (by omega) hL.first hL.second).mono ?_
      have hq : eqTo numberAt numberAt 20 = true := eqTo_iff.2 fun _ _ => rfl
      rw [hq]
      rintro e w' ⟨rfl, n, rfl⟩
      go_wp2_with fail
      refine (error10 _).mono ?_
      rintro e w' ⟨rfl, rfl⟩
      go_wp2
      go_ret
      exact ⟨rfl, below_drewN hL.below n⟩
end Go.Proofs.YtchccaalinepnaaDoor
