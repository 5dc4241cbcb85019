/-
  What same returns, for every error of package api and every number; memory stays as it was.
-/
import Derived.Test.YthdccmjdbcllkaaGreatDoorErr
namespace Go.Proofs.YthdccmjdbcllkaaGreatDoor
open Go.RowKit

/-- 'same' at no error. -/
theorem same_nil (f : Int) (w : World) :
    Calls Tryz.prog 9 #[.nilIface, .int .i64 f] w fun e w' => e = .returned (.bool (f == 0)) ∧ w = w' := by
  go_enter Tryz.func9, Tryz.ntmps9
  go_wp2
  go_ret
  exact ⟨rfl, rfl⟩

theorem assert_errno (n : Int) (w : World) : (Instr.typeAssert (.iface 74 (.int .i64 n)) 32 74 true).run Tryz.prog w = .ok (.tuple #[.int .i64 n, .bool true]) w := by kernel_rfl

set_option maxHeartbeats 400000 in
/-- 'same' at an error of package api. -/
theorem same_errno (n f : Int) (w : World) :
    Calls Tryz.prog 9 #[.iface 74 (.int .i64 n), .int .i64 f] w fun e w' => e = .returned (.bool (decide (0 < f) && n == f)) ∧ w = w' := by
  have ha := assert_errno n
  by_cases h : 0 < f
  all_goals
    go_enter Tryz.func9, Tryz.ntmps9
    go_wp2
    go_ret
    exact ⟨ret_bool (by first | (simp [h]; done) | (simp; omega)), rfl⟩

/-- 'same' at an error by its number. -/
theorem same_errV (a b : Nat) (w : World) :
    Calls Tryz.prog 9 #[errV a, .int .i64 (b : Int)] w fun e w' => e = .returned (.bool (decide (a = b))) ∧ w = w' := by
  cases a with
  | zero =>
    refine (same_nil (b : Int) w).mono ?_
    rintro e w' ⟨rfl, rfl⟩
    exact ⟨ret_bool (by rw [Bool.eq_iff_iff, beq_iff_eq, decide_eq_true_eq]; omega), rfl⟩
  | succ a =>
    refine (same_errno ((a + 1 : Nat) : Int) (b : Int) w).mono ?_
    rintro e w' ⟨rfl, rfl⟩
    exact ⟨ret_bool (by rw [Bool.eq_iff_iff, Bool.and_eq_true, beq_iff_eq, decide_eq_true_eq, decide_eq_true_eq]; omega), rfl⟩
end Go.Proofs.YthdccmjdbcllkaaGreatDoor
