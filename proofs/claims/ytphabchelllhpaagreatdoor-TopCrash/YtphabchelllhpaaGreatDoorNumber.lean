/-
  What number returns of an error of package api: its number; memory stays as it was.
-/
import Derived.Test.YtphabchelllhpaaGreatDoorErr
namespace Go.Proofs.YtphabchelllhpaaGreatDoor
open Go.RowKit

theorem assertN_errno (n : Int) (w : World) : (Instr.typeAssert (.iface 69 (.int .i64 n)) 36 69 true).run Tryz.prog w = .ok (.tuple #[.int .i64 n, .bool true]) w := by kernel_rfl
theorem number_nil (w : World) : Calls Tryz.prog 12 #[.nilIface] w fun e w' => e = .returned (.int .i64 0) ∧ w = w' := by
  go_enter Tryz.func12, Tryz.ntmps12
  go_wp2
  go_ret
  exact ⟨rfl, rfl⟩
theorem number_errno (n : Int) (w : World) : Calls Tryz.prog 12 #[.iface 69 (.int .i64 n)] w fun e w' => e = .returned (.int .i64 n) ∧ w = w' := by
  have ha := assertN_errno n
  go_enter Tryz.func12, Tryz.ntmps12
  go_wp2
  go_ret
  exact ⟨rfl, rfl⟩
theorem numberErr_any (f : Nat) (w : World) : Calls Tryz.prog 12 #[errV f] w fun e w' => e = .returned (.int .i64 (f : Int)) ∧ w = w' := by
  cases f with
  | zero => exact number_nil w
  | succ f => exact number_errno _ w
end Go.Proofs.YtphabchelllhpaaGreatDoor
