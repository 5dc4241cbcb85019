/-
  What same returns, for every error of package api and every number; memory stays as it was.
-/
import Derived.Test.YtphabchelllhpaaGreatDoorErr
namespace Go.Proofs.YtphabchelllhpaaGreatDoor
open Go.RowKit

theorem assert_errno (n : Int) (w : World) : (Instr.typeAssert (.iface 69 (.int .i64 n)) 36 69 true).run Tryz.prog w = .ok (.tuple #[.int .i64 n, .bool true]) w := by kernel_rfl

end Go.Proofs.YtphabchelllhpaaGreatDoor
