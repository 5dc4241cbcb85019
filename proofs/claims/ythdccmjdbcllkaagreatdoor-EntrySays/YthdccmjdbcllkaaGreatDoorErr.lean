/-
  An error of package api as a value, by its number; small words on what a call returns.
-/
import Derived.Test.YthdccmjdbcllkaaGreatDoorRows
import Derived.WalkKit
import Derived.ProofKit
import Derived.WalkLawsBesides
import Derived.Below
namespace Go.Proofs.YthdccmjdbcllkaaGreatDoor
open Go.RowKit

/-- an error, by its number (0: none). -/
def errV : Nat → Value
  | 0 => .nilIface
  | f + 1 => .iface 74 (.int .i64 ((f + 1 : Nat) : Int))

theorem ret_bool {a b : Bool} (h : a = b) : Ending.returned (.bool a) = .returned (.bool b) := by rw [h]
theorem ret_int {k : IntKind} {a b : Int} (h : a = b) : Ending.returned (.int k a) = .returned (.int k b) := by rw [h]

end Go.Proofs.YthdccmjdbcllkaaGreatDoor
