/-
  What wordMay of the document's answer returns, for every number; memory stays as it was.
-/
import Derived.Test.YthdccmjdbcllkaaGreatDoorNameFaultWalks
import Derived.Test.YthdccmjdbcllkaaGreatDoorAtAll
namespace Go.Proofs.YthdccmjdbcllkaaGreatDoor
open Go.RowKit

theorem wordMay_any (n : Int) (w : World) :
    Calls Tryz.prog 28 #[.int .i64 n] w fun e w' => e = .returned (.bool (isWordF n)) ∧ w = w' := by
  by_cases h0 : (-2147483648 : Int) ≤ n
  all_goals by_cases h1 : n ≤ 2147483647
  all_goals
    go_enter Tryz.func28, Tryz.ntmps28
    go_wp2
    go_ret
    exact ⟨ret_bool (by simp [isWordF, h0, h1]), rfl⟩

theorem undrew {w w' : World} (h : Below w.drew.heap.size w.drew w') : Below w.heap.size w w' := ⟨h.os, h.tape, h.output, h.size, h.block⟩
end Go.Proofs.YthdccmjdbcllkaaGreatDoor
