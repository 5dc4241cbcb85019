/-
  The text of the error of number 10.
-/
import Derived.Test.YtchccaalinepnaaDoorSame
import Derived.Test.YtchccaalinepnaaDoorSameNumbers
namespace Go.Proofs.YtchccaalinepnaaDoor
open Go.RowKit

set_option maxRecDepth 100000 in
theorem error10 (w : World) : Calls Tryd.prog 7 #[.int .i64 10] w fun e w' => e = .returned (.string ⟨#[109, 97, 114, 108, 105, 110, 115, 112, 105, 107, 101, 58, 32, 101, 114, 114, 111, 114, 32, 49, 48]⟩) ∧ w = w' := by
  go_enter Tryd.func7, Tryd.ntmps7
  go_wp2
  go_ret
  exact ⟨rfl, rfl⟩

end Go.Proofs.YtchccaalinepnaaDoor
