/-
  What Make returns: its errors, and, else, a table whose chains are those of the document; memory that was there stays as it was.
-/
import Derived.Test.YtchccaalinepnaaTabStruct
import Derived.Deep.Cut
import Derived.Deep.CutRange
import Derived.Deep.RegionWith
import Derived.RegionTactic
import Derived.BigRegion
namespace Go.Proofs.Ytchccaalinepnaa
open Go.RowKit

set_option maxHeartbeats 400000 in
theorem make_bound (al : Option Addr) (n cap : Nat) (many : Int) (w : World) (h : many < 1 ∨ 16 < many) :
    Calls Try.prog 14 #[.slice al n cap, .int .i64 many] w fun e w' => e = .returned (.tuple #[.agg #[.slice none 0 0, .slice none 0 0], errV 1]) ∧ Below w.heap.size w w' := by
  by_cases h1 : many < 1
  all_goals
    go_enter Try.func14, Try.ntmps14
    go_wp2
    exact bodyPost_ret (v := .tuple #[.agg #[.slice none 0 0, .slice none 0 0], errV 1]) (by simp [results, Try.results14, go_sem]; rfl) rfl ⟨rfl, (Below.refl _ _).alloc (Nat.le_refl _) _⟩

set_option maxHeartbeats 400000 in
theorem make_many (al : Option Addr) (n cap : Nat) (many : Int) (w : World) (h1 : 1 ≤ many) (h2 : many ≤ 16) (hn : 8 < n) :
    Calls Try.prog 14 #[.slice al n cap, .int .i64 many] w fun e w' => e = .returned (.tuple #[.agg #[.slice none 0 0, .slice none 0 0], errV 2]) ∧ Below w.heap.size w w' := by
  have hn' : (8 : Int) < (n : Int) := by omega
  go_enter Try.func14, Try.ntmps14
  go_wp2
  exact bodyPost_ret (v := .tuple #[.agg #[.slice none 0 0, .slice none 0 0], errV 2]) (by simp [results, Try.results14, go_sem]; rfl) rfl ⟨rfl, (Below.refl _ _).alloc (Nat.le_refl _) _⟩
end Go.Proofs.Ytchccaalinepnaa
