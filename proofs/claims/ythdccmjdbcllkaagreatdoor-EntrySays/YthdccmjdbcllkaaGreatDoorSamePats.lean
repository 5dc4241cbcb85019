/-
  What SamePatches returns, of two lists of patches that are alike; memory stays as it was.
-/
import Derived.Test.YthdccmjdbcllkaaGreatDoorRows
import Derived.Test.YthdccmjdbcllkaaGreatDoorAtAll
import Derived.Deep.QuietTactic
import Derived.BigQuiet
namespace Go.Proofs.YthdccmjdbcllkaaGreatDoor
open Go.RowKit

theorem samePats_zero (a c : Option Addr) (ca cb : Nat) (w : World) :
    Calls Tryz.prog 40 #[.slice a 0 ca, .slice c 0 cb] w fun e w' => e = .returned (.bool true) ∧ ∃ k, w' = w.drewN k := by
  go_enter Tryz.func40, Tryz.ntmps40
  go_wp2
  refine wp_loop_rounds 1 ?_
  rw [rounds_succ]
  go_wp2
  go_ret
  exact ⟨rfl, 0, rfl⟩

set_option maxHeartbeats 1000000 in
theorem samePats_true (p t v : Nat → Int) (n : Nat) (a c : Option Addr) (ca cb : Nat) (w : World) (hm : n ≤ 1000000) (hx : PatRow w a n p t v) (hy : PatRow w c n p t v) :
    Calls Tryz.prog 40 #[.slice a n ca, .slice c n cb] w fun e w' => e = .returned (.bool true) ∧ ∃ k, w' = w.drewN k := by
  rcases hx with h0 | ⟨bx, ox, rfl, hx⟩
  · subst h0
    exact samePats_zero a c ca cb w
  rcases hy with h0 | ⟨bY, oY, rfl, hy⟩
  · subst h0
    exact samePats_zero _ c ca cb w
  go_enter Tryz.func40, Tryz.ntmps40
  go_wp2
  go_loopw [5] (fun i wr => ∃ k j : Nat, k ≤ n ∧ i = .int .i64 k ∧ wr = w.drewN j) (fun i _ => n - (intOf i).toNat)
  case atStart => exact ⟨0, 0, Nat.zero_le _, rfl, rfl⟩
  case round =>
    obtain ⟨k, j, hk, rfl, rfl⟩ := hrel
    by_cases hlt : k < n
    · obtain ⟨x0, x1, x2⟩ := hx k hlt
      obtain ⟨y0, y1, y2⟩ := hy k hlt
      clear hx hy
      generalize p k = z0 at *
      generalize t k = z1 at *
      generalize v k = z2 at *
      go_wp2
      go_quiet (fail)
      go_wp2
      go_roundw
      case rel => exact ⟨k + 1, j + nq, by omega, by go_num, rfl⟩
      case measure => simp [intOf]; omega
    · clear hx hy
      go_wp2
      go_ret
      exact ⟨rfl, j, rfl⟩
end Go.Proofs.YthdccmjdbcllkaaGreatDoor
