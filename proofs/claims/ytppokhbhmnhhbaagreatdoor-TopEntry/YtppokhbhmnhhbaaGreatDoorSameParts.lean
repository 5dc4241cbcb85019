/-
  What SameParts returns, of two lists of parts that are alike: true; memory stays as it was.
-/
import Derived.Test.YtppokhbhmnhhbaaGreatDoorImageSmall
import Derived.Test.YtppokhbhmnhhbaaGreatDoorSameNumbers
import Derived.Deep.QuietTactic
import Derived.BigQuiet
namespace Go.Proofs.YtppokhbhmnhhbaaGreatDoor
open Go.RowKit

theorem eqTo_self (f : Nat → Int) : ∀ n, eqTo f f n = true
  | 0 => rfl
  | n + 1 => eqTo_succ (eqTo_self f n) rfl
theorem sameParts_none (a a' : Option Addr) (c c' : Nat) (w : World) :
    Calls Tryz.prog 14 #[.slice a 0 c, .slice a' 0 c'] w fun e w' => e = .returned (.bool true) ∧ ∃ k, w' = w.drewN k := by
  go_enter Tryz.func14, Tryz.ntmps14
  go_wp2
  refine wp_loop_rounds 1 ?_
  rw [rounds_succ]
  go_wp2
  go_ret
  exact ⟨rfl, 0, rfl⟩

set_option maxRecDepth 100000 in
set_option maxHeartbeats 2000000 in
theorem sameParts_true (n : Nat) (nm : Nat → ByteArray) (B : Nat → Int) (M : Nat → Nat) (X : Nat → Nat → Int) (a a' : Option Addr) (c c' : Nat) (A A' : Nat → Option Addr) (C C' : Nat → Nat) (w : World) (hn : n ≤ 1000) (hM : ∀ i, i < n → M i ≤ 1000)
    (hx : PartRow w a n nm B A M C X) (hy : PartRow w a' n nm B A' M C' X) :
    Calls Tryz.prog 14 #[.slice a n c, .slice a' n c'] w fun e w' => e = .returned (.bool true) ∧ ∃ k, w' = w.drewN k := by
  rcases hx with h0 | ⟨bx, ox, rfl, hx⟩
  · subst h0
    exact sameParts_none a a' c c' w
  rcases hy with h0 | ⟨bY, oY, rfl, hy⟩
  · subst h0
    exact sameParts_none _ a' c c' w
  have hnn : ((n : Int) != (n : Int)) = false := by simp
  go_enter Tryz.func14, Tryz.ntmps14
  go_wp2
  clear hnn
  go_loopw [5] (fun i wr => ∃ k j : Nat, k ≤ n ∧ i = .int .i64 k ∧ wr = w.drewN j) (fun i _ => n - (intOf i).toNat)
  case atStart => exact ⟨0, 0, Nat.zero_le _, rfl, rfl⟩
  case round =>
    obtain ⟨k, j, hk, rfl, hwr⟩ := hrel
    by_cases hlt : k < n
    · have hbw : Below w.heap.size w wr := by rw [hwr]; exact below_drewN (Below.refl _ _) j
      have x0 := cell_later hbw (hx k hlt).1
      have x1 := cell_later hbw (hx k hlt).2.1
      have x2 := cell_later hbw (hx k hlt).2.2.1
      have xr := (hx k hlt).2.2.2.later hbw
      have y0 := cell_later hbw (hy k hlt).1
      have y1 := cell_later hbw (hy k hlt).2.1
      have y2 := cell_later hbw (hy k hlt).2.2.1
      have yr := (hy k hlt).2.2.2.later hbw
      have hMk := hM k hlt
      have Hwr : Hid (wr = w.drewN j) := hwr
      clear hx hy hbw hwr
      have HS : ∀ q : Nat, Calls Tryz.prog 16 #[.slice (A k) (M k) (C k), .slice (A' k) (M k) (C' k)] (wr.drewN q) fun e w' => e = .returned (.bool true) ∧ ∃ m, w' = (wr.drewN q).drewN m := fun q => by
        have := sameNumbers_any (X k) (X k) (M k) (M k) (A k) (A' k) (C k) (C' k) (wr.drewN q) (by omega) (xr.drewN q) (yr.drewN q)
        rwa [show (decide (M k = M k) && eqTo (X k) (X k) (M k)) = true by rw [decide_eq_true rfl, Bool.true_and]; exact eqTo_self (X k) (M k)] at this
      have hsn : ((nm k).toList != (nm k).toList) = false := by simp
      have hsb : (B k != B k) = false := by simp
      clear xr yr
      go_wp2
      go_quiet (exact Calls.quiet_of (HS _))
      clear HS
      go_wp2
      go_quiet (fail)
      go_wp2
      go_roundw
      case rel =>
        rw [Hwr.out]
        simp only [World.drewN_drewN]
        exact ⟨k + 1, _, by omega, by go_num, rfl⟩
      case measure => simp [intOf]; omega
    · clear hx hy
      go_wp2
      go_ret
      exact ⟨rfl, j, rfl⟩
end Go.Proofs.YtppokhbhmnhhbaaGreatDoor
