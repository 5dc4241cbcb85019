/-
  What SameTexts returns of two rows of texts that are alike; memory stays as it was.
-/
import Derived.Test.YtanfejgcjifhpaaDoorRows
import Derived.Test.YtanfejgcjifhpaaDoorRowsAt
import Derived.Deep.QuietTactic
import Derived.BigQuiet
namespace Go.Proofs.YtanfejgcjifhpaaDoor
open Go.RowKit

theorem sameTx_zero (a c : Option Addr) (ca cb : Nat) (w : World) :
    Calls Tryd.prog 16 #[.slice a 0 ca, .slice c 0 cb] w fun e w' => e = .returned (.bool true) ∧ ∃ k, w' = w.drewN k := by
  go_enter Tryd.func16, Tryd.ntmps16
  go_wp2
  refine wp_loop_rounds 1 ?_
  rw [rounds_succ]
  go_wp2
  go_ret
  exact ⟨rfl, 0, rfl⟩

set_option maxHeartbeats 400000 in
theorem sameTx_some (f : Nat → ByteArray) (n : Nat) (bx ox cx bY oY cy : Nat) (w : World) (hm : n ≤ 1000000000)
    (hx : ∀ i, i < n → w.cell? ⟨bx, ox + i, none⟩ = some (.string (f i)))
    (hy : ∀ i, i < n → w.cell? ⟨bY, oY + i, none⟩ = some (.string (f i))) :
    Calls Tryd.prog 16 #[.slice (some ⟨bx, ox, none⟩) n cx, .slice (some ⟨bY, oY, none⟩) n cy] w fun e w' => e = .returned (.bool true) ∧ ∃ k, w' = w.drewN k := by
  go_enter Tryd.func16, Tryd.ntmps16
  go_wp2
  go_loopw [5] (fun i wr => ∃ k j : Nat, k ≤ n ∧ i = .int .i64 k ∧ wr = w.drewN j) (fun i _ => n - (intOf i).toNat)
  case atStart => exact ⟨0, 0, Nat.zero_le _, rfl, rfl⟩
  case round =>
    obtain ⟨k, j, hk, rfl, rfl⟩ := hrel
    by_cases hlt : k < n
    · have hxk := hx k hlt
      have hyk := hy k hlt
      clear hx hy
      generalize f k = z at *
      go_wp2
      go_quiet (fail)
      go_wp2
      go_roundw
      case rel => exact ⟨k + 1, j + nq, by omega, by go_num, rfl⟩
      case measure => simp [intOf]; omega
    · have hkn : k = n := by omega
      subst hkn
      clear hx hy
      go_wp2
      go_ret
      exact ⟨rfl, j, rfl⟩

theorem sameTx_true (f g : Nat → ByteArray) (n : Nat) (a c : Option Addr) (ca cb : Nat) (w : World) (hm : n ≤ 1000000000)
    (hx : RowAt w a n fun i => .string (f i)) (hy : RowAt w c n fun i => .string (g i)) (he : ∀ i, i < n → f i = g i) :
    Calls Tryd.prog 16 #[.slice a n ca, .slice c n cb] w fun e w' => e = .returned (.bool true) ∧ ∃ k, w' = w.drewN k := by
  rcases hx with h0 | ⟨b, o, rfl, hx⟩
  · subst h0
    exact sameTx_zero a c ca cb w
  · rcases hy with h0 | ⟨b', o', rfl, hy⟩
    · subst h0
      exact sameTx_zero _ c ca cb w
    · exact sameTx_some f n b o ca b' o' cb w hm hx (fun i hi => by rw [hy i hi, he i hi])

end Go.Proofs.YtanfejgcjifhpaaDoor
