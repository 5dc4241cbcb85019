/-
  What SameNumbers returns, for every two lists of numbers: whether they are alike; memory stays as it was.
-/
import Derived.Test.YtlplncjhggojoaaGreatDoorRows
import Derived.Test.YtlplncjhggojoaaGreatDoorAtAll
import Derived.Deep.QuietTactic
import Derived.BigQuiet
namespace Go.Proofs.YtlplncjhggojoaaGreatDoor
open Go.RowKit

theorem bool_ret {a b : Bool} (h : a = b) : Ending.returned (.bool a) = .returned (.bool b) := by rw [h]

theorem sameNumbers_zero (a c : Option Addr) (ca cb : Nat) (w : World) :
    Calls Tryz.prog 33 #[.slice a 0 ca, .slice c 0 cb] w fun e w' => e = .returned (.bool true) ∧ ∃ k, w' = w.drewN k := by
  go_enter Tryz.func33, Tryz.ntmps33
  go_wp2
  refine wp_loop_rounds 1 ?_
  rw [rounds_succ]
  go_wp2
  go_ret
  exact ⟨rfl, 0, rfl⟩

set_option maxHeartbeats 400000 in
theorem sameNumbers_some (f g : Nat → Int) (n : Nat) (bx ox cx bY oY cy : Nat) (w : World) (hm : n ≤ 1000000000)
    (hx : ∀ i, i < n → w.cell? ⟨bx, ox + i, none⟩ = some (.int .i64 (f i)))
    (hy : ∀ i, i < n → w.cell? ⟨bY, oY + i, none⟩ = some (.int .i64 (g i))) :
    Calls Tryz.prog 33 #[.slice (some ⟨bx, ox, none⟩) n cx, .slice (some ⟨bY, oY, none⟩) n cy] w fun e w' => e = .returned (.bool (eqTo f g n)) ∧ ∃ k, w' = w.drewN k := by
  go_enter Tryz.func33, Tryz.ntmps33
  go_wp2
  go_loopw [5] (fun i wr => ∃ k j : Nat, k ≤ n ∧ i = .int .i64 k ∧ wr = w.drewN j ∧ Hid (eqTo f g k = true)) (fun i _ => n - (intOf i).toNat)
  case atStart => exact ⟨0, 0, Nat.zero_le _, rfl, rfl, rfl⟩
  case round =>
    obtain ⟨k, j, hk, rfl, rfl, HK⟩ := hrel
    by_cases hlt : k < n
    · have hxk := hx k hlt
      have hyk := hy k hlt
      by_cases he : f k = g k
      · have hne : (f k != g k) = false := bne_eq_false_iff_eq.2 he
        have HE : Hid (f k = g k) := he
        clear he hx hy
        go_wp2
        go_quiet (fail)
        go_wp2
        go_roundw
        case rel => exact ⟨k + 1, j + nq, by omega, by go_num, rfl, eqTo_succ HK.out HE.out⟩
        case measure => simp [intOf]; omega
      · have hne : (f k != g k) = true := bne_iff_ne.2 he
        have HE : Hid (eqTo f g n = false) := eqTo_stop he hlt
        clear he hx hy
        go_wp2
        go_quiet (fail)
        go_wp2
        go_ret
        exact ⟨bool_ret HE.out.symm, j + nq, by rw [World.drewN_drewN]⟩
    · have hkn : k = n := by omega
      subst hkn
      clear hx hy
      go_wp2
      go_ret
      exact ⟨bool_ret HK.out.symm, j, rfl⟩

set_option maxHeartbeats 400000 in
theorem sameNumbers_other (a c : Option Addr) (n m ca cb : Nat) (w : World) (hm : n ≠ m) :
    Calls Tryz.prog 33 #[.slice a n ca, .slice c m cb] w fun e w' => e = .returned (.bool false) ∧ ∃ k, w' = w.drewN k := by
  have hne : ((n : Int) != (m : Int)) = true := bne_iff_ne.2 (by omega)
  clear hm
  go_enter Tryz.func33, Tryz.ntmps33
  go_wp2
  go_ret
  exact ⟨rfl, 0, rfl⟩

theorem sameNumbers_any (f g : Nat → Int) (n m : Nat) (a c : Option Addr) (ca cb : Nat) (w : World) (hm : n ≤ 1000000000)
    (hx : RowAt w a n fun i => .int .i64 (f i)) (hy : RowAt w c m fun i => .int .i64 (g i)) :
    Calls Tryz.prog 33 #[.slice a n ca, .slice c m cb] w fun e w' => e = .returned (.bool (decide (n = m) && eqTo f g n)) ∧ ∃ k, w' = w.drewN k := by
  by_cases h : n = m
  · subst h
    rcases hx with h0 | ⟨b, o, rfl, hx⟩
    · subst h0
      refine (sameNumbers_zero a c ca cb w).mono ?_
      rintro e w' ⟨rfl, hw⟩
      exact ⟨rfl, hw⟩
    · rcases hy with h0 | ⟨b', o', rfl, hy⟩
      · subst h0
        refine (sameNumbers_zero _ c ca cb w).mono ?_
        rintro e w' ⟨rfl, hw⟩
        exact ⟨rfl, hw⟩
      · refine (sameNumbers_some f g n b o ca b' o' cb w hm hx hy).mono ?_
        rintro e w' ⟨rfl, hw⟩
        exact ⟨bool_ret (by simp), hw⟩
  · refine (sameNumbers_other a c n m ca cb w h).mono ?_
    rintro e w' ⟨rfl, hw⟩
    exact ⟨bool_ret (by simp [h]), hw⟩
end Go.Proofs.YtlplncjhggojoaaGreatDoor
