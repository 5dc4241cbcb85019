/-
  What the document's Pages and Apart return, for every argument that is asked of them; memory that was there stays as it was.
-/
import Derived.Test.YtnbmnljknfgafabPlaceWalks
namespace Go.Proofs.Ytnbmnljknfgafab
open Go.RowKit

theorem pages_any (n : Int) (w : World) (h0 : 0 ≤ n) (h1 : n ≤ 1000) : Calls Try.prog 16 #[.int .i64 n] w fun e w' => e = .returned (.int .i64 (roundF n)) ∧ w = w' := by
  by_cases h : 0 < n % 16
  · go_enter Try.func16, Try.ntmps16
    go_wp2
    go_ret
    exact ⟨ret_int (by unfold roundF; omega), rfl⟩
  · go_enter Try.func16, Try.ntmps16
    go_wp2
    go_ret
    exact ⟨ret_int (by unfold roundF; omega), rfl⟩

set_option maxHeartbeats 2000000 in
theorem refApart_any (x m y k : Int) (w : World) (hx : -300 ≤ x ∧ x ≤ 300) (hm : -300 ≤ m ∧ m ≤ 300) (hy : -300 ≤ y ∧ y ≤ 300) (hk : -300 ≤ k ∧ k ≤ 300) :
    Calls Try.prog 14 #[.agg #[.int .i64 x, .int .i64 m], .agg #[.int .i64 y, .int .i64 k]] w fun e w' => e = .returned (.bool (apartB x m y k)) ∧ Below w.heap.size w w' := by
  obtain ⟨x0, x1⟩ := hx
  obtain ⟨y0, y1⟩ := hy
  obtain ⟨m0, m1⟩ := hm
  obtain ⟨k0, k1⟩ := hk
  generalize hF : apartB x m y k = F
  have HF : Hid (apartB x m y k = F) := hF
  clear hF
  have hb : Below w.heap.size w ((w.alloc (.cells #[.int .i64 x, .int .i64 m] 39)).alloc (.cells #[.int .i64 y, .int .i64 k] 39)) := ((Below.refl _ _).alloc (Nat.le_refl _) _).alloc (by simp) _
  go_enter Try.func14, Try.ntmps14
  go_wp2
  go_loopw [5] (fun z wr => ∃ j : Nat, z = .int .i64 (x + j) ∧ (j : Int) ≤ 300 ∧ wr = (w.alloc (.cells #[.int .i64 x, .int .i64 m] 39)).alloc (.cells #[.int .i64 y, .int .i64 k] 39) ∧ Hid (∀ z, x ≤ z → z < x + j → ¬ (y ≤ z ∧ z < y + k))) (fun z _ => (700 - intOf z).toNat)
  case atStart => exact ⟨0, by simp, by omega, rfl, fun z h1 h2 => by omega⟩
  case round =>
    obtain ⟨j, rfl, hj, hw, HK⟩ := hrel
    subst hw
    by_cases hlt : x + (j : Int) < x + m
    · by_cases h1 : y ≤ x + (j : Int)
      · by_cases h2 : x + (j : Int) < y + k
        · have HE : Hid (F = false) := by
            show F = false
            rw [← HF.out, ← Bool.not_eq_true, apartB_iff]
            intro h
            exact h (x + j) ⟨⟨by omega, by omega⟩, by omega, by omega⟩
          go_wp2
          go_ret
          exact ⟨ret_bool HE.out.symm, hb⟩
        · have HE : Hid (∀ z, x ≤ z → z < x + ((j + 1 : Nat) : Int) → ¬ (y ≤ z ∧ z < y + k)) := fun z a b => by
            by_cases e : z = x + j
            · omega
            · exact HK.out z a (by omega)
          go_wp2
          go_roundw
          case rel => exact ⟨j + 1, by go_num, by omega, trivial, HE⟩
          case measure => simp [intOf]; omega
      · have HE : Hid (∀ z, x ≤ z → z < x + ((j + 1 : Nat) : Int) → ¬ (y ≤ z ∧ z < y + k)) := fun z a b => by
          by_cases e : z = x + j
          · omega
          · exact HK.out z a (by omega)
        go_wp2
        go_roundw
        case rel => exact ⟨j + 1, by go_num, by omega, trivial, HE⟩
        case measure => simp [intOf]; omega
    · have HE : Hid (F = true) := by
        show F = true
        rw [← HF.out, apartB_iff]
        rintro z ⟨⟨a, b⟩, c⟩
        exact HK.out z a (by omega) c
      go_wp2
      go_ret
      exact ⟨ret_bool HE.out.symm, hb⟩
end Go.Proofs.Ytnbmnljknfgafab
