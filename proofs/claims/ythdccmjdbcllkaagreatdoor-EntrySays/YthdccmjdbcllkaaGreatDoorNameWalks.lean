/-
  What fits, Check, NameFault and same return, for every argument: what the plain words say; memory stays as it was.
-/
import Derived.Test.YthdccmjdbcllkaaGreatDoorErr
import Derived.Test.YthdccmjdbcllkaaGreatDoorPlain
namespace Go.Proofs.YthdccmjdbcllkaaGreatDoor
open Go.RowKit

set_option maxHeartbeats 400000 in
theorem fits_any (n : Int) (b : Bool) (w : World) (h0 : 0 ≤ n) (h1 : n ≤ 255) :
    Calls Tryz.prog 59 #[.int .u8 n, .bool b] w fun e w' => e = .returned (.bool (fit n b)) ∧ w = w' := by
  cases b
  all_goals
    by_cases a1 : 97 ≤ n
    all_goals by_cases a2 : n ≤ 122
    all_goals by_cases a3 : 48 ≤ n
    all_goals by_cases a4 : n ≤ 57
    all_goals by_cases a5 : n = 95
    all_goals try omega
  all_goals
    go_enter Tryz.func59, Tryz.ntmps59
    go_wp2
    go_ret
    exact ⟨ret_bool (by first | (simp [fit]; done) | (simp [fit]; omega) | (rw [Bool.eq_iff_iff]; simp [fit]; omega)), rfl⟩

set_option maxHeartbeats 400000 in
theorem check_any (s : ByteArray) (w : World) (hs : s.size ≤ maxLen) :
    Calls Tryz.prog 31 #[.string s] w fun e w' => e = .returned (errV (nameF s.data.toList)) ∧ w = w' := by
  unfold maxLen at hs
  have hl : s.data.toList.length = s.size := by simp
  by_cases h0 : s.size < 1
  · have HF : Hid (nameF s.data.toList = 1) := nameF_bound _ (by omega)
    have hz : ((s.size : Int) == 0) = true := by rw [beq_iff_eq]; omega
    clear hl h0
    go_enter Tryz.func31, Tryz.ntmps31
    go_wp2
    go_ret
    rw [HF.out]
    exact ⟨rfl, rfl⟩
  · have hz : ((s.size : Int) == 0) = false := by rw [beq_eq_false_iff_ne]; omega
    by_cases h8 : 8 < s.size
    · have HF : Hid (nameF s.data.toList = 1) := nameF_bound _ (by omega)
      have h8' : (8 : Int) < s.size := by omega
      clear hl h0 h8
      go_enter Tryz.func31, Tryz.ntmps31
      go_wp2
      go_ret
      rw [HF.out]
      exact ⟨rfl, rfl⟩
    · have HL : Hid (s.data.toList.length = s.size) := hl
      clear hl
      go_enter Tryz.func31, Tryz.ntmps31
      go_wp2
      go_loop [15] (fun i => ∃ k : Nat, k ≤ s.size ∧ i = .int .i64 k ∧ Hid (fitTo s.data.toList k = true)) (fun i => s.size - (intOf i).toNat)
      case atStart => exact ⟨0, Nat.zero_le _, rfl, rfl⟩
      case round =>
        obtain ⟨k, hk, rfl, HK⟩ := hrel
        by_cases hlt : k < s.size
        · have hb : (s[k].toNat : Int) < 256 := by have := s[k].toNat_lt; omega
          have HS : Hid (fitTo s.data.toList (k + 1) = fit (s[k].toNat : Int) ((k : Int) == 0)) := fitTo_succ s k hlt HK.out
          by_cases hf : fit (s[k].toNat : Int) ((k : Int) == 0) = true
          · go_wp2_with (go_at_call 59; refine (fits_any _ _ _ (by omega) (by omega)).mono ?_; rintro e w' ⟨rfl, rfl⟩)
            go_round
            case rel => exact ⟨k + 1, by omega, by go_num, HS.out.trans hf⟩
            case measure => simp [intOf]; omega
          · simp only [Bool.not_eq_true] at hf
            have HF : Hid (nameF s.data.toList = 3) := nameF_shape _ (by rw [HL.out]; omega) (fitTo_false _ (k + 1) _ (by rw [HL.out]; omega) (HS.out.trans hf))
            go_wp2_with (go_at_call 59; refine (fits_any _ _ _ (by omega) (by omega)).mono ?_; rintro e w' ⟨rfl, rfl⟩)
            go_ret
            rw [HF.out]
            exact ⟨rfl, rfl⟩
        · have HF : Hid (nameF s.data.toList = 0) := nameF_ok _ (by rw [HL.out]; omega) (by rw [HL.out]; have e : k = s.size := by omega
                                                                                            rw [← e]; exact HK.out)
          go_wp2
          go_ret
          rw [HF.out]
          exact ⟨rfl, rfl⟩
end Go.Proofs.YthdccmjdbcllkaaGreatDoor
