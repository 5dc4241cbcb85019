/-
  What NameFault returns, for every text: what the plain words say; memory stays as it was.
-/
import Derived.Test.YthdccmjdbcllkaaGreatDoorErr
import Derived.Test.YthdccmjdbcllkaaGreatDoorPlain
import Derived.Test.YthdccmjdbcllkaaGreatDoorSame
namespace Go.Proofs.YthdccmjdbcllkaaGreatDoor
open Go.RowKit

theorem fit_yes (n : Int) (b : Bool) (h : (97 ≤ n ∧ n ≤ 122) ∨ (b = false ∧ ((48 ≤ n ∧ n ≤ 57) ∨ n = 95))) : fit n b = true := by
  simp only [fit, Bool.or_eq_true, Bool.and_eq_true, decide_eq_true_eq, Bool.not_eq_true', beq_iff_eq]; exact h
theorem fit_no (n : Int) (b : Bool) (h : ¬ ((97 ≤ n ∧ n ≤ 122) ∨ (b = false ∧ ((48 ≤ n ∧ n ≤ 57) ∨ n = 95)))) : fit n b = false := by
  rw [← Bool.not_eq_true]
  simp only [fit, Bool.or_eq_true, Bool.and_eq_true, decide_eq_true_eq, Bool.not_eq_true', beq_iff_eq]; exact h

set_option maxHeartbeats 1000000 in
theorem nameFault_any (s : ByteArray) (w : World) (hs : s.size ≤ maxLen) :
    Calls Tryz.prog 27 #[.string s] w fun e w' => e = .returned (.int .i64 ((nameF s.data.toList : Nat) : Int)) ∧ w = w' := by
  unfold maxLen at hs
  have hl : s.data.toList.length = s.size := by simp
  by_cases h0 : s.size < 1
  · have HF : Hid (nameF s.data.toList = 1) := nameF_bound _ (by omega)
    have hz : (s.size : Int) < 1 := by omega
    clear hl h0
    go_enter Tryz.func27, Tryz.ntmps27
    go_wp2
    go_ret
    rw [HF.out]
    exact ⟨rfl, rfl⟩
  · have hz : ¬ (s.size : Int) < 1 := by omega
    by_cases h8 : 8 < s.size
    · have HF : Hid (nameF s.data.toList = 1) := nameF_bound _ (by omega)
      have h8' : (8 : Int) < s.size := by omega
      clear hl h0 h8
      go_enter Tryz.func27, Tryz.ntmps27
      go_wp2
      go_ret
      rw [HF.out]
      exact ⟨rfl, rfl⟩
    · have HL : Hid (s.data.toList.length = s.size) := hl
      clear hl
      go_enter Tryz.func27, Tryz.ntmps27
      go_wp2
      go_loop [3] (fun i => ∃ k : Nat, k ≤ s.size ∧ i = .int .i64 k ∧ Hid (fitTo s.data.toList k = true)) (fun i => s.size - (intOf i).toNat)
      case atStart => exact ⟨0, Nat.zero_le _, rfl, rfl⟩
      case round =>
        obtain ⟨k, hk, rfl, HK⟩ := hrel
        by_cases hlt : k < s.size
        · have hb : (s[k].toNat : Int) < 256 := by have := s[k].toNat_lt; omega
          have HS : Hid (fitTo s.data.toList (k + 1) = fit (s[k].toNat : Int) ((k : Int) == 0)) := fitTo_succ s k hlt HK.out
          have HN : Hid (fitTo s.data.toList (k + 1) = false → nameF s.data.toList = 3) := fun hf => nameF_shape _ (by rw [HL.out]; omega) (fitTo_false _ (k + 1) _ (by rw [HL.out]; omega) hf)
          by_cases a1 : (97 : Int) ≤ s[k].toNat
          all_goals by_cases a2 : (s[k].toNat : Int) ≤ 122
          all_goals by_cases a3 : (48 : Int) ≤ s[k].toNat
          all_goals by_cases a4 : (s[k].toNat : Int) ≤ 57
          all_goals by_cases a5 : ((s[k].toNat : Int) == 95) = true
          all_goals try (exfalso; rw [beq_iff_eq] at a5; omega)
          all_goals try (exfalso; clear a5; omega)
          all_goals by_cases hk0 : ((k : Int) == 0) = true
          all_goals
            try simp only [Bool.not_eq_true] at a5
            try simp only [Bool.not_eq_true] at hk0
            go_wp2
            first
              | (go_round
                 case rel => exact ⟨k + 1, by omega, by go_num, HS.out.trans (fit_yes _ _ (by first | (left; constructor <;> omega) | (refine Or.inr ⟨hk0, Or.inl ⟨?_, ?_⟩⟩ <;> omega) | exact Or.inr ⟨hk0, Or.inr (beq_iff_eq.1 a5)⟩))⟩
                 case measure => simp [intOf]; omega)
              | (go_ret
                 rw [HN.out (HS.out.trans (fit_no _ _ (by rintro (⟨x, y⟩ | ⟨z, (⟨x, y⟩ | x)⟩) <;> first | omega | exact absurd (z.symm.trans hk0) (by decide) | (rw [x] at a5; exact absurd a5 (by decide)))))]
                 exact ⟨rfl, rfl⟩)
        · have HF : Hid (nameF s.data.toList = 0) := nameF_ok _ (by rw [HL.out]; omega) (by rw [HL.out]; have e : k = s.size := by omega
                                                                                            rw [← e]; exact HK.out)
          go_wp2
          go_ret
          rw [HF.out]
          exact ⟨rfl, rfl⟩

end Go.Proofs.YthdccmjdbcllkaaGreatDoor
