/-
  What Number of the document's answer returns, for every text; memory stays as it was.
-/
import Derived.Test.YthdccmjdbcllkaaGreatDoorRefDec
import Derived.Test.YthdccmjdbcllkaaGreatDoorPlainCut
namespace Go.Proofs.YthdccmjdbcllkaaGreatDoor
open Go.RowKit

theorem take_more (t : ByteArray) (k : Nat) (hk : k < t.size) : t.data.toList.take (k + 1) = t.data.toList.take k ++ [t[k]] := by
  rw [List.take_add_one, List.getElem?_eq_getElem (by simpa using hk)]
  simp [ByteArray.getElem_eq_getElem_data]
theorem val_more (t : ByteArray) (k : Nat) (hk : k < t.size) : val (t.data.toList.take (k + 1)) = 10 * val (t.data.toList.take k) + (t[k].toNat - 48) := by rw [take_more t k hk, val_snoc]
theorem dig_more (t : ByteArray) (k : Nat) (hk : k < t.size) : (t.data.toList.take (k + 1)).all isDig = ((t.data.toList.take k).all isDig && isDig t[k]) := by rw [take_more t k hk]; simp
theorem dig_never {l : List UInt8} {k : Nat} (h : (l.take k).all isDig = false) : l.all isDig = false := by
  rw [← Bool.not_eq_true] at h ⊢
  intro h2
  apply h
  rw [List.all_eq_true] at h2 ⊢
  exact fun x hx => h2 x (List.mem_of_mem_take hx)
theorem val_small (t : ByteArray) (k : Nat) (hk : k ≤ 17) (h : (t.data.toList.take k).all isDig = true) : val (t.data.toList.take k) < 100000000000000000 := by
  have h1 := val_lt _ _ rfl h
  have h2 : (10 : Nat) ^ (t.data.toList.take k).length ≤ 10 ^ 17 := Nat.pow_le_pow_right (by omega) (by rw [List.length_take]; omega)
  have h3 : (10 : Nat) ^ 17 = 100000000000000000 := by decide
  omega

set_option maxRecDepth 100000 in
set_option maxHeartbeats 2000000 in
theorem number_plus (s : ByteArray) (w : World) (h0 : 0 < s.size) (h1 : s.size ≤ 18) (hc : ((s[0].toNat : Int) == 45) = false) (hd : ((s[0].toNat : Int) == 48) = false ∨ s.size = 1)
    (hA : s.data.toList.all isDig = true → refNum s.data.toList = some (val s.data.toList : Int)) (hN : s.data.toList.all isDig = false → refNum s.data.toList = none) :
    Calls Tryz.prog 39 #[.string s] w fun e w' => e = .returned (.tuple #[.int .i64 ((refNum s.data.toList).getD 0), .bool (refNum s.data.toList).isSome]) ∧ w = w' := by
  have g0 : (0 : Int) < s.size := by omega
  have g1 : ¬ (18 : Int) < s.size := by omega
  have g2 : ¬ (s.size : Int) < 1 := by omega
  have hl : s.data.toList.length = s.size := by simp
  generalize refNum s.data.toList = R at *
  rcases hd with hd | hd
  all_goals
    have g4 : Hid True := trivial
    try have g3 : ¬ (1 : Int) < s.size := by omega
    go_enter Tryz.func39, Tryz.ntmps39
    go_wp2
    try (by_cases hd2 : ((s[0].toNat : Int) == 48) = true <;> try simp only [Bool.not_eq_true] at hd2)
    all_goals try go_wp2
    all_goals
      go_loop [5, 6] (fun n i => ∃ k : Nat, k ≤ s.size ∧ i = .int .i64 k ∧ n = .int .i64 (val (s.data.toList.take k) : Int) ∧ Hid ((s.data.toList.take k).all isDig = true)) (fun _ i => s.size - (intOf i).toNat)
      case atStart => exact ⟨0, Nat.zero_le _, rfl, rfl, rfl⟩
      case round =>
        obtain ⟨k, hk, rfl, rfl, HK⟩ := hrel
        by_cases hlt : k < s.size
        · have HV := val_more s k hlt
          have HD := dig_more s k hlt
          rw [HK.out, Bool.true_and] at HD
          have HS := val_small s k (by omega) HK.out
          generalize val (s.data.toList.take k) = V at *
          have hb : (s[k].toNat : Int) < 256 := by have := s[k].toNat_lt; omega
          by_cases a1 : (s[k].toNat : Int) < 48
          · have HX : Hid (R = none) := hN (dig_never (k := k + 1) (HD.trans (by unfold isDig; rw [Bool.and_eq_false_iff]; left; rw [decide_eq_false_iff_not]; omega)))
            clear HV HD HS hA hN HK
            go_wp2
            go_ret2
            rw [HX.out]
            exact ⟨rfl, rfl⟩
          · by_cases a2 : (57 : Int) < s[k].toNat
            · have HX : Hid (R = none) := hN (dig_never (k := k + 1) (HD.trans (by unfold isDig; rw [Bool.and_eq_false_iff]; right; rw [decide_eq_false_iff_not]; omega)))
              clear HV HD HS hA hN HK
              go_wp2
              go_ret2
              rw [HX.out]
              exact ⟨rfl, rfl⟩
            · have HX : Hid ((s.data.toList.take (k + 1)).all isDig = true) := HD.trans (by unfold isDig; rw [Bool.and_eq_true, decide_eq_true_eq, decide_eq_true_eq]; omega)
              have hw1 : IntKind.u8.wrap ((s[k].toNat : Int) - 48) = (s[k].toNat : Int) - 48 := wr8 _ (by omega) (by omega)
              have hw2 : IntKind.i64.wrap (10 * (V : Int)) = 10 * (V : Int) := wr64 _ (by omega) (by omega)
              have hw3 : IntKind.i64.wrap (10 * (V : Int) + ((s[k].toNat : Int) - 48)) = 10 * (V : Int) + ((s[k].toNat : Int) - 48) := wr64 _ (by omega) (by omega)
              have hw4 : IntKind.i64.wrap ((s[k].toNat : Int) - 48) = (s[k].toNat : Int) - 48 := wr64 _ (by omega) (by omega)
              have HW : Hid (((val (s.data.toList.take (k + 1)) : Nat) : Int) = 10 * (V : Int) + ((s[k].toNat : Int) - 48)) := by
                show ((val (s.data.toList.take (k + 1)) : Nat) : Int) = _
                omega
              clear HV HD HS hA hN HK hl
              go_wp2
              go_round
              case rel => exact ⟨k + 1, by omega, by go_num, by rw [HW.out], HX⟩
              case measure => simp [intOf]; omega
        · have e : k = s.size := by omega
          subst e
          have et : s.data.toList.take s.size = s.data.toList := List.take_of_length_le (by omega)
          rw [et] at HK ⊢
          have HX : Hid (R = some (val s.data.toList : Int)) := hA HK.out
          generalize val s.data.toList = V at *
          clear hA hN HK et
          go_wp2
          go_ret2
          rw [HX.out]
          exact ⟨rfl, rfl⟩

set_option maxRecDepth 100000 in
set_option maxHeartbeats 2000000 in
theorem number_minus (s t : ByteArray) (w : World) (R : Option Int) (h0 : 0 < s.size) (hT : s.extract 1 s.size = t) (h1 : t.size ≤ 18) (h2 : 0 < t.size) (hc : ((s[0].toNat : Int) == 45) = true) (hd : ((t[0].toNat : Int) == 48) = false)
    (hA : t.data.toList.all isDig = true → R = some (-(val t.data.toList : Int))) (hN : t.data.toList.all isDig = false → R = none) :
    Calls Tryz.prog 39 #[.string s] w fun e w' => e = .returned (.tuple #[.int .i64 (R.getD 0), .bool R.isSome]) ∧ w = w' := by
  have g0 : (0 : Int) < s.size := by omega
  have g1 : ¬ (18 : Int) < t.size := by omega
  have g2 : ¬ (t.size : Int) < 1 := by omega
  have hts : (t.size : Int) < s.size := by rw [← hT]; simp; omega
  have hl : t.data.toList.length = t.size := by simp
  go_enter Tryz.func39, Tryz.ntmps39
  go_wp2
  go_loop [5, 6] (fun n i => ∃ k : Nat, k ≤ t.size ∧ i = .int .i64 k ∧ n = .int .i64 (val (t.data.toList.take k) : Int) ∧ Hid ((t.data.toList.take k).all isDig = true)) (fun _ i => t.size - (intOf i).toNat)
  case atStart => exact ⟨0, Nat.zero_le _, rfl, rfl, rfl⟩
  case round =>
    obtain ⟨k, hk, rfl, rfl, HK⟩ := hrel
    by_cases hlt : k < t.size
    · have HV := val_more t k hlt
      have HD := dig_more t k hlt
      rw [HK.out, Bool.true_and] at HD
      have HS := val_small t k (by omega) HK.out
      generalize val (t.data.toList.take k) = V at *
      have hb : (t[k].toNat : Int) < 256 := by have := t[k].toNat_lt; omega
      by_cases a1 : (t[k].toNat : Int) < 48
      · have HX : Hid (R = none) := hN (dig_never (k := k + 1) (HD.trans (by unfold isDig; rw [Bool.and_eq_false_iff]; left; rw [decide_eq_false_iff_not]; omega)))
        clear HV HD HS hA hN HK
        go_wp2
        go_ret2
        rw [HX.out]
        exact ⟨rfl, rfl⟩
      · by_cases a2 : (57 : Int) < t[k].toNat
        · have HX : Hid (R = none) := hN (dig_never (k := k + 1) (HD.trans (by unfold isDig; rw [Bool.and_eq_false_iff]; right; rw [decide_eq_false_iff_not]; omega)))
          clear HV HD HS hA hN HK
          go_wp2
          go_ret2
          rw [HX.out]
          exact ⟨rfl, rfl⟩
        · have HX : Hid ((t.data.toList.take (k + 1)).all isDig = true) := HD.trans (by unfold isDig; rw [Bool.and_eq_true, decide_eq_true_eq, decide_eq_true_eq]; omega)
          have hw1 : IntKind.u8.wrap ((t[k].toNat : Int) - 48) = (t[k].toNat : Int) - 48 := wr8 _ (by omega) (by omega)
          have hw2 : IntKind.i64.wrap (10 * (V : Int)) = 10 * (V : Int) := wr64 _ (by omega) (by omega)
          have hw3 : IntKind.i64.wrap (10 * (V : Int) + ((t[k].toNat : Int) - 48)) = 10 * (V : Int) + ((t[k].toNat : Int) - 48) := wr64 _ (by omega) (by omega)
          have hw4 : IntKind.i64.wrap ((t[k].toNat : Int) - 48) = (t[k].toNat : Int) - 48 := wr64 _ (by omega) (by omega)
          have HW : Hid (((val (t.data.toList.take (k + 1)) : Nat) : Int) = 10 * (V : Int) + ((t[k].toNat : Int) - 48)) := by
            show ((val (t.data.toList.take (k + 1)) : Nat) : Int) = _
            omega
          clear HV HD HS hA hN HK hl
          go_wp2
          go_round
          case rel => exact ⟨k + 1, by omega, by go_num, by rw [HW.out], HX⟩
          case measure => simp [intOf]; omega
    · have e : k = t.size := by omega
      subst e
      have et : t.data.toList.take t.size = t.data.toList := List.take_of_length_le (by omega)
      rw [et] at HK ⊢
      have HX : Hid (R = some (-(val t.data.toList : Int))) := hA HK.out
      have HV := val_lt _ _ rfl HK.out
      have h3 : (10 : Nat) ^ t.data.toList.length ≤ 10 ^ 18 := Nat.pow_le_pow_right (by omega) (by omega)
      have h4 : (10 : Nat) ^ 18 = 1000000000000000000 := by decide
      have hw : IntKind.i64.wrap (-(val t.data.toList : Int)) = -(val t.data.toList : Int) := wr64 _ (by omega) (by omega)
      generalize val t.data.toList = V at *
      clear hA hN HK et HV h3 h4
      go_wp2
      go_ret2
      rw [HX.out]
      exact ⟨rfl, rfl⟩

set_option maxRecDepth 100000 in
set_option maxHeartbeats 1000000 in
/-- no number. -/
theorem number_none (s : ByteArray) (w : World) (h : s.size = 0 ∨ (∃ h : 0 < s.size, ((s[0].toNat : Int) == 45) = false ∧ (18 < s.size ∨ (((s[0].toNat : Int) == 48) = true ∧ 1 < s.size)))) :
    Calls Tryz.prog 39 #[.string s] w fun e w' => e = .returned (.tuple #[.int .i64 0, .bool false]) ∧ w = w' := by
  rcases h with h | ⟨h, hc, h1 | ⟨h1, h2⟩⟩
  · have g0 : ¬ (0 : Int) < s.size := by omega
    have g2 : (s.size : Int) < 1 := by omega
    clear h
    go_enter Tryz.func39, Tryz.ntmps39
    go_wp2
    go_ret2
    exact ⟨rfl, rfl⟩
  · have g0 : (0 : Int) < s.size := by omega
    have g1 : (18 : Int) < s.size := by omega
    have g2 : ¬ (s.size : Int) < 1 := by omega
    go_enter Tryz.func39, Tryz.ntmps39
    go_wp2
    go_ret2
    exact ⟨rfl, rfl⟩
  · have g0 : (0 : Int) < s.size := by omega
    have g1 : (1 : Int) < s.size := by omega
    have g2 : ¬ (s.size : Int) < 1 := by omega
    by_cases g3 : (18 : Int) < s.size
    all_goals
      go_enter Tryz.func39, Tryz.ntmps39
      go_wp2
      go_ret2
      exact ⟨rfl, rfl⟩
set_option maxRecDepth 100000 in
set_option maxHeartbeats 1000000 in
theorem number_none_minus (s t : ByteArray) (w : World) (h0 : 0 < s.size) (hT : s.extract 1 s.size = t) (hc : ((s[0].toNat : Int) == 45) = true) (h : t.size = 0 ∨ 18 < t.size ∨ ∃ h : 0 < t.size, ((t[0].toNat : Int) == 48) = true) :
    Calls Tryz.prog 39 #[.string s] w fun e w' => e = .returned (.tuple #[.int .i64 0, .bool false]) ∧ w = w' := by
  have g0 : (0 : Int) < s.size := by omega
  have hts : t.size + 1 = s.size := by rw [← hT]; simp; omega
  rcases h with h | h | ⟨h, h1⟩
  · have g2 : (t.size : Int) < 1 := by omega
    go_enter Tryz.func39, Tryz.ntmps39
    go_wp2
    go_ret2
    exact ⟨rfl, rfl⟩
  · have g1 : (18 : Int) < t.size := by omega
    have g2 : ¬ (t.size : Int) < 1 := by omega
    go_enter Tryz.func39, Tryz.ntmps39
    go_wp2
    go_ret2
    exact ⟨rfl, rfl⟩
  · have g1 : (1 : Int) < s.size := by omega
    have g2 : ¬ (t.size : Int) < 1 := by omega
    by_cases g3 : (18 : Int) < t.size
    all_goals
      go_enter Tryz.func39, Tryz.ntmps39
      go_wp2
      go_ret2
      exact ⟨rfl, rfl⟩

theorem head_of (s : ByteArray) (h : 0 < s.size) : s.data.toList.head? = some s[0] := by
  rw [List.head?_eq_getElem?, List.getElem?_eq_getElem (by simpa using h)]
  simp [ByteArray.getElem_eq_getElem_data]
theorem byte_eq (b : UInt8) (n : Nat) (hn : n < 256) : ((b.toNat : Int) == (n : Int)) = decide (b = UInt8.ofNat n) := by
  rw [Bool.eq_iff_iff, beq_iff_eq, decide_eq_true_eq]
  constructor
  · intro h
    have h1 : b.toNat = n := by omega
    rw [← h1]; simp
  · intro h
    rw [h, UInt8.toNat_ofNat']
    omega
theorem tail_data (s : ByteArray) : (s.extract 1 s.size).data.toList = s.data.toList.tail := by
  rw [ByteArray.data_extract, Array.toList_extract, List.extract_eq_take_drop, List.take_of_length_le (by simp), List.drop_one]
/-- what Number returns. -/
theorem number_ref (s : ByteArray) (w : World) :
    Calls Tryz.prog 39 #[.string s] w fun e w' => e = .returned (.tuple #[.int .i64 ((refNum s.data.toList).getD 0), .bool (refNum s.data.toList).isSome]) ∧ w = w' := by
  have hl : s.data.toList.length = s.size := by simp
  by_cases h0 : 0 < s.size
  · have hh := head_of s h0
    have hbe : ((s[0].toNat : Int) == 45) = decide (s[0] = 45) := byte_eq s[0] 45 (by omega)
    by_cases hc : ((s[0].toNat : Int) == 45) = true
    · have hc' : s[0] = 45 := by rw [hc] at hbe; simpa using hbe.symm
      have hm : magR s.data.toList = (s.extract 1 s.size).data.toList := by
        unfold magR
        rw [if_pos (by rw [hh, hc']), tail_data]
      obtain ⟨t, hT⟩ : ∃ t, s.extract 1 s.size = t := ⟨_, rfl⟩
      rw [hT] at hm
      have hts : t.size + 1 = s.size := by rw [← hT]; simp; omega
      have hlt : t.data.toList.length = t.size := by simp
      by_cases hz : t.size = 0
      · have hR : refNum s.data.toList = none := by unfold refNum; rw [hm, if_pos (by omega)]
        rw [hR]
        exact number_none_minus s t w h0 hT hc (.inl hz)
      · by_cases h18 : 18 < t.size
        · have hR : refNum s.data.toList = none := by unfold refNum; rw [hm, if_pos (by omega)]
          rw [hR]
          exact number_none_minus s t w h0 hT hc (.inr (.inl h18))
        · have htp : 0 < t.size := by omega
          have hbt : ((t[0].toNat : Int) == 48) = decide (t[0] = 48) := byte_eq t[0] 48 (by omega)
          have hht := head_of t htp
          by_cases hd : ((t[0].toNat : Int) == 48) = true
          · have hd' : t[0] = 48 := by rw [hd] at hbt; simpa using hbt.symm
            have hR : refNum s.data.toList = none := by unfold refNum; rw [hm, if_pos (.inr (.inr ⟨by rw [hht, hd'], by omega⟩))]
            rw [hR]
            exact number_none_minus s t w h0 hT hc (.inr (.inr ⟨htp, hd⟩))
          · have hd' : ¬ t[0] = 48 := by
              intro e
              rw [hbt] at hd
              simp [e] at hd
            have hcond : ¬ (t.data.toList.length < 1 ∨ 18 < t.data.toList.length ∨ (t.data.toList.head? = some 48 ∧ 1 < s.data.toList.length)) := by
              rintro (h | h | ⟨h, _⟩)
              · omega
              · omega
              · rw [hht] at h; exact hd' (Option.some.inj h)
            refine number_minus s t w _ h0 hT (by omega) htp hc (by simpa using hd) (fun h => ?_) (fun h => ?_)
            · unfold refNum
              rw [hm, if_neg hcond, if_pos h, if_pos (by omega)]
            · unfold refNum
              rw [hm, if_neg hcond, if_neg (by rw [h]; decide)]
    · have hc2 : ((s[0].toNat : Int) == 45) = false := by simpa using hc
      have hc' : ¬ s[0] = 45 := by
        intro e
        rw [hbe] at hc
        simp [e] at hc
      have hm : magR s.data.toList = s.data.toList := by
        unfold magR
        rw [if_neg (by rw [hh]; intro e; exact hc' (Option.some.inj e))]
      have hbt : ((s[0].toNat : Int) == 48) = decide (s[0] = 48) := byte_eq s[0] 48 (by omega)
      by_cases h18 : 18 < s.size
      · have hR : refNum s.data.toList = none := by unfold refNum; rw [hm, if_pos (by omega)]
        rw [hR]
        exact number_none s w (.inr ⟨h0, hc2, .inl h18⟩)
      · by_cases hd : ((s[0].toNat : Int) == 48) = true ∧ 1 < s.size
        · have hd' : s[0] = 48 := by rw [hd.1] at hbt; simpa using hbt.symm
          have hR : refNum s.data.toList = none := by unfold refNum; rw [hm, if_pos (.inr (.inr ⟨by rw [hh, hd'], by omega⟩))]
          rw [hR]
          exact number_none s w (.inr ⟨h0, hc2, .inr hd⟩)
        · have hcond : ¬ (s.data.toList.length < 1 ∨ 18 < s.data.toList.length ∨ (s.data.toList.head? = some 48 ∧ 1 < s.data.toList.length)) := by
            rintro (h | h | ⟨h, h2⟩)
            · omega
            · omega
            · rw [hh] at h
              exact hd ⟨by rw [hbt, decide_eq_true_eq]; exact Option.some.inj h, by omega⟩
          refine number_plus s w h0 (by omega) hc2 ?_ (fun h => ?_) (fun h => ?_)
          · by_cases h1 : ((s[0].toNat : Int) == 48) = true
            · right
              have : ¬ 1 < s.size := fun h2 => hd ⟨h1, h2⟩
              omega
            · left; simpa using h1
          · unfold refNum
            rw [hm, if_neg hcond, if_pos h, if_neg (by omega)]
          · unfold refNum
            rw [hm, if_neg hcond, if_neg (by rw [h]; decide)]
  · have hn : s.data.toList = [] := List.length_eq_zero_iff.1 (by omega)
    have hR : refNum s.data.toList = none := by rw [hn]; rfl
    rw [hR]
    exact number_none s w (.inl (by omega))
end Go.Proofs.YthdccmjdbcllkaaGreatDoor
