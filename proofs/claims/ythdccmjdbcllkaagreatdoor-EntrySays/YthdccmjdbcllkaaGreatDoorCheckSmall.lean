/-
  What isWord, isPlace, checkCounts, checkNeeds and checkWords return, for every argument; memory that was there stays as it was.
-/
import Derived.Test.YthdccmjdbcllkaaGreatDoorNameWalks
import Derived.Test.YthdccmjdbcllkaaGreatDoorAtAll
namespace Go.Proofs.YthdccmjdbcllkaaGreatDoor
open Go.RowKit

theorem isWord_any (n : Int) (w : World) : Calls Tryz.prog 61 #[.int .i64 n] w fun e w' => e = .returned (.bool (isWordF n)) ∧ w = w' := by
  by_cases h1 : -2147483648 ≤ n
  all_goals by_cases h2 : n ≤ 2147483647
  all_goals
    go_enter Tryz.func61, Tryz.ntmps61
    go_wp2
    go_ret
    exact ⟨ret_bool (by simp [isWordF] <;> omega), rfl⟩

theorem isPlace_any (a n : Int) (w : World) : Calls Tryz.prog 166 #[.int .i64 a, .int .i64 n] w fun e w' => e = .returned (.bool (isPlaceF a n)) ∧ w = w' := by
  by_cases h1 : 0 ≤ a
  all_goals by_cases h2 : a < n
  all_goals
    go_enter Tryz.func166, Tryz.ntmps166
    go_wp2
    go_ret
    exact ⟨ret_bool (by simp [isPlaceF] <;> omega), rfl⟩

/-- slices.Contains of texts. -/
theorem contains_any (f : Nat → ByteArray) (a : Option Addr) (n c : Nat) (s : ByteArray) (w : World) (hn : n ≤ 1000000000) (hr : RowAt w a n fun i => .string (f i)) :
    Calls Tryz.prog 129 #[.slice a n c, .string s] w fun e w' => e = .returned (.bool (anyTo (fun j => decide (f j = s)) n)) ∧ w = w' := by
  generalize hF : anyTo (fun j => decide (f j = s)) n = F
  have HF : Hid (anyTo (fun j => decide (f j = s)) n = F) := hF
  clear hF
  go_enter Tryz.func129, Tryz.ntmps129
  go_wp2
  go_loop [8] (fun x => ∃ k : Nat, k ≤ n ∧ x = .int .i64 k ∧ Hid (anyTo (fun j => decide (f j = s)) k = false)) (fun x => n - (intOf x).toNat)
  case atStart => exact ⟨0, Nat.zero_le _, rfl, rfl⟩
  case round =>
    obtain ⟨k, hk, rfl, HK⟩ := hrel
    by_cases hlt : k < n
    · rcases hr with h0 | ⟨b, o, rfl, hc⟩
      · omega
      · have hck := hc k hlt
        by_cases he : f k = s
        · have HE : Hid (F = true) := HF.out.symm.trans (anyTo_yes hlt (by simp [he]))
          have dq : (s.toList == (f k).toList) = true := by rw [toList_beq]; simp [he]
          clear hc he
          go_wp2
          go_ret
          exact ⟨ret_bool HE.out.symm, rfl⟩
        · have HE : Hid (anyTo (fun j => decide (f j = s)) (k + 1) = false) := anyTo_no HK.out (by simp [he])
          have dq : (s.toList == (f k).toList) = false := by rw [toList_beq]; simp; exact fun e => he e.symm
          clear hc he
          go_wp2
          go_round
          case rel => exact ⟨k + 1, by omega, by go_num, HE⟩
          case measure => simp [intOf]; omega
    · have HE : Hid (F = false) := by
        have e : k = n := by omega
        rw [← HF.out, ← e]; exact HK.out
      go_wp2
      go_ret
      exact ⟨ret_bool HE.out.symm, rfl⟩

set_option maxHeartbeats 1000000 in
theorem checkCounts_any (v : ObjV) (o : ObjF) (w : World) (hf : ObjFit o) :
    Calls Tryz.prog 138 #[.agg (v.cells o)] w fun e w' => e = .returned (errV (countsF o)) ∧ Below w.heap.size w w' := by
  have hb : ∀ ob : Obj, Below w.heap.size w (w.alloc ob) := fun ob => (Below.refl _ _).alloc (Nat.le_refl _) ob
  have l1 := hf.lN
  have l2 := hf.lW
  have l3 := hf.lS
  have l4 := hf.lT
  unfold maxLen at l1 l2 l3 l4
  by_cases h : 4 < o.nN ∨ o.nW = 0 ∨ 40 < o.nW ∨ 8 < o.nS ∨ 6 < o.nT
  · have HE : Hid (countsF o = 2) := if_pos h
    unfold ObjV.cells
    by_cases h1 : (4 : Int) < (o.nN : Int)
    · clear h
      go_enter Tryz.func138, Tryz.ntmps138
      go_wp2
      go_ret
      rw [HE.out]
      exact ⟨rfl, hb _⟩
    · by_cases h2 : ((o.nW : Int) == 0) = true
      · clear h
        go_enter Tryz.func138, Tryz.ntmps138
        go_wp2
        go_ret
        rw [HE.out]
        exact ⟨rfl, hb _⟩
      · simp only [Bool.not_eq_true] at h2
        have h2' : ¬ o.nW = 0 := by rw [beq_eq_false_iff_ne] at h2; omega
        by_cases h3 : (40 : Int) < (o.nW : Int)
        · clear h h2'
          go_enter Tryz.func138, Tryz.ntmps138
          go_wp2
          go_ret
          rw [HE.out]
          exact ⟨rfl, hb _⟩
        · by_cases h4 : (8 : Int) < (o.nS : Int)
          · clear h h2'
            go_enter Tryz.func138, Tryz.ntmps138
            go_wp2
            go_ret
            rw [HE.out]
            exact ⟨rfl, hb _⟩
          · have h5 : (6 : Int) < (o.nT : Int) := by omega
            clear h h2'
            go_enter Tryz.func138, Tryz.ntmps138
            go_wp2
            go_ret
            rw [HE.out]
            exact ⟨rfl, hb _⟩
  · have HE : Hid (countsF o = 0) := if_neg h
    unfold ObjV.cells
    have h1 : ¬ (4 : Int) < (o.nN : Int) := by omega
    have h2 : ((o.nW : Int) == 0) = false := by rw [beq_eq_false_iff_ne]; omega
    have h3 : ¬ (40 : Int) < (o.nW : Int) := by omega
    have h4 : ¬ (8 : Int) < (o.nS : Int) := by omega
    have h5 : ¬ (6 : Int) < (o.nT : Int) := by omega
    clear h
    go_enter Tryz.func138, Tryz.ntmps138
    go_wp2
    go_ret
    rw [HE.out]
    exact ⟨rfl, hb _⟩

theorem errV_nil {f : Nat} (h : f = 0) : errV f = .nilIface := by rw [h]; rfl
theorem errV_some {f : Nat} (h : f ≠ 0) : errV f = .iface 74 (.int .i64 (f : Int)) := by
  cases f with
  | zero => omega
  | succ f => rfl

set_option maxHeartbeats 1000000 in
theorem checkNeeds_any (f : Nat → ByteArray) (a : Option Addr) (n c : Nat) (w : World) (hn : n ≤ 1000000000) (hc : n ≤ c) (hr : RowAt w a n fun i => .string (f i)) (hs : ∀ i, i < n → (f i).size ≤ maxLen) :
    Calls Tryz.prog 139 #[.slice a n c] w fun e w' => e = .returned (errV (faultTo (needF f) n)) ∧ w = w' := by
  generalize hF : faultTo (needF f) n = F
  have HF : Hid (faultTo (needF f) n = F) := hF
  clear hF
  go_enter Tryz.func139, Tryz.ntmps139
  go_wp2
  go_loop [8] (fun x => ∃ k : Nat, k ≤ n ∧ x = .int .i64 k ∧ Hid (faultTo (needF f) k = 0)) (fun x => n - (intOf x).toNat)
  case atStart => exact ⟨0, Nat.zero_le _, rfl, rfl⟩
  case round =>
    obtain ⟨k, hk, rfl, HK⟩ := hrel
    by_cases hlt : k < n
    · rcases hr with h0 | ⟨b, o, rfl, hc'⟩
      · omega
      · have hck := hc' k hlt
        have HN := check_any (f k) w (hs k hlt)
        by_cases h0 : nameF (f k).data.toList = 0
        · rw [errV_nil h0] at HN
          have HC := contains_any f (some ⟨b, o, none⟩) k c (f k) w (by omega) (.inr ⟨b, o, rfl, fun i hi => hc' i (by omega)⟩)
          have HD : Hid (needF f k = if dupF f k = true then 3 else 0) := by
            show needF f k = _
            unfold needF
            rw [h0, seqF_zero]
          clear hc' h0 hs
          cases hd : anyTo (fun j => decide (f j = f k)) k with
          | true =>
            have hd' : dupF f k = true := hd
            have HE : Hid (F = 3) := by
              rw [← HF.out, faultTo_stop hlt HK.out (by rw [HD.out, if_pos hd']; decide), HD.out, if_pos hd']
              rfl
            clear hd'
            rw [hd] at HC
            clear hd
            go_wp2_with fail
            refine HN.mono ?_
            rintro e w' ⟨rfl, rfl⟩
            clear HN
            go_wp2_with fail
            refine HC.mono ?_
            rintro e w' ⟨rfl, rfl⟩
            clear HC
            go_wp2
            go_ret
            rw [HE.out]
            exact ⟨rfl, rfl⟩
          | false =>
            have HE : Hid (faultTo (needF f) (k + 1) = 0) := faultTo_ok HK.out (by rw [HD.out, if_neg (by unfold dupF; simp [hd])])
            rw [hd] at HC
            clear hd
            go_wp2_with fail
            refine HN.mono ?_
            rintro e w' ⟨rfl, rfl⟩
            clear HN
            go_wp2_with fail
            refine HC.mono ?_
            rintro e w' ⟨rfl, rfl⟩
            clear HC
            go_wp2
            go_round
            case rel => exact ⟨k + 1, by omega, by go_num, HE⟩
            case measure => simp [intOf]; omega
        · have HD : Hid (F = nameF (f k).data.toList) := by
            have e : needF f k = nameF (f k).data.toList := seqF_some _ h0
            show F = _
            rw [← HF.out, faultTo_stop hlt HK.out (by rw [e]; exact h0), e]
          rw [errV_some h0] at HN
          have HV : Hid (errV F = .iface 74 (.int .i64 ((nameF (f k).data.toList : Nat) : Int))) := by
            show errV F = _
            rw [HD.out, errV_some h0]
          clear hc' h0 hs
          go_wp2_with fail
          refine HN.mono ?_
          rintro e w' ⟨rfl, rfl⟩
          clear HN
          go_wp2
          go_ret
          rw [HV.out]
          exact ⟨rfl, rfl⟩
    · have HE : Hid (F = 0) := by
        have e : k = n := by omega
        rw [← HF.out, ← e]; exact HK.out
      go_wp2
      go_ret
      rw [HE.out]
      exact ⟨rfl, rfl⟩

set_option maxHeartbeats 1000000 in
theorem checkWords_any (f : Nat → Int) (a : Option Addr) (n c : Nat) (w : World) (hn : n ≤ 1000000000) (hr : RowAt w a n fun i => .int .i64 (f i)) :
    Calls Tryz.prog 140 #[.slice a n c] w fun e w' => e = .returned (errV (faultTo (wordF f) n)) ∧ w = w' := by
  generalize hF : faultTo (wordF f) n = F
  have HF : Hid (faultTo (wordF f) n = F) := hF
  clear hF
  go_enter Tryz.func140, Tryz.ntmps140
  go_wp2
  go_loop [7] (fun x => ∃ k : Nat, k ≤ n ∧ x = .int .i64 k ∧ Hid (faultTo (wordF f) k = 0)) (fun x => n - (intOf x).toNat)
  case atStart => exact ⟨0, Nat.zero_le _, rfl, rfl⟩
  case round =>
    obtain ⟨k, hk, rfl, HK⟩ := hrel
    by_cases hlt : k < n
    · rcases hr with h0 | ⟨b, o, rfl, hc'⟩
      · omega
      · have hck := hc' k hlt
        have HN := isWord_any (f k) w
        clear hc'
        cases hd : isWordF (f k) with
        | true =>
          have HE : Hid (faultTo (wordF f) (k + 1) = 0) := faultTo_ok HK.out (if_pos hd)
          rw [hd] at HN
          clear hd
          go_wp2_with fail
          refine HN.mono ?_
          rintro e w' ⟨rfl, rfl⟩
          clear HN
          go_wp2
          go_round
          case rel => exact ⟨k + 1, by omega, by go_num, HE⟩
          case measure => simp [intOf]; omega
        | false =>
          have e1 : wordF f k = 1 := if_neg (by simp [hd])
          have HE : Hid (F = 1) := by
            show F = 1
            rw [← HF.out, faultTo_stop hlt HK.out (by rw [e1]; decide), e1]
          rw [hd] at HN
          clear hd e1
          go_wp2_with fail
          refine HN.mono ?_
          rintro e w' ⟨rfl, rfl⟩
          clear HN
          go_wp2
          go_ret
          rw [HE.out]
          exact ⟨rfl, rfl⟩
    · have HE : Hid (F = 0) := by
        have e : k = n := by omega
        rw [← HF.out, ← e]; exact HK.out
      go_wp2
      go_ret
      rw [HE.out]
      exact ⟨rfl, rfl⟩
end Go.Proofs.YthdccmjdbcllkaaGreatDoor
