/-
  What checkSymbols, checkTie and checkTies return, for every argument; memory that was there stays as it was.
-/
import Derived.Test.YtanfejgcjifhpaaDoorCheckSmall
namespace Go.Proofs.YtanfejgcjifhpaaDoor
open Go.RowKit

theorem sameName_any (nm t : ByteArray) (x : Int) (b : Bool) (bs : Nat) (w : World) (hs : w.cell? ⟨bs, 0, none⟩ = some (.string t)) :
    Calls Tryd.prog 55 #[.agg #[.string nm, .int .i64 x, .bool b], .pointer (some ⟨bs, 0, none⟩)] w fun e w' => e = .returned (.bool (decide (nm = t))) ∧ Below w.heap.size w w' := by
  have hl := World.block_lt_of_cell? _ _ hs
  have hs' : ∀ ob : Obj, (w.alloc ob).cell? ⟨bs, 0, none⟩ = some (.string t) := fun ob => by rw [World.cell?_alloc_lt _ _ _ hl]; exact hs
  clear hs hl
  go_enter Tryd.func55, Tryd.ntmps55
  go_wp2
  go_ret
  exact ⟨ret_bool (toList_beq nm t), (Below.refl _ _).alloc (Nat.le_refl _) _⟩

set_option maxHeartbeats 1000000 in
theorem containsFunc_any (s : Nat → ByteArray) (v : Nat → Int) (b : Nat → Bool) (a : Option Addr) (n c bs : Nat) (t : ByteArray) (w : World) (hn : n ≤ 1000000000) (hr : SymsRow w a n s v b) (hs : w.cell? ⟨bs, 0, none⟩ = some (.string t)) :
    Calls Tryd.prog 56 #[.slice a n c, .func (.func 55) #[] #[.pointer (some ⟨bs, 0, none⟩)]] w fun e w' => e = .returned (.bool (anyTo (fun j => decide (s j = t)) n)) ∧ Below w.heap.size w w' := by
  generalize hF : anyTo (fun j => decide (s j = t)) n = F
  have HF : Hid (anyTo (fun j => decide (s j = t)) n = F) := hF
  clear hF
  go_enter Tryd.func56, Tryd.ntmps56
  go_wp2
  go_loopw [8] (fun x wr => ∃ k : Nat, k ≤ n ∧ x = .int .i64 k ∧ Hid (anyTo (fun j => decide (s j = t)) k = false) ∧ Below w.heap.size w wr) (fun x _ => n - (intOf x).toNat)
  case atStart => exact ⟨0, Nat.zero_le _, rfl, rfl, Below.refl _ _⟩
  case round =>
    obtain ⟨k, hk, rfl, HK, hb⟩ := hrel
    by_cases hlt : k < n
    · rcases hr with h0 | ⟨bk, o, rfl, hc⟩
      · omega
      · have hc0 := cell_later hb (hc k hlt).1
        have hc1 := cell_later hb (hc k hlt).2.1
        have hc2 := cell_later hb (hc k hlt).2.2
        have HC := sameName_any (s k) t (v k) (b k) bs wr (cell_later hb hs)
        clear hc hs
        by_cases he : s k = t
        · have HE : Hid (F = true) := HF.out.symm.trans (anyTo_yes hlt (by simp [he]))
          rw [decide_eq_true he] at HC
          clear he
          go_wp2_with fail
          refine HC.mono ?_
          rintro e w2 ⟨rfl, hb2⟩
          clear HC
          go_wp2
          go_ret
          exact ⟨ret_bool HE.out.symm, hb.trans (hb2.mono hb.size)⟩
        · have HE : Hid (anyTo (fun j => decide (s j = t)) (k + 1) = false) := anyTo_no HK.out (by simp [he])
          rw [decide_eq_false he] at HC
          clear he
          go_wp2_with fail
          refine HC.mono ?_
          rintro e w2 ⟨rfl, hb2⟩
          clear HC
          go_wp2
          go_roundw
          case rel => exact ⟨k + 1, by omega, by go_num, HE, hb.trans (hb2.mono hb.size)⟩
          case measure => simp [intOf]; omega
    · have HE : Hid (F = false) := by
        have e : k = n := by omega
        rw [← HF.out, ← e]; exact HK.out
      go_wp2
      go_ret
      exact ⟨ret_bool HE.out.symm, hb⟩

set_option maxHeartbeats 2000000 in
theorem checkSymbols_any (s : Nat → ByteArray) (v : Nat → Int) (b : Nat → Bool) (a : Option Addr) (n c m : Nat) (w : World) (hn : n ≤ 1000000000) (hc : n ≤ c) (hr : SymsRow w a n s v b) (hs : ∀ i, i < n → (s i).size ≤ maxLen) :
    Calls Tryd.prog 41 #[.slice a n c, .int .i64 (m : Int)] w fun e w' => e = .returned (errV (faultTo (symF m s v) n)) ∧ Below w.heap.size w w' := by
  generalize hF : faultTo (symF m s v) n = F
  have HF : Hid (faultTo (symF m s v) n = F) := hF
  clear hF
  go_enter Tryd.func41, Tryd.ntmps41
  go_wp2
  go_loopw [11] (fun x wr => ∃ k : Nat, k ≤ n ∧ x = .int .i64 k ∧ Hid (faultTo (symF m s v) k = 0) ∧ Below w.heap.size w wr) (fun x _ => n - (intOf x).toNat)
  case atStart => exact ⟨0, Nat.zero_le _, rfl, rfl, Below.refl _ _⟩
  case round =>
    obtain ⟨k, hk, rfl, HK, hb⟩ := hrel
    by_cases hlt : k < n
    · rcases hr with h0 | ⟨bk, o, rfl, hc'⟩
      · omega
      · have hc0 := cell_later hb (hc' k hlt).1
        have hc1 := cell_later hb (hc' k hlt).2.1
        have hc2 := cell_later hb (hc' k hlt).2.2
        have hb1 : ∀ ob : Obj, Below w.heap.size w (wr.alloc ob) := fun ob => hb.alloc hb.size ob
        have HN := fun (w : World) => check_any (s k) w (hs k hlt)
        have HP := fun (w : World) => isPlace_any (v k) (m : Int) w
        by_cases h0 : nameF (s k).data.toList = 0
        · have HD : Hid (symF m s v k = if isPlaceF (v k) m = true then (if dupF s k = true then 3 else 0) else 1) := by
            show symF m s v k = _
            unfold symF
            rw [h0, seqF_zero]
          simp only [errV_nil h0] at HN
          clear h0
          cases hp : isPlaceF (v k) m with
          | true =>
            have HC := fun (w' : World) (hw : SymsRow w' (some ⟨bk, o, none⟩) k s v b) (bs : Nat) (hx : w'.cell? ⟨bs, 0, none⟩ = some (.string (s k))) => containsFunc_any s v b (some ⟨bk, o, none⟩) k c bs (s k) w' (by omega) hw hx
            have hrk : SymsRow w (some ⟨bk, o, none⟩) k s v b := .inr ⟨bk, o, rfl, fun i hi => hc' i (by omega)⟩
            simp only [hp] at HP
            cases hd : anyTo (fun j => decide (s j = s k)) k with
            | true =>
              have hd' : dupF s k = true := hd
              have HE : Hid (F = 3) := by
                have e : symF m s v k = 3 := by rw [HD.out, if_pos hp, if_pos hd']
                show F = 3
                rw [← HF.out, faultTo_stop hlt HK.out (by rw [e]; decide), e]
              simp only [hd] at HC
              clear hd hd' hp HD hc' hs
              go_wp2_with fail
              refine (HN _).mono ?_
              rintro e w' ⟨rfl, rfl⟩
              go_wp2_with fail
              refine (HP _).mono ?_
              rintro e w' ⟨rfl, rfl⟩
              go_wp2_with fail
              refine (HC _ (hrk.later (hb1 _)) _ (by simp [go_sem])).mono ?_
              rintro e w2 ⟨rfl, hb2⟩
              clear HC HN HP
              go_wp2
              go_ret
              rw [HE.out]
              exact ⟨rfl, (hb1 _).trans (hb2.mono (hb1 _).size)⟩
            | false =>
              have hd' : ¬ dupF s k = true := by unfold dupF; simp [hd]
              have HE : Hid (faultTo (symF m s v) (k + 1) = 0) := faultTo_ok HK.out (by rw [HD.out, if_pos hp, if_neg hd'])
              simp only [hd] at HC
              clear hd hd' hp HD hc' hs
              go_wp2_with fail
              refine (HN _).mono ?_
              rintro e w' ⟨rfl, rfl⟩
              go_wp2_with fail
              refine (HP _).mono ?_
              rintro e w' ⟨rfl, rfl⟩
              go_wp2_with fail
              refine (HC _ (hrk.later (hb1 _)) _ (by simp [go_sem])).mono ?_
              rintro e w2 ⟨rfl, hb2⟩
              clear HC HN HP
              go_wp2
              go_roundw
              case rel => exact ⟨k + 1, by omega, by go_num, HE, (hb1 _).trans (hb2.mono (hb1 _).size)⟩
              case measure => simp [intOf]; omega
          | false =>
            have HE : Hid (F = 1) := by
              have e : symF m s v k = 1 := by rw [HD.out, if_neg (by simp [hp])]
              show F = 1
              rw [← HF.out, faultTo_stop hlt HK.out (by rw [e]; decide), e]
            simp only [hp] at HP
            clear hp HD hc' hs
            go_wp2_with fail
            refine (HN _).mono ?_
            rintro e w' ⟨rfl, rfl⟩
            go_wp2_with fail
            refine (HP _).mono ?_
            rintro e w' ⟨rfl, rfl⟩
            clear HN HP
            go_wp2
            go_ret
            rw [HE.out]
            exact ⟨rfl, hb1 _⟩
        · have HV : Hid (errV F = .iface 23 (.int .i64 ((nameF (s k).data.toList : Nat) : Int))) := by
            have e : symF m s v k = nameF (s k).data.toList := seqF_some _ h0
            show errV F = _
            rw [← HF.out, faultTo_stop hlt HK.out (by rw [e]; exact h0), e, errV_some h0]
          simp only [errV_some h0] at HN
          clear h0 hc' hs
          go_wp2_with fail
          refine (HN _).mono ?_
          rintro e w' ⟨rfl, rfl⟩
          clear HN HP
          go_wp2
          go_ret
          rw [HV.out]
          exact ⟨rfl, hb1 _⟩
    · have HE : Hid (F = 0) := by
        have e : k = n := by omega
        rw [← HF.out, ← e]; exact HK.out
      go_wp2
      go_ret
      rw [HE.out]
      exact ⟨rfl, hb⟩
end Go.Proofs.YtanfejgcjifhpaaDoor
