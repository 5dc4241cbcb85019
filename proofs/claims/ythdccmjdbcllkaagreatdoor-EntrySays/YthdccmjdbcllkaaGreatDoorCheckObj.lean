/-
  What checkSymbols, checkTie and checkTies return, for every argument; memory that was there stays as it was.
  What checkTie, checkTies and Check return, for every argument: the number of the object's fault; memory that was there stays as it was.
  What Check returns, for every object: the number of its fault; memory that was there stays as it was.
-/
import Derived.Test.YthdccmjdbcllkaaGreatDoorCheckSmall
namespace Go.Proofs.YthdccmjdbcllkaaGreatDoor
open Go.RowKit

theorem sameName_any (nm t : ByteArray) (x : Int) (b : Bool) (bs : Nat) (w : World) (hs : w.cell? ⟨bs, 0, none⟩ = some (.string t)) :
    Calls Tryz.prog 167 #[.agg #[.string nm, .int .i64 x, .bool b], .pointer (some ⟨bs, 0, none⟩)] w fun e w' => e = .returned (.bool (decide (nm = t))) ∧ Below w.heap.size w w' := by
  have hl := World.block_lt_of_cell? _ _ hs
  have hs' : ∀ ob : Obj, (w.alloc ob).cell? ⟨bs, 0, none⟩ = some (.string t) := fun ob => by rw [World.cell?_alloc_lt _ _ _ hl]; exact hs
  clear hs hl
  go_enter Tryz.func167, Tryz.ntmps167
  go_wp2
  go_ret
  exact ⟨ret_bool (toList_beq nm t), (Below.refl _ _).alloc (Nat.le_refl _) _⟩

set_option maxHeartbeats 1000000 in
theorem containsFunc_any (s : Nat → ByteArray) (v : Nat → Int) (b : Nat → Bool) (a : Option Addr) (n c bs : Nat) (t : ByteArray) (w : World) (hn : n ≤ 1000000000) (hr : SymsRow w a n s v b) (hs : w.cell? ⟨bs, 0, none⟩ = some (.string t)) :
    Calls Tryz.prog 168 #[.slice a n c, .func (.func 167) #[] #[.pointer (some ⟨bs, 0, none⟩)]] w fun e w' => e = .returned (.bool (anyTo (fun j => decide (s j = t)) n)) ∧ Below w.heap.size w w' := by
  generalize hF : anyTo (fun j => decide (s j = t)) n = F
  have HF : Hid (anyTo (fun j => decide (s j = t)) n = F) := hF
  clear hF
  go_enter Tryz.func168, Tryz.ntmps168
  go_wp2
  go_loopw [8] (fun x wr => ∃ k : Nat, k ≤ n ∧ x = .int .i64 k ∧ Hid (anyTo (fun j => decide (s j = t)) k = false) ∧ Below w.heap.size w wr) (fun x _ => n - (intOf x).toNat)
  case atStart => exact ⟨0, Nat.zero_le _, rfl, rfl, Below.refl _ _⟩
  case round =>
    obtain ⟨k, hk, rfl, HK, hb⟩ := hrel
    by_cases hlt : k < n
    · rcases hr with h0 | ⟨bk, o, rfl, hc⟩
      · omega
      · have hc0 := cell_later hb (hc k hlt).1
        have hc1 := cell_later hb (hc k hlt).2.1
        have hc2 := cell_later hb (hc k hlt).2.2
        have HC := sameName_any (s k) t (v k) (b k) bs wr (cell_later hb hs)
        clear hc hs
        by_cases he : s k = t
        · have HE : Hid (F = true) := HF.out.symm.trans (anyTo_yes hlt (by simp [he]))
          rw [decide_eq_true he] at HC
          clear he
          go_wp2_with fail
          refine HC.mono ?_
          rintro e w2 ⟨rfl, hb2⟩
          clear HC
          go_wp2
          go_ret
          exact ⟨ret_bool HE.out.symm, hb.trans (hb2.mono hb.size)⟩
        · have HE : Hid (anyTo (fun j => decide (s j = t)) (k + 1) = false) := anyTo_no HK.out (by simp [he])
          rw [decide_eq_false he] at HC
          clear he
          go_wp2_with fail
          refine HC.mono ?_
          rintro e w2 ⟨rfl, hb2⟩
          clear HC
          go_wp2
          go_roundw
          case rel => exact ⟨k + 1, by omega, by go_num, HE, hb.trans (hb2.mono hb.size)⟩
          case measure => simp [intOf]; omega
    · have HE : Hid (F = false) := by
        have e : k = n := by omega
        rw [← HF.out, ← e]; exact HK.out
      go_wp2
      go_ret
      exact ⟨ret_bool HE.out.symm, hb⟩

set_option maxHeartbeats 2000000 in
theorem checkSymbols_any (s : Nat → ByteArray) (v : Nat → Int) (b : Nat → Bool) (a : Option Addr) (n c m : Nat) (w : World) (hn : n ≤ 1000000000) (hc : n ≤ c) (hr : SymsRow w a n s v b) (hs : ∀ i, i < n → (s i).size ≤ maxLen) :
    Calls Tryz.prog 141 #[.slice a n c, .int .i64 (m : Int)] w fun e w' => e = .returned (errV (faultTo (symF m s v) n)) ∧ Below w.heap.size w w' := by
  generalize hF : faultTo (symF m s v) n = F
  have HF : Hid (faultTo (symF m s v) n = F) := hF
  clear hF
  go_enter Tryz.func141, Tryz.ntmps141
  go_wp2
  go_loopw [11] (fun x wr => ∃ k : Nat, k ≤ n ∧ x = .int .i64 k ∧ Hid (faultTo (symF m s v) k = 0) ∧ Below w.heap.size w wr) (fun x _ => n - (intOf x).toNat)
  case atStart => exact ⟨0, Nat.zero_le _, rfl, rfl, Below.refl _ _⟩
  case round =>
    obtain ⟨k, hk, rfl, HK, hb⟩ := hrel
    by_cases hlt : k < n
    · rcases hr with h0 | ⟨bk, o, rfl, hc'⟩
      · omega
      · have hc0 := cell_later hb (hc' k hlt).1
        have hc1 := cell_later hb (hc' k hlt).2.1
        have hc2 := cell_later hb (hc' k hlt).2.2
        have hb1 : ∀ ob : Obj, Below w.heap.size w (wr.alloc ob) := fun ob => hb.alloc hb.size ob
        have HN := fun (w : World) => check_any (s k) w (hs k hlt)
        have HP := fun (w : World) => isPlace_any (v k) (m : Int) w
        by_cases h0 : nameF (s k).data.toList = 0
        · have HD : Hid (symF m s v k = if isPlaceF (v k) m = true then (if dupF s k = true then 3 else 0) else 1) := by
            show symF m s v k = _
            unfold symF
            rw [h0, seqF_zero]
          simp only [errV_nil h0] at HN
          clear h0
          cases hp : isPlaceF (v k) m with
          | true =>
            have HC := fun (w' : World) (hw : SymsRow w' (some ⟨bk, o, none⟩) k s v b) (bs : Nat) (hx : w'.cell? ⟨bs, 0, none⟩ = some (.string (s k))) => containsFunc_any s v b (some ⟨bk, o, none⟩) k c bs (s k) w' (by omega) hw hx
            have hrk : SymsRow w (some ⟨bk, o, none⟩) k s v b := .inr ⟨bk, o, rfl, fun i hi => hc' i (by omega)⟩
            simp only [hp] at HP
            cases hd : anyTo (fun j => decide (s j = s k)) k with
            | true =>
              have hd' : dupF s k = true := hd
              have HE : Hid (F = 3) := by
                have e : symF m s v k = 3 := by rw [HD.out, if_pos hp, if_pos hd']
                show F = 3
                rw [← HF.out, faultTo_stop hlt HK.out (by rw [e]; decide), e]
              simp only [hd] at HC
              clear hd hd' hp HD hc' hs
              go_wp2_with fail
              refine (HN _).mono ?_
              rintro e w' ⟨rfl, rfl⟩
              go_wp2_with fail
              refine (HP _).mono ?_
              rintro e w' ⟨rfl, rfl⟩
              go_wp2_with fail
              refine (HC _ (hrk.later (hb1 _)) _ (by simp [go_sem])).mono ?_
              rintro e w2 ⟨rfl, hb2⟩
              clear HC HN HP
              go_wp2
              go_ret
              rw [HE.out]
              exact ⟨rfl, (hb1 _).trans (hb2.mono (hb1 _).size)⟩
            | false =>
              have hd' : ¬ dupF s k = true := by unfold dupF; simp [hd]
              have HE : Hid (faultTo (symF m s v) (k + 1) = 0) := faultTo_ok HK.out (by rw [HD.out, if_pos hp, if_neg hd'])
              simp only [hd] at HC
              clear hd hd' hp HD hc' hs
              go_wp2_with fail
              refine (HN _).mono ?_
              rintro e w' ⟨rfl, rfl⟩
              go_wp2_with fail
              refine (HP _).mono ?_
              rintro e w' ⟨rfl, rfl⟩
              go_wp2_with fail
              refine (HC _ (hrk.later (hb1 _)) _ (by simp [go_sem])).mono ?_
              rintro e w2 ⟨rfl, hb2⟩
              clear HC HN HP
              go_wp2
              go_roundw
              case rel => exact ⟨k + 1, by omega, by go_num, HE, (hb1 _).trans (hb2.mono (hb1 _).size)⟩
              case measure => simp [intOf]; omega
          | false =>
            have HE : Hid (F = 1) := by
              have e : symF m s v k = 1 := by rw [HD.out, if_neg (by simp [hp])]
              show F = 1
              rw [← HF.out, faultTo_stop hlt HK.out (by rw [e]; decide), e]
            simp only [hp] at HP
            clear hp HD hc' hs
            go_wp2_with fail
            refine (HN _).mono ?_
            rintro e w' ⟨rfl, rfl⟩
            go_wp2_with fail
            refine (HP _).mono ?_
            rintro e w' ⟨rfl, rfl⟩
            clear HN HP
            go_wp2
            go_ret
            rw [HE.out]
            exact ⟨rfl, hb1 _⟩
        · have HV : Hid (errV F = .iface 74 (.int .i64 ((nameF (s k).data.toList : Nat) : Int))) := by
            have e : symF m s v k = nameF (s k).data.toList := seqF_some _ h0
            show errV F = _
            rw [← HF.out, faultTo_stop hlt HK.out (by rw [e]; exact h0), e, errV_some h0]
          simp only [errV_some h0] at HN
          clear h0 hc' hs
          go_wp2_with fail
          refine (HN _).mono ?_
          rintro e w' ⟨rfl, rfl⟩
          clear HN HP
          go_wp2
          go_ret
          rw [HV.out]
          exact ⟨rfl, hb1 _⟩
    · have HE : Hid (F = 0) := by
        have e : k = n := by omega
        rw [← HF.out, ← e]; exact HK.out
      go_wp2
      go_ret
      rw [HE.out]
      exact ⟨rfl, hb⟩
end Go.Proofs.YthdccmjdbcllkaaGreatDoor

namespace Go.Proofs.YthdccmjdbcllkaaGreatDoor
open Go.RowKit

set_option maxHeartbeats 2000000 in
theorem checkTie_any (x k d : Int) (s : ByteArray) (b : Bool) (ahead m : Int) (w : World) (hs : s.size ≤ maxLen) :
    Calls Tryz.prog 169 #[.agg #[.int .i64 x, .int .i64 k, .int .i64 d, .string s, .bool b], .int .i64 ahead, .int .i64 m] w fun e w' => e = .returned (errV (tieOneF x k d s b ahead m)) ∧ Below w.heap.size w w' := by
  have hb : ∀ ob : Obj, Below w.heap.size w (w.alloc ob) := fun ob => (Below.refl _ _).alloc (Nat.le_refl _) ob
  have HP := fun (w : World) => isPlace_any x m w
  have HW := fun (w : World) => isWord_any d w
  have HN := fun (w : World) => check_any s w hs
  generalize hF : tieOneF x k d s b ahead m = F
  unfold tieOneF at hF
  cases hp : isPlaceF x m with
  | false =>
    have HE : Hid (F = 1) := by rw [← hF, if_neg (by simp [hp])]; rfl
    simp only [hp] at HP
    clear hF hp
    go_enter Tryz.func169, Tryz.ntmps169
    go_wp2_with fail
    refine (HP _).mono ?_
    rintro e w' ⟨rfl, rfl⟩
    clear HP HW HN
    go_wp2
    go_ret
    rw [HE.out]
    exact ⟨rfl, hb _⟩
  | true =>
    cases hw : isWordF d with
    | false =>
      have HE : Hid (F = 1) := by rw [← hF, if_neg (by simp [hw])]; rfl
      simp only [hp] at HP
      simp only [hw] at HW
      clear hF hp hw
      go_enter Tryz.func169, Tryz.ntmps169
      go_wp2_with fail
      refine (HP _).mono ?_
      rintro e w' ⟨rfl, rfl⟩
      go_wp2_with fail
      refine (HW _).mono ?_
      rintro e w' ⟨rfl, rfl⟩
      clear HP HW HN
      go_wp2
      go_ret
      rw [HE.out]
      exact ⟨rfl, hb _⟩
    | true =>
      rw [if_pos ⟨hp, hw⟩] at hF
      simp only [hp] at HP
      simp only [hw] at HW
      clear hp hw
      by_cases ha : x ≤ ahead
      · have HE : Hid (F = 3) := by rw [← hF, if_pos ha]; rfl
        clear hF
        go_enter Tryz.func169, Tryz.ntmps169
        go_wp2_with fail
        refine (HP _).mono ?_
        rintro e w' ⟨rfl, rfl⟩
        go_wp2_with fail
        refine (HW _).mono ?_
        rintro e w' ⟨rfl, rfl⟩
        clear HP HW HN
        go_wp2
        go_ret
        rw [HE.out]
        exact ⟨rfl, hb _⟩
      · rw [if_neg ha] at hF
        by_cases k1 : k = 1
        · subst k1
          rw [if_pos rfl] at hF
          by_cases hd : s.size = 0
          · have hz : s.toList.isEmpty = true := by
              rw [ByteArray.size_eq_zero_iff.1 hd, ByteArray.toList_eq]; rfl
            cases b with
            | true =>
              have HE : Hid (F = 3) := by rw [← hF, if_neg (fun h => by cases h.2)]; rfl
              clear hF hd
              go_enter Tryz.func169, Tryz.ntmps169
              go_wp2_with fail
              refine (HP _).mono ?_
              rintro e w' ⟨rfl, rfl⟩
              go_wp2_with fail
              refine (HW _).mono ?_
              rintro e w' ⟨rfl, rfl⟩
              clear HP HW HN
              go_wp2
              go_ret
              rw [HE.out]
              exact ⟨rfl, hb _⟩
            | false =>
              have HE : Hid (F = 0) := by rw [← hF, if_pos ⟨hd, rfl⟩]; rfl
              clear hF hd
              go_enter Tryz.func169, Tryz.ntmps169
              go_wp2_with fail
              refine (HP _).mono ?_
              rintro e w' ⟨rfl, rfl⟩
              go_wp2_with fail
              refine (HW _).mono ?_
              rintro e w' ⟨rfl, rfl⟩
              clear HP HW HN
              go_wp2
              go_ret
              rw [HE.out]
              exact ⟨rfl, hb _⟩
          · have hz : s.toList.isEmpty = false := by
              rw [List.isEmpty_eq_false_iff, ByteArray.toList_eq]
              intro h
              have : s.data.toList.length = 0 := by rw [h]; rfl
              exact hd (by simpa using this)
            have HE : Hid (F = 3) := by rw [← hF, if_neg (fun h => hd h.1)]; rfl
            clear hF hd
            go_enter Tryz.func169, Tryz.ntmps169
            go_wp2_with fail
            refine (HP _).mono ?_
            rintro e w' ⟨rfl, rfl⟩
            go_wp2_with fail
            refine (HW _).mono ?_
            rintro e w' ⟨rfl, rfl⟩
            clear HP HW HN
            go_wp2
            go_ret
            rw [HE.out]
            exact ⟨rfl, hb _⟩
        · rw [if_neg k1] at hF
          have d1 : (k == 1) = false := by rw [beq_eq_false_iff_ne]; exact k1
          by_cases k2 : k = 2
          · rw [if_pos (.inl k2)] at hF
            have d2 : (k == 2) = true := by rw [beq_iff_eq]; exact k2
            have HE : Hid (nameF s.data.toList = F) := hF
            clear hF k1 k2
            go_enter Tryz.func169, Tryz.ntmps169
            go_wp2_with fail
            refine (HP _).mono ?_
            rintro e w' ⟨rfl, rfl⟩
            go_wp2_with fail
            refine (HW _).mono ?_
            rintro e w' ⟨rfl, rfl⟩
            go_wp2_with fail
            refine (HN _).mono ?_
            rintro e w' ⟨rfl, rfl⟩
            clear HP HW HN
            go_wp2
            go_ret
            rw [← HE.out]
            exact ⟨rfl, hb _⟩
          · have d2 : (k == 2) = false := by rw [beq_eq_false_iff_ne]; exact k2
            by_cases k3 : k = 3
            · rw [if_pos (.inr k3)] at hF
              have d3 : (k == 3) = true := by rw [beq_iff_eq]; exact k3
              have HE : Hid (nameF s.data.toList = F) := hF
              clear hF k1 k2 k3
              go_enter Tryz.func169, Tryz.ntmps169
              go_wp2_with fail
              refine (HP _).mono ?_
              rintro e w' ⟨rfl, rfl⟩
              go_wp2_with fail
              refine (HW _).mono ?_
              rintro e w' ⟨rfl, rfl⟩
              go_wp2_with fail
              refine (HN _).mono ?_
              rintro e w' ⟨rfl, rfl⟩
              clear HP HW HN
              go_wp2
              go_ret
              rw [← HE.out]
              exact ⟨rfl, hb _⟩
            · rw [if_neg (fun h => h.elim k2 k3)] at hF
              have d3 : (k == 3) = false := by rw [beq_eq_false_iff_ne]; exact k3
              have HE : Hid (F = 3) := hF.symm
              clear hF k1 k2 k3
              go_enter Tryz.func169, Tryz.ntmps169
              go_wp2_with fail
              refine (HP _).mono ?_
              rintro e w' ⟨rfl, rfl⟩
              go_wp2_with fail
              refine (HW _).mono ?_
              rintro e w' ⟨rfl, rfl⟩
              clear HP HW HN
              go_wp2
              go_ret
              rw [HE.out]
              exact ⟨rfl, hb _⟩

set_option maxHeartbeats 2000000 in
theorem checkTies_any (o : ObjF) (a : Option Addr) (c : Nat) (w : World) (hn : o.nT ≤ 1000000000) (hr : TiesRow w a o.nT o.tAt o.tKind o.tAdd o.tName o.tWeak) (hs : ∀ i, i < o.nT → (o.tName i).size ≤ maxLen) :
    Calls Tryz.prog 142 #[.slice a o.nT c, .int .i64 (o.nW : Int)] w fun e w' => e = .returned (errV (faultTo (tieF o) o.nT)) ∧ Below w.heap.size w w' := by
  generalize hF : faultTo (tieF o) o.nT = F
  have HF : Hid (faultTo (tieF o) o.nT = F) := hF
  clear hF
  go_enter Tryz.func142, Tryz.ntmps142
  go_wp2
  go_loopw [5, 11] (fun y x wr => ∃ k : Nat, k ≤ o.nT ∧ x = .int .i64 k ∧ y = .int .i64 (prevAt o.tAt k) ∧ Hid (faultTo (tieF o) k = 0) ∧ Below w.heap.size w wr) (fun _ x _ => o.nT - (intOf x).toNat)
  case atStart => exact ⟨0, Nat.zero_le _, rfl, rfl, rfl, Below.refl _ _⟩
  case round =>
    obtain ⟨k, hk, rfl, rfl, HK, hb⟩ := hrel
    by_cases hlt : k < o.nT
    · rcases hr with h0 | ⟨bk, of, rfl, hc'⟩
      · omega
      · have hc0 := cell_later hb (hc' k hlt).1
        have hc1 := cell_later hb (hc' k hlt).2.1
        have hc2 := cell_later hb (hc' k hlt).2.2.1
        have hc3 := cell_later hb (hc' k hlt).2.2.2.1
        have hc4 := cell_later hb (hc' k hlt).2.2.2.2
        have hb1 : ∀ ob : Obj, Below w.heap.size w (wr.alloc ob) := fun ob => hb.alloc hb.size ob
        have HT := fun (w : World) => checkTie_any (o.tAt k) (o.tKind k) (o.tAdd k) (o.tName k) (o.tWeak k) (prevAt o.tAt k) o.nW w (hs k hlt)
        have HD : Hid (tieF o k = tieOneF (o.tAt k) (o.tKind k) (o.tAdd k) (o.tName k) (o.tWeak k) (prevAt o.tAt k) o.nW) := rfl
        generalize tieOneF (o.tAt k) (o.tKind k) (o.tAdd k) (o.tName k) (o.tWeak k) (prevAt o.tAt k) o.nW = g at *
        generalize hpv : prevAt o.tAt k = pv at *
        clear hpv
        by_cases h0 : g = 0
        · subst h0
          have HE : Hid (faultTo (tieF o) (k + 1) = 0) := faultTo_ok HK.out HD.out
          simp only [errV_nil rfl] at HT
          clear hc' hs
          go_wp2_with fail
          refine (HT _).mono ?_
          rintro e w2 ⟨rfl, hb2⟩
          have hx0 : w2.cell? ⟨wr.heap.size, 0, none⟩ = some (.int .i64 (o.tAt k)) := cell_later hb2 (by simp [go_sem])
          clear HT
          go_wp2
          go_roundw
          case rel => exact ⟨k + 1, by omega, by go_num, rfl, HE, (hb1 _).trans (hb2.mono (hb1 _).size)⟩
          case measure => simp [intOf]; omega
        · have HV : Hid (errV F = .iface 74 (.int .i64 (g : Int))) := by
            show errV F = _
            rw [← HF.out, faultTo_stop hlt HK.out (by rw [HD.out]; exact h0), HD.out, errV_some h0]
          simp only [errV_some h0] at HT
          clear h0 hc' hs
          go_wp2_with fail
          refine (HT _).mono ?_
          rintro e w2 ⟨rfl, hb2⟩
          clear HT
          go_wp2
          go_ret
          rw [HV.out]
          exact ⟨rfl, (hb1 _).trans (hb2.mono (hb1 _).size)⟩
    · have HE : Hid (F = 0) := by
        have e : k = o.nT := by omega
        rw [← HF.out, ← e]; exact HK.out
      go_wp2
      go_ret
      rw [HE.out]
      exact ⟨rfl, hb⟩
end Go.Proofs.YthdccmjdbcllkaaGreatDoor

namespace Go.Proofs.YthdccmjdbcllkaaGreatDoor
open Go.RowKit

set_option maxHeartbeats 2000000 in
theorem checkObj_any (v : ObjV) (o : ObjF) (w : World) (hA : ObjAt w v o) (hf : ObjFit o) :
    Calls Tryz.prog 100 #[.agg (v.cells o)] w fun e w' => e = .returned (errV (objF o)) ∧ Below w.heap.size w w' := by
  have hb0 : ∀ ob : Obj, Below w.heap.size w (w.alloc ob) := fun ob => (Below.refl _ _).alloc (Nat.le_refl _) ob
  have HC := fun (w : World) => checkCounts_any v o w hf
  unfold ObjV.cells at HC
  unfold ObjV.cells
  by_cases c0 : countsF o = 0
  · have hsm : o.nN ≤ 4 ∧ o.nW ≤ 40 ∧ o.nS ≤ 8 ∧ o.nT ≤ 6 := by
      unfold countsF at c0
      split at c0
      · omega
      · omega
    simp only [errV_nil c0] at HC
    by_cases c1 : faultTo (needF o.needs) o.nN = 0
    · by_cases c2 : faultTo (wordF o.words) o.nW = 0
      · by_cases c3 : faultTo (symF o.nW o.sName o.sAt) o.nS = 0
        · have HE : Hid (objF o = faultTo (tieF o) o.nT) := by
            show objF o = _
            unfold objF
            rw [c0, c1, c2, c3]
            rfl
          go_enter Tryz.func100, Tryz.ntmps100
          go_wp2_with fail
          refine (HC _).mono ?_
          rintro e w1 ⟨rfl, hb1⟩
          clear HC
          have hx : Below w.heap.size w w1 := (hb0 _).trans (hb1.mono (hb0 _).size)
          have hc0 : w1.cell? ⟨w.heap.size, 0, none⟩ = some (.slice v.aN o.nN v.cN) := cell_later hb1 (by simp [go_sem])
          have hc1 : w1.cell? ⟨w.heap.size, 0 + 1, none⟩ = some (.slice v.aW o.nW v.cW) := cell_later hb1 (by simp [go_sem])
          have hc2 : w1.cell? ⟨w.heap.size, 0 + 2, none⟩ = some (.slice v.aS o.nS v.cS) := cell_later hb1 (by simp [go_sem])
          have hc3 : w1.cell? ⟨w.heap.size, 0 + 3, none⟩ = some (.slice v.aT o.nT v.cT) := cell_later hb1 (by simp [go_sem])
          go_wp2_with fail
          refine (checkNeeds_any o.needs v.aN o.nN v.cN _ (by omega) hA.capN (hA.needs.later hx) hf.needs).mono ?_
          rw [errV_nil c1]
          rintro e w' ⟨rfl, rfl⟩
          go_wp2_with fail
          refine (checkWords_any o.words v.aW o.nW v.cW _ (by omega) (hA.words.later hx)).mono ?_
          rw [errV_nil c2]
          rintro e w' ⟨rfl, rfl⟩
          go_wp2_with fail
          refine (checkSymbols_any o.sName o.sAt o.sWeak v.aS o.nS v.cS o.nW _ (by omega) hA.capS (hA.syms.later hx) (fun i hi => (hf.syms i hi).1)).mono ?_
          rw [errV_nil c3]
          rintro e w2 ⟨rfl, hb2⟩
          have hy : Below w.heap.size w w2 := hx.trans (hb2.mono hx.size)
          have hd1 := cell_later hb2 hc1
          have hd3 := cell_later hb2 hc3
          clear hc0 hc1 hc2 hc3
          go_wp2_with fail
          refine (checkTies_any o v.aT v.cT _ (by omega) (hA.ties.later hy) (fun i hi => (hf.ties i hi).1)).mono ?_
          rintro e w3 ⟨rfl, hb3⟩
          go_wp2
          go_ret
          rw [HE.out]
          exact ⟨rfl, hy.trans (hb3.mono hy.size)⟩
        · have HE : Hid (objF o = faultTo (symF o.nW o.sName o.sAt) o.nS) := by
            show objF o = _
            unfold objF
            rw [c0, c1, c2, seqF_some _ c3]
            rfl
          go_enter Tryz.func100, Tryz.ntmps100
          go_wp2_with fail
          refine (HC _).mono ?_
          rintro e w1 ⟨rfl, hb1⟩
          clear HC
          have hx : Below w.heap.size w w1 := (hb0 _).trans (hb1.mono (hb0 _).size)
          have hc0 : w1.cell? ⟨w.heap.size, 0, none⟩ = some (.slice v.aN o.nN v.cN) := cell_later hb1 (by simp [go_sem])
          have hc1 : w1.cell? ⟨w.heap.size, 0 + 1, none⟩ = some (.slice v.aW o.nW v.cW) := cell_later hb1 (by simp [go_sem])
          have hc2 : w1.cell? ⟨w.heap.size, 0 + 2, none⟩ = some (.slice v.aS o.nS v.cS) := cell_later hb1 (by simp [go_sem])
          go_wp2_with fail
          refine (checkNeeds_any o.needs v.aN o.nN v.cN _ (by omega) hA.capN (hA.needs.later hx) hf.needs).mono ?_
          rw [errV_nil c1]
          rintro e w' ⟨rfl, rfl⟩
          go_wp2_with fail
          refine (checkWords_any o.words v.aW o.nW v.cW _ (by omega) (hA.words.later hx)).mono ?_
          rw [errV_nil c2]
          rintro e w' ⟨rfl, rfl⟩
          go_wp2_with fail
          refine (checkSymbols_any o.sName o.sAt o.sWeak v.aS o.nS v.cS o.nW _ (by omega) hA.capS (hA.syms.later hx) (fun i hi => (hf.syms i hi).1)).mono ?_
          rw [errV_some c3]
          rintro e w2 ⟨rfl, hb2⟩
          go_wp2
          go_ret
          rw [HE.out, errV_some c3]
          exact ⟨rfl, hx.trans (hb2.mono hx.size)⟩
      · have HE : Hid (objF o = faultTo (wordF o.words) o.nW) := by
          show objF o = _
          unfold objF
          rw [c0, c1, seqF_some _ c2]
          rfl
        go_enter Tryz.func100, Tryz.ntmps100
        go_wp2_with fail
        refine (HC _).mono ?_
        rintro e w1 ⟨rfl, hb1⟩
        clear HC
        have hx : Below w.heap.size w w1 := (hb0 _).trans (hb1.mono (hb0 _).size)
        have hc0 : w1.cell? ⟨w.heap.size, 0, none⟩ = some (.slice v.aN o.nN v.cN) := cell_later hb1 (by simp [go_sem])
        have hc1 : w1.cell? ⟨w.heap.size, 0 + 1, none⟩ = some (.slice v.aW o.nW v.cW) := cell_later hb1 (by simp [go_sem])
        go_wp2_with fail
        refine (checkNeeds_any o.needs v.aN o.nN v.cN _ (by omega) hA.capN (hA.needs.later hx) hf.needs).mono ?_
        rw [errV_nil c1]
        rintro e w' ⟨rfl, rfl⟩
        go_wp2_with fail
        refine (checkWords_any o.words v.aW o.nW v.cW _ (by omega) (hA.words.later hx)).mono ?_
        rw [errV_some c2]
        rintro e w' ⟨rfl, rfl⟩
        go_wp2
        go_ret
        rw [HE.out, errV_some c2]
        exact ⟨rfl, hx⟩
    · have HE : Hid (objF o = faultTo (needF o.needs) o.nN) := by
        show objF o = _
        unfold objF
        rw [c0, seqF_some _ c1]
        rfl
      go_enter Tryz.func100, Tryz.ntmps100
      go_wp2_with fail
      refine (HC _).mono ?_
      rintro e w1 ⟨rfl, hb1⟩
      clear HC
      have hx : Below w.heap.size w w1 := (hb0 _).trans (hb1.mono (hb0 _).size)
      have hc0 : w1.cell? ⟨w.heap.size, 0, none⟩ = some (.slice v.aN o.nN v.cN) := cell_later hb1 (by simp [go_sem])
      go_wp2_with fail
      refine (checkNeeds_any o.needs v.aN o.nN v.cN _ (by omega) hA.capN (hA.needs.later hx) hf.needs).mono ?_
      rw [errV_some c1]
      rintro e w' ⟨rfl, rfl⟩
      go_wp2
      go_ret
      rw [HE.out, errV_some c1]
      exact ⟨rfl, hx⟩
  · have HE : Hid (objF o = countsF o) := by
      show objF o = _
      unfold objF
      rw [seqF_some _ c0]
    simp only [errV_some c0] at HC
    go_enter Tryz.func100, Tryz.ntmps100
    go_wp2_with fail
    refine (HC _).mono ?_
    rintro e w1 ⟨rfl, hb1⟩
    clear HC
    go_wp2
    go_ret
    rw [HE.out, errV_some c0]
    exact ⟨rfl, (hb0 _).trans (hb1.mono (hb0 _).size)⟩
end Go.Proofs.YthdccmjdbcllkaaGreatDoor
