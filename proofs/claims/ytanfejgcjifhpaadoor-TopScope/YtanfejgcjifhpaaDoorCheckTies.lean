/-
  What checkTie, checkTies and Check return, for every argument: the number of the object's fault; memory that was there stays as it was.
-/
import Derived.Test.YtanfejgcjifhpaaDoorCheckSyms
namespace Go.Proofs.YtanfejgcjifhpaaDoor
open Go.RowKit

set_option maxHeartbeats 2000000 in
theorem checkTie_any (x k d : Int) (s : ByteArray) (b : Bool) (ahead m : Int) (w : World) (hs : s.size ≤ maxLen) :
    Calls Tryd.prog 57 #[.agg #[.int .i64 x, .int .i64 k, .int .i64 d, .string s, .bool b], .int .i64 ahead, .int .i64 m] w fun e w' => e = .returned (errV (tieOneF x k d s b ahead m)) ∧ Below w.heap.size w w' := by
  have hb : ∀ ob : Obj, Below w.heap.size w (w.alloc ob) := fun ob => (Below.refl _ _).alloc (Nat.le_refl _) ob
  have HP := fun (w : World) => isPlace_any x m w
  have HW := fun (w : World) => isWord_any d w
  have HN := fun (w : World) => check_any s w hs
  generalize hF : tieOneF x k d s b ahead m = F
  unfold tieOneF at hF
  cases hp : isPlaceF x m with
  | false =>
    have HE : Hid (F = 1) := by rw [← hF, if_neg (by simp [hp])]; rfl
    simp only [hp] at HP
    clear hF hp
    go_enter Tryd.func57, Tryd.ntmps57
    go_wp2_with fail
    refine (HP _).mono ?_
    rintro e w' ⟨rfl, rfl⟩
    clear HP HW HN
    go_wp2
    go_ret
    rw [HE.out]
    exact ⟨rfl, hb _⟩
  | true =>
    cases hw : isWordF d with
    | false =>
      have HE : Hid (F = 1) := by rw [← hF, if_neg (by simp [hw])]; rfl
      simp only [hp] at HP
      simp only [hw] at HW
      clear hF hp hw
      go_enter Tryd.func57, Tryd.ntmps57
      go_wp2_with fail
      refine (HP _).mono ?_
      rintro e w' ⟨rfl, rfl⟩
      go_wp2_with fail
      refine (HW _).mono ?_
      rintro e w' ⟨rfl, rfl⟩
      clear HP HW HN
      go_wp2
      go_ret
      rw [HE.out]
      exact ⟨rfl, hb _⟩
    | true =>
      rw [if_pos ⟨hp, hw⟩] at hF
      simp only [hp] at HP
      simp only [hw] at HW
      clear hp hw
      by_cases ha : x ≤ ahead
      · have HE : Hid (F = 3) := by rw [← hF, if_pos ha]; rfl
        clear hF
        go_enter Tryd.func57, Tryd.ntmps57
        go_wp2_with fail
        refine (HP _).mono ?_
        rintro e w' ⟨rfl, rfl⟩
        go_wp2_with fail
        refine (HW _).mono ?_
        rintro e w' ⟨rfl, rfl⟩
        clear HP HW HN
        go_wp2
        go_ret
        rw [HE.out]
        exact ⟨rfl, hb _⟩
      · rw [if_neg ha] at hF
        by_cases k1 : k = 1
        · subst k1
          rw [if_pos rfl] at hF
          by_cases hd : s.size = 0
          · have hz : s.toList.isEmpty = true := by
              rw [ByteArray.size_eq_zero_iff.1 hd, ByteArray.toList_eq]; rfl
            cases b with
            | true =>
              have HE : Hid (F = 3) := by rw [← hF, if_neg (fun h => by cases h.2)]; rfl
              clear hF hd
              go_enter Tryd.func57, Tryd.ntmps57
              go_wp2_with fail
              refine (HP _).mono ?_
              rintro e w' ⟨rfl, rfl⟩
              go_wp2_with fail
              refine (HW _).mono ?_
              rintro e w' ⟨rfl, rfl⟩
              clear HP HW HN
              go_wp2
              go_ret
              rw [HE.out]
              exact ⟨rfl, hb _⟩
            | false =>
              have HE : Hid (F = 0) := by rw [← hF, if_pos ⟨hd, rfl⟩]; rfl
              clear hF hd
              go_enter Tryd.func57, Tryd.ntmps57
              go_wp2_with fail
              refine (HP _).mono ?_
              rintro e w' ⟨rfl, rfl⟩
              go_wp2_with fail
              refine (HW _).mono ?_
              rintro e w' ⟨rfl, rfl⟩
              clear HP HW HN
              go_wp2
              go_ret
              rw [HE.out]
              exact ⟨rfl, hb _⟩
          · have hz : s.toList.isEmpty = false := by
              rw [List.isEmpty_eq_false_iff, ByteArray.toList_eq]
              intro h
              have : s.data.toList.length = 0 := by rw [h]; rfl
              exact hd (by simpa using this)
            have HE : Hid (F = 3) := by rw [← hF, if_neg (fun h => hd h.1)]; rfl
            clear hF hd
            go_enter Tryd.func57, Tryd.ntmps57
            go_wp2_with fail
            refine (HP _).mono ?_
            rintro e w' ⟨rfl, rfl⟩
            go_wp2_with fail
            refine (HW _).mono ?_
            rintro e w' ⟨rfl, rfl⟩
            clear HP HW HN
            go_wp2
            go_ret
            rw [HE.out]
            exact ⟨rfl, hb _⟩
        · rw [if_neg k1] at hF
          have d1 : (k == 1) = false := by rw [beq_eq_false_iff_ne]; exact k1
          by_cases k2 : k = 2
          · rw [if_pos (.inl k2)] at hF
            have d2 : (k == 2) = true := by rw [beq_iff_eq]; exact k2
            have HE : Hid (nameF s.data.toList = F) := hF
            clear hF k1 k2
            go_enter Tryd.func57, Tryd.ntmps57
            go_wp2_with fail
            refine (HP _).mono ?_
            rintro e w' ⟨rfl, rfl⟩
            go_wp2_with fail
            refine (HW _).mono ?_
            rintro e w' ⟨rfl, rfl⟩
            go_wp2_with fail
            refine (HN _).mono ?_
            rintro e w' ⟨rfl, rfl⟩
            clear HP HW HN
            go_wp2
            go_ret
            rw [← HE.out]
            exact ⟨rfl, hb _⟩
          · have d2 : (k == 2) = false := by rw [beq_eq_false_iff_ne]; exact k2
            by_cases k3 : k = 3
            · rw [if_pos (.inr k3)] at hF
              have d3 : (k == 3) = true := by rw [beq_iff_eq]; exact k3
              have HE : Hid (nameF s.data.toList = F) := hF
              clear hF k1 k2 k3
              go_enter Tryd.func57, Tryd.ntmps57
              go_wp2_with fail
              refine (HP _).mono ?_
              rintro e w' ⟨rfl, rfl⟩
              go_wp2_with fail
              refine (HW _).mono ?_
              rintro e w' ⟨rfl, rfl⟩
              go_wp2_with fail
              refine (HN _).mono ?_
              rintro e w' ⟨rfl, rfl⟩
              clear HP HW HN
              go_wp2
              go_ret
              rw [← HE.out]
              exact ⟨rfl, hb _⟩
            · rw [if_neg (fun h => h.elim k2 k3)] at hF
              have d3 : (k == 3) = false := by rw [beq_eq_false_iff_ne]; exact k3
              have HE : Hid (F = 3) := hF.symm
              clear hF k1 k2 k3
              go_enter Tryd.func57, Tryd.ntmps57
              go_wp2_with fail
              refine (HP _).mono ?_
              rintro e w' ⟨rfl, rfl⟩
              go_wp2_with fail
              refine (HW _).mono ?_
              rintro e w' ⟨rfl, rfl⟩
              clear HP HW HN
              go_wp2
              go_ret
              rw [HE.out]
              exact ⟨rfl, hb _⟩

set_option maxHeartbeats 2000000 in
theorem checkTies_any (o : ObjF) (a : Option Addr) (c : Nat) (w : World) (hn : o.nT ≤ 1000000000) (hr : TiesRow w a o.nT o.tAt o.tKind o.tAdd o.tName o.tWeak) (hs : ∀ i, i < o.nT → (o.tName i).size ≤ maxLen) :
    Calls Tryd.prog 42 #[.slice a o.nT c, .int .i64 (o.nW : Int)] w fun e w' => e = .returned (errV (faultTo (tieF o) o.nT)) ∧ Below w.heap.size w w' := by
  generalize hF : faultTo (tieF o) o.nT = F
  have HF : Hid (faultTo (tieF o) o.nT = F) := hF
  clear hF
  go_enter Tryd.func42, Tryd.ntmps42
  go_wp2
  go_loopw [5, 11] (fun y x wr => ∃ k : Nat, k ≤ o.nT ∧ x = .int .i64 k ∧ y = .int .i64 (prevAt o.tAt k) ∧ Hid (faultTo (tieF o) k = 0) ∧ Below w.heap.size w wr) (fun _ x _ => o.nT - (intOf x).toNat)
  case atStart => exact ⟨0, Nat.zero_le _, rfl, rfl, rfl, Below.refl _ _⟩
  case round =>
    obtain ⟨k, hk, rfl, rfl, HK, hb⟩ := hrel
    by_cases hlt : k < o.nT
    · rcases hr with h0 | ⟨bk, of, rfl, hc'⟩
      · omega
      · have hc0 := cell_later hb (hc' k hlt).1
        have hc1 := cell_later hb (hc' k hlt).2.1
        have hc2 := cell_later hb (hc' k hlt).2.2.1
        have hc3 := cell_later hb (hc' k hlt).2.2.2.1
        have hc4 := cell_later hb (hc' k hlt).2.2.2.2
        have hb1 : ∀ ob : Obj, Below w.heap.size w (wr.alloc ob) := fun ob => hb.alloc hb.size ob
        have HT := fun (w : World) => checkTie_any (o.tAt k) (o.tKind k) (o.tAdd k) (o.tName k) (o.tWeak k) (prevAt o.tAt k) o.nW w (hs k hlt)
        have HD : Hid (tieF o k = tieOneF (o.tAt k) (o.tKind k) (o.tAdd k) (o.tName k) (o.tWeak k) (prevAt o.tAt k) o.nW) := rfl
        generalize tieOneF (o.tAt k) (o.tKind k) (o.tAdd k) (o.tName k) (o.tWeak k) (prevAt o.tAt k) o.nW = g at *
        generalize hpv : prevAt o.tAt k = pv at *
        clear hpv
        by_cases h0 : g = 0
        · subst h0
          have HE : Hid (faultTo (tieF o) (k + 1) = 0) := faultTo_ok HK.out HD.out
          simp only [errV_nil rfl] at HT
          clear hc' hs
          go_wp2_with fail
          refine (HT _).mono ?_
          rintro e w2 ⟨rfl, hb2⟩
          have hx0 : w2.cell? ⟨wr.heap.size, 0, none⟩ = some (.int .i64 (o.tAt k)) := cell_later hb2 (by simp [go_sem])
          clear HT
          go_wp2
          go_roundw
          case rel => exact ⟨k + 1, by omega, by go_num, rfl, HE, (hb1 _).trans (hb2.mono (hb1 _).size)⟩
          case measure => simp [intOf]; omega
        · have HV : Hid (errV F = .iface 23 (.int .i64 (g : Int))) := by
            show errV F = _
            rw [← HF.out, faultTo_stop hlt HK.out (by rw [HD.out]; exact h0), HD.out, errV_some h0]
          simp only [errV_some h0] at HT
          clear h0 hc' hs
          go_wp2_with fail
          refine (HT _).mono ?_
          rintro e w2 ⟨rfl, hb2⟩
          clear HT
          go_wp2
          go_ret
          rw [HV.out]
          exact ⟨rfl, (hb1 _).trans (hb2.mono (hb1 _).size)⟩
    · have HE : Hid (F = 0) := by
        have e : k = o.nT := by omega
        rw [← HF.out, ← e]; exact HK.out
      go_wp2
      go_ret
      rw [HE.out]
      exact ⟨rfl, hb⟩
end Go.Proofs.YtanfejgcjifhpaaDoor
