/-
  The law TopOther returns true, for every row of acts, every root, name and text; memory that was there stays as it was.
-/
import Derived.Test.YtanfejgcjifhpabGreatDoorBoundFact
import Derived.Test.YtanfejgcjifhpabGreatDoorElseFiles
import Derived.Test.YtanfejgcjifhpabGreatDoorPlainOnce
import Derived.Test.YtanfejgcjifhpabGreatDoorSameParts
import Derived.Test.YtanfejgcjifhpabGreatDoorNumber
import Derived.Test.YtanfejgcjifhpabGreatDoorActsAt
namespace Go.Proofs.YtanfejgcjifhpabGreatDoor
open Go.RowKit Go.Maps

theorem loadElse_any (w : World) (p bm : Nat) (D D' : DataW Unit) (k' : Nat) (T : ByteArray → ByteArray) (s root : ByteArray) (m : Nat) (h : FilesAt w p bm D' k') (hL : Else D T s D' k') (hE : Env w) (hroot : root.size ≤ maxLen) (hO : OfIs (rdD D T) root 0 m) (hn : ∀ j, j < m → nmAt (rdD D T) root j ≠ s) :
    Calls Tryz.prog 12 #[.pointer (some ⟨p, 0, none⟩), .string root] w fun e w' => LoadEnd w' w.heap.size (rdD D T) root e ∧ Below w.heap.size w w' := by
  obtain ⟨T', hT'⟩ := texts_some D'
  refine (load_any w p bm D' k' T' root h hL.inv hT' hE hroot).mono ?_
  rintro e w' ⟨he, hb⟩
  exact ⟨he.same hO fun j hj => hL.read T' hT' _ (hn j hj), hb⟩

set_option maxRecDepth 100000 in
set_option maxHeartbeats 8000000 in
theorem topOther_walk (a : Option Addr) (n c : Nat) (X : Nat → ActF) (root s text : ByteArray) (w : World) (hE : Env w) (hr : ActsRow w a n X) (hf : ∀ i, i < n → ActFit (X i)) :
    Calls Tryz.prog 8 #[.slice a n c, .string root, .string s, .string text] w fun e w' => e = .returned (.bool true) ∧ Below w.heap.size w w' := by
  have HBd := bound_any w hE
  go_enter Tryz.func8, Tryz.ntmps8
  go_wp2_with fail
  refine HBd.mono ?_
  rintro e w4 ⟨rfl, hb4⟩
  clear HBd
  have HL := lightActs_any a n c 30 X w4 (by decide) (hr.later hb4) hf
  clear hf
  go_wp2_with fail
  refine HL.mono ?_
  rintro e w5 ⟨⟨b, rfl, hl⟩, hb5⟩
  have hb6 := hb4.trans (hb5.mono hb4.size)
  clear HL hb5 hb4
  cases b with
  | false =>
    clear hl hr
    go_wp2
    go_ret
    exact ⟨rfl, hb6⟩
  | true =>
    obtain ⟨h30, hsz⟩ := hl rfl
    clear hl
    by_cases hs : (20 : Int) < (root.size : Int)
    · go_wp2
      go_ret
      exact ⟨rfl, hb6⟩
    by_cases hs2 : (20 : Int) < (s.size : Int)
    · go_wp2
      go_ret
      exact ⟨rfl, hb6⟩
    by_cases hs3 : (1300 : Int) < (text.size : Int)
    · go_wp2
      go_ret
      exact ⟨rfl, hb6⟩
    have hroot : root.size ≤ maxLen := by simp only [maxLen]; omega
    have hsm : s.size ≤ maxLen := by simp only [maxLen]; omega
    have HN := new_any w5
    go_wp2_with fail
    refine HN.mono ?_
    rintro e w6 ⟨p, bm, rfl, hp, hbm, hF, hb7⟩
    clear hs hs2 hs3
    have hb8 := hb6.trans (hb7.mono hb6.size)
    have HD := done_any w6 p bm (.map []) 0 a n c X w.heap.size hF Inv.empty hb8.size (Nat.le_trans hb6.size hp) (Nat.le_trans hb6.size hbm) (by omega) (fun W hW => hr.later (hb8.trans hW)) hsz
    clear HN
    go_wp2_with fail
    refine HD.mono ?_
    rintro e w7 ⟨rfl, hF7, hT7⟩
    have hb9 := hb8.trans (hT7.below hb8.size (Nat.le_trans hb6.size hp) (Nat.le_trans hb6.size hbm))
    have hI7 := (doneD_inv (X := X) (q := (.map [], 0)) Inv.empty n).1
    have hpw : w.heap.size ≤ p := Nat.le_trans hb6.size hp
    have hbmw : w.heap.size ≤ bm := Nat.le_trans hb6.size hbm
    generalize (doneD (.map [], 0) X n).1 = D at *
    generalize (doneD (.map [], 0) X n).2 = k at *
    obtain ⟨T, hT⟩ := texts_some D
    have HO := of_any w7 p bm D k T root hF7 hI7 hT (hE.later hb9) hroot
    have hfew := rd_few (T := T) hI7
    have hplt : p < w7.heap.size := hF7.lt
    have hbmlt : bm < w7.heap.size := hF7.ltm
    clear HD hF hb7 hb8 hb6 hT7 hr hsz hp hbm h30
    go_wp2_with fail
    refine HO.mono ?_
    rintro e w8 ⟨he, hbA⟩
    have hbB := hb9.trans (hbA.mono hb9.size)
    have hF8 := hF7.later hbA
    replace hplt := Nat.lt_of_lt_of_le hplt hbA.size
    replace hbmlt := Nat.lt_of_lt_of_le hbmlt hbA.size
    clear HO hb9 hbA hF7
    cases he with
    | bad F i h hf =>
      obtain ⟨z, hz⟩ := errV_pos hf
      rw [hz]
      clear hz h hf hfew
      go_wp2
      go_ret
      exact ⟨rfl, hbB⟩
    | ok m u x V hO hu hx =>
      obtain ⟨hS, hlen, hnm⟩ := scope_of hO hfew
      have hm6 := hS.few
      have hok : ∀ j, j < m → (obAt (rdD D T) root j).nW ≤ 1000 := fun j hj => Nat.le_trans (rd_ok (D := D) (T := T) (s := nmAt (rdD D T) root j) (by rw [hS.read j hj])).nW (by decide)
      obtain ⟨ua, uc, rfl, _, hur⟩ := ownTx_row hu
      rw [hlen] at hur ⊢
      have hun : ∀ j, j < m → ∃ bu ou, ua = some ⟨bu, ou, none⟩ ∧ w8.cell? ⟨bu, ou + j, none⟩ = some (.string (nmAt (rdD D T) root j)) := fun j hj => by
        rcases hur with h0 | ⟨bu, ou, ha, hc⟩
        · omega
        · exact ⟨bu, ou, ha, by rw [hc j hj]; show some (Value.string _) = _; rw [hnm j hj]⟩
      clear hS hfew hu hx hur hlen hnm
      go_wp2
      go_loopw [14] (fun y wr => ∃ i : Nat, i ≤ m ∧ y = .int .i64 i ∧ Hid (∀ j, j < i → nmAt (rdD D T) root j ≠ s) ∧ wr = w8) (fun y _ => m - (intOf y).toNat)
      case atStart => exact ⟨0, Nat.zero_le _, rfl, fun j hj => by omega, rfl⟩
      case round =>
        obtain ⟨i, hi, rfl, HK, hwr⟩ := hrel
        replace hwr := hwr.symm
        subst hwr
        by_cases hlt : i < m
        · obtain ⟨bu, ou, rfl, hcu⟩ := hun i hlt
          clear hun
          by_cases he : nmAt (rdD D T) root i = s
          · have hbe : ((nmAt (rdD D T) root i).toList == s.toList) = true := by rw [toList_beq]; exact decide_eq_true he
            clear he
            go_wp2
            go_ret
            exact ⟨rfl, hbB⟩
          · have hbe : ((nmAt (rdD D T) root i).toList == s.toList) = false := by rw [toList_beq]; exact decide_eq_false he
            have HK2 : Hid (∀ j, j < i + 1 → nmAt (rdD D T) root j ≠ s) := fun j hj => by
              by_cases e : j = i
              · subst e; exact he
              · exact HK.out j (by omega)
            clear he HK
            go_wp2
            go_roundw
            case rel => exact ⟨i + 1, by omega, by go_num, HK2, by first | rfl | trivial⟩
            case measure => simp [intOf]; omega
        · have e : i = m := by omega
          subst e
          have HL1 := load_any w8 p bm D k T root hF8 hI7 hT (hE.later hbB) hroot
          clear hun
          go_wp2_with fail
          refine HL1.mono ?_
          rintro e1 w9 ⟨he1, hb9⟩
          have hb10 := hbB.trans (hb9.mono hbB.size)
          have HW := write_any w9 p bm D k s text (hF8.later hb9) hsm (Nat.le_trans hI7.size (by decide))
          have Hs8 : Stays w8.heap.size w9 w9 := ⟨Nat.le_refl _, fun _ _ _ => rfl⟩
          clear HL1
          obtain ⟨t1, x1, rfl⟩ : ∃ t1 x1, e1 = .returned (.tuple #[t1, x1]) := by cases he1 <;> exact ⟨_, _, rfl⟩
          go_wp2_with fail
          refine HW.mono ?_
          intro e w11 hEnd
          obtain ⟨D2, k2, hF11, hL11⟩ := else_write hI7 hT rfl hEnd
          have hee := hEnd.e
          subst hee
          have hT11 := hEnd.turned
          have hb11 := hb10.trans (hT11.below hb10.size hpw hbmw)
          have Hs11 : Stays w8.heap.size w9 w11 := Stays.turned hT11 hplt hbmlt
          have HL2 := loadElse_any w11 p bm D D2 k2 T s root i hF11 hL11 (hE.later hb11) hroot hO HK.out
          have hz11 : w8.heap.size ≤ w11.heap.size := Nat.le_trans hb9.size hT11.size
          clear HW hEnd hT11 Hs8
          go_wp2_with fail
          refine HL2.mono ?_
          rintro e2 w12 ⟨he2, hb12⟩
          have hb13 := hb11.trans (hb12.mono hb11.size)
          have Hs12 := Hs11.trans (Stays.of (B := w8.heap.size) hb12)
          obtain ⟨F3, hF3⟩ : ∃ F3 : Nat, F3 = if Maps.has D2 (keyB s) = true then 0 else 5 := ⟨_, rfl⟩
          have HR := remove_any w12 p bm D2 k2 s (hF11.later hb12) hsm F3 hF3
          clear hF3
          obtain ⟨t2, x2, rfl⟩ : ∃ t2 x2, e2 = .returned (.tuple #[t2, x2]) := by cases he2 <;> exact ⟨_, _, rfl⟩
          clear HL2 hF11 Hs11
          go_wp2_with fail
          refine HR.mono ?_
          rintro e w14 ⟨rfl, hF14, hT14⟩
          have hb14 := hb13.trans (hT14.below hb13.size hpw hbmw)
          have Hs14 := Hs12.trans (Stays.turned hT14 hplt hbmlt)
          have Hq14 : Stays w11.heap.size w12 w14 := Stays.turned hT14 (Nat.lt_of_lt_of_le hplt hz11) (Nat.lt_of_lt_of_le hbmlt hz11)
          have HL3 := loadElse_any w14 p bm D (D2.del (keyB s)) k2 T s root i hF14 hL11.del (hE.later hb14) hroot hO HK.out
          clear HR hT14 Hs12
          go_wp2_with fail
          refine HL3.mono ?_
          rintro e3 w15 ⟨he3, hb15⟩
          have hb16 := hb14.trans (hb15.mono hb14.size)
          have Hs15 := Hs14.trans (Stays.of (B := w8.heap.size) hb15)
          have Hq15 := Hq14.trans (Stays.of (B := w11.heap.size) hb15)
          clear HL3 Hs14 Hq14 HK hE hF8 hI7 hT hL11 hF14 hplt hbmlt hb14 hb13 hb11 hb10 hb12 hb15 hb9 hbB
          generalize hg1 : (Ending.returned (.tuple #[t1, x1])) = q1 at he1
          generalize hg2 : (Ending.returned (.tuple #[t2, x2])) = q2 at he2
          cases he1 with
          | bad F1 h1 hf1 =>
            injection hg1 with hg1
            injection hg1 with hg1
            simp only [Array.mk.injEq, List.cons.injEq, and_true] at hg1
            obtain ⟨rfl, rfl⟩ := hg1
            cases he2 with
            | ok m2 B2 P2 Q2 u2 g2 A2 C2 G2 h2 hu2 => exact (h1.not h2).elim
            | bad F2 h2 hf2 =>
              injection hg2 with hg2
              injection hg2 with hg2
              simp only [Array.mk.injEq, List.cons.injEq, and_true] at hg2
              obtain ⟨rfl, rfl⟩ := hg2
              obtain rfl := h1.unique h2
              cases he3 with
              | ok m3 B3 P3 Q3 u3 g3 A3 C3 G3 h3 hu3 => exact (h1.not h3).elim
              | bad F3 h3 hf3 =>
                obtain rfl := h1.unique h3
                have HNu := numberErr_any F1
                have HSP := fun W => sameParts_none none none 0 0 W
                generalize errV F1 = ev at *
                go_wp2_with (first | (go_at_call 28; refine (HNu _).mono ?_; rintro e w' ⟨rfl, rfl⟩) | (go_at_call 15; refine (HSP _).mono ?_; rintro e w' ⟨rfl, q, rfl⟩))
                go_ret
                exact ⟨rfl, by first | exact hb16 | exact below_drewN hb16 _ | exact below_drewN (below_drewN hb16 _) _⟩
          | ok m1 B1 P1 Q1 u1 g1 A1 C1 G1 h1 hu1 =>
            injection hg1 with hg1
            injection hg1 with hg1
            simp only [Array.mk.injEq, List.cons.injEq, and_true] at hg1
            obtain ⟨rfl, rfl⟩ := hg1
            cases he2 with
            | bad F2 h2 hf2 => exact (h2.not h1).elim
            | ok m2 B2 P2 Q2 u2 g2 A2 C2 G2 h2 hu2 =>
              injection hg2 with hg2
              injection hg2 with hg2
              simp only [Array.mk.injEq, List.cons.injEq, and_true] at hg2
              obtain ⟨rfl, rfl⟩ := hg2
              obtain ⟨rfl, rfl, rfl, rfl⟩ := h2.unique h1
              cases he3 with
              | bad F3 h3 hf3 => exact (h3.not h1).elim
              | ok m3 B3 P3 Q3 u3 g3 A3 C3 G3 h3 hu3 =>
                obtain ⟨rfl, rfl, rfl, rfl⟩ := h3.unique h1
                obtain ⟨_, rfl⟩ := h1.of.unique hO
                obtain ⟨a1, c1, rfl, _, r1⟩ := parts_row (hu1.stays Hs15)
                obtain ⟨a2, c2, rfl, _, r2⟩ := parts_row (hu2.stays Hq15)
                obtain ⟨a3, c3, rfl, _, r3⟩ := parts_row hu3
                have HNu := number_nil
                have HS2 := sameParts_true m3 _ _ _ _ a1 a2 c1 c2 _ _ _ _ w15 (by omega) hok r1 r2
                have HS3 := fun q => sameParts_true m3 _ _ _ _ a1 a3 c1 c3 _ _ _ _ (w15.drewN q) (by omega) hok (r1.later (below_drewN (Below.refl _ _) q)) (r3.later (below_drewN (Below.refl _ _) q))
                clear hu1 hu2 hu3 r1 r2 r3 hok Hs15 Hq15 h1 h2 h3 hO
                go_wp2_with (first | (go_at_call 28; refine (HNu _).mono ?_; rintro e w' ⟨rfl, rfl⟩) | (go_at_call_of 15 (Value.slice a2 m3 c2); refine HS2.mono ?_; rintro e w' ⟨rfl, q, rfl⟩) | (go_at_call_of 15 (Value.slice a3 m3 c3); refine (HS3 _).mono ?_; rintro e w' ⟨rfl, q, rfl⟩))
                go_ret
                exact ⟨rfl, by first | exact below_drewN (below_drewN hb16 _) _ | exact below_drewN hb16 _⟩
end Go.Proofs.YtanfejgcjifhpabGreatDoor
