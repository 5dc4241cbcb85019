/-
  The law TopStale returns true, for every row of acts, every root, number, name and text; memory that was there stays as it was.
-/
import Derived.Test.YtanfejgcjifhpacGreatDoorBoundFact
import Derived.Test.YtanfejgcjifhpacGreatDoorPlainStale
import Derived.Test.YtanfejgcjifhpacGreatDoorQuietLater
import Derived.Test.YtanfejgcjifhpacGreatDoorNumber
import Derived.Test.YtanfejgcjifhpacGreatDoorActsAt
import Derived.RegionTactic
import Derived.BigRegion
namespace Go.Proofs.YtanfejgcjifhpacGreatDoor
open Go.RowKit Go.Maps

/-- what stands behind the second Make. -/
structure Again (w W : World) (p bm be : Nat) (D : DataW Unit) (k : Nat) (T : ByteArray → ByteArray) (S : ByteArray → Int) (root : ByteArray) (m : Nat) (B : Nat → Int) (aP : Option Addr) (cP : Nat) (q : Value) (B0 : Nat) : Prop where
  files : FilesAt W p bm D k
  inv : Inv D k
  names : NamesOk D
  few : k < 1000
  texts : Texts D T
  stamps : Stamps D S
  of : OfIs (rdD D T) root 0 m
  c0 : W.cell? ⟨be, 0, none⟩ = some (.string root)
  c1 : W.cell? ⟨be, 1, none⟩ = some (.slice aP m cP)
  c2 : W.cell? ⟨be, 2, none⟩ = some q
  own : W.ownsRow B0 72 3 (.slice aP m cP) m (joinC (stmC (nmAt (rdD D T) root) S B) m)
  below : Below w.heap.size w W
theorem stale_after {D3 : DataW Unit} {k2 : Nat} {S4 : ByteArray → Int} {x t : ByteArray} {nm : Nat → ByteArray} {st : Nat → Int} {m i0 : Nat} (hI3 : Inv D3 k2) (hS4 : Stamps (D3.put (keyB x) (fileD t.data.toList ((k2 : Int) + 1))) S4) (hi0 : i0 < m) (hx : nm i0 = x) (hst : st i0 ≤ (k2 : Int)) : staleTo (D3.put (keyB x) (fileD t.data.toList ((k2 : Int) + 1))) S4 nm st m = true := by
  obtain ⟨h1, h2⟩ := stamp_new hI3 hS4
  refine anyTo_yes hi0 ?_
  rw [hx, h1, h2, decide_eq_false (by omega)]
  rfl
theorem else_write3 {D : DataW Unit} {k : Nat} {s text : ByteArray} {nm : Nat → ByteArray} {m : Nat} {S : ByteArray → Int} (hI : Inv D k) (hN : NamesOk D) (hS : Stamps D S) (hh : ∀ j, j < m → Maps.has D (keyB (nm j)) = true) {w w' : World} {p bm F : Nat} {e : Ending} (hF : F = writeF D k s text) (h : WriteEnd w p bm D k s text F e w') :
    ∃ D' k', FilesAt w' p bm D' k' ∧ Inv D' k' ∧ NamesOk D' ∧ k' ≤ k + 1 ∧ ∀ S', Stamps D' S' → staleTo D' S' nm (fun j => S (nm j)) m = (decide (F = 0) && anyTo (fun j => decide (nm j = s)) m) := by
  by_cases h0 : F = 0
  · refine ⟨_, _, h.yes h0, hI.put (hF.symm.trans h0), hN.put (hF.symm.trans h0), Nat.le_refl _, fun S' hS' => ?_⟩
    rw [stale_own hI hS hS' hh, decide_eq_true h0, Bool.true_and]
  · refine ⟨_, _, h.no h0, hI, hN, Nat.le_succ _, fun S' hS' => ?_⟩
    rw [fresh_still hI hS hS' hh, decide_eq_false h0, Bool.false_and]

set_option maxRecDepth 100000 in
set_option maxHeartbeats 8000000 in
theorem topStale_walk (a : Option Addr) (n c : Nat) (X : Nat → ActF) (root : ByteArray) (which : Int) (s text : ByteArray) (w : World) (hE : Env w) (hr : ActsRow w a n X) (hf : ∀ i, i < n → ActFit (X i)) :
    Calls Tryz.prog 6 #[.slice a n c, .string root, .int .i64 which, .string s, .string text] w fun e w' => e = .returned (.bool true) ∧ Below w.heap.size w w' := by
  have HBd := bound_any w hE
  go_enter Tryz.func6, Tryz.ntmps6
  go_wp2_with fail
  refine HBd.mono ?_
  rintro e w4 ⟨rfl, hb4⟩
  clear HBd
  have HL := lightActs_any a n c 30 X w4 (by decide) (hr.later hb4) hf
  clear hf
  go_wp2_with fail
  refine HL.mono ?_
  rintro e w5 ⟨⟨b, rfl, hl⟩, hb5⟩
  have hb6 := hb4.trans (hb5.mono hb4.size)
  clear HL hb5 hb4
  cases b with
  | false =>
    clear hl hr
    go_wp2
    go_ret
    exact ⟨rfl, hb6⟩
  | true =>
    obtain ⟨h30, hsz⟩ := hl rfl
    clear hl
    by_cases hs : (20 : Int) < (root.size : Int)
    · go_wp2
      go_ret
      exact ⟨rfl, hb6⟩
    by_cases hs2 : (20 : Int) < (s.size : Int)
    · go_wp2
      go_ret
      exact ⟨rfl, hb6⟩
    by_cases hs3 : (1300 : Int) < (text.size : Int)
    · go_wp2
      go_ret
      exact ⟨rfl, hb6⟩
    have hroot : root.size ≤ maxLen := by simp only [maxLen]; omega
    have hsm : s.size ≤ maxLen := by simp only [maxLen]; omega
    have HN := new_any w5
    go_wp2_with fail
    refine HN.mono ?_
    rintro e w6 ⟨p, bm, rfl, hp, hbm, hF, hb7⟩
    clear hs hs2 hs3
    have hb8 := hb6.trans (hb7.mono hb6.size)
    have HD := done_any w6 p bm (.map []) 0 a n c X w.heap.size hF Inv.empty hb8.size (Nat.le_trans hb6.size hp) (Nat.le_trans hb6.size hbm) (by omega) (fun W hW => hr.later (hb8.trans hW)) hsz
    clear HN
    go_wp2_with fail
    refine HD.mono ?_
    rintro e w7 ⟨rfl, hF7, hT7⟩
    have hb9 := hb8.trans (hT7.below hb8.size (Nat.le_trans hb6.size hp) (Nat.le_trans hb6.size hbm))
    have hI7 := (doneD_inv (X := X) (q := (.map [], 0)) Inv.empty n).1
    obtain ⟨hN7, hk7⟩ := doneD_more (X := X) (q := (.map [], 0)) NamesOk.empty n
    have hpw : w.heap.size ≤ p := Nat.le_trans hb6.size hp
    have hbmw : w.heap.size ≤ bm := Nat.le_trans hb6.size hbm
    generalize (doneD (.map [], 0) X n).1 = D at *
    generalize (doneD (.map [], 0) X n).2 = k at *
    obtain ⟨T, hT⟩ := texts_some D
    obtain ⟨S, hS⟩ := stamps_some D
    have HM1 := make_any w7 p bm D k T S root hF7 hI7 hT hS (hE.later hb9) hroot
    have hplt : p < w7.heap.size := hF7.lt
    have hbmlt : bm < w7.heap.size := hF7.ltm
    have hk30 : k ≤ 30 := by simp only [Nat.zero_add] at hk7; omega
    clear HD hF hb7 hb8 hb6 hT7 hr hsz hp hbm h30 hk7
    go_wp2_with fail
    refine HM1.mono ?_
    rintro e w8 ⟨he1, hbA⟩
    have hbB := hb9.trans (hbA.mono hb9.size)
    have hF8 := hF7.later hbA
    clear HM1 hb9 hF7
    cases he1 with
    | bad F1 h1 hf1 =>
      obtain ⟨z, hz⟩ := errV_pos hf1
      rw [hz]
      clear hF8 hI7 hT hS hE h1 hf1 hz hN7
      go_wp2
      go_ret
      exact ⟨rfl, hbB.alloc hbB.size _⟩
    | ok m B P Q aP aQ cP cQ h1 hp1 hq1 =>
      have hal : Below w8.heap.size w8 (w8.alloc (.cells #[.string root, .slice aP m cP, .slice aQ (patsAt (rdD D T) root m B P Q).length cQ] 26)) := (Below.refl _ _).alloc (Nat.le_refl _) _
      obtain ⟨hSc, _, _⟩ := scope_of h1.of (rd_few (T := T) hI7)
      have hm6 : m ≤ 6 := hSc.few
      have hm0 : 0 < m := hSc.pos
      have hhas := made_has hI7 h1.of
      have hnz : ∀ j, j < m → (nmAt (rdD D T) root j).size ≤ maxLen := fun j hj => by
        have h2 := nameF_len (hN7 _ (hhas j hj))
        have : (nmAt (rdD D T) root j).data.toList.length = (nmAt (rdD D T) root j).size := by simp
        simp only [maxLen]
        omega
      have hbC := hbB.trans (hal.mono hbB.size)
      have hF9 := hF8.later hal
      have hrow := (rows_stm hp1).later hal
      have c0 : (w8.alloc (.cells #[.string root, .slice aP m cP, .slice aQ (patsAt (rdD D T) root m B P Q).length cQ] 26)).cell? ⟨w8.heap.size, 0, none⟩ = some (.string root) := by simp [go_sem]
      have c1 : (w8.alloc (.cells #[.string root, .slice aP m cP, .slice aQ (patsAt (rdD D T) root m B P Q).length cQ] 26)).cell? ⟨w8.heap.size, 1, none⟩ = some (.slice aP m cP) := by simp [go_sem]
      have c2 : (w8.alloc (.cells #[.string root, .slice aP m cP, .slice aQ (patsAt (rdD D T) root m B P Q).length cQ] 26)).cell? ⟨w8.heap.size, 2, none⟩ = some (.slice aQ (patsAt (rdD D T) root m B P Q).length cQ) := by simp [go_sem]
      have hblk : (w8.alloc (.cells #[.string root, .slice aP m cP, .slice aQ (patsAt (rdD D T) root m B P Q).length cQ] 26)).heap[w8.heap.size]? = some (.cells #[.string root, .slice aP m cP, .slice aQ (patsAt (rdD D T) root m B P Q).length cQ] 26 (0, 0)) := by
        show (w8.heap.push _)[w8.heap.size]? = _
        rw [Array.getElem?_push_size]
      have hbo : w7.heap.size ≤ w8.heap.size := hbA.size
      have hown := hp1
      clear hp1 hq1 hF8 hbB hbA hSc
      generalize (patsAt (rdD D T) root m B P Q).length = lq at *
      go_wp2
      generalize w8.alloc (.cells #[.string root, .slice aP m cP, .slice aQ lq cQ] 26) = w8a at *
      have hown8 := owns_below hown hal
      generalize w8.heap.size = be at *
      clear hown hal
      go_loopw [15, 16] (fun x y wr => ∃ i : Nat, i ≤ m ∧ y = .int .i64 i ∧ x = .bool (anyTo (fun j => decide (nmAt (rdD D T) root j = s)) i) ∧ wr = w8a) (fun _ y _ => m - (intOf y).toNat)
      case atStart => exact ⟨0, Nat.zero_le _, rfl, rfl, rfl⟩
      case round =>
        obtain ⟨i, hi, rfl, rfl, hwr⟩ := hrel
        replace hwr := hwr.symm
        subst hwr
        by_cases hlt : i < m
        · rcases hrow with h0 | ⟨bu, ou, rfl, hcs⟩
          · omega
          have hcu := (hcs i hlt).1
          have Hs : Hid (anyTo (fun j => decide (nmAt (rdD D T) root j = s)) (i + 1) = (anyTo (fun j => decide (nmAt (rdD D T) root j = s)) i || decide (nmAt (rdD D T) root i = s))) := rfl
          clear hcs
          cases hacc : anyTo (fun j => decide (nmAt (rdD D T) root j = s)) i with
          | true =>
            rw [hacc, Bool.true_or] at Hs
            clear hacc
            go_wp2
            go_roundw
            case rel => exact ⟨i + 1, by omega, by go_num, by rw [Hs.out], by first | rfl | trivial⟩
            case measure => simp [intOf]; omega
          | false =>
            rw [hacc, Bool.false_or] at Hs
            clear hacc
            by_cases he : nmAt (rdD D T) root i = s
            · have hbe : ((nmAt (rdD D T) root i).toList == s.toList) = true := by rw [toList_beq]; exact decide_eq_true he
              rw [decide_eq_true he] at Hs
              clear he
              go_wp2
              go_roundw
              case rel => exact ⟨i + 1, by omega, by go_num, by rw [Hs.out], by first | rfl | trivial⟩
              case measure => simp [intOf]; omega
            · have hbe : ((nmAt (rdD D T) root i).toList == s.toList) = false := by rw [toList_beq]; exact decide_eq_false he
              rw [decide_eq_false he] at Hs
              clear he
              go_wp2
              go_roundw
              case rel => exact ⟨i + 1, by omega, by go_num, by rw [Hs.out], by first | rfl | trivial⟩
              case measure => simp [intOf]; omega
        · have e : i = m := by omega
          subst e
          obtain ⟨F, hFE⟩ : ∃ F, F = writeF D k s text := ⟨_, rfl⟩
          have HW := write_any w8a p bm D k s text hF9 hsm (Nat.le_trans hI7.size (by decide))
          rw [← hFE] at HW
          go_wp2_with fail
          refine HW.mono ?_
          intro e w11 hEnd
          obtain ⟨D2, k2, hF11, hI11, hN11, hk11, hst11⟩ := else_write3 (nm := nmAt (rdD D T) root) hI7 hN7 hS hhas hFE hEnd
          have hee := hEnd.e
          subst hee
          have hT11 := hEnd.turned
          have hb12 := hbC.trans (hT11.below hbC.size hpw hbmw)
          have hstay : Stays w7.heap.size w8a w11 := Stays.turned hT11 hplt hbmlt
          obtain ⟨T2, hT2⟩ := texts_some D2
          obtain ⟨S2, hS2⟩ := stamps_some D2
          replace c0 := cell_stays c0 hstay hbo
          replace c1 := cell_stays c1 hstay hbo
          replace c2 := cell_stays c2 hstay hbo
          have hblk2 : w11.heap[be]? = some (.cells #[.string root, .slice aP i cP, .slice aQ lq cQ] 26 (0, 0)) := (hstay.2 be hbo (Array.getElem?_eq_some_iff.1 hblk).1).trans hblk
          have hrow2 := rows_stm (owns_stays hown8 hstay)
          have hstale := hst11 S2 hS2
          have HFr := fun (W : World) (hW : Below w11.heap.size w11 W) => fresh_any W p bm D2 k2 S2 root i lq (nmAt (rdD D T) root) (fun j => S (nmAt (rdD D T) root j)) B aP aQ cP cQ (hF11.later hW) hS2 (by omega) hnz (hrow2.later hW)
          have hk2 : k2 < 1000 := by omega
          have hbe1 : be ≠ p := by omega
          have hbe2 : be ≠ bm := by omega
          have hbw : w.heap.size ≤ be := by have := hb12.size; omega
          clear HW hEnd hT11 hstay hblk hown8 hrow hF9 hbC hst11 hT hS hI7 hN7 hhas hk11 hFE hrow2
          generalize anyTo (fun j => decide (nmAt (rdD D T) root j = s)) i = ow at *
          have hval : (!staleTo D2 S2 (nmAt (rdD D T) root) (fun j => S (nmAt (rdD D T) root j)) i && decide (0 < i)) = (!(decide (F = 0)) || !ow) := by
            rw [hstale, decide_eq_true hm0, Bool.and_true]
            cases decide (F = 0) <;> cases ow <;> rfl
          rw [hval] at HFr
          clear hval hstale h1 hnz
          generalize hfb : decide (F = 0) = fb at *
          have herr : (fb = true ∧ errV F = .nilIface) ∨ (fb = false ∧ ∃ z : Int, errV F = .iface 83 (.int .i64 z)) := by
            by_cases h0 : F = 0
            · subst h0; exact .inl ⟨by rw [← hfb]; rfl, rfl⟩
            · exact .inr ⟨by rw [← hfb]; exact decide_eq_false h0, errV_pos h0⟩
          clear hfb
          generalize errV F = ev at *
          have HM2 := fun (W : World) (hW : Below w11.heap.size w11 W) => make_any W p bm D2 k2 T2 S2 root (hF11.later hW) hI11 hT2 hS2 (hE.later (hb12.trans (hW.mono hb12.size))) hroot
          have hsome := later_some w11
          have e0 := fun x : Later w11 => x.cell c0
          have e1 := fun x : Later w11 => x.cell c1
          have e2 := fun x : Later w11 => x.cell c2
          have hrest : ∀ W : World, Below w11.heap.size w11 W → True := fun _ _ => trivial
          clear hrest
          go_upto_region 17 with fail
          go_cut [84] from 75 to 84 (fun y wc => y = .bool false ∧ Below w11.heap.size w11 wc)
          case first =>
            clear HM2 hblk2 c0 c1 c2 hE hI11 hN11 hT2 hS2 hF11
            rcases herr with ⟨rfl, rfl⟩ | ⟨rfl, z, rfl⟩
            · cases ow with
              | true =>
                refine quiet_later (by kernel_rfl) (by kernel_rfl) ?_
                repeat (go_big_quiet_step (refine Calls.later_of (HFr _ (Subtype.property _))))
                refine wpQuiet_nil ?_
                intro _ hw'
                obtain ⟨x, rfl⟩ := hw'
                go_wp2
                go_meet
                exact ⟨rfl, x.2⟩
              | false =>
                refine quiet_later (by kernel_rfl) (by kernel_rfl) ?_
                repeat (go_big_quiet_step (refine Calls.later_of (HFr _ (Subtype.property _))))
                refine wpQuiet_nil ?_
                intro _ hw'
                obtain ⟨x, rfl⟩ := hw'
                go_wp2
                go_meet
                exact ⟨rfl, x.2⟩
            · refine quiet_later (by kernel_rfl) (by kernel_rfl) ?_
              repeat (go_big_quiet_step (refine Calls.later_of (HFr _ (Subtype.property _))))
              refine wpQuiet_nil ?_
              intro _ hw'
              obtain ⟨x, rfl⟩ := hw'
              go_wp2
              go_meet
              exact ⟨rfl, x.2⟩
          case rest =>
            obtain ⟨rfl, hbX⟩ := hcut
            have HM := HM2 _ hbX
            have hz7 : w7.heap.size ≤ w11.heap.size := by have := (Array.getElem?_eq_some_iff.1 hblk2).1; omega
            replace hz7 := Nat.le_trans hz7 hbX.size
            clear HM2 HFr e0 e1 e2 hsome herr
            go_wp2_with fail
            refine HM.mono ?_
            rintro e w13 ⟨he2, hb13⟩
            have hb14 := hbX.trans (hb13.mono hbX.size)
            have hb15 := hb12.trans (hb14.mono hb12.size)
            have hblk3 : w13.heap[be]? = some (.cells #[.string root, .slice aP i cP, .slice aQ lq cQ] 26 (0, 0)) := (hb14.block be (Array.getElem?_eq_some_iff.1 hblk2).1).trans hblk2
            have d0 := cell_later hb14 c0
            have d1 := cell_later hb14 c1
            have d2 := cell_later hb14 c2
            have f0 : w13.frozen? ⟨be, 0, none⟩ = false := by simp [World.frozen?, hblk3]
            have f1 : w13.frozen? ⟨be, 1, none⟩ = false := by simp [World.frozen?, hblk3]
            have f2 : w13.frozen? ⟨be, 2, none⟩ = false := by simp [World.frozen?, hblk3]
            have hF13 := hF11.later hb14
            clear HM hb13 hb14 hbX c0 c1 c2 hblk2 hF11
            cases he2 with
            | bad F2 h2 hf2 =>
              obtain ⟨z, hz⟩ := errV_pos hf2
              rw [hz]
              have hNB := below_store3 hb15 hbw (.string ⟨#[]⟩) (.slice none 0 0) (.slice none 0 0)
              clear hI11 hT2 hS2 hE h2 hf2 hz hN11 hF13
              go_wp2
              go_ret
              exact ⟨rfl, hNB⟩
            | ok m2 B2 P2 Q2 aP2 aQ2 cP2 cQ2 h2 hp2 hq2 =>
              have hNB := below_store3 hb15 hbw (.string root) (.slice aP2 m2 cP2) (.slice aQ2 (patsAt (rdD D2 T2) root m2 B2 P2 Q2).length cQ2)
              have hFX := ((hF13.set (i := 0) (v := .string root) hbe1 hbe2).set (i := 1) (v := .slice aP2 m2 cP2) hbe1 hbe2).set (i := 2) (v := .slice aQ2 (patsAt (rdD D2 T2) root m2 B2 P2 Q2).length cQ2) hbe1 hbe2
              have hpX := owns_store3 hp2 hblk3 (by decide) (.string root) (.slice aP2 m2 cP2) (.slice aQ2 (patsAt (rdD D2 T2) root m2 B2 P2 Q2).length cQ2)
              have hb0 := heap_setCell w13 be 0 _ _ (.string root) hblk3
              have hb1 := heap_setCell _ be 1 _ _ (.slice aP2 m2 cP2) hb0
              have hb2 := heap_setCell _ be 2 _ _ (.slice aQ2 (patsAt (rdD D2 T2) root m2 B2 P2 Q2).length cQ2) hb1
              have hA : Again w (((w13.setCell ⟨be, 0, none⟩ (.string root)).setCell ⟨be, 1, none⟩ (.slice aP2 m2 cP2)).setCell ⟨be, 2, none⟩ (.slice aQ2 (patsAt (rdD D2 T2) root m2 B2 P2 Q2).length cQ2)) p bm be D2 k2 T2 S2 root m2 B2 aP2 cP2 (.slice aQ2 (patsAt (rdD D2 T2) root m2 B2 P2 Q2).length cQ2) w7.heap.size :=
                ⟨hFX, hI11, hN11, hk2, hT2, hS2, h2.of, by simp [World.cell?, hb2], by simp [World.cell?, hb2], by simp [World.cell?, hb2], World.ownsRow.mono hpX hz7, hNB⟩
              clear hNB hFX hpX hb0 hb1 hb2 hblk3 hp2 hq2 hI11 hN11 hk2 hT2 hS2 h2 hF13 hb15 hb12
              generalize (patsAt (rdD D2 T2) root m2 B2 P2 Q2).length = lq2 at *
              go_upto_region 22 with fail
              clear d0 d1 d2 f0 f1 f2
              generalize ((w13.setCell ⟨be, 0, none⟩ (.string root)).setCell ⟨be, 1, none⟩ (.slice aP2 m2 cP2)).setCell ⟨be, 2, none⟩ (.slice aQ2 lq2 cQ2) = wA at *
              obtain ⟨hSc2, _, _⟩ := scope_of hA.of (rd_few (T := T2) hA.inv)
              have hm2 : m2 ≤ 6 := hSc2.few
              have hm20 : 0 < m2 := hSc2.pos
              obtain ⟨i0, hi0, hidx⟩ := which_of which hm20
              have hsz2 : (T2 (nmAt (rdD D2 T2) root i0)).size ≤ 1200 := rd_text (D := D2) (by rw [hSc2.read i0 hi0])
              have hhas2 := made_has hA.inv hA.of
              have hnz2 : ∀ j, j < m2 → (nmAt (rdD D2 T2) root j).size ≤ maxLen := fun j hj => by
                have h2 := nameF_len (hA.names _ (hhas2 j hj))
                have : (nmAt (rdD D2 T2) root j).data.toList.length = (nmAt (rdD D2 T2) root j).size := by simp
                simp only [maxLen]
                omega
              have c1 := hA.c1
              have hrow := rows_stm hA.own
              have hmz : ¬ (m2 : Int) = 0 := by omega
              have hmi : (i0 : Int) < (m2 : Int) := by omega
              rcases hrow with h0 | ⟨bk, o, rfl, hcs⟩
              · omega
              obtain ⟨x0, x1, x2⟩ := hcs i0 hi0
              have hlb := World.block_lt_of_cell? _ _ c1
              have hlk := World.block_lt_of_cell? _ _ x0
              have hmzN : ¬ m2 = 0 := by omega
              have hlb2 : be ≠ wA.heap.size := Nat.ne_of_lt hlb
              have hlk2 : bk ≠ wA.heap.size := Nat.ne_of_lt hlk
              clear hSc2 hcs
              go_cut [17] from 93 to 102 (fun y wc => ∃ b17 : Nat, y = .pointer (some ⟨b17, 0, none⟩) ∧ wA.heap.size ≤ b17 ∧ Below wA.heap.size wA wc ∧ wc.cell? ⟨b17, 0, none⟩ = some (.string (nmAt (rdD D2 T2) root i0)))
              case first =>
                clear hA hhas2 hnz2 hsz2 hE
                go_region
                all_goals
                  go_wp2
                  go_meet
                  exact ⟨_, rfl, by first | exact Nat.le_refl _ | simp, by first | exact ((Below.refl _ _).drew).alloc (Nat.le_refl _) _ | exact (Below.refl _ _).drew.alloc (by simp) _, by simp [go_sem]⟩
              case rest =>
                obtain ⟨b17, rfl, hb17, hbY, s0⟩ := hcut
                have hpA := hA.files.lt
                have hbmA := hA.files.ltm
                have HR := fileRead_any _ p bm D2 k2 (nmAt (rdD D2 T2) root i0) (hA.files.later hbY) (hnz2 i0 hi0)
                clear x0 x1 x2 c1 hidx hmz hmi hlb hlk hmzN hlb2 hlk2
                go_wp2_with fail
                refine HR.mono ?_
                rintro e w15 ⟨⟨t, nst, f, rfl, hRI⟩, hb15⟩
                obtain ⟨rfl, hat⟩ := hRI.yes (hhas2 i0 hi0)
                obtain rfl := hA.texts.is _ t nst (hhas2 i0 hi0) hat
                have hbZ := hbY.trans (hb15.mono hbY.size)
                have hF15 := hA.files.later hbZ
                have hown15 := owns_below hA.own hbZ
                have e0 := cell_later hbZ hA.c0
                have e1 := cell_later hbZ hA.c1
                have e2 := cell_later hbZ hA.c2
                have hbW15 := hA.below.trans (hbZ.mono hA.below.size)
                replace s0 := cell_later hb15 s0
                have hs17 : b17 ≠ p ∧ b17 ≠ bm ∧ b17 < w15.heap.size := ⟨by omega, by omega, World.block_lt_of_cell? _ _ s0⟩
                clear hpA hbmA hb17
                have q0 : errV 0 = .nilIface := rfl
                rw [q0]
                clear HR hRI hat hb15 hbY hbZ q0
                by_cases hwh : 0 < bits .and .i64 which 1024
                · have HRm := remove_any w15 p bm D2 k2 (nmAt (rdD D2 T2) root i0) hF15 (hnz2 i0 hi0) 0 (by rw [if_pos (hhas2 i0 hi0)])
                  have q0 : errV 0 = .nilIface := rfl
                  rw [q0] at HRm
                  clear q0
                  go_wp2_with fail
                  refine HRm.mono ?_
                  rintro e w16 ⟨rfl, hF16, hT16⟩
                  replace s0 : w16.cell? ⟨b17, 0, none⟩ = some (.string (nmAt (rdD D2 T2) root i0)) := (World.cell?_of_block (hT16.block b17 hs17.2.2 hs17.1 hs17.2.1)).trans s0
                  clear HRm
                  have hw0 := write_removed (t := T2 (nmAt (rdD D2 T2) root i0)) hA.inv hA.names (hhas2 i0 hi0) hsz2 (by have := hA.few; omega)
                  have HW2 := write_any w16 p bm (D2.del (keyB (nmAt (rdD D2 T2) root i0))) k2 (nmAt (rdD D2 T2) root i0) (T2 (nmAt (rdD D2 T2) root i0)) hF16 (hnz2 i0 hi0) (Nat.le_trans hA.inv.del.size (by decide))
                  rw [hw0] at HW2
                  go_wp2_with fail
                  refine HW2.mono ?_
                  intro e w18 hEnd
                  have hee := hEnd.e
                  have q0 : errV 0 = .nilIface := rfl
                  rw [q0] at hee
                  subst hee
                  have hF18 := hEnd.yes rfl
                  have hT18 : Turned p bm w15 w18 := hT16.trans hEnd.turned
                  obtain ⟨S4, hS4⟩ := stamps_some ((D2.del (keyB (nmAt (rdD D2 T2) root i0))).put (keyB (nmAt (rdD D2 T2) root i0)) (fileD (T2 (nmAt (rdD D2 T2) root i0)).data.toList ((k2 : Int) + 1)))
                  have hstale := stale_after (nm := nmAt (rdD D2 T2) root) (st := fun j => S2 (nmAt (rdD D2 T2) root j)) hA.inv.del hS4 hi0 rfl (stamp_le hA.inv hA.stamps (hhas2 i0 hi0))
                  have hst18 : Stays w7.heap.size w15 w18 := Stays.turned hT18 hplt hbmlt
                  have hrow18 := rows_stm (owns_stays hown15 hst18)
                  have g0 := cell_stays e0 hst18 hbo
                  have g1 := cell_stays e1 hst18 hbo
                  have g2 := cell_stays e2 hst18 hbo
                  have hb18 := hbW15.trans (hT18.below hbW15.size hpw hbmw)
                  have HU := use_stale w18 p bm _ (k2 + 1) S4 root m2 lq2 (nmAt (rdD D2 T2) root) (fun j => S2 (nmAt (rdD D2 T2) root j)) B2 _ aQ2 cP2 cQ2 hF18 hS4 (by omega) hnz2 hrow18 hstale
                  have HFr := fun (W : World) (hW : Below w18.heap.size w18 W) => fresh_any W p bm _ (k2 + 1) S4 root m2 lq2 (nmAt (rdD D2 T2) root) (fun j => S2 (nmAt (rdD D2 T2) root j)) B2 _ aQ2 cP2 cQ2 (hF18.later hW) hS4 (by omega) hnz2 (hrow18.later hW)
                  rw [hstale] at HFr
                  simp only [Bool.not_true, Bool.false_and] at HFr
                  have HNu := number_errno 10
                  clear HW2 hEnd hT18 hst18 hrow18 hstale hF18 hS4 hw0 hown15 e0 e1 e2
                  go_wp2_with fail
                  refine HU.mono ?_
                  rintro e w19 ⟨rfl, hb19⟩
                  have HFr2 := HFr w19 hb19
                  replace g0 := cell_later hb19 g0
                  replace g1 := cell_later hb19 g1
                  replace g2 := cell_later hb19 g2
                  have hb20 := hb18.trans (hb19.mono hb18.size)
                  clear HU HFr hb19 hb18
                  go_wp2_with fail
                  refine HFr2.mono ?_
                  rintro e w21 ⟨rfl, hb21⟩
                  have hb22 := hb20.trans (hb21.mono hb20.size)
                  clear HFr2 hb21 hb20
                  go_wp2_with (go_at_call 34; refine (HNu _).mono ?_; rintro e w' ⟨rfl, rfl⟩)
                  go_ret
                  exact ⟨rfl, hb22⟩
                · clear hs17
                  have hw0 := write_again (t := T2 (nmAt (rdD D2 T2) root i0)) hA.inv hA.names (hhas2 i0 hi0) hsz2 (by have := hA.few; omega)
                  have HW2 := write_any w15 p bm D2 k2 (nmAt (rdD D2 T2) root i0) (T2 (nmAt (rdD D2 T2) root i0)) hF15 (hnz2 i0 hi0) (Nat.le_trans hA.inv.size (by decide))
                  rw [hw0] at HW2
                  go_wp2_with fail
                  refine HW2.mono ?_
                  intro e w18 hEnd
                  have hee := hEnd.e
                  have q0 : errV 0 = .nilIface := rfl
                  rw [q0] at hee
                  subst hee
                  have hF18 := hEnd.yes rfl
                  have hT18 : Turned p bm w15 w18 := hEnd.turned
                  obtain ⟨S4, hS4⟩ := stamps_some (D2.put (keyB (nmAt (rdD D2 T2) root i0)) (fileD (T2 (nmAt (rdD D2 T2) root i0)).data.toList ((k2 : Int) + 1)))
                  have hstale := stale_after (nm := nmAt (rdD D2 T2) root) (st := fun j => S2 (nmAt (rdD D2 T2) root j)) hA.inv hS4 hi0 rfl (stamp_le hA.inv hA.stamps (hhas2 i0 hi0))
                  have hst18 : Stays w7.heap.size w15 w18 := Stays.turned hT18 hplt hbmlt
                  have hrow18 := rows_stm (owns_stays hown15 hst18)
                  have g0 := cell_stays e0 hst18 hbo
                  have g1 := cell_stays e1 hst18 hbo
                  have g2 := cell_stays e2 hst18 hbo
                  have hb18 := hbW15.trans (hT18.below hbW15.size hpw hbmw)
                  have HU := use_stale w18 p bm _ (k2 + 1) S4 root m2 lq2 (nmAt (rdD D2 T2) root) (fun j => S2 (nmAt (rdD D2 T2) root j)) B2 _ aQ2 cP2 cQ2 hF18 hS4 (by omega) hnz2 hrow18 hstale
                  have HFr := fun (W : World) (hW : Below w18.heap.size w18 W) => fresh_any W p bm _ (k2 + 1) S4 root m2 lq2 (nmAt (rdD D2 T2) root) (fun j => S2 (nmAt (rdD D2 T2) root j)) B2 _ aQ2 cP2 cQ2 (hF18.later hW) hS4 (by omega) hnz2 (hrow18.later hW)
                  rw [hstale] at HFr
                  simp only [Bool.not_true, Bool.false_and] at HFr
                  have HNu := number_errno 10
                  clear HW2 hEnd hT18 hst18 hrow18 hstale hF18 hS4 hw0 hown15 e0 e1 e2
                  go_wp2_with fail
                  refine HU.mono ?_
                  rintro e w19 ⟨rfl, hb19⟩
                  have HFr2 := HFr w19 hb19
                  replace g0 := cell_later hb19 g0
                  replace g1 := cell_later hb19 g1
                  replace g2 := cell_later hb19 g2
                  have hb20 := hb18.trans (hb19.mono hb18.size)
                  clear HU HFr hb19 hb18
                  go_wp2_with fail
                  refine HFr2.mono ?_
                  rintro e w21 ⟨rfl, hb21⟩
                  have hb22 := hb20.trans (hb21.mono hb20.size)
                  clear HFr2 hb21 hb20
                  go_wp2_with (go_at_call 34; refine (HNu _).mono ?_; rintro e w' ⟨rfl, rfl⟩)
                  go_ret
                  exact ⟨rfl, hb22⟩
end Go.Proofs.YtanfejgcjifhpacGreatDoor
