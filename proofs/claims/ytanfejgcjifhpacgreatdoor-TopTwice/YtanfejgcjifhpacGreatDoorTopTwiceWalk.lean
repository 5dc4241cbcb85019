/-
  The law TopTwice returns true, for every row of acts, every root, name and text; memory that was there stays as it was.
-/
import Derived.Test.YtanfejgcjifhpacGreatDoorBoundFact
import Derived.Test.YtanfejgcjifhpacGreatDoorElseFiles
import Derived.Test.YtanfejgcjifhpacGreatDoorSameEntry
import Derived.Test.YtanfejgcjifhpacGreatDoorNumber
import Derived.Test.YtanfejgcjifhpacGreatDoorActsAt
namespace Go.Proofs.YtanfejgcjifhpacGreatDoor
open Go.RowKit Go.Maps

theorem stamps_else {D : DataW Unit} {k : Nat} {S : ByteArray → Int} {s text : ByteArray} (hI : Inv D k) (hS : Stamps D S) {S' : ByteArray → Int} (hS' : Stamps (D.put (keyB s) (fileD text.data.toList ((k : Int) + 1))) S') {x : ByteArray} (hx : x ≠ s) (h : Maps.has D (keyB x) = true) : S' x = S x := by
  have hk : keyB x ≠ keyB s := fun e => hx (keyB_inj' e)
  obtain ⟨t, n, h1, _⟩ := hI.st _ h
  have e1 := hS.is x t n h h1
  have e2 := hS'.is x t n (by rw [has_put_other hk]; exact h) (by rw [atKey_put_other hk]; exact h1)
  omega
theorem stamps_same {D : DataW Unit} {k : Nat} {S S' : ByteArray → Int} (hI : Inv D k) (hS : Stamps D S) (hS' : Stamps D S') {x : ByteArray} (h : Maps.has D (keyB x) = true) : S' x = S x := by
  obtain ⟨t, n, h1, _⟩ := hI.st _ h
  have e1 := hS.is x t n h h1
  have e2 := hS'.is x t n h h1
  omega
theorem else_write2 {D : DataW Unit} {k : Nat} {T : ByteArray → ByteArray} {S : ByteArray → Int} {s text : ByteArray} (hI : Inv D k) (hT : Texts D T) (hS : Stamps D S) {w w' : World} {p bm F : Nat} {e : Ending} (hF : F = writeF D k s text) (h : WriteEnd w p bm D k s text F e w') :
    ∃ D' k', FilesAt w' p bm D' k' ∧ Else D T s D' k' ∧ ∀ S', Stamps D' S' → ∀ x, x ≠ s → Maps.has D (keyB x) = true → S' x = S x := by
  by_cases h0 : F = 0
  · exact ⟨_, _, h.yes h0, ⟨hI.put (hF.symm.trans h0), fun T' hT' x hx => rd_put_other hI hT hT' hx⟩, fun S' hS' x hx hh => stamps_else hI hS hS' hx hh⟩
  · exact ⟨_, _, h.no h0, Else.refl hI hT, fun S' hS' x _ hh => stamps_same hI hS hS' hh⟩
theorem MadeEnd.same {w : World} {B0 : Nat} {rd rd' : ByteArray → Nat × ObjF} {S S' : ByteArray → Int} {root : ByteArray} {m : Nat} {e : Ending} (h : MadeEnd w B0 rd' S' root e) (hO : OfIs rd root 0 m) (hs : ∀ j, j < m → rd' (nmAt rd root j) = rd (nmAt rd root j)) (hS : ∀ j, j < m → S' (nmAt rd root j) = S (nmAt rd root j)) : MadeEnd w B0 rd S root e := by
  have hs' : ∀ j, j < m → rd (nmAt rd' root j) = rd' (nmAt rd' root j) := fun j hj => by rw [nm_same hs (by omega)]; exact (hs j hj).symm
  have hO' := of_same hO hs
  cases h with
  | bad F h hf => exact .bad F (reckIs_same hO' hs' h) hf
  | ok m' B P Q aP aQ cP cQ h hp hq =>
    obtain ⟨_, rfl⟩ := h.of.unique hO'
    obtain ⟨h1, h2, h3⟩ := reckoned_same h hs'
    rw [← h2] at hq ⊢
    refine .ok m' B P Q aP aQ cP cQ h1 ?_ hq
    rwa [joinC_congr (g := stmC (nmAt rd' root) S' B) (h := stmC (nmAt rd root) S B) fun i hi => by unfold stmC; rw [← (h3 i hi).1, hS i hi]] at hp
/-- two calls of Make that returned the same. -/
theorem made_has {D : DataW Unit} {T : ByteArray → ByteArray} {root : ByteArray} {m : Nat} {k : Nat} (hI : Inv D k) (hO : OfIs (rdD D T) root 0 m) : ∀ j, j < m → Maps.has D (keyB (nmAt (rdD D T) root j)) = true := fun j hj => by
  obtain ⟨hS, _, _⟩ := scope_of hO (rd_few (T := T) hI)
  exact rd_has (by rw [hS.read j hj])

set_option maxRecDepth 100000 in
set_option maxHeartbeats 8000000 in
theorem topTwice_walk (a : Option Addr) (n c : Nat) (X : Nat → ActF) (root s text : ByteArray) (w : World) (hE : Env w) (hr : ActsRow w a n X) (hf : ∀ i, i < n → ActFit (X i)) :
    Calls Tryz.prog 5 #[.slice a n c, .string root, .string s, .string text] w fun e w' => e = .returned (.bool true) ∧ Below w.heap.size w w' := by
  have HBd := bound_any w hE
  go_enter Tryz.func5, Tryz.ntmps5
  go_wp2_with fail
  refine HBd.mono ?_
  rintro e w4 ⟨rfl, hb4⟩
  clear HBd
  have HL := lightActs_any a n c 30 X w4 (by decide) (hr.later hb4) hf
  clear hf
  go_wp2_with fail
  refine HL.mono ?_
  rintro e w5 ⟨⟨b, rfl, hl⟩, hb5⟩
  have hb6 := hb4.trans (hb5.mono hb4.size)
  clear HL hb5 hb4
  cases b with
  | false =>
    clear hl hr
    go_wp2
    go_ret
    exact ⟨rfl, hb6⟩
  | true =>
    obtain ⟨h30, hsz⟩ := hl rfl
    clear hl
    by_cases hs : (20 : Int) < (root.size : Int)
    · go_wp2
      go_ret
      exact ⟨rfl, hb6⟩
    by_cases hs2 : (20 : Int) < (s.size : Int)
    · go_wp2
      go_ret
      exact ⟨rfl, hb6⟩
    by_cases hs3 : (1300 : Int) < (text.size : Int)
    · go_wp2
      go_ret
      exact ⟨rfl, hb6⟩
    have hroot : root.size ≤ maxLen := by simp only [maxLen]; omega
    have hsm : s.size ≤ maxLen := by simp only [maxLen]; omega
    have HN := new_any w5
    go_wp2_with fail
    refine HN.mono ?_
    rintro e w6 ⟨p, bm, rfl, hp, hbm, hF, hb7⟩
    clear hs hs2 hs3
    have hb8 := hb6.trans (hb7.mono hb6.size)
    have HD := done_any w6 p bm (.map []) 0 a n c X w.heap.size hF Inv.empty hb8.size (Nat.le_trans hb6.size hp) (Nat.le_trans hb6.size hbm) (by omega) (fun W hW => hr.later (hb8.trans hW)) hsz
    clear HN
    go_wp2_with fail
    refine HD.mono ?_
    rintro e w7 ⟨rfl, hF7, hT7⟩
    have hb9 := hb8.trans (hT7.below hb8.size (Nat.le_trans hb6.size hp) (Nat.le_trans hb6.size hbm))
    have hI7 := (doneD_inv (X := X) (q := (.map [], 0)) Inv.empty n).1
    have hpw : w.heap.size ≤ p := Nat.le_trans hb6.size hp
    have hbmw : w.heap.size ≤ bm := Nat.le_trans hb6.size hbm
    generalize (doneD (.map [], 0) X n).1 = D at *
    generalize (doneD (.map [], 0) X n).2 = k at *
    obtain ⟨T, hT⟩ := texts_some D
    obtain ⟨S, hS⟩ := stamps_some D
    have HM1 := make_any w7 p bm D k T S root hF7 hI7 hT hS (hE.later hb9) hroot
    have hplt : p < w7.heap.size := hF7.lt
    have hbmlt : bm < w7.heap.size := hF7.ltm
    clear HD hF hb7 hb8 hb6 hT7 hr hsz hp hbm h30
    go_wp2_with fail
    refine HM1.mono ?_
    rintro e w8 ⟨he1, hbA⟩
    have hbB := hb9.trans (hbA.mono hb9.size)
    have hF8 := hF7.later hbA
    clear HM1 hb9 hF7
    cases he1 with
    | bad F1 h1 hf1 =>
      obtain ⟨z, hz⟩ := errV_pos hf1
      have hal : ∀ W : World, Below W.heap.size W (W.alloc (.cells #[.string ⟨#[]⟩, .slice none 0 0, .slice none 0 0] 26)) := fun W => (Below.refl _ _).alloc (Nat.le_refl _) _
      have hbC := hbB.trans ((hal w8).mono hbB.size)
      have HM2 := make_any (w8.alloc (.cells #[.string ⟨#[]⟩, .slice none 0 0, .slice none 0 0] 26)) p bm D k T S root (hF8.later (hal w8)) hI7 hT hS (hE.later hbC) hroot
      have c0 : (w8.alloc (.cells #[.string ⟨#[]⟩, .slice none 0 0, .slice none 0 0] 26)).cell? ⟨w8.heap.size, 0, none⟩ = some (.string ⟨#[]⟩) := by simp [go_sem]
      have c1 : (w8.alloc (.cells #[.string ⟨#[]⟩, .slice none 0 0, .slice none 0 0] 26)).cell? ⟨w8.heap.size, 1, none⟩ = some (.slice none 0 0) := by simp [go_sem]
      have c2 : (w8.alloc (.cells #[.string ⟨#[]⟩, .slice none 0 0, .slice none 0 0] 26)).cell? ⟨w8.heap.size, 2, none⟩ = some (.slice none 0 0) := by simp [go_sem]
      rw [hz]
      go_wp2_with fail
      refine HM2.mono ?_
      rintro e w9 ⟨he2, hbD⟩
      have hbE := hbC.trans (hbD.mono hbC.size)
      replace c0 := cell_later hbD c0
      replace c1 := cell_later hbD c1
      replace c2 := cell_later hbD c2
      clear HM2
      cases he2 with
      | ok m B P Q aP aQ cP cQ h2 hp2 hq2 => exact (h1.not h2).elim
      | bad F2 h2 hf2 =>
        obtain rfl := h1.unique h2
        rw [hz]
        have hbF := hbE.trans ((hal w9).mono hbE.size)
        have HNu := number_errno z
        have HSE := fun W => sameEntry_true ⟨#[]⟩ 0 0 (fun _ => ⟨#[]⟩) (fun _ => 0) (fun _ => 0) (fun _ => 0) (fun _ => 0) (fun _ => 0) none none none none 0 0 0 0 W (by decide) (by decide) (.inl rfl) (.inl rfl) (.inl rfl) (.inl rfl)
        replace c0 := cell_later (hal w9) c0
        replace c1 := cell_later (hal w9) c1
        replace c2 := cell_later (hal w9) c2
        have d0 : (w9.alloc (.cells #[.string ⟨#[]⟩, .slice none 0 0, .slice none 0 0] 26)).cell? ⟨w9.heap.size, 0, none⟩ = some (.string ⟨#[]⟩) := by simp [go_sem]
        have d1 : (w9.alloc (.cells #[.string ⟨#[]⟩, .slice none 0 0, .slice none 0 0] 26)).cell? ⟨w9.heap.size, 1, none⟩ = some (.slice none 0 0) := by simp [go_sem]
        have d2 : (w9.alloc (.cells #[.string ⟨#[]⟩, .slice none 0 0, .slice none 0 0] 26)).cell? ⟨w9.heap.size, 2, none⟩ = some (.slice none 0 0) := by simp [go_sem]
        have hzz : (z != z) = false := by simp
        clear hbE hbD hbC hal hz h1 h2 hf1 hf2 hI7 hT hS hE hF8 hbA hbB
        go_wp2_with (go_at_call 34; refine (HNu _).mono ?_; rintro e w' ⟨rfl, rfl⟩)
        refine (HSE _).mono ?_
        rintro e w10 ⟨rfl, hb10⟩
        have hb11 := hbF.trans (hb10.mono hbF.size)
        replace c1 := cell_later hb10 c1
        clear HNu HSE c0 c2 d0 d1 d2 hb10 hzz
        go_wp2
        refine wp_loop_rounds 1 ?_
        rw [rounds_succ]
        go_wp2
        go_ret
        exact ⟨rfl, hb11⟩
    | ok m B P Q aP aQ cP cQ h1 hp1 hq1 =>
      have hal : ∀ (W : World) (u v : Value), Below W.heap.size W (W.alloc (.cells #[.string root, u, v] 26)) := fun W u v => (Below.refl _ _).alloc (Nat.le_refl _) _
      have hm6 : m ≤ 6 := by
        obtain ⟨hSc, _, _⟩ := scope_of h1.of (rd_few (T := T) hI7)
        exact hSc.few
      have hhas := made_has hI7 h1.of
      have hnp : (patsAt (rdD D T) root m B P Q).length ≤ 1000000 := by
        obtain ⟨hSc, _, _⟩ := scope_of h1.of (rd_few (T := T) hI7)
        have := patsTo_le (O := obAt (rdD D T) root) P Q B (i := m) fun j hj => (rd_ok (D := D) (T := T) (s := nmAt (rdD D T) root j) (by rw [hSc.read j hj])).nT
        show (patsTo (obAt (rdD D T) root) P Q B m).length ≤ 1000000
        omega
      obtain ⟨l, hlE⟩ : ∃ l, l = patsAt (rdD D T) root m B P Q := ⟨_, rfl⟩
      rw [← hlE] at hq1 hnp ⊢
      have HlE : Hid (l = patsAt (rdD D T) root m B P Q) := hlE
      clear hlE
      have hbC := hbB.trans ((hal w8 (.slice aP m cP) (.slice aQ l.length cQ)).mono hbB.size)
      have HM2 := make_any (w8.alloc (.cells #[.string root, .slice aP m cP, .slice aQ l.length cQ] 26)) p bm D k T S root (hF8.later (hal w8 _ _)) hI7 hT hS (hE.later hbC) hroot
      have c0 : (w8.alloc (.cells #[.string root, .slice aP m cP, .slice aQ l.length cQ] 26)).cell? ⟨w8.heap.size, 0, none⟩ = some (.string root) := by simp [go_sem]
      have c1 : (w8.alloc (.cells #[.string root, .slice aP m cP, .slice aQ l.length cQ] 26)).cell? ⟨w8.heap.size, 1, none⟩ = some (.slice aP m cP) := by simp [go_sem]
      have c2 : (w8.alloc (.cells #[.string root, .slice aP m cP, .slice aQ l.length cQ] 26)).cell? ⟨w8.heap.size, 2, none⟩ = some (.slice aQ l.length cQ) := by simp [go_sem]
      have hp8 := owns_below hp1 (hal w8 (.slice aP m cP) (.slice aQ l.length cQ))
      have hq8 := owns_below hq1 (hal w8 (.slice aP m cP) (.slice aQ l.length cQ))
      have hF9 := hF8.later (hal w8 (.slice aP m cP) (.slice aQ l.length cQ))
      have hbo : w7.heap.size ≤ w8.heap.size := hbA.size
      clear hp1 hq1 hF8 hbB hbA
      go_wp2_with fail
      generalize w8.alloc (.cells #[.string root, .slice aP m cP, .slice aQ l.length cQ] 26) = w8a at *
      generalize w8.heap.size = bo at *
      refine HM2.mono ?_
      rintro e w9 ⟨he2, hbD⟩
      have hbE := hbC.trans (hbD.mono hbC.size)
      replace c0 := cell_later hbD c0
      replace c1 := cell_later hbD c1
      replace c2 := cell_later hbD c2
      have hp9 := owns_below hp8 hbD
      have hq9 := owns_below hq8 hbD
      replace hF9 := hF9.later hbD
      clear HM2 hp8 hq8 hbC hbD
      cases he2 with
      | bad F2 h2 hf2 => exact (h2.not h1).elim
      | ok m2 B2 P2 Q2 aP2 aQ2 cP2 cQ2 h2 hp2 hq2 =>
        obtain ⟨rfl, rfl, rfl, rfl⟩ := h2.unique h1
        rw [← HlE.out] at hq2 ⊢
        have hal9 := hal w9 (.slice aP2 m2 cP2) (.slice aQ2 l.length cQ2)
        have hbF := hbE.trans (hal9.mono hbE.size)
        have HNu := number_nil
        have hpA := owns_below hp9 hal9
        have hqA := owns_below hq9 hal9
        obtain ⟨aq1, cq1, eq1, _, rq1⟩ := rows_pat hqA
        cases eq1
        obtain ⟨aq2, cq2, eq2, _, rq2⟩ := rows_pat (owns_below hq2 hal9)
        cases eq2
        have HSE := sameEntry_true root m2 l.length (nmAt (rdD D T) root) (fun i => S (nmAt (rdD D T) root i)) B2 (pP l) (pT l) (pV l) aP aP2 aQ aQ2 cP cP2 cQ cQ2 _ (by omega) hnp (rows_stm hpA) (rows_stm (owns_below hp2 hal9)) rq1 rq2
        replace c0 := cell_later hal9 c0
        replace c1 := cell_later hal9 c1
        replace c2 := cell_later hal9 c2
        have d0 : (w9.alloc (.cells #[.string root, .slice aP2 m2 cP2, .slice aQ2 l.length cQ2] 26)).cell? ⟨w9.heap.size, 0, none⟩ = some (.string root) := by simp [go_sem]
        have d1 : (w9.alloc (.cells #[.string root, .slice aP2 m2 cP2, .slice aQ2 l.length cQ2] 26)).cell? ⟨w9.heap.size, 1, none⟩ = some (.slice aP2 m2 cP2) := by simp [go_sem]
        have d2 : (w9.alloc (.cells #[.string root, .slice aP2 m2 cP2, .slice aQ2 l.length cQ2] 26)).cell? ⟨w9.heap.size, 2, none⟩ = some (.slice aQ2 l.length cQ2) := by simp [go_sem]
        replace hF9 := hF9.later hal9
        clear hp9 hq9 hp2 hq2 rq1 rq2 hal9 hbE h2
        go_wp2_with (go_at_call 34; refine (HNu _).mono ?_; rintro e w' ⟨rfl, rfl⟩)
        generalize w9.alloc (.cells #[.string root, .slice aP2 m2 cP2, .slice aQ2 l.length cQ2] 26) = w9a at *
        generalize w9.heap.size = bo2 at *
        refine HSE.mono ?_
        rintro e w10 ⟨rfl, hb10⟩
        have hb11 := hbF.trans (hb10.mono hbF.size)
        replace c0 := cell_later hb10 c0
        replace c1 := cell_later hb10 c1
        replace c2 := cell_later hb10 c2
        have hpB := owns_below hpA hb10
        have hqB := owns_below hqA hb10
        replace hF9 := hF9.later hb10
        have hsB := rows_stm hpB
        clear HNu HSE d0 d1 d2 hb10 hbF hpA hqA
        go_wp2
        go_loopw [15] (fun y wr => ∃ i : Nat, i ≤ m2 ∧ y = .int .i64 i ∧ Hid (∀ j, j < i → nmAt (rdD D T) root j ≠ s) ∧ wr = w10) (fun y _ => m2 - (intOf y).toNat)
        case atStart => exact ⟨0, Nat.zero_le _, rfl, fun j hj => by omega, rfl⟩
        case round =>
          obtain ⟨i, hi, rfl, HK, hwr⟩ := hrel
          replace hwr := hwr.symm
          subst hwr
          by_cases hlt : i < m2
          · rcases hsB with h0 | ⟨bu, ou, rfl, hcs⟩
            · omega
            have hcu := (hcs i hlt).1
            clear hcs hpB
            by_cases he : nmAt (rdD D T) root i = s
            · have hbe : ((nmAt (rdD D T) root i).toList == s.toList) = true := by rw [toList_beq]; exact decide_eq_true he
              clear he
              go_wp2
              go_ret
              exact ⟨rfl, hb11⟩
            · have hbe : ((nmAt (rdD D T) root i).toList == s.toList) = false := by rw [toList_beq]; exact decide_eq_false he
              have HK2 : Hid (∀ j, j < i + 1 → nmAt (rdD D T) root j ≠ s) := fun j hj => by
                by_cases e : j = i
                · subst e; exact he
                · exact HK.out j (by omega)
              clear he HK
              go_wp2
              go_roundw
              case rel => exact ⟨i + 1, by omega, by go_num, HK2, by first | rfl | trivial⟩
              case measure => simp [intOf]; omega
          · have e : i = m2 := by omega
            subst e
            have HW := write_any w10 p bm D k s text hF9 hsm (Nat.le_trans hI7.size (by decide))
            clear hsB
            go_wp2_with fail
            refine HW.mono ?_
            intro e w11 hEnd
            obtain ⟨D2, k2, hF11, hL11, hS11⟩ := else_write2 hI7 hT hS rfl hEnd
            have hee := hEnd.e
            subst hee
            have hT11 := hEnd.turned
            have hb12 := hb11.trans (hT11.below hb11.size hpw hbmw)
            have hst : Stays w7.heap.size w10 w11 := Stays.turned hT11 hplt hbmlt
            obtain ⟨T2, hT2⟩ := texts_some D2
            obtain ⟨S2, hS2⟩ := stamps_some D2
            have HM3 := make_any w11 p bm D2 k2 T2 S2 root hF11 hL11.inv hT2 hS2 (hE.later hb12) hroot
            replace c0 := cell_stays c0 hst hbo
            replace c1 := cell_stays c1 hst hbo
            replace c2 := cell_stays c2 hst hbo
            have hpC := owns_stays hpB hst
            have hqC := owns_stays hqB hst
            clear HW hEnd hT11 hst hpB hqB hF9
            go_wp2_with fail
            refine HM3.mono ?_
            rintro e w13 ⟨he3, hb13⟩
            have hb14 := hb12.trans (hb13.mono hb12.size)
            replace he3 := he3.same h1.of (fun j hj => hL11.read T2 hT2 _ (HK.out j hj)) (fun j hj => hS11 S2 hS2 _ (HK.out j hj) (hhas j hj))
            replace c0 := cell_later hb13 c0
            replace c1 := cell_later hb13 c1
            replace c2 := cell_later hb13 c2
            have hpD := owns_below hpC hb13
            have hqD := owns_below hqC hb13
            clear HM3 hpC hqC hF11 hL11 hS11 hT2 hS2 hb13 hb12
            cases he3 with
            | bad F3 h3 hf3 => exact (h3.not h1).elim
            | ok m3 B3 P3 Q3 aP3 aQ3 cP3 cQ3 h3 hp3 hq3 =>
              obtain ⟨rfl, rfl, rfl, rfl⟩ := h3.unique h1
              rw [← HlE.out] at hq3 ⊢
              have hal13 := hal w13 (.slice aP3 m3 cP3) (.slice aQ3 l.length cQ3)
              have hb15 := hb14.trans (hal13.mono hb14.size)
              have hpE := owns_below hpD hal13
              have hqE := owns_below hqD hal13
              obtain ⟨aq1, cq1, eq1, _, rq1⟩ := rows_pat hqE
              cases eq1
              obtain ⟨aq3, cq3, eq3, _, rq3⟩ := rows_pat (owns_below hq3 hal13)
              cases eq3
              have HSE := sameEntry_true root m3 l.length (nmAt (rdD D T) root) (fun i => S (nmAt (rdD D T) root i)) B3 (pP l) (pT l) (pV l) aP aP3 aQ aQ3 cP cP3 cQ cQ3 _ (by omega) hnp (rows_stm hpE) (rows_stm (owns_below hp3 hal13)) rq1 rq3
              replace c0 := cell_later hal13 c0
              replace c1 := cell_later hal13 c1
              replace c2 := cell_later hal13 c2
              have d0 : (w13.alloc (.cells #[.string root, .slice aP3 m3 cP3, .slice aQ3 l.length cQ3] 26)).cell? ⟨w13.heap.size, 0, none⟩ = some (.string root) := by simp [go_sem]
              have d1 : (w13.alloc (.cells #[.string root, .slice aP3 m3 cP3, .slice aQ3 l.length cQ3] 26)).cell? ⟨w13.heap.size, 1, none⟩ = some (.slice aP3 m3 cP3) := by simp [go_sem]
              have d2 : (w13.alloc (.cells #[.string root, .slice aP3 m3 cP3, .slice aQ3 l.length cQ3] 26)).cell? ⟨w13.heap.size, 2, none⟩ = some (.slice aQ3 l.length cQ3) := by simp [go_sem]
              clear hpD hqD hpE hqE hp3 hq3 rq1 rq3 hal13 hal hb14 h3 h1 hhas HK hI7 hT hS hE HlE
              go_wp2_with fail
              generalize w13.alloc (.cells #[.string root, .slice aP3 m3 cP3, .slice aQ3 l.length cQ3] 26) = w13a at *
              generalize w13.heap.size = bo3 at *
              refine HSE.mono ?_
              rintro e w14 ⟨rfl, hb16⟩
              clear HSE
              go_wp2
              go_ret
              exact ⟨rfl, hb15.trans (hb16.mono hb15.size)⟩
end Go.Proofs.YtanfejgcjifhpacGreatDoor
