/-
  The law TopEntry, walked: it returns true at every input; memory that was there stays as it was.
-/
import Derived.Test.YtppokhbhmnhhbaaGreatDoorBoundFact
import Derived.Test.YtppokhbhmnhhbaaGreatDoorEntryStm
import Derived.Test.YtppokhbhmnhhbaaGreatDoorPlainMade
import Derived.Test.YtppokhbhmnhhbaaGreatDoorUseAll
import Derived.Test.YtppokhbhmnhhbaaGreatDoorEntCheck
import Derived.Test.YtppokhbhmnhhbaaGreatDoorSameParts
import Derived.Test.YtppokhbhmnhhbaaGreatDoorNumber
import Derived.Test.YtppokhbhmnhhbaaGreatDoorPlainBounds
namespace Go.Proofs.YtppokhbhmnhhbaaGreatDoor
open Go.RowKit Go.Maps

theorem stm_row {w : World} {a : Option Addr} {n : Nat} {s : Nat → ByteArray} {k b : Nat → Int} (h : StmRow w a n s k b) : RowE w a n s k b := h
/-- what is laid of what was made is what is loaded. -/
theorem lay_parts {w : World} {B0 : Nat} {rd : ByteArray → Nat × ObjF} {root : ByteArray} {m : Nat} {B : Nat → Int} {P Q : ByteArray → Int} {l : List (Nat × Int × Int)} (hl : l = patsAt rd root m B P Q) {u : Value} {g : Nat} {A : Nat → Option Addr} {C G : Nat → Nat}
    (ho : OutAt w B0 g m (fun i => (obAt rd root i).nW) A C G (putF (fun i j => (obAt rd root i).words j) (pP l) (pT l) (pV l) l.length)) (hu : w.ownsRow B0 49 3 u m (joinC (partC (nmAt rd root) B A (fun i => (obAt rd root i).nW) C) m)) :
    PartsIn w B0 u m (nmAt rd root) B (fun i => (obAt rd root i).nW) (boundW rd root m B P Q) g A C G := by
  subst hl
  exact ⟨ho, hu⟩
set_option maxRecDepth 100000 in
set_option maxHeartbeats 8000000 in
theorem topEntry_walk (a : Option Addr) (n c : Nat) (X : Nat → ActF) (root : ByteArray) (w : World) (hE : Env w) (hr : ActsRow w a n X) (hf : ∀ i, i < n → ActFit (X i)) :
    Calls Tryz.prog 3 #[.slice a n c, .string root] w fun e w' => e = .returned (.bool true) ∧ Below w.heap.size w w' := by
  have HBd := bound_any w hE
  go_enter Tryz.func3, Tryz.ntmps3
  go_wp2_with fail
  refine HBd.mono ?_
  rintro e w4 ⟨rfl, hb4⟩
  clear HBd
  have HL := lightActs_any a n c 30 X w4 (by decide) (hr.later hb4) hf
  clear hf
  go_wp2_with fail
  refine HL.mono ?_
  rintro e w5 ⟨⟨b, rfl, hl⟩, hb5⟩
  have hb6 := hb4.trans (hb5.mono hb4.size)
  clear HL hb5 hb4
  cases b with
  | false =>
    clear hl hr
    go_wp2
    go_ret
    exact ⟨rfl, hb6⟩
  | true =>
    obtain ⟨h30, hsz⟩ := hl rfl
    clear hl
    by_cases hs : (20 : Int) < (root.size : Int)
    · go_wp2
      go_ret
      exact ⟨rfl, hb6⟩
    have hroot : root.size ≤ maxLen := by simp only [maxLen]; omega
    have HN := new_any w5
    go_wp2_with fail
    refine HN.mono ?_
    rintro e w6 ⟨p, bm, rfl, hp, hbm, hF, hb7⟩
    clear hs
    have hb8 := hb6.trans (hb7.mono hb6.size)
    have HD := done_any w6 p bm (.map []) 0 a n c X w.heap.size hF Inv.empty hb8.size (Nat.le_trans hb6.size hp) (Nat.le_trans hb6.size hbm) (by omega) (fun W hW => hr.later (hb8.trans hW)) hsz
    clear HN
    go_wp2_with fail
    refine HD.mono ?_
    rintro e w7 ⟨rfl, hF7, hT7⟩
    have hb9 := hb8.trans (hT7.below hb8.size (Nat.le_trans hb6.size hp) (Nat.le_trans hb6.size hbm))
    have hI7 := (doneD_inv (X := X) (q := (.map [], 0)) Inv.empty n).1
    obtain ⟨hN7, hk7⟩ := doneD_more (X := X) (q := (.map [], 0)) NamesOk.empty n
    have hP7 := doneD_pos (X := X) (q := (.map [], 0)) Inv.empty StampsPos.empty n
    generalize (doneD (.map [], 0) X n).1 = D at *
    generalize (doneD (.map [], 0) X n).2 = k at *
    obtain ⟨T, hT⟩ := texts_some D
    obtain ⟨S, hS⟩ := stamps_some D
    have HM1 := make_any w7 p bm D k T S root hF7 hI7 hT hS (hE.later hb9) hroot
    have hk30 : k ≤ 30 := by simp only [Nat.zero_add] at hk7; omega
    clear HD hF hb7 hb8 hb6 hT7 hr hsz hp hbm h30 hk7
    go_wp2_with fail
    refine HM1.mono ?_
    rintro e w8 ⟨he1, hbA⟩
    have hbB := hb9.trans (hbA.mono hb9.size)
    have hF8 := hF7.later hbA
    clear HM1 hb9 hF7 hbA
    cases he1 with
    | bad F1 h1 hf1 =>
      obtain ⟨z, hz⟩ := errV_pos hf1
      rw [hz]
      have hal : Below w8.heap.size w8 (w8.alloc (.cells #[.string ⟨#[]⟩, .slice none 0 0, .slice none 0 0] 31)) := (Below.refl _ _).alloc (Nat.le_refl _) _
      have hbC := hbB.trans (hal.mono hbB.size)
      have HLd := load_any _ p bm D k T root (hF8.later hal) hI7 hT (hE.later hbC) hroot
      have c1 : (w8.alloc (.cells #[.string ⟨#[]⟩, .slice none 0 0, .slice none 0 0] 31)).cell? ⟨w8.heap.size, 1, none⟩ = some (.slice none 0 0) := by simp [go_sem]
      go_wp2_with fail
      refine HLd.mono ?_
      rintro e w9 ⟨he2, hbD⟩
      have hbE := hbC.trans (hbD.mono hbC.size)
      replace c1 := cell_later hbD c1
      clear HLd
      cases he2 with
      | ok m B P Q u g A C G h2 hu => exact (h1.not h2).elim
      | bad F2 h2 hf2 =>
        obtain rfl := h1.unique h2
        rw [hz]
        have HNu := number_errno z
        clear hbD hbC hal hz h1 h2 hf1 hf2 hI7 hT hS hE hF8 hbB hN7 hP7
        go_wp2_with (go_at_call 10; refine (HNu _).mono ?_; rintro e w' ⟨rfl, rfl⟩)
        go_ret
        exact ⟨rfl, hbE⟩
    | ok m B P Q aP aQ cP cQ h1 hp1 hq1 =>
      have hEF := made_entF (S := S) hI7 hN7 hP7 hS (by omega) h1
      obtain ⟨hSc, _, _⟩ := scope_of h1.of (rd_few (T := T) hI7)
      have hm6 : m ≤ 6 := hSc.few
      have hm0 : 0 < m := hSc.pos
      have hhas := made_has hI7 h1.of
      have hnz : ∀ j, j < m → (nmAt (rdD D T) root j).size ≤ maxLen := fun j hj => by
        have h2 := nameF_len (hN7 _ (hhas j hj))
        have : (nmAt (rdD D T) root j).data.toList.length = (nmAt (rdD D T) root j).size := by simp
        simp only [maxLen]
        omega
      have hok : ∀ j, j < m → ObjOk (obAt (rdD D T) root j) := fun j hj => rd_ok (D := D) (T := T) (s := nmAt (rdD D T) root j) (by rw [hSc.read j hj])
      have hnp : (patsAt (rdD D T) root m B P Q).length ≤ 6 * m := patsTo_le (O := obAt (rdD D T) root) P Q B (i := m) fun j hj => (hok j hj).nT
      have hst := fresh_still hI7 hS hS hhas
      have hpo := pats_ok (O := obAt (rdD D T) root) (P := P) (Q := Q) (B := B) (m := m) hok
      obtain ⟨l, hlE⟩ : ∃ l, l = patsAt (rdD D T) root m B P Q := ⟨_, rfl⟩
      rw [← hlE] at hq1 hnp hEF ⊢
      have HlE : Hid (l = patsAt (rdD D T) root m B P Q) := hlE
      clear hlE
      have hal : Below w8.heap.size w8 (w8.alloc (.cells #[.string root, .slice aP m cP, .slice aQ l.length cQ] 31)) := (Below.refl _ _).alloc (Nat.le_refl _) _
      have hbC := hbB.trans (hal.mono hbB.size)
      have c0 : (w8.alloc (.cells #[.string root, .slice aP m cP, .slice aQ l.length cQ] 31)).cell? ⟨w8.heap.size, 0, none⟩ = some (.string root) := by simp [go_sem]
      have c1 : (w8.alloc (.cells #[.string root, .slice aP m cP, .slice aQ l.length cQ] 31)).cell? ⟨w8.heap.size, 1, none⟩ = some (.slice aP m cP) := by simp [go_sem]
      have c2 : (w8.alloc (.cells #[.string root, .slice aP m cP, .slice aQ l.length cQ] 31)).cell? ⟨w8.heap.size, 2, none⟩ = some (.slice aQ l.length cQ) := by simp [go_sem]
      have rS := rows_stm (owns_below hp1 hal)
      obtain ⟨qa, qc, eq, _, rQ⟩ := rows_pat (owns_below hq1 hal)
      cases eq
      have hF8a := hF8.later hal
      have HLd := load_any _ p bm D k T root hF8a hI7 hT (hE.later hbC) hroot
      clear hp1 hq1 hF8 hbB hal
      go_wp2_with fail
      refine HLd.mono ?_
      rintro e w9 ⟨he2, hbD⟩
      have hbE := hbC.trans (hbD.mono hbC.size)
      replace c0 := cell_later hbD c0
      replace c1 := cell_later hbD c1
      replace c2 := cell_later hbD c2
      replace rS := rS.later hbD
      replace rQ := rQ.later hbD
      have hF9 := hF8a.later hbD
      clear HLd hF8a hbC hbD
      cases he2 with
      | bad F2 h2 hf2 => exact (h2.not h1).elim
      | ok m2 B2 P2 Q2 u g A C G h2 hu =>
        obtain ⟨rfl, rfl, rfl, rfl⟩ := h2.unique h1
        obtain ⟨au, cu, rfl, _, hrow⟩ := parts_row hu
        have HU := use_any w9 p bm D k T S root m2 l.length (nmAt (rdD D T) root) (fun j => S (nmAt (rdD D T) root j)) B2 (pP l) (pT l) (pV l) aP aQ cP cQ hF9 hS hT (hE.later hbE) (by omega) (by omega) hnz rS rQ
        clear hu
        go_wp2_with fail
        refine HU.mono ?_
        rintro e w10 ⟨hue, hbU⟩
        clear HU
        have hbV := hbE.trans (hbU.mono hbE.size)
        replace c0 := cell_later hbU c0
        replace c1 := cell_later hbU c1
        replace c2 := cell_later hbU c2
        replace rS := rS.later hbU
        replace rQ := rQ.later hbU
        have hF10 := hF9.later hbU
        replace hrow := hrow.later hbU
        have hfr : (!staleTo D S (nmAt (rdD D T) root) (fun j => S (nmAt (rdD D T) root j)) m2 && decide (0 < m2)) = true := by rw [hst, decide_eq_true hm0]; rfl
        cases hue with
        | stale h => rw [hfr] at h; cases h
        | bad i hi h0 hf => exact absurd (by rw [hSc.read i hi]) hf
        | lay e h h0 hl =>
          rw [HlE.out] at hl
          cases hl with
          | bad hbd => exact (hbd.not hpo).elim
          | ok u2 g2 A2 C2 G2 _ ho hu2 =>
            have hPI := lay_parts (P := P2) (Q := Q2) rfl ho hu2
            obtain ⟨au2, cu2, rfl, _, hrow2⟩ := parts_row hPI
            have HFr := fresh_any w10 p bm D k S root m2 l.length (nmAt (rdD D T) root) (fun j => S (nmAt (rdD D T) root j)) B2 aP aQ cP cQ hF10 hS (by omega) hnz rS
            rw [hfr] at HFr
            have HCh := fun (W : World) (hW : Below w10.heap.size w10 W) => entCheck_any ⟨aP, cP, aQ, cQ⟩ (madeE (rdD D T) S root m2 B2 l) W ⟨stm_row (rS.later hW), rQ.later hW⟩ ⟨hroot, by show m2 ≤ maxLen; simp only [maxLen]; omega, by show l.length ≤ maxLen; simp only [maxLen]; omega, fun i hi => hnz i hi⟩
            rw [hEF] at HCh
            have q0 : errV 0 = .nilIface := rfl
            rw [q0] at HCh
            have HSP := fun (W : World) (hW : Below w10.heap.size w10 W) => sameParts_true m2 (nmAt (rdD D T) root) B2 _ _ au au2 cu cu2 A A2 C C2 W (by omega) (fun i hi => by have := (hok i hi).nW; omega) (hrow.later hW) (hrow2.later hW)
            clear hPI ho hu2 hrow hrow2 rS rQ hF9 hF10 hEF h0 h hfr hst hpo hok hSc hhas hnz hI7 hT hS hE hN7 hP7 h1 h2 hbE hbU HlE
            unfold entCs madeE at HCh
            dsimp only at HCh
            go_wp2_with fail
            refine HFr.mono ?_
            rintro e w11 ⟨rfl, hb11⟩
            clear HFr
            replace c0 := cell_later hb11 c0
            replace c1 := cell_later hb11 c1
            replace c2 := cell_later hb11 c2
            go_wp2_with fail
            refine (show Calls _ _ _ _ _ from HCh w11 hb11).mono ?_
            rintro e w12 ⟨rfl, hb12⟩
            have hb13 := hb11.trans (hb12.mono hb11.size)
            clear HCh c0 c1 c2
            go_wp2_with fail
            refine (HSP w12 hb13).mono ?_
            rintro e w14 ⟨rfl, kk, rfl⟩
            clear HSP
            go_wp2
            go_ret
            exact ⟨rfl, below_drewN (hbV.trans (hb13.mono hbV.size)) _⟩
end Go.Proofs.YtppokhbhmnhhbaaGreatDoor

