/-
  What EntryOf of the document returns, of every text: what Parse reads of it; memory that was there stays as it was.
-/
import Derived.Test.YthdccmjdbcllkaaGreatDoorPlainRefE
import Derived.Test.YthdccmjdbcllkaaGreatDoorRefEntText
import Derived.Test.YthdccmjdbcllkaaGreatDoorRefEntFault
import Derived.Test.YthdccmjdbcllkaaGreatDoorEntParse
import Derived.Test.YthdccmjdbcllkaaGreatDoorPlainFit
import Derived.Test.YthdccmjdbcllkaaGreatDoorRefCut
import Derived.Test.YthdccmjdbcllkaaGreatDoorRefNum
import Derived.Test.YthdccmjdbcllkaaGreatDoorEntSame
import Derived.Test.YthdccmjdbcllkaaGreatDoorEarly
import Derived.Deep.CutBlock
namespace Go.Proofs.YthdccmjdbcllkaaGreatDoor
open Go.RowKit

theorem wd_mapL (ws : List (List UInt8)) (j : Nat) : wd (ws.map fun l => (⟨l.toArray⟩ : ByteArray)) j = ⟨(wL ws j).toArray⟩ := by
  unfold wd wL
  rw [List.getD_eq_getElem?_getD, List.getElem?_map, List.getD_eq_getElem?_getD]
  cases ws[j]? <;> rfl
/-- words of the call's own, read. -/
theorem words_own {w : World} {B b cap : Nat} {ws : List (List UInt8)} (h : w.ownsRow B 9 1 (.slice (some ⟨b, 0, none⟩) ws.length cap) ws.length (strC ws)) : Words w b (ws.map fun l => (⟨l.toArray⟩ : ByteArray)) := ⟨fun j hj => by
  have hj' : j < ws.length := by simpa using hj
  obtain ⟨g, hg, _, hc⟩ := owns_cell h (j := j) (u := .string ⟨(wL ws j).toArray⟩) (by
    unfold strC wL
    rw [List.getElem?_map, List.getElem?_eq_getElem hj', List.getD_eq_getElem?_getD, List.getElem?_eq_getElem hj']
    rfl)
  injection hg with hg
  injection hg with hg
  subst hg
  rw [wd_mapL]
  exact hc⟩
theorem num_is {ws : List (List UInt8)} {i : Nat} (h : isN ws i = true) : (refNum (wL ws i)).getD 0 = nR ws i := by
  unfold isN at h
  unfold nR numR
  cases hr : refNum (wL ws i) with
  | none => rw [hr] at h; cases h
  | some n => rfl
theorem numberL (ws : List (List UInt8)) (i : Nat) (w : World) : Calls Tryz.prog 39 #[.string ⟨(wL ws i).toArray⟩] w fun e w' => e = .returned (.tuple #[.int .i64 ((refNum (wL ws i)).getD 0), .bool (isN ws i)]) ∧ w = w' := number_ref ⟨(wL ws i).toArray⟩ w
theorem refOf_bad {s : ByteArray} {w w' : World} (h : (parseE s).1 ≠ 0) (hb : Below w.heap.size w w') :
    (∃ v, Ending.returned (.tuple #[.agg #[.string ⟨#[]⟩, .slice none 0 0, .slice none 0 0], .int .i64 4]) = .returned (.tuple #[.agg (entCs v (parseE s).2), .int .i64 (((parseE s).1 : Nat) : Int)]) ∧ EntAt w' v (parseE s).2) ∧ Below w.heap.size w w' := by
  rw [parseE_no h]
  exact ⟨⟨⟨none, 0, none, 0⟩, rfl, (empty_new _).here⟩, hb⟩

theorem two_true {a b : Bool} (h : false = !(a && b)) : a = true ∧ b = true := by
  cases a <;> cases b <;> simp_all
theorem three_true {a b c : Bool} (h : false = !(a && b && c)) : a = true ∧ b = true ∧ c = true := by
  cases a <;> cases b <;> cases c <;> simp_all
theorem row_set3 {w : World} {a : Option Addr} {n g : Nat} {s : Nat → ByteArray} {k b : Nat → Int} {a0 a1 a2 : Value} (h : RowE w a n s k b) (hne : ∀ bk o, n ≠ 0 → a = some ⟨bk, o, none⟩ → bk ≠ g) : RowE (((w.setCell ⟨g, 0, none⟩ a0).setCell ⟨g, 1, none⟩ a1).setCell ⟨g, 2, none⟩ a2) a n s k b := by
  rcases h with h | ⟨bk, o, ha, hc⟩
  · exact .inl h
  · exact .inr ⟨bk, o, ha, fun i hi => by
      have hn := hne bk o (by omega) ha
      obtain ⟨h1, h2, h3⟩ := hc i hi
      exact ⟨cell_set3 h1 hn _ _ _, cell_set3 h2 hn _ _ _, cell_set3 h3 hn _ _ _⟩⟩
theorem pat_set3 {w : World} {a : Option Addr} {n g : Nat} {s k b : Nat → Int} {a0 a1 a2 : Value} (h : PatRow w a n s k b) (hne : ∀ bk o, n ≠ 0 → a = some ⟨bk, o, none⟩ → bk ≠ g) : PatRow (((w.setCell ⟨g, 0, none⟩ a0).setCell ⟨g, 1, none⟩ a1).setCell ⟨g, 2, none⟩ a2) a n s k b := by
  rcases h with h | ⟨bk, o, ha, hc⟩
  · exact .inl h
  · exact .inr ⟨bk, o, ha, fun i hi => by
      have hn := hne bk o (by omega) ha
      obtain ⟨h1, h2, h3⟩ := hc i hi
      exact ⟨cell_set3 h1 hn _ _ _, cell_set3 h2 hn _ _ _, cell_set3 h3 hn _ _ _⟩⟩
set_option maxRecDepth 100000 in
set_option maxHeartbeats 32000000 in
theorem refEntOf_any (s : ByteArray) (w : World) (hs : s.size ≤ 100000) :
    Calls Tryz.prog 13 #[.string s] w fun e w' => (∃ v, e = .returned (.tuple #[.agg (entCs v (parseE s).2), .int .i64 (((parseE s).1 : Nat) : Int)]) ∧ EntAt w' v (parseE s).2) ∧ Below w.heap.size w w' := by
  have hb0 : Below w.heap.size w (w.alloc (.cells #[.string ⟨#[]⟩, .slice none 0 0, .slice none 0 0] 26)) := (Below.refl _ _).alloc (Nat.le_refl _) _
  have hres0 : (w.alloc (.cells #[.string ⟨#[]⟩, .slice none 0 0, .slice none 0 0] 26)).heap[w.heap.size]? = some (.cells #[.string ⟨#[]⟩, .slice none 0 0, .slice none 0 0] 26 (0, 0)) := by
    show (w.heap.push _)[w.heap.size]? = _
    rw [Array.getElem?_push_size]
  have hz0 : w.heap.size < (w.alloc (.cells #[.string ⟨#[]⟩, .slice none 0 0, .slice none 0 0] 26)).heap.size := by simp
  have HL := linesOf_ref s (w.alloc (.cells #[.string ⟨#[]⟩, .slice none 0 0, .slice none 0 0] 26)) hs
  have HT : Hid ((parseE s).1 = 0 → ∃ l, cut 10 s.data.toList = ([l], []) ∧ refHead (wordsR l) ∧ (∀ i, i < (refRead (wordsR l)).nP → refRow (wordsR l) i) ∧ (∀ i, (refRead (wordsR l)).nP ≤ i → i < (refRead (wordsR l)).nP + (refRead (wordsR l)).nQ → refPat (wordsR l) i) ∧ entF (refRead (wordsR l)) = 0 ∧ lineE (refRead (wordsR l)) = s.data.toList) := fun h => ref_takes h
  have hcs := cut_sizes 10 _ s.data.toList rfl
  have hsl : s.data.toList.length = s.size := by simp
  rw [hsl] at hcs
  go_enter Tryz.func13, Tryz.ntmps13
  go_wp2_with fail
  refine (show Calls _ _ _ _ _ from HL).mono ?_
  rintro e w1 ⟨⟨v, rfl, ho1⟩, hb1⟩
  have hres := (hb1.block _ hz0).trans hres0
  have hbw := hb0.trans (hb1.mono hb0.size)
  have hz1 := Nat.lt_of_lt_of_le hz0 hb1.size
  clear HL hres0 hb0 hb1 hz0
  obtain ⟨a1, c1, rfl, _, hr1⟩ : ∃ a c, v = .slice a (cut 10 s.data.toList).1.length c ∧ (cut 10 s.data.toList).1.length ≤ c ∧ ∀ l, (cut 10 s.data.toList).1 = [l] → ∃ g, a = some ⟨g, 0, none⟩ ∧ w1.cell? ⟨g, 0, none⟩ = some (.string ⟨l.toArray⟩) := by
    obtain ⟨a, c, rfl, hc⟩ := owns_shape ho1
    refine ⟨a, c, rfl, hc, fun l hl => ?_⟩
    obtain ⟨g, hg, _, hcl⟩ := owns_cell ho1 (j := 0) (u := .string ⟨l.toArray⟩) (by rw [hl]; rfl)
    exact ⟨g, hg, hcl⟩
  clear ho1
  generalize hCU : cut 10 s.data.toList = CU at *
  have HCU : Hid (cut 10 s.data.toList = CU) := hCU
  clear hCU
  obtain ⟨ls, rest⟩ := CU
  dsimp only at *
  by_cases hrest : rest = []
  · subst hrest
    have hdec : decide (([] : List UInt8) = []) = true := rfl
    rw [hdec]
    by_cases hlen : ls.length = 1
    · obtain ⟨l, rfl⟩ : ∃ l, ls = [l] := by
        cases ls with
        | nil => cases hlen
        | cons x r =>
          cases r with
          | nil => exact ⟨x, rfl⟩
          | cons y r => simp at hlen
      obtain ⟨g1, rfl, x0⟩ := hr1 l rfl
      have hll : (⟨l.toArray⟩ : ByteArray).size ≤ 100000 := by
        have := hcs.1 l (List.mem_cons_self ..)
        have e : (⟨l.toArray⟩ : ByteArray).size = l.length := by show l.toArray.size = _; simp
        omega
      have HTT : Hid ((parseE s).1 = 0 → refHead (wordsR l) ∧ (∀ i, i < (refRead (wordsR l)).nP → refRow (wordsR l) i) ∧ (∀ i, (refRead (wordsR l)).nP ≤ i → i < (refRead (wordsR l)).nP + (refRead (wordsR l)).nQ → refPat (wordsR l) i) ∧ entF (refRead (wordsR l)) = 0 ∧ lineE (refRead (wordsR l)) = s.data.toList) := fun h => by
        obtain ⟨l', e1, r⟩ := HT.out h
        injection e1 with e1 _
        injection e1 with e1 _
        subst e1
        exact r
      have hwl : ∀ j, (wL (wordsR l) j).length ≤ 100000 := fun j => by
        have hl2 : l.length ≤ 100000 := by
          have := hcs.1 l (List.mem_cons_self ..)
          omega
        unfold wL
        by_cases hj : j < (wordsR l).length
        · rw [List.getD_eq_getElem?_getD, List.getElem?_eq_getElem hj]
          exact Nat.le_trans (wordsR_size l _ (List.getElem_mem hj)) hl2
        · rw [List.getD_eq_getElem?_getD, List.getElem?_eq_none (by omega)]
          exact Nat.zero_le _
      have hwn : (wordsR l).length ≤ 100001 := by
        have := (cut_sizes 32 _ l rfl).2.2
        have := hcs.1 l (List.mem_cons_self ..)
        unfold wordsR
        simp
        omega
      have HW := words_ref ⟨l.toArray⟩ w1 hll
      have el : (⟨l.toArray⟩ : ByteArray).data.toList = l := by simp
      rw [el] at HW
      clear HT HCU hcs el hr1 hll hdec
      go_wp2_with fail
      refine (show Calls _ _ _ _ _ from HW).mono ?_
      rintro e w2 ⟨⟨b2, cap, rfl, ho2⟩, hb2⟩
      have hWd := words_own ho2
      have hB2 : w1.heap.size ≤ b2 := by
        rcases ho2.2 with ⟨e0, _⟩ | ⟨g', cap', cur, hv, hg, _⟩
        · cases e0
        · injection hv with hv1 _ _
          injection hv1 with hv1
          injection hv1 with hv1
          subst hv1
          exact hg
      replace hres := (hb2.block _ hz1).trans hres
      replace hbw := hbw.trans (hb2.mono hbw.size)
      have hz2 := Nat.lt_of_lt_of_le hz1 hb2.size
      clear HW hb2 ho2 x0
      generalize wordsR l = ws at *
      have hgo : ∀ j, j < ws.length → w2.cell? ⟨b2, j, none⟩ = some (.string ⟨(wL ws j).toArray⟩) := fun j hj => by
        have := hWd.at_ j (by simpa using hj)
        rwa [wd_mapL] at this
      by_cases h3 : ws.length < 3
      · have HNO : Hid ((parseE s).1 ≠ 0) := fun h => by have := (HTT.out h).1.1; omega
        have h3' : (ws.length : Int) < 3 := by omega
        clear hgo
        obtain ⟨q0, q1, q2, f0, f1, f2⟩ := resAt hres
        have hNB := below3 hbw (Nat.le_refl w.heap.size) (.string ⟨#[]⟩) (.slice none 0 0) (.slice none 0 0)
        go_wp2
        refine bodyPost_ret (v := .tuple #[.agg #[.string ⟨#[]⟩, .slice none 0 0, .slice none 0 0], .int .i64 4]) (by simp [results, Tryz.results13, go_sem, q0, q1, q2]) rfl ?_
        exact refOf_bad HNO.out hNB
      have h3' : ¬ (ws.length : Int) < 3 := by omega
      have hc1 := hgo 1 (by omega)
      have hc2 := hgo 2 (by omega)
      have hc0 := hgo 0 (by omega)
      have hwn3 : 3 ≤ ws.length := by omega
      have hbb : b2 < w2.heap.size := World.block_lt_of_cell? _ _ hc0
      have HN1 := numberL ws 1 w2
      have HN2 := numberL ws 2 w2
      have HA : Hid (isN ws 1 = true → (refNum (wL ws 1)).getD 0 = nR ws 1) := num_is
      have HB : Hid (isN ws 2 = true → (refNum (wL ws 2)).getD 0 = nR ws 2) := num_is
      have HHD : Hid ((parseE s).1 = 0 → isN ws 1 = true ∧ isN ws 2 = true ∧ 0 ≤ nR ws 1 ∧ nR ws 1 ≤ 6 ∧ 0 ≤ nR ws 2 ∧ nR ws 2 ≤ 36 ∧ (ws.length : Int) = 3 + 3 * nR ws 1 + 3 * nR ws 2) := fun h => (HTT.out h).1.2
      generalize hN1 : isN ws 1 = N1 at HN1 HA HHD
      generalize hN2 : isN ws 2 = N2 at HN2 HB HHD
      generalize (refNum (wL ws 1)).getD 0 = A at HN1 HA
      generalize (refNum (wL ws 2)).getD 0 = B at HN2 HB
      have HI1 : Hid (isN ws 1 = N1) := hN1
      have HI2 : Hid (isN ws 2 = N2) := hN2
      clear hN1 hN2 h3
      go_wp2_with fail
      refine (show Calls _ _ _ _ _ from HN1).mono ?_
      rintro e w' ⟨rfl, rfl⟩
      clear HN1
      go_wp2_with fail
      refine (show Calls _ _ _ _ _ from HN2).mono ?_
      rintro e w' ⟨rfl, rfl⟩
      clear HN2 hc1 hc2
      go_upto_region 9 with fail
      go_cut [91] from 59 to 91 (fun y wc => ∃ z : Bool, y = .bool z ∧ wc = w2 ∧ Hid (z = true ↔ ¬ (N1 = true ∧ N2 = true ∧ 0 ≤ A ∧ A ≤ 6 ∧ 0 ≤ B ∧ B ≤ 36 ∧ (ws.length : Int) = 3 + 3 * A + 3 * B)))
      case first =>
        clear HA HB HHD HI1 HI2 HTT hgo hWd hres hbw hwl
        cases N1 with
        | false =>
          go_wp2_with fail
          go_meet
          exact ⟨_, rfl, rfl, ⟨fun _ h => Bool.false_ne_true h.1, fun _ => rfl⟩⟩
        | true =>
        cases N2 with
        | false =>
          go_wp2_with fail
          go_meet
          exact ⟨_, rfl, rfl, ⟨fun _ h => Bool.false_ne_true h.2.1, fun _ => rfl⟩⟩
        | true =>
        by_cases z3 : A < 0
        · go_wp2_with fail
          go_meet
          exact ⟨_, rfl, rfl, ⟨fun _ h => by omega, fun _ => rfl⟩⟩
        by_cases z4 : 6 < A
        · go_wp2_with fail
          go_meet
          exact ⟨_, rfl, rfl, ⟨fun _ h => by omega, fun _ => rfl⟩⟩
        by_cases z5 : B < 0
        · go_wp2_with fail
          go_meet
          exact ⟨_, rfl, rfl, ⟨fun _ h => by omega, fun _ => rfl⟩⟩
        by_cases z6 : 36 < B
        · go_wp2_with fail
          go_meet
          exact ⟨_, rfl, rfl, ⟨fun _ h => by omega, fun _ => rfl⟩⟩
        generalize hn : (ws.length : Int) = n at *
        go_wp2_with fail
        go_meet
        exact ⟨_, rfl, rfl, ⟨(fun h hh => by simp at h; omega), fun h => by simp; exact fun e => h ⟨by trivial, by trivial, by omega, by omega, by omega, by omega, e⟩⟩⟩
      case rest =>
      obtain ⟨z, rfl, hwc, HZ⟩ := hcut
      subst wc
      cases z with
      | true =>
        have HNO : Hid ((parseE s).1 ≠ 0) := fun h => by
          obtain ⟨h1, h2, h3, h4, h5, h6, h7⟩ := HHD.out h
          have e1 := HA.out h1
          have e2 := HB.out h2
          exact HZ.out.1 rfl ⟨h1, h2, by omega, by omega, by omega, by omega, by omega⟩
        clear HA HB HHD HI1 HI2 HTT hgo hWd hwl HZ
        obtain ⟨q0, q1, q2, f0, f1, f2⟩ := resAt hres
        have hNB := below3 hbw (Nat.le_refl w.heap.size) (.string ⟨#[]⟩) (.slice none 0 0) (.slice none 0 0)
        go_wp2
        refine bodyPost_ret (v := .tuple #[.agg #[.string ⟨#[]⟩, .slice none 0 0, .slice none 0 0], .int .i64 4]) (by simp [results, Tryz.results13, go_sem, q0, q1, q2]) rfl ?_
        exact refOf_bad HNO.out hNB
      | false =>
      obtain ⟨HZ1, HZ2, HZ3⟩ : Hid (isN ws 1 = true ∧ isN ws 2 = true) ∧ Hid (A = nR ws 1 ∧ B = nR ws 2) ∧ (0 ≤ A ∧ A ≤ 6 ∧ 0 ≤ B ∧ B ≤ 36 ∧ (ws.length : Int) = 3 + 3 * A + 3 * B) := by
        have h := Decidable.not_not.1 fun h => Bool.false_ne_true (HZ.out.2 h)
        exact ⟨⟨HI1.out.trans h.1, HI2.out.trans h.2.1⟩, ⟨HA.out h.1, HB.out h.2.1⟩, h.2.2⟩
      clear HZ HA HB HHD HI1 HI2
      obtain ⟨p, rfl⟩ : ∃ p : Nat, A = (p : Int) := ⟨A.toNat, by omega⟩
      obtain ⟨q, rfl⟩ : ∃ q : Nat, B = (q : Int) := ⟨B.toNat, by omega⟩
      obtain ⟨_, hp6, _, hq6, hsum⟩ := HZ3
      have hp6n : p ≤ 6 := by omega
      have hq6n : q ≤ 36 := by omega
      have HLEN : Hid (ws.length = 3 + 3 * p + 3 * q) := (by omega : ws.length = 3 + 3 * p + 3 * q)
      have hlenle : ws.length ≤ 200 := by omega
      have hl0 : (0 : Int) < (ws.length : Int) := by omega
      generalize hnw : ws.length = n at *
      clear hsum
      generalize hroot : (⟨(wL ws 0).toArray⟩ : ByteArray) = root at *
      have HRT : Hid ((⟨(wL ws 0).toArray⟩ : ByteArray) = root) := hroot
      have hrsz : root.size ≤ 100000 := by rw [← hroot]; show (wL ws 0).toArray.size ≤ _; have := hwl 0; simpa using this
      clear hroot hnw
      have hbe : Below w2.heap.size w2 (w2.alloc (.cells #[.string root, .slice none 0 0, .slice none 0 0] 26)) := (Below.refl _ _).alloc (Nat.le_refl _) _
      have hblk : (w2.alloc (.cells #[.string root, .slice none 0 0, .slice none 0 0] 26)).heap[w2.heap.size]? = some (.cells #[.string root, .slice none 0 0, .slice none 0 0] 26 (0, 0)) := Array.getElem?_push_size
      have hbz : w2.heap.size < (w2.alloc (.cells #[.string root, .slice none 0 0, .slice none 0 0] 26)).heap.size := by simp
      go_upto_block 0 with fail
      generalize w2.alloc (.cells #[.string root, .slice none 0 0, .slice none 0 0] 26) = W6 at *
      generalize hBE : w2.heap.size = be at *
      have hR0 : Rd 69 (fun v => #[.string root, v, .slice none 0 0]) W6 W6 be (fun i => [.string ⟨(wL ws (3 + 3 * i)).toArray⟩, .int .i64 (nR ws (4 + 3 * i)), .int .i64 (nR ws (5 + 3 * i))]) 0 (.slice none 0 0) := ⟨hbz, hblk, World.ownsRow_nil _ _ _ _, Below.refl _ _, fun _ _ _ => rfl⟩
      have hgo6 : ∀ j, j < n → W6.cell? ⟨b2, j, none⟩ = some (.string ⟨(wL ws j).toArray⟩) := fun j hj => cell_later (hBE ▸ hbe) (hgo j hj)
      have hres6 := (hbe.block _ (by omega : w.heap.size < be)).trans hres
      have hbw6 := hbw.trans (hbe.mono (by omega : w.heap.size ≤ be))
      have hlt0 : w.heap.size < be := by omega
      have hne2 : b2 ≠ be := by omega
      clear hgo hres hbw hc0 hWd hblk
      go_wp2
      go_loopw [12, 13, 14, 15, 16] (fun y12 _ _ _ _ wr => ∃ (i : Nat) (v : Value), i ≤ p ∧ y12 = .int .i64 i ∧ Hid (∀ j, j < i → refRow ws j) ∧ Rd 69 (fun v => #[.string root, v, .slice none 0 0]) W6 wr be (fun i => [.string ⟨(wL ws (3 + 3 * i)).toArray⟩, .int .i64 (nR ws (4 + 3 * i)), .int .i64 (nR ws (5 + 3 * i))]) i v) (fun y12 _ _ _ _ _ => p - (intOf y12).toNat)
      case atStart => exact ⟨0, _, Nat.zero_le _, rfl, fun j hj => absurd hj (Nat.not_lt_zero _), hR0⟩
      case round =>
        clear hR0
        obtain ⟨i, v, hi, rfl, HRW, hR⟩ := hrel
        by_cases hlt : i < p
        · have hlen := HLEN.out
          have c3 : wr.cell? ⟨b2, 3 + 3 * i, none⟩ = some (.string ⟨(wL ws (3 + 3 * i)).toArray⟩) := hR.cell (hgo6 _ (by omega)) hne2
          have c4 : wr.cell? ⟨b2, 4 + 3 * i, none⟩ = some (.string ⟨(wL ws (4 + 3 * i)).toArray⟩) := hR.cell (hgo6 _ (by omega)) hne2
          have c5 : wr.cell? ⟨b2, 5 + 3 * i, none⟩ = some (.string ⟨(wL ws (5 + 3 * i)).toArray⟩) := hR.cell (hgo6 _ (by omega)) hne2
          have HN4 := numberL ws (4 + 3 * i) wr
          have HN5 := numberL ws (5 + 3 * i) wr
          have HV : Hid (isN ws (4 + 3 * i) = true → isN ws (5 + 3 * i) = true → [.string ⟨(wL ws (3 + 3 * i)).toArray⟩, .int .i64 ((refNum (wL ws (4 + 3 * i))).getD 0), .int .i64 ((refNum (wL ws (5 + 3 * i))).getD 0)] = (fun i => [Value.string ⟨(wL ws (3 + 3 * i)).toArray⟩, .int .i64 (nR ws (4 + 3 * i)), .int .i64 (nR ws (5 + 3 * i))]) i) := fun h1 h2 => by rw [num_is h1, num_is h2]
          have HRN : Hid (isN ws (4 + 3 * i) = true → isN ws (5 + 3 * i) = true → refRow ws i) := fun h1 h2 => ⟨h1, h2⟩
          have HNB : Hid ((parseE s).1 = 0 → isN ws (4 + 3 * i) = true ∧ isN ws (5 + 3 * i) = true) := fun h => (HTT.out h).2.1 i (by show i < (nR ws 1).toNat; rw [← HZ2.out.1]; simpa using hlt)
          have j3 : (0 : Int) ≤ 3 + 3 * (i : Int) := by omega
          have j4 : (0 : Int) ≤ 4 + 3 * (i : Int) := by omega
          have j5 : (0 : Int) ≤ 5 + 3 * (i : Int) := by omega
          have k3 : 3 + 3 * (i : Int) < (n : Int) := by omega
          have k4 : 4 + 3 * (i : Int) < (n : Int) := by omega
          have k5 : 5 + 3 * (i : Int) < (n : Int) := by omega
          have n3 : 3 + 3 * i < n := by omega
          have n4 : 4 + 3 * i < n := by omega
          have n5 : 5 + 3 * i < n := by omega
          generalize isN ws (4 + 3 * i) = ba at *
          generalize isN ws (5 + 3 * i) = bb at *
          generalize (refNum (wL ws (4 + 3 * i))).getD 0 = xa at *
          generalize (refNum (wL ws (5 + 3 * i))).getD 0 = xb at *
          generalize (⟨(wL ws (3 + 3 * i)).toArray⟩ : ByteArray) = t3 at c3 HV
          generalize (⟨(wL ws (4 + 3 * i)).toArray⟩ : ByteArray) = t4 at c4 HN4
          generalize (⟨(wL ws (5 + 3 * i)).toArray⟩ : ByteArray) = t5 at c5 HN5
          clear hlen
          go_wp2_with fail
          refine (show Calls _ _ _ _ _ from HN4).mono ?_
          rintro e w' ⟨rfl, rfl⟩
          clear HN4
          go_wp2_with fail
          refine (show Calls _ _ _ _ _ from HN5).mono ?_
          rintro e w' ⟨rfl, rfl⟩
          clear HN5
          go_upto_region 17 with fail
          go_cut [127] from 122 to 127 (fun y wc => ∃ z : Bool, y = .bool z ∧ wc = wr ∧ Hid (z = !(ba && bb)))
          case first =>
            clear HV HRN HNB hR HRW
            cases ba <;> cases bb <;> (go_wp2_with fail; go_meet; exact ⟨_, rfl, rfl, rfl⟩)
          case rest =>
          obtain ⟨z, rfl, hwc, HZZ⟩ := hcut
          subst wc
          cases z with
          | true =>
            have HNO : Hid ((parseE s).1 ≠ 0) := fun h => by
              obtain ⟨h1, h2⟩ := HNB.out h
              have := HZZ.out
              rw [h1, h2] at this
              cases this
            have hresX := (hR.kept _ (by omega) (by omega : w.heap.size ≠ be)).trans hres6
            have hbwX := hbw6.trans (hR.low.mono (by omega))
            clear HV HRN HNB hR HRW c3 c4 c5
            obtain ⟨q0, q1, q2, f0, f1, f2⟩ := resAt hresX
            have hNB := below3 hbwX (Nat.le_refl w.heap.size) (.string ⟨#[]⟩) (.slice none 0 0) (.slice none 0 0)
            go_wp2
            refine bodyPost_ret (v := .tuple #[.agg #[.string ⟨#[]⟩, .slice none 0 0, .slice none 0 0], .int .i64 4]) (by simp [results, Tryz.results13, go_sem, q0, q1, q2]) rfl ?_
            exact refOf_bad HNO.out hNB
          | false =>
            obtain ⟨h1, h2⟩ := two_true HZZ.out
            have HV1 := HV.out h1 h2
            have HRW1 : Hid (∀ j, j < i + 1 → refRow ws j) := fun j hj => by
              by_cases e : j = i
              · subst e; exact HRN.out h1 h2
              · exact HRW.out j (by omega)
            obtain ⟨av, cv, rfl, _⟩ := owns_shape hR.own
            have hC : wr.cell? ⟨be, 1, none⟩ = some (.slice av i cv) := by simp [World.cell?, hR.blk]
            have hRd := hR.later (Below.refl _ wr).drew
            have hSS : (fun w' : World => w'.cell? ⟨be, 1, none⟩ = some (.slice av i cv) ∧ w'.cell? ⟨b2, 3 + 3 * i, none⟩ = some (.string t3)) wr.drew := ⟨hC, c3⟩
            have HV2 : Hid ([.string t3, .int .i64 xa, .int .i64 xb] = (fun i => [Value.string ⟨(wL ws (3 + 3 * i)).toArray⟩, .int .i64 (nR ws (4 + 3 * i)), .int .i64 (nR ws (5 + 3 * i))]) i) := HV1
            clear HV HRN HNB HZZ HRW hC c3 c4 c5 h1 h2 HV1 hR
            go_upto_region 19 with fail
            have v1 : IntKind.i64.wrap (3 * (i : Int)) = 3 * (i : Int) := wr64 _ (by omega) (by omega)
            have v2 : IntKind.i64.wrap (3 + 3 * (i : Int)) = 3 + 3 * (i : Int) := wr64 _ (by omega) (by omega)
            have v3 : (3 + 3 * (i : Int)).toNat = 3 + 3 * i := by omega
            refine wp_region_G (fun w' : World => w'.cell? ⟨be, 1, none⟩ = some (.slice av i cv) ∧ w'.cell? ⟨b2, 3 + 3 * i, none⟩ = some (.string t3)) 12 15 (by kernel_rfl) rfl ?_
            generalize wr.drew = wd at *
            refine tW 0 hSS ?_
            refine tW 2 hSS ?_
            refine tW 3 hSS ?_
            refine tW 4 hSS ?_
            refine tW 5 hSS ?_
            refine tW 6 hSS ?_
            refine tW 8 hSS ?_
            refine tW 9 hSS ?_
            refine tR 1 [] hSS ?_
            refine tR 7 [11, 10] hSS ?_
            refine tW 10 hSS ?_
            refine oG 11 fun K hK => ?_
            go_wp2_with fail
            refine hK _ _ ⟨cell_later ((Below.refl _ _).alloc (Nat.le_refl _) _) hSS.1, cell_later ((Below.refl _ _).alloc (Nat.le_refl _) _) hSS.2⟩ ?_
            clear hK
            obtain ⟨v9, W9, happ, hG⟩ := grow3 t3 xa xb hRd.low.size hRd.own (by omega)
            rw [HV2.out] at hG
            obtain ⟨g1, g2, hbG, hRn⟩ := hRd.put (i := 1) _ hG rfl rfl
            obtain ⟨a9, c9, rfl, _⟩ := owns_shape hRn.own
            clear hG hbG hSS hRd
            refine lG 12 fun K hK => ?_
            go_wp2_with (at_builtin; refine list_run rfl (.tmp 130) (.tmp 140) 23 rfl _ _ _ rfl rfl happ ?_)
            refine hK _ _ ?_
            clear hK
            refine tA 13 ?_
            refine lG 14 fun K hK => ?_
            go_wp2_with fail
            refine hK _ _ ?_
            clear hK
            refine doneG (by kernel_rfl) ?_ _
            go_wp2
            go_roundw
            case rel => exact ⟨i + 1, _, by omega, by go_num, HRW1, hRn⟩
            case measure => simp [intOf]; omega
        · have HIP : Hid (i = p) := (by omega : i = p)
          obtain ⟨aP, cP, rfl, HROW⟩ := rows3 (fun _ => rfl) hR.own
          have hblk7 := hR.blk
          have hlow7 := hR.low
          have hgo7 : ∀ j, j < n → wr.cell? ⟨b2, j, none⟩ = some (.string ⟨(wL ws j).toArray⟩) := fun j hj => hR.cell (hgo6 j hj) hne2
          have hres7 := (hR.kept _ (by omega) (by omega : w.heap.size ≠ be)).trans hres6
          have hbw7 := hbw6.trans (hR.low.mono (by omega))
          have HROW7 : Hid (W6.heap.size ≤ wr.heap.size ∧ (i = 0 ∨ ∃ bk, W6.heap.size ≤ bk ∧ aP = some ⟨bk, 0, none⟩ ∧ (∀ k, k < i → ∀ j u, ((fun i => [Value.string ⟨(wL ws (3 + 3 * i)).toArray⟩, .int .i64 (nR ws (4 + 3 * i)), .int .i64 (nR ws (5 + 3 * i))]) k)[j]? = some u → wr.cell? ⟨bk, k * 3 + j, none⟩ = some u) ∧ ∃ C, wr.heap[bk]? = some (.cells C 69 (0, 0)))) := ⟨hlow7.size, HROW⟩
          have hbz7 : be < wr.heap.size := (Array.getElem?_eq_some_iff.1 hR.blk).1
          clear hR HROW hgo6 hres6 hbw6 hlow7
          obtain ⟨W7, rfl⟩ : ∃ W, W = wr := ⟨_, rfl⟩
          have hR0 : Rd 67 (fun v => #[.string root, .slice aP i cP, v]) W7 W7 be (fun j => [.int .i64 (nR ws (3 + 3 * (p + j))), .int .i64 (nR ws (4 + 3 * (p + j))), .int .i64 (nR ws (5 + 3 * (p + j)))]) 0 (.slice none 0 0) := ⟨hbz7, hblk7, World.ownsRow_nil _ _ _ _, Below.refl _ _, fun _ _ _ => rfl⟩
          clear hblk7
          go_wp2
          go_loopw [17, 18, 19, 20, 21, 22, 23] (fun y17 _ _ _ _ _ _ wr => ∃ (k j : Nat) (v : Value), Hid (k = p + j) ∧ k ≤ p + q ∧ y17 = .int .i64 k ∧ Hid (∀ x, x < j → refPat ws (p + x)) ∧ Rd 67 (fun v => #[.string root, .slice aP i cP, v]) W7 wr be (fun j => [.int .i64 (nR ws (3 + 3 * (p + j))), .int .i64 (nR ws (4 + 3 * (p + j))), .int .i64 (nR ws (5 + 3 * (p + j)))]) j v) (fun y17 _ _ _ _ _ _ _ => p + q - (intOf y17).toNat)
          case atStart => exact ⟨p, 0, _, rfl, by omega, rfl, fun j hj => absurd hj (Nat.not_lt_zero _), hR0⟩
          case round =>
            clear hR0
            obtain ⟨k, j, v, HKJ, hk, rfl, HPW, hR⟩ := hrel
            by_cases hlt2 : k < p + q
            · have hlt2' : (k : Int) < (p : Int) + (q : Int) := by omega
              have hlen := HLEN.out
              have hkj := HKJ.out
              have c3 : wr.cell? ⟨b2, 3 + 3 * k, none⟩ = some (.string ⟨(wL ws (3 + 3 * k)).toArray⟩) := hR.cell (hgo7 _ (by omega)) hne2
              have c4 : wr.cell? ⟨b2, 4 + 3 * k, none⟩ = some (.string ⟨(wL ws (4 + 3 * k)).toArray⟩) := hR.cell (hgo7 _ (by omega)) hne2
              have c5 : wr.cell? ⟨b2, 5 + 3 * k, none⟩ = some (.string ⟨(wL ws (5 + 3 * k)).toArray⟩) := hR.cell (hgo7 _ (by omega)) hne2
              have HN3 := numberL ws (3 + 3 * k) wr
              have HN4 := numberL ws (4 + 3 * k) wr
              have HN5 := numberL ws (5 + 3 * k) wr
              have HV : Hid (isN ws (3 + 3 * k) = true → isN ws (4 + 3 * k) = true → isN ws (5 + 3 * k) = true → [.int .i64 ((refNum (wL ws (3 + 3 * k))).getD 0), .int .i64 ((refNum (wL ws (4 + 3 * k))).getD 0), .int .i64 ((refNum (wL ws (5 + 3 * k))).getD 0)] = (fun j => [Value.int .i64 (nR ws (3 + 3 * (p + j))), .int .i64 (nR ws (4 + 3 * (p + j))), .int .i64 (nR ws (5 + 3 * (p + j)))]) j) := fun h1 h2 h3 => by rw [num_is h1, num_is h2, num_is h3, hkj]
              have HRN : Hid (isN ws (3 + 3 * k) = true → isN ws (4 + 3 * k) = true → isN ws (5 + 3 * k) = true → refPat ws (p + j)) := fun h1 h2 h3 => by rw [← hkj]; exact ⟨h1, h2, h3⟩
              have HNB : Hid ((parseE s).1 = 0 → isN ws (3 + 3 * k) = true ∧ isN ws (4 + 3 * k) = true ∧ isN ws (5 + 3 * k) = true) := fun h => (HTT.out h).2.2.1 k (by show (nR ws 1).toNat ≤ k; rw [← HZ2.out.1]; simp; omega) (by show k < (nR ws 1).toNat + (nR ws 2).toNat; rw [← HZ2.out.1, ← HZ2.out.2]; simp; omega)
              have j3 : (0 : Int) ≤ 3 + 3 * (k : Int) := by omega
              have j4 : (0 : Int) ≤ 4 + 3 * (k : Int) := by omega
              have j5 : (0 : Int) ≤ 5 + 3 * (k : Int) := by omega
              have k3 : 3 + 3 * (k : Int) < (n : Int) := by omega
              have k4 : 4 + 3 * (k : Int) < (n : Int) := by omega
              have k5 : 5 + 3 * (k : Int) < (n : Int) := by omega
              have n3 : 3 + 3 * k < n := by omega
              have n4 : 4 + 3 * k < n := by omega
              have n5 : 5 + 3 * k < n := by omega
              have hj100 : j < 1000 := by omega
              generalize isN ws (3 + 3 * k) = bz at *
              generalize isN ws (4 + 3 * k) = ba at *
              generalize isN ws (5 + 3 * k) = bb at *
              generalize (refNum (wL ws (3 + 3 * k))).getD 0 = xz at *
              generalize (refNum (wL ws (4 + 3 * k))).getD 0 = xa at *
              generalize (refNum (wL ws (5 + 3 * k))).getD 0 = xb at *
              generalize (⟨(wL ws (3 + 3 * k)).toArray⟩ : ByteArray) = t3 at c3 HN3
              generalize (⟨(wL ws (4 + 3 * k)).toArray⟩ : ByteArray) = t4 at c4 HN4
              generalize (⟨(wL ws (5 + 3 * k)).toArray⟩ : ByteArray) = t5 at c5 HN5
              clear hlen hkj
              go_wp2_with fail
              refine (show Calls _ _ _ _ _ from HN3).mono ?_
              rintro e w' ⟨rfl, rfl⟩
              clear HN3
              go_wp2_with fail
              refine (show Calls _ _ _ _ _ from HN4).mono ?_
              rintro e w' ⟨rfl, rfl⟩
              clear HN4
              go_wp2_with fail
              refine (show Calls _ _ _ _ _ from HN5).mono ?_
              rintro e w' ⟨rfl, rfl⟩
              clear HN5
              go_upto_region 26 with fail
              go_cut [190] from 181 to 190 (fun y wc => ∃ z : Bool, y = .bool z ∧ wc = wr ∧ Hid (z = !(bz && ba && bb)))
              case first =>
                clear HV HRN HNB hR HPW
                cases bz <;> cases ba <;> cases bb <;> (go_wp2_with fail; go_meet; exact ⟨_, rfl, rfl, rfl⟩)
              case rest =>
              obtain ⟨z, rfl, hwc, HZZ⟩ := hcut
              subst wc
              cases z with
              | true =>
                have HNO : Hid ((parseE s).1 ≠ 0) := fun h => by
                  obtain ⟨h1, h2, h3⟩ := HNB.out h
                  have := HZZ.out
                  rw [h1, h2, h3] at this
                  cases this
                have hresX := (hR.kept _ (by omega) (by omega : w.heap.size ≠ be)).trans hres7
                have hbwX := hbw7.trans (hR.low.mono (by omega))
                clear HV HRN HNB hR HPW c3 c4 c5
                obtain ⟨q0, q1, q2, f0, f1, f2⟩ := resAt hresX
                have hNB := below3 hbwX (Nat.le_refl w.heap.size) (.string ⟨#[]⟩) (.slice none 0 0) (.slice none 0 0)
                go_wp2
                refine bodyPost_ret (v := .tuple #[.agg #[.string ⟨#[]⟩, .slice none 0 0, .slice none 0 0], .int .i64 4]) (by simp [results, Tryz.results13, go_sem, q0, q1, q2]) rfl ?_
                exact refOf_bad HNO.out hNB
              | false =>
                obtain ⟨h0, h1, h2⟩ := three_true HZZ.out
                have HV1 := HV.out h0 h1 h2
                have HPW1 : Hid (∀ x, x < j + 1 → refPat ws (p + x)) := fun x hx => by
                  by_cases e : x = j
                  · subst e; exact HRN.out h0 h1 h2
                  · exact HPW.out x (by omega)
                obtain ⟨av, cv, rfl, _⟩ := owns_shape hR.own
                have hC : wr.cell? ⟨be, 2, none⟩ = some (.slice av j cv) := by simp [World.cell?, hR.blk]
                obtain ⟨v9, W9, happ, hG⟩ := growI3 xz xa xb hR.low.size hR.own hj100
                rw [HV1] at hG
                obtain ⟨g1, g2, hbG, hRn⟩ := hR.put (i := 2) _ hG rfl rfl
                obtain ⟨a9, c9, rfl, _⟩ := owns_shape hRn.own
                have HKJ1 : Hid (k + 1 = p + (j + 1)) := (by have := HKJ.out; omega : k + 1 = p + (j + 1))
                clear hG hbG HV HRN HNB HZZ HPW c3 c4 c5 h0 h1 h2 HV1 hR HKJ
                go_wp2_with (at_builtin; refine list_run rfl (.tmp 193) (.tmp 198) 24 rfl _ _ _ rfl rfl happ ?_)
                go_wp2
                go_roundw
                case rel => exact ⟨k + 1, j + 1, _, HKJ1, by omega, by go_num, HPW1, hRn⟩
                case measure => simp [intOf]; omega
            · have HQQ : Hid (j = q) := (by have := HKJ.out; omega : j = q)
              have hlt2' : ¬ (k : Int) < (p : Int) + (q : Int) := by omega
              obtain ⟨aQ, cQ, rfl, HROQ⟩ := rows3 (fun _ => rfl) hR.own
              have d0 : wr.cell? ⟨be, 0, none⟩ = some (.string root) := by simp [World.cell?, hR.blk]
              have d1 : wr.cell? ⟨be, 1, none⟩ = some (.slice aP i cP) := by simp [World.cell?, hR.blk]
              have d2 : wr.cell? ⟨be, 2, none⟩ = some (.slice aQ j cQ) := by simp [World.cell?, hR.blk]
              have hblk8 := hR.blk
              have hres8 := (hR.kept _ (by omega) (by omega : w.heap.size ≠ be)).trans hres7
              have hbw8 := hbw7.trans (hR.low.mono (by omega))
              obtain ⟨en, HEN⟩ : ∃ en : EntF, Hid (en = ⟨root, i, fun i => ⟨(wL ws (3 + 3 * i)).toArray⟩, fun i => nR ws (4 + 3 * i), fun i => nR ws (5 + 3 * i), j, fun j => nR ws (3 + 3 * (p + j)), fun j => nR ws (4 + 3 * (p + j)), fun j => nR ws (5 + 3 * (p + j))⟩) := ⟨_, rfl⟩
              have HIS : Hid (refRead ws = en) := by
                show refRead ws = en
                rw [HEN.out]
                unfold refRead
                rw [HRT.out, ← HZ2.out.1, ← HZ2.out.2, HIP.out, HQQ.out]
                simp only [Int.toNat_natCast]
              have hAt : EntAt wr ⟨aP, cP, aQ, cQ⟩ en := by
                rw [HEN.out]
                refine ⟨?_, ?_⟩
                · rcases HROW7.out.2 with h | ⟨bk, hbk, ha, hc, C, hC⟩
                  · exact .inl h
                  · have hn1 : bk ≠ be := by omega
                    exact .inr ⟨bk, 0, ha, fun k hk => ⟨by rw [Nat.zero_add]; exact hR.cell (hc k hk 0 _ rfl) hn1, by rw [Nat.zero_add]; exact hR.cell (hc k hk 1 _ rfl) hn1, by rw [Nat.zero_add]; exact hR.cell (hc k hk 2 _ rfl) hn1⟩⟩
                · rcases HROQ with h | ⟨bk, hbk, ha, hc, C, hC⟩
                  · exact .inl h
                  · exact .inr ⟨bk, 0, ha, fun k hk => ⟨by rw [Nat.zero_add]; exact hc k hk 0 _ rfl, by rw [Nat.zero_add]; exact hc k hk 1 _ rfl, by rw [Nat.zero_add]; exact hc k hk 2 _ rfl⟩⟩
              have hAP : ∀ bk o, i ≠ 0 → aP = some ⟨bk, o, none⟩ → bk ≠ w.heap.size := fun bk o h0 e => by
                rcases HROW7.out.2 with h | ⟨bk', hbk, ha, _⟩
                · exact absurd h h0
                · rw [ha] at e
                  injection e with e
                  injection e with e
                  omega
              have hAQ : ∀ bk o, j ≠ 0 → aQ = some ⟨bk, o, none⟩ → bk ≠ w.heap.size := fun bk o h0 e => by
                rcases HROQ with h | ⟨bk', hbk, ha, _⟩
                · exact absurd h h0
                · rw [ha] at e
                  injection e with e
                  injection e with e
                  omega
              have hcs : entCs ⟨aP, cP, aQ, cQ⟩ en = #[.string root, .slice aP i cP, .slice aQ j cQ] := by rw [HEN.out]
              have hfit : EntFit en := by
                have h2 : ∀ k, (wL ws (3 + 3 * k)).toArray.size ≤ maxLen := fun k => by
                  have h3 := hwl (3 + 3 * k)
                  have h4 : (wL ws (3 + 3 * k)).toArray.size = (wL ws (3 + 3 * k)).length := by simp
                  simp only [maxLen]
                  omega
                rw [HEN.out]
                have e1 : root.size ≤ maxLen := Nat.le_trans hrsz (by decide)
                have e2 : i ≤ maxLen := Nat.le_trans (by have := HIP.out; omega : i ≤ 6) (by decide)
                have e3 : j ≤ maxLen := Nat.le_trans (by have := HQQ.out; omega : j ≤ 36) (by decide)
                exact ⟨e1, e2, e3, fun k _ => h2 k⟩
              have HF := refEntFault_any ⟨aP, cP, aQ, cQ⟩ en wr hAt hfit
              have HX := fun (W : World) (hW : Below wr.heap.size wr W) (h0 : entF en = 0) => refEntText_any ⟨aP, cP, aQ, cQ⟩ en W (hAt.later hW) h0
              rw [hcs] at HF
              simp only [hcs] at HX
              have hbz8 : be < wr.heap.size := (Array.getElem?_eq_some_iff.1 hR.blk).1
              have hSZ : w.heap.size < wr.heap.size := by omega
              clear hR HROQ hres7 hbw7 hgo7 hwl
              go_upto_region 29 with fail
              go_cut [209] from 201 to 209 (fun y wc => ∃ z : Bool, y = .bool z ∧ Below wr.heap.size wr wc ∧ Hid (z = true → (parseE s).1 ≠ 0) ∧ Hid (z = false → entF en = 0 ∧ lineE en = s.data.toList))
              case first =>
                have HTF : Hid ((parseE s).1 = 0 → entF en = 0 ∧ lineE en = s.data.toList) := fun h => by
                  have := (HTT.out h).2.2.2
                  rw [HIS.out] at this
                  exact this
                clear HTT HIS HEN hAt hcs hfit hres8 hbw8
                go_wp2_with fail
                refine (show Calls _ _ _ _ _ from HF).mono ?_
                rintro e w9 ⟨rfl, hb9⟩
                clear HF
                have d0' := cell_later hb9 d0
                have d1' := cell_later hb9 d1
                have d2' := cell_later hb9 d2
                by_cases h0 : entF en = 0
                · have HT := HX w9 hb9 h0
                  have HE0 : Hid (entF en = 0) := h0
                  rw [h0]
                  clear HX h0
                  go_wp2_with fail
                  refine (show Calls _ _ _ _ _ from HT).mono ?_
                  rintro e w10 ⟨⟨t, rfl, ht⟩, hb10⟩
                  have hb := hb9.trans (hb10.mono hb9.size)
                  clear HT d0 d1 d2 d0' d1' d2' hb9 hb10
                  by_cases hts : t = s
                  · have hq : (t.toList == s.toList) = true := by rw [hts]; simp
                    have HL : Hid (lineE en = s.data.toList) := (by rw [← ht, hts] : lineE en = s.data.toList)
                    clear hts ht HTF
                    go_wp2_with fail
                    go_meet
                    exact ⟨_, rfl, hb, (fun h => by simp at h), fun _ => ⟨HE0.out, HL.out⟩⟩
                  · have hq : (t.toList == s.toList) = false := by
                      rw [beq_eq_false_iff_ne, ByteArray.toList_eq, ByteArray.toList_eq]
                      exact fun h => hts (by cases t; cases s; simp_all)
                    have HL : Hid ((parseE s).1 ≠ 0) := fun h => hts (by have := ht.trans (HTF.out h).2; cases t; cases s; simp_all)
                    clear hts ht HTF
                    go_wp2_with fail
                    go_meet
                    exact ⟨_, rfl, hb, (fun _ => HL.out), fun h => by simp at h⟩
                · have hpos : (0 : Int) < ((entF en : Nat) : Int) := by omega
                  have HL : Hid ((parseE s).1 ≠ 0) := fun h => h0 (HTF.out h).1
                  clear h0 HX HTF
                  generalize entF en = F at *
                  go_wp2_with fail
                  go_meet
                  exact ⟨_, rfl, hb9, (fun _ => HL.out), fun h => by cases h⟩
              case rest =>
              obtain ⟨z, rfl, hbc, HZ1', HZ2'⟩ := hcut
              have hres9 := (hbc.block _ hSZ).trans hres8
              have hbw9 := hbw8.trans (hbc.mono (Nat.le_of_lt hSZ))
              cases z with
              | true =>
                have HNO : Hid ((parseE s).1 ≠ 0) := HZ1'.out rfl
                clear HTT HIS HEN hAt hcs hfit hres8 hbw8 HF HX
                obtain ⟨q0, q1, q2, f0, f1, f2⟩ := resAt hres9
                have hNB := below3 hbw9 (Nat.le_refl w.heap.size) (.string ⟨#[]⟩) (.slice none 0 0) (.slice none 0 0)
                go_wp2
                refine bodyPost_ret (v := .tuple #[.agg #[.string ⟨#[]⟩, .slice none 0 0, .slice none 0 0], .int .i64 4]) (by simp [results, Tryz.results13, go_sem, q0, q1, q2]) rfl ?_
                exact refOf_bad HNO.out hNB
              | false =>
                obtain ⟨hz1, hz2⟩ := HZ2'.out rfl
                obtain ⟨r1, r2⟩ := ref_taken (s := s) hz1 hz2
                have e0 := cell_later hbc d0
                have e1 := cell_later hbc d1
                have e2 := cell_later hbc d2
                obtain ⟨q0, q1, q2, f0, f1, f2⟩ := resAt hres9
                have hNB := below3 hbw9 (Nat.le_refl w.heap.size) (.string root) (.slice aP i cP) (.slice aQ j cQ)
                have hAt9 := hAt.later hbc
                have HFIN : Hid ((∃ v, Ending.returned (.tuple #[.agg #[.string root, .slice aP i cP, .slice aQ j cQ], .int .i64 0]) = .returned (.tuple #[.agg (entCs v (parseE s).2), .int .i64 (((parseE s).1 : Nat) : Int)]) ∧ EntAt (((wc.setCell ⟨w.heap.size, 0, none⟩ (.string root)).setCell ⟨w.heap.size, 1, none⟩ (.slice aP i cP)).setCell ⟨w.heap.size, 2, none⟩ (.slice aQ j cQ)) v (parseE s).2)) := by
                  refine ⟨⟨aP, cP, aQ, cQ⟩, ?_, ?_⟩
                  · rw [r1]
                    have : entCs ⟨aP, cP, aQ, cQ⟩ (parseE s).2 = entCs ⟨aP, cP, aQ, cQ⟩ en := by unfold entCs; rw [r2.root, r2.nP, r2.nQ]
                    rw [this, hcs]
                    rfl
                  · have hlo := HROW7.out.1
                    refine ⟨RowE.same (s := en.pName) (k := en.pStamp) (b := en.pBase) ?_ fun x hx => ?_, PatRow.same (s := en.qPart) (k := en.qAt) (b := en.qWord) ?_ fun x hx => ?_⟩
                    · rw [r2.nP]; exact row_set3 hAt9.parts fun bk o h0 e => hAP bk o (by rw [HEN.out] at h0; exact h0) e
                    · obtain ⟨h1, h2, h3⟩ := r2.parts x (by rw [← r2.nP]; exact hx); exact ⟨h1.symm, h2.symm, h3.symm⟩
                    · rw [r2.nQ]; exact pat_set3 hAt9.pats fun bk o h0 e => hAQ bk o (by rw [HEN.out] at h0; exact h0) e
                    · obtain ⟨h1, h2, h3⟩ := r2.pats x (by rw [← r2.nQ]; exact hx); exact ⟨h1.symm, h2.symm, h3.symm⟩
                clear HTT HIS HEN hAt hcs hfit hres8 hbw8 HF HX hz1 hz2 r1 r2 HZ1' HZ2' hAt9 hres9 hbw9 hAP hAQ
                go_wp2
                refine bodyPost_ret (v := .tuple #[.agg #[.string root, .slice aP i cP, .slice aQ j cQ], .int .i64 0]) (by simp [results, Tryz.results13, go_sem, q0, q1, q2]) rfl ?_
                exact ⟨HFIN.out, hNB⟩
    · have HNO : Hid ((parseE s).1 ≠ 0) := fun h => by
        obtain ⟨l', e1, _⟩ := HT.out h
        injection e1 with e1 _
        rw [e1] at hlen
        exact hlen rfl
      have hl2 : ((ls.length : Int) != 1) = true := by rw [bne_iff_ne]; omega
      clear HT HCU hr1 hcs
      obtain ⟨q0, q1, q2, f0, f1, f2⟩ := resAt hres
      have hNB := below3 hbw (Nat.le_refl w.heap.size) (.string ⟨#[]⟩) (.slice none 0 0) (.slice none 0 0)
      go_wp2
      refine bodyPost_ret (v := .tuple #[.agg #[.string ⟨#[]⟩, .slice none 0 0, .slice none 0 0], .int .i64 4]) (by simp [results, Tryz.results13, go_sem, q0, q1, q2]) rfl ?_
      exact refOf_bad HNO.out hNB
  · have HNO : Hid ((parseE s).1 ≠ 0) := fun h => by
      obtain ⟨l', e1, _⟩ := HT.out h
      injection e1 with _ e1
      exact hrest e1
    have hdec : decide (rest = []) = false := decide_eq_false hrest
    rw [hdec]
    clear HT HCU hr1 hcs hrest
    obtain ⟨q0, q1, q2, f0, f1, f2⟩ := resAt hres
    have hNB := below3 hbw (Nat.le_refl w.heap.size) (.string ⟨#[]⟩) (.slice none 0 0) (.slice none 0 0)
    go_wp2
    refine bodyPost_ret (v := .tuple #[.agg #[.string ⟨#[]⟩, .slice none 0 0, .slice none 0 0], .int .i64 4]) (by simp [results, Tryz.results13, go_sem, q0, q1, q2]) rfl ?_
    exact refOf_bad HNO.out hNB
end Go.Proofs.YthdccmjdbcllkaaGreatDoor

