/-
  Plain words, with nothing of the program: two objects that are alike have the same faults and the same text; an object's text is parsed as it; a text that is parsed is that of what is parsed.
-/
import Derived.Test.YthdccmjdbcllkaaGreatDoorParseAll
namespace Go.Proofs.YthdccmjdbcllkaaGreatDoor

theorem catTo_congr {g h : Nat → List UInt8} {n : Nat} (e : ∀ i, i < n → g i = h i) : catTo g n = catTo h n := by
  induction n with
  | zero => rfl
  | succ n ih => simp only [catTo, ih (fun i hi => e i (by omega)), e n (by omega)]
theorem faultTo_congr {g h : Nat → Nat} {n : Nat} (e : ∀ i, i < n → g i = h i) : faultTo g n = faultTo h n := by
  induction n with
  | zero => rfl
  | succ n ih => simp only [faultTo, ih (fun i hi => e i (by omega)), e n (by omega)]
theorem dupF_congr {f g : Nat → ByteArray} {i : Nat} (e : ∀ j, j ≤ i → f j = g j) : dupF f i = dupF g i := by
  unfold dupF
  refine anyTo_congr fun j hj => ?_
  rw [e j (by omega), e i (Nat.le_refl _)]
theorem textL_congr {a b : ObjF} (h : SameO a b) : textL a = textL b := by
  unfold textL needsL wordsL symsL tiesL
  rw [h.nN, h.nW, h.nS, h.nT, catTo_congr (g := fun i => needLn (a.needs i)) (h := fun i => needLn (b.needs i)) (fun i hi => by rw [h.needs i hi]),
    catTo_congr (g := fun i => wordLn (a.words i)) (h := fun i => wordLn (b.words i)) (fun i hi => by rw [h.words i hi]),
    catTo_congr (g := fun i => symLn (a.sName i) (a.sAt i) (a.sWeak i)) (h := fun i => symLn (b.sName i) (b.sAt i) (b.sWeak i)) (fun i hi => by obtain ⟨h1, h2, h3⟩ := h.syms i hi; rw [h1, h2, h3]),
    catTo_congr (g := fun i => tieLn (a.tAt i) (a.tKind i) (a.tAdd i) (a.tName i) (a.tWeak i)) (h := fun i => tieLn (b.tAt i) (b.tKind i) (b.tAdd i) (b.tName i) (b.tWeak i)) (fun i hi => by obtain ⟨h1, h2, h3, h4, h5⟩ := h.ties i hi; rw [h1, h2, h3, h4, h5])]
theorem objF_congr {a b : ObjF} (h : SameO a b) : objF a = objF b := by
  have e0 : countsF a = countsF b := by unfold countsF; rw [h.nN, h.nW, h.nS, h.nT]
  have e1 : faultTo (needF a.needs) a.nN = faultTo (needF b.needs) b.nN := by
    rw [h.nN]
    refine faultTo_congr fun i hi => ?_
    unfold needF
    rw [h.needs i hi, dupF_congr fun j hj => h.needs j (by omega)]
  have e2 : faultTo (wordF a.words) a.nW = faultTo (wordF b.words) b.nW := by
    rw [h.nW]
    refine faultTo_congr fun i hi => ?_
    unfold wordF
    rw [h.words i hi]
  have e3 : faultTo (symF a.nW a.sName a.sAt) a.nS = faultTo (symF b.nW b.sName b.sAt) b.nS := by
    rw [h.nS]
    refine faultTo_congr fun i hi => ?_
    unfold symF
    rw [(h.syms i hi).1, (h.syms i hi).2.1, h.nW, dupF_congr fun j hj => (h.syms j (by omega)).1]
  have e4 : faultTo (tieF a) a.nT = faultTo (tieF b) b.nT := by
    rw [h.nT]
    refine faultTo_congr fun i hi => ?_
    have ep : prevAt a.tAt i = prevAt b.tAt i := by
      cases i with
      | zero => rfl
      | succ i => exact (h.ties i (by omega)).1
    obtain ⟨h1, h2, h3, h4, h5⟩ := h.ties i hi
    unfold tieF
    rw [h1, h2, h3, h4, h5, h.nW, ep]
  unfold objF
  rw [e0, e1, e2, e3, e4]
theorem textF_congr {a b : ObjF} (h : SameO a b) : textF a = textF b := by
  unfold textF
  rw [objF_congr h, textL_congr h]

theorem textF_zero {o : ObjF} (h : (textF o).1 = 0) : objF o = 0 ∧ (textL o).length ≤ 1200 ∧ textF o = (0, textL o) := by
  by_cases h0 : objF o = 0
  · by_cases h1 : 1200 < (textL o).length
    · exfalso
      have e : textF o = (2, []) := by unfold textF; rw [if_pos h0, if_pos h1]
      rw [e] at h
      exact absurd h (by decide)
    · refine ⟨h0, by omega, ?_⟩
      unfold textF
      rw [if_pos h0, if_neg h1]
  · exfalso
    have e : textF o = (objF o, []) := if_neg h0
    rw [e] at h
    exact h0 h

/-- an object's text is parsed as it. -/
theorem parse_text {o : ObjF} {t : ByteArray} (h : (textF o).1 = 0) (ht : t.data.toList = (textF o).2) : (parseF t).1 = 0 ∧ SameO (parseF t).2 o := by
  obtain ⟨h0, hl, he⟩ := textF_zero h
  have hr : readF t = built o := by rw [readF_foldT, ht, he]; exact read_text (objOk h0)
  have hs : ¬ 1200 < t.size := by
    have : t.size = (textL o).length := by
      have e : t.data.toList.length = t.size := by simp
      rw [← e, ht, he]
    omega
  have hF : textF (readF t) = textF o := by rw [hr]; exact textF_congr (built_same o)
  have hp : parseF t = (0, readF t) := by
    unfold parseF
    rw [if_neg hs, if_pos ⟨by rw [hF, h], by rw [hF, ht]⟩]
  rw [hp]
  exact ⟨rfl, by rw [hr]; exact built_same o⟩
/-- a text that is parsed is that of what is parsed. -/
theorem parse_back {s : ByteArray} (h : (parseF s).1 = 0) : (textF (parseF s).2).1 = 0 ∧ (textF (parseF s).2).2 = s.data.toList ∧ ObjFit (parseF s).2 := by
  unfold parseF at h ⊢
  by_cases h1 : 1200 < s.size
  · rw [if_pos h1] at h; exact absurd h (by decide)
  · rw [if_neg h1] at h ⊢
    by_cases h2 : (textF (readF s)).1 = 0 ∧ (textF (readF s)).2 = s.data.toList
    · rw [if_pos h2]
      exact ⟨h2.1, h2.2, readF_fit s (by omega)⟩
    · rw [if_neg h2] at h; exact absurd h (by decide)

theorem itoa_one : Lib.itoa 1 = [49] := by
  unfold Lib.itoa
  rw [if_neg (by decide), Lib.decDigits_one (by decide)]
  rfl
theorem parse_word1 : (parseF ⟨#[119, 111, 114, 100, 32, 49, 10]⟩).1 = 0 ∧ (parseF ⟨#[119, 111, 114, 100, 32, 49, 10]⟩).2.nW = 1 := by
  have ho : objF (addWord emptyO 1) = 0 := by decide
  have hl : textL (addWord emptyO 1) = [119, 111, 114, 100, 32, 49, 10] := by
    show (([] : List UInt8) ++ ([] ++ lineL false [[119, 111, 114, 100], Lib.itoa 1]) ++ [] ++ []) = _
    rw [itoa_one]
    rfl
  have he : textF (addWord emptyO 1) = (0, [119, 111, 114, 100, 32, 49, 10]) := by
    unfold textF
    rw [if_pos ho, hl, if_neg (by decide)]
  obtain ⟨h1, h2⟩ := parse_text (o := addWord emptyO 1) (t := ⟨#[119, 111, 114, 100, 32, 49, 10]⟩) (by rw [he]) (by rw [he])
  exact ⟨h1, h2.nW⟩
end Go.Proofs.YthdccmjdbcllkaaGreatDoor
