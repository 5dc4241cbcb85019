/-
  Plain words on what the document reads of an entry's text, with nothing of the program: it is what Parse reads.
-/
import Derived.Test.YthdccmjdbcllkaaGreatDoorPlainEntry
import Derived.Test.YthdccmjdbcllkaaGreatDoorPlainRef
namespace Go.Proofs.YthdccmjdbcllkaaGreatDoor

def wL (ws : List (List UInt8)) (i : Nat) : List UInt8 := ws.getD i []
def isN (ws : List (List UInt8)) (i : Nat) : Bool := (refNum (wL ws i)).isSome
def nR (ws : List (List UInt8)) (i : Nat) : Int := numR (wL ws i)
/-- may the words be an entry's, by their first three and their number? -/
def refHead (ws : List (List UInt8)) : Prop := 3 ≤ ws.length ∧ isN ws 1 = true ∧ isN ws 2 = true ∧ 0 ≤ nR ws 1 ∧ nR ws 1 ≤ 6 ∧ 0 ≤ nR ws 2 ∧ nR ws 2 ≤ 36 ∧ (ws.length : Int) = 3 + 3 * nR ws 1 + 3 * nR ws 2
def refRow (ws : List (List UInt8)) (i : Nat) : Prop := isN ws (4 + 3 * i) = true ∧ isN ws (5 + 3 * i) = true
def refPat (ws : List (List UInt8)) (i : Nat) : Prop := isN ws (3 + 3 * i) = true ∧ isN ws (4 + 3 * i) = true ∧ isN ws (5 + 3 * i) = true
def refRead (ws : List (List UInt8)) : EntF :=
  ⟨⟨(wL ws 0).toArray⟩, (nR ws 1).toNat, fun i => ⟨(wL ws (3 + 3 * i)).toArray⟩, fun i => nR ws (4 + 3 * i), fun i => nR ws (5 + 3 * i), (nR ws 2).toNat,
    fun i => nR ws (3 + 3 * ((nR ws 1).toNat + i)), fun i => nR ws (4 + 3 * ((nR ws 1).toNat + i)), fun i => nR ws (5 + 3 * ((nR ws 1).toNat + i))⟩
theorem wordsR_join : ∀ (ws : List (List UInt8)), (∀ x ∈ ws, (32 : UInt8) ∉ x) → ws ≠ [] → wordsR (Lib.join ws [32]) = ws
  | [], _, h => absurd rfl h
  | [x], h, _ => by rw [Lib.join_one]; exact wordsR_end x (h x (List.mem_cons_self ..))
  | x :: y :: r, h, _ => by
    have e : Lib.join (x :: y :: r) [32] = x ++ 32 :: Lib.join (y :: r) [32] := by
      rw [Lib.join_cons, Lib.join_cons]
      simp [Lib.joinTail]
    rw [e, wordsR_mid x _ (h x (List.mem_cons_self ..)), wordsR_join (y :: r) (fun z hz => h z (List.mem_cons_of_mem _ hz)) (by simp)]
theorem wL_at {ws : List (List UInt8)} {i : Nat} {x : List UInt8} (h : ws[i]? = some x) : wL ws i = x := by
  unfold wL
  rw [List.getD_eq_getElem?_getD, h]
  rfl
theorem nR_at {ws : List (List UInt8)} {i : Nat} {n : Int} (h : ws[i]? = some (Lib.itoa n)) (h0 : -1000000000000 ≤ n) (h1 : n ≤ 1000000000000) : isN ws i = true ∧ nR ws i = n := by
  unfold isN nR
  rw [wL_at h]
  exact ⟨by rw [refNum_itoa n h0 h1]; rfl, numR_itoa n h0 h1⟩
/-- the words of an entry that may be are read as it. -/
theorem refRead_entW {e : EntF} (h : EntOk e) : refHead (entW e) ∧ (∀ i, i < e.nP → refRow (entW e) i) ∧ (∀ i, e.nP ≤ i → i < e.nP + e.nQ → refPat (entW e) i) ∧ SameE (refRead (entW e)) e := by
  have hp := h.nP
  have hp0 := h.nP0
  have hq := h.nQ
  obtain ⟨a1, a2⟩ := nR_at (ws := entW e) (i := 1) (n := e.nP) (entW_head e (by decide)) (by omega) (by omega)
  obtain ⟨b1, b2⟩ := nR_at (ws := entW e) (i := 2) (n := e.nQ) (entW_head e (by decide)) (by omega) (by omega)
  have hl := entW_len e
  have part : ∀ i, i < e.nP → (isN (entW e) (4 + 3 * i) = true ∧ nR (entW e) (4 + 3 * i) = e.pStamp i) ∧ (isN (entW e) (5 + 3 * i) = true ∧ nR (entW e) (5 + 3 * i) = e.pBase i) := fun i hi => by
    have := h.parts i hi
    refine ⟨nR_at ?_ (by omega) (by omega), nR_at ?_ (by omega) (by omega)⟩
    · rw [show 4 + 3 * i = 3 + 3 * i + 1 by omega]; exact entW_part e (j := 1) hi (by decide)
    · rw [show 5 + 3 * i = 3 + 3 * i + 2 by omega]; exact entW_part e (j := 2) hi (by decide)
  have pat : ∀ i, i < e.nQ → (isN (entW e) (3 + 3 * (e.nP + i)) = true ∧ nR (entW e) (3 + 3 * (e.nP + i)) = e.qPart i) ∧ (isN (entW e) (4 + 3 * (e.nP + i)) = true ∧ nR (entW e) (4 + 3 * (e.nP + i)) = e.qAt i) ∧ (isN (entW e) (5 + 3 * (e.nP + i)) = true ∧ nR (entW e) (5 + 3 * (e.nP + i)) = e.qWord i) := fun i hi => by
    have := h.pats i hi
    refine ⟨nR_at ?_ (by omega) (by omega), nR_at ?_ (by omega) (by omega), nR_at ?_ (by omega) (by omega)⟩
    · rw [show 3 + 3 * (e.nP + i) = 3 + 3 * e.nP + 3 * i + 0 by omega]; exact entW_pat e (j := 0) hi (by decide)
    · rw [show 4 + 3 * (e.nP + i) = 3 + 3 * e.nP + 3 * i + 1 by omega]; exact entW_pat e (j := 1) hi (by decide)
    · rw [show 5 + 3 * (e.nP + i) = 3 + 3 * e.nP + 3 * i + 2 by omega]; exact entW_pat e (j := 2) hi (by decide)
  have n1 : (nR (entW e) 1).toNat = e.nP := by rw [a2]; simp
  have n2 : (nR (entW e) 2).toNat = e.nQ := by rw [b2]; simp
  refine ⟨⟨by omega, a1, b1, by omega, by omega, by omega, by omega, by omega⟩, fun i hi => ⟨(part i hi).1.1, (part i hi).2.1⟩, fun i h1 h2 => ?_, ⟨?_, n1, n2, fun i hi => ⟨?_, ?_, ?_⟩, fun i hi => ⟨?_, ?_, ?_⟩⟩⟩
  · have := pat (i - e.nP) (by omega)
    rw [show e.nP + (i - e.nP) = i by omega] at this
    exact ⟨this.1.1, this.2.1.1, this.2.2.1⟩
  · show (⟨(wL (entW e) 0).toArray⟩ : ByteArray) = e.root
    rw [wL_at (x := e.root.data.toList) (entW_head e (by decide))]
  · show (⟨(wL (entW e) (3 + 3 * i)).toArray⟩ : ByteArray) = e.pName i
    rw [wL_at (i := 3 + 3 * i) (x := (e.pName i).data.toList) (entW_part e (j := 0) hi (by decide))]
  · exact (part i hi).1.2
  · exact (part i hi).2.2
  · show nR (entW e) (3 + 3 * ((nR (entW e) 1).toNat + i)) = e.qPart i
    rw [n1]; exact (pat i hi).1.2
  · show nR (entW e) (4 + 3 * ((nR (entW e) 1).toNat + i)) = e.qAt i
    rw [n1]; exact (pat i hi).2.1.2
  · show nR (entW e) (5 + 3 * ((nR (entW e) 1).toNat + i)) = e.qWord i
    rw [n1]; exact (pat i hi).2.2.2
theorem textE_zero {e : EntF} (h : (textE e).1 = 0) : entF e = 0 ∧ (textE e).2 = lineE e := by
  have h0 : entF e = 0 := by
    unfold textE at h
    split at h
    · assumption
    · exact h
  exact ⟨h0, by unfold textE; rw [if_pos h0]⟩
theorem entF_same {a b : EntF} (h : SameE a b) : entF a = entF b := by
  have e1 : partsF a a.nP = partsF b b.nP := by rw [h.nP]; exact fault_congr fun i hi => by rw [(h.parts i hi).1, (h.parts i hi).2.1, (h.parts i hi).2.2]
  have e2 : patchesF a a.nQ = patchesF b b.nQ := by rw [h.nQ]; exact fault_congr fun i hi => by rw [h.nP, (h.pats i hi).1, (h.pats i hi).2.1, (h.pats i hi).2.2]
  unfold entF
  rw [e1, e2, h.root, h.nP, h.nQ]
/-- where Parse takes a text, the document takes it too, and as the same. -/
theorem ref_takes {s : ByteArray} (h : (parseE s).1 = 0) :
    ∃ l, cut 10 s.data.toList = ([l], []) ∧ refHead (wordsR l) ∧ (∀ i, i < (refRead (wordsR l)).nP → refRow (wordsR l) i) ∧ (∀ i, (refRead (wordsR l)).nP ≤ i → i < (refRead (wordsR l)).nP + (refRead (wordsR l)).nQ → refPat (wordsR l) i) ∧
      entF (refRead (wordsR l)) = 0 ∧ lineE (refRead (wordsR l)) = s.data.toList := by
  have hc : (textE (readE s)).1 = 0 ∧ (textE (readE s)).2 = s.data.toList := by
    unfold parseE at h
    split at h
    · assumption
    · cases h
  obtain ⟨h0, ht⟩ := textE_zero hc.1
  rw [ht] at hc
  have hok := entOk h0
  have hno := join_no 10 (by decide) _ (entW_no hok 10 (.inr rfl))
  have hw : wordsR (Lib.join (entW (readE s)) [32]) = entW (readE s) := wordsR_join _ (entW_no hok 32 (.inl rfl)) (fun e => by have := entW_len (readE s); rw [e] at this; simp at this; omega)
  obtain ⟨r1, r2, r3, r4⟩ := refRead_entW hok
  refine ⟨Lib.join (entW (readE s)) [32], ?_, ?_⟩
  · rw [← hc.2]
    show cut 10 (Lib.join (entW (readE s)) [32] ++ 10 :: []) = _
    rw [cut_first 10 _ [] hno]
    rfl
  · rw [hw]
    refine ⟨r1, fun i hi => r2 i (by rw [← r4.nP]; exact hi), fun i h1 h2 => r3 i (by rw [← r4.nP]; exact h1) (by rw [← r4.nP, ← r4.nQ]; exact h2), (entF_same r4).trans h0, ?_⟩
    have := textE_congr r4
    have q1 := (textE_zero (e := refRead (entW (readE s))) (by rw [this]; exact hc.1)).2
    rw [← q1, this, ht]
    exact hc.2
/-- and the other way. -/
theorem ref_taken {s : ByteArray} {e : EntF} (h0 : entF e = 0) (h : lineE e = s.data.toList) : (parseE s).1 = 0 ∧ SameE (parseE s).2 e :=
  parse_line (e := e) (by unfold textE; rw [if_pos h0]) (by unfold textE; rw [if_pos h0]; exact h.symm)
theorem parseE_no {s : ByteArray} (h : (parseE s).1 ≠ 0) : parseE s = (4, emptyE) := by
  unfold parseE at h ⊢
  split
  · rename_i hc
    rw [if_pos hc] at h
    exact absurd rfl h
  · rfl
end Go.Proofs.YthdccmjdbcllkaaGreatDoor
