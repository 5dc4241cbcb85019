/-
  Plain words on the lines of a shelf's entries: how long they are, their text, and where it is cut.
-/
import Derived.Test.YthdccmjdbcllkaaGreatDoorPlainEntry
namespace Go.Proofs.YthdccmjdbcllkaaGreatDoor

theorem ba_size (l : List UInt8) : (⟨l.toArray⟩ : ByteArray).size = l.length := by show l.toArray.size = _; simp
theorem itoa_pos {n : Int} (k : Nat) (h0 : 0 ≤ n) (h1 : n.toNat < 10 ^ (k + 1)) : (Lib.itoa n).length ≤ k + 1 := by
  unfold Lib.itoa
  rw [if_neg (by omega)]
  exact decDigits_len k n.toNat h1
theorem itoa_abs {n : Int} (k : Nat) (h1 : n.natAbs < 10 ^ (k + 1)) : (Lib.itoa n).length ≤ k + 2 := by
  unfold Lib.itoa
  split
  · have := decDigits_len k n.natAbs h1
    simp
    omega
  · have := decDigits_len k n.toNat (by have : n.toNat ≤ n.natAbs := by omega
                                        omega)
    omega
/-- how long words are, each with a blank. -/
def lenW : List (List UInt8) → Nat
  | [] => 0
  | x :: r => x.length + 1 + lenW r
theorem lenW_append : ∀ a b : List (List UInt8), lenW (a ++ b) = lenW a + lenW b
  | [], b => by simp [lenW]
  | x :: a, b => by
    have := lenW_append a b
    simp only [List.cons_append, lenW]
    omega
theorem lenW_cat {g : Nat → List (List UInt8)} {m n : Nat} (h : ∀ i, i < n → lenW (g i) ≤ m) : ∀ k, k ≤ n → lenW (catW g k) ≤ k * m
  | 0, _ => by simp [catW, lenW]
  | k + 1, hk => by
    have h1 := lenW_cat h k (by omega)
    have h2 := h k (by omega)
    simp only [catW, lenW_append, Nat.add_mul]
    omega
theorem join_lenW (ws : List (List UInt8)) : (Lib.join ws [32]).length ≤ lenW ws - 1 := by
  cases ws with
  | nil => simp [Lib.join_nil, lenW]
  | cons x r =>
    rw [Lib.join_cons]
    have key : ∀ r : List (List UInt8), (Lib.joinTail [32] r).length = lenW r := by
      intro r
      induction r with
      | nil => simp [Lib.joinTail, lenW]
      | cons y r ih =>
        have e : Lib.joinTail [32] (y :: r) = [32] ++ y ++ Lib.joinTail [32] r := by simp [Lib.joinTail]
        rw [e]
        simp only [List.length_append, List.length_cons, List.length_nil, lenW]
        omega
    have := key r
    simp only [List.length_append, lenW]
    omega
/-- an entry's line is short. -/
theorem lineE_len {e : EntF} (h : EntOk e) : (lineE e).length ≤ 752 := by
  have hP := h.nP
  have hQ := h.nQ
  have h1 : lenW (headW e) ≤ 14 := by
    have a := nameF_len h.root
    have b := itoa_pos (n := (e.nP : Int)) 0 (by omega) (by simp; omega)
    have c := itoa_pos (n := (e.nQ : Int)) 1 (by omega) (by simp; omega)
    simp only [headW, lenW]
    omega
  have h2 : lenW (catW (partW e) e.nP) ≤ e.nP * 21 := lenW_cat (n := e.nP) (fun i hi => by
    have hp := h.parts i hi
    have a := nameF_len hp.1
    have b := itoa_pos (n := e.pStamp i) 6 (by omega) (by have : (10 : Nat) ^ (6 + 1) = 10000000 := by decide
                                                          omega)
    have c := itoa_pos (n := e.pBase i) 2 (by omega) (by have : (10 : Nat) ^ (2 + 1) = 1000 := by decide
                                                         omega)
    simp only [partW, lenW]
    omega) _ (Nat.le_refl _)
  have h3 : lenW (catW (patW e) e.nQ) ≤ e.nQ * 17 := lenW_cat (n := e.nQ) (fun i hi => by
    have hp := h.pats i hi
    have a := itoa_pos (n := e.qPart i) 0 (by omega) (by simp; omega)
    have b := itoa_pos (n := e.qAt i) 1 (by omega) (by simp; omega)
    have c := itoa_abs (n := e.qWord i) 9 (by have : (10 : Nat) ^ (9 + 1) = 10000000000 := by decide
                                              omega)
    simp only [patW, lenW]
    omega) _ (Nat.le_refl _)
  have h4 := join_lenW (entW e)
  unfold entW at h4
  rw [lenW_append, lenW_append] at h4
  have h5 : 1 ≤ lenW (headW e) := by simp only [headW, lenW]; omega
  unfold lineE entW
  simp only [List.length_append, List.length_cons, List.length_nil] at h4 ⊢
  omega

/-- the lines of k entries. -/
def linesE (E : Nat → EntF) : Nat → List UInt8 := catTo fun i => lineE (E i)
theorem catTo_at (g : Nat → List UInt8) {i : Nat} : ∀ {n : Nat}, i < n → ∃ r, catTo g n = catTo g i ++ (g i ++ r)
  | 0, h => by omega
  | n + 1, h => by
    by_cases e : i = n
    · subst e
      exact ⟨[], by simp [catTo]⟩
    · obtain ⟨r, hr⟩ := catTo_at g (i := i) (n := n) (by omega)
      exact ⟨r ++ g n, by simp only [catTo]; rw [hr]; simp⟩
theorem catTo_same {g h : Nat → List UInt8} : ∀ {n : Nat}, (∀ i, i < n → g i = h i) → catTo g n = catTo h n
  | 0, _ => rfl
  | n + 1, e => by
    simp only [catTo]
    rw [catTo_same (n := n) (fun i hi => e i (by omega)), e n (by omega)]
theorem linesE_len {E : Nat → EntF} {k : Nat} (hk : k ≤ 3) (h : ∀ i, i < k → EntOk (E i)) : (linesE E k).length ≤ 2256 := by
  have := catTo_le (fun i => lineE (E i)) 752 k k (Nat.le_refl _) (fun i hi => lineE_len (h i hi))
  unfold linesE
  omega
/-- it ends in no nought. -/
theorem linesE_end (E : Nat → EntF) (k : Nat) : linesE E k = [] ∨ (linesE E k).getLast? = some 10 := by
  cases k with
  | zero => exact .inl rfl
  | succ k => exact .inr (by show (catTo (fun i => lineE (E i)) k ++ lineE (E k)).getLast? = some 10; unfold lineE; rw [← List.append_assoc]; simp)
theorem linesE_congr {E E' : Nat → EntF} {k : Nat} (h : ∀ i, i < k → lineE (E i) = lineE (E' i)) : linesE E k = linesE E' k := by
  induction k with
  | zero => rfl
  | succ k ih =>
    have h1 := ih fun i hi => h i (by omega)
    show catTo (fun i => lineE (E i)) k ++ lineE (E k) = catTo (fun i => lineE (E' i)) k ++ lineE (E' k)
    rw [h k (by omega)]
    congr 1
/-- what is cut at the i-th line's beginning. -/
theorem linesE_cut {E : Nat → EntF} {k i : Nat} (hi : i < k) (h : EntOk (E i)) : ∃ r, (linesE E k).drop (linesE E i).length = lineE (E i) ++ r ∧ Lib.indexByte (lineE (E i) ++ r) 10 = ((lineE (E i)).length : Int) - 1 ∧ linesE E k = linesE E i ++ (lineE (E i) ++ r) := by
  obtain ⟨r, hr⟩ := catTo_at (fun i => lineE (E i)) hi
  refine ⟨r, ?_, ?_, hr⟩
  · unfold linesE; rw [hr]; simp
  · obtain ⟨l, hl, hn⟩ := lineE_end h
    rw [hl]
    have := index_mid 10 r l hn
    rw [List.append_assoc, List.singleton_append, this]
    simp
theorem lineE_pos (e : EntF) : 0 < (lineE e).length := by simp [lineE]
theorem linesE_succ (E : Nat → EntF) (k : Nat) : linesE E (k + 1) = linesE E k ++ lineE (E k) := rfl
theorem SameE.line {a b : EntF} (h : SameE a b) (h0 : entF a = 0) : entF b = 0 ∧ lineE a = lineE b := by
  have := textE_congr h
  unfold textE at this
  rw [if_pos h0] at this
  split at this
  · exact ⟨by assumption, by simpa using this⟩
  · rename_i hb
    exact absurd (congrArg Prod.fst this) (fun e => hb e.symm)
theorem SameE.refl (a : EntF) : SameE a a := ⟨rfl, rfl, rfl, fun _ _ => ⟨rfl, rfl, rfl⟩, fun _ _ => ⟨rfl, rfl, rfl⟩⟩
end Go.Proofs.YthdccmjdbcllkaaGreatDoor
