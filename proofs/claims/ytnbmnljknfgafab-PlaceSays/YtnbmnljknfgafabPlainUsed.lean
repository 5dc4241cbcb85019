/-
  Plain words on places that are used: a range meets others just if one of its places is used.
-/
import Derived.Test.YtnbmnljknfgafabPlainPlace
namespace Go.Proofs.Ytnbmnljknfgafab

/-- is a place had of one of the first n ranges? -/
def usedB (hf hm : Nat → Int) (n : Nat) (z : Nat) : Bool := anyTo (fun j => decide (hf j ≤ (z : Int) ∧ (z : Int) < hf j + hm j)) n
/-- .. or of the first k places of the n-th one. -/
def usedTo (hf hm : Nat → Int) (n k : Nat) (z : Nat) : Bool := usedB hf hm n z || decide (hf n ≤ (z : Int) ∧ (z : Int) < hf n + k)
theorem usedTo_zero (hf hm : Nat → Int) (n z : Nat) : usedTo hf hm n 0 z = usedB hf hm n z := by
  unfold usedTo
  rw [decide_eq_false (by omega), Bool.or_false]
theorem usedTo_full {hf hm : Nat → Int} {n k : Nat} (hk : hm n = k) (z : Nat) : usedTo hf hm n k z = usedB hf hm (n + 1) z := by
  unfold usedTo usedB
  simp only [anyTo, hk]
theorem usedTo_succ {hf hm : Nat → Int} {n k x : Nat} (hx : hf n + k = x) (z : Nat) : usedTo hf hm n (k + 1) z = if z = x then true else usedTo hf hm n k z := by
  unfold usedTo
  by_cases e : z = x
  · rw [if_pos e]
    rw [decide_eq_true (show hf n ≤ (z : Int) ∧ (z : Int) < hf n + ((k + 1 : Nat) : Int) by omega), Bool.or_true]
  · rw [if_neg e]
    congr 1
    rw [Bool.eq_iff_iff]
    simp only [decide_eq_true_eq]
    omega
theorem usedB_congr {hf hm hf' hm' : Nat → Int} {n z : Nat} (h : ∀ j, j < n → hf j = hf' j ∧ hm j = hm' j) : usedB hf hm n z = usedB hf' hm' n z :=
  anyTo_congr fun i hi => by rw [(h i hi).1, (h i hi).2]
theorem usedTo_congr {hf hm hf' hm' : Nat → Int} {n k z : Nat} (h : ∀ j, j < n → hf j = hf' j ∧ hm j = hm' j) (hn : hf n = hf' n) : usedTo hf hm n k z = usedTo hf' hm' n k z := by
  unfold usedTo; rw [usedB_congr h, hn]
/-- no place of the first k behind x is used. -/
def clearB (hf hm : Nat → Int) (n x : Nat) : Nat → Bool
  | 0 => true
  | k + 1 => clearB hf hm n x k && !(usedB hf hm n (x + k))
theorem clearB_iff {hf hm : Nat → Int} {n x k : Nat} : clearB hf hm n x k = true ↔ ∀ j, j < k → usedB hf hm n (x + j) = false := by
  induction k with
  | zero => simp [clearB]
  | succ k ih =>
    simp only [clearB, Bool.and_eq_true, ih, Bool.not_eq_true']
    constructor
    · rintro ⟨h, h'⟩ j hj
      by_cases e : j = k
      · subst e; exact h'
      · exact h j (by omega)
    · intro h
      exact ⟨fun j hj => h j (by omega), h k (by omega)⟩
theorem clearB_meets {hf hm : Nat → Int} {n x k : Nat} : clearB hf hm n x k = !(meetsB hf hm n (x : Int) (k : Int)) := by
  rw [Bool.eq_iff_iff, clearB_iff, Bool.not_eq_true', meetsB_false]
  constructor
  · intro h j hj
    rw [apartB_iff]
    rintro z ⟨⟨a, b⟩, c, d⟩
    have := h (z - x).toNat (by omega)
    rw [← Bool.not_eq_true] at this
    apply this
    unfold usedB
    rw [anyTo_iff]
    exact ⟨j, hj, decide_eq_true (by omega)⟩
  · intro h j hj
    rw [← Bool.not_eq_true]
    intro hu
    unfold usedB at hu
    rw [anyTo_iff] at hu
    obtain ⟨i, hi, e⟩ := hu
    rw [decide_eq_true_eq] at e
    exact apartB_iff.1 (h i hi) ((x + j : Nat) : Int) ⟨by omega, by omega⟩
theorem clearB_mono {hf hm : Nat → Int} {n x k r : Nat} (hk : k ≤ r) (h : clearB hf hm n x k = false) : clearB hf hm n x r = false := by
  rw [← Bool.not_eq_true, clearB_iff] at h ⊢
  exact fun h' => h fun j hj => h' j (by omega)
/-- nothing is used from 600 on. -/
theorem usedB_far {hf hm : Nat → Int} {n z : Nat} (h : ∀ j, j < n → hf j + hm j ≤ 600) (hz : 600 ≤ z) : usedB hf hm n z = false := by
  rw [← Bool.not_eq_true]
  intro hu
  unfold usedB at hu
  rw [anyTo_iff] at hu
  obtain ⟨i, hi, e⟩ := hu
  rw [decide_eq_true_eq] at e
  have := h i hi
  omega
theorem meets_far {hf hm : Nat → Int} {n k : Nat} {many : Int} (h : ∀ j, j < n → hf j + hm j ≤ 600) (hk : 600 ≤ 16 * k) : meetsB hf hm n (16 * (k : Int)) many = false := by
  rw [meetsB_false]
  intro j hj
  have := h j hj
  unfold apartB
  rw [decide_eq_true_eq]
  omega
end Go.Proofs.Ytnbmnljknfgafab
