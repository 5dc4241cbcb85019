/-
  Plain words on where objects lie if nothing is taken: one behind the other; there is no room just if they are too much together.
-/
import Derived.Test.YtnbmnljknfgafabPlainPlace
namespace Go.Proofs.Ytnbmnljknfgafab

/-- how many words the first i take. -/
def sumR (sz : Nat → Int) : Nat → Int
  | 0 => 0
  | i + 1 => sumR sz i + roundF (sz i)
theorem sumR_page {sz : Nat → Int} {i : Nat} (h : ∀ j, j < i → 1 ≤ sz j ∧ sz j ≤ 40) : 0 ≤ sumR sz i ∧ sumR sz i % 16 = 0 ∧ sumR sz i ≤ 48 * i := by
  induction i with
  | zero => exact ⟨by simp [sumR], by simp [sumR], by simp [sumR]⟩
  | succ i ih =>
    obtain ⟨h0, h1, h2⟩ := ih fun j hj => h j (by omega)
    have hr := roundF_many (h i (by omega)).1 (h i (by omega)).2
    simp only [sumR]
    omega
theorem sumR_mono {sz : Nat → Int} {i n : Nat} (h : ∀ j, j < n → 1 ≤ sz j ∧ sz j ≤ 40) (hi : i ≤ n) : sumR sz i ≤ sumR sz n := by
  induction n with
  | zero => have : i = 0 := by omega
            subst this; exact Int.le_refl _
  | succ n ih =>
    by_cases e : i = n + 1
    · subst e; exact Int.le_refl _
    · have := ih (fun j hj => h j (by omega)) (by omega)
      have hr := roundF_many (h n (by omega)).1 (h n (by omega)).2
      simp only [sumR]
      omega
/-- places below the sum are had of one. -/
theorem sumR_had {sz : Nat → Int} {i : Nat} {x : Int} (h : ∀ j, j < i → 1 ≤ sz j ∧ sz j ≤ 40) (h0 : 0 ≤ x) (hx : x < sumR sz i) : ∃ j, j < i ∧ sumR sz j ≤ x ∧ x < sumR sz j + roundF (sz j) := by
  induction i with
  | zero => simp [sumR] at hx; omega
  | succ i ih =>
    by_cases e : x < sumR sz i
    · obtain ⟨j, hj, hh⟩ := ih (fun j hj => h j (by omega)) e
      exact ⟨j, by omega, hh⟩
    · exact ⟨i, by omega, by omega, hx⟩
theorem meets_sum {tf tm sz b : Nat → Int} {i : Nat} (h : ∀ j, j < i → 1 ≤ sz j ∧ sz j ≤ 40) (hb : ∀ j, j < i → b j = sumR sz j) {x m : Int} (h0 : 0 ≤ x) (hm : 1 ≤ m) :
    meetsB (heldF tf 0 b) (heldF tm 0 fun j => roundF (sz j)) (0 + i) x m = decide (x < sumR sz i) := by
  rw [Bool.eq_iff_iff, meetsB_iff, decide_eq_true_eq]
  have ef : ∀ j, heldF tf 0 b j = b j := fun j => by simp [heldF]
  have em : ∀ j, heldF tm 0 (fun j => roundF (sz j)) j = roundF (sz j) := fun j => by simp [heldF]
  constructor
  · rintro ⟨j, hj, hh⟩
    rw [ef, em] at hh
    have hj' : j < i := by omega
    have hr := roundF_many (h j hj').1 (h j hj').2
    have hs := sumR_mono (sz := sz) (i := j + 1) (n := i) h (by omega)
    simp only [sumR] at hs
    rw [hb j hj'] at hh
    simp only [apartB, decide_eq_false_iff_not] at hh
    omega
  · intro hx
    obtain ⟨j, hj, h1, h2⟩ := sumR_had h h0 hx
    refine ⟨j, by omega, ?_⟩
    rw [ef, em, hb j hj]
    have hr := roundF_many (h j hj).1 (h j hj).2
    simp only [apartB, decide_eq_false_iff_not]
    omega
theorem laid_sum {tf tm sz b : Nat → Int} {i : Nat} (h : ∀ j, j < i → 1 ≤ sz j ∧ sz j ≤ 40) (hl : ∀ j, j < i → Laid tf tm 0 sz b j) : (∀ j, j < i → b j = sumR sz j) ∧ (0 < i → sumR sz i ≤ 256) := by
  induction i with
  | zero => exact ⟨fun j hj => by omega, fun h => by omega⟩
  | succ i ih =>
    obtain ⟨hb, _⟩ := ih (fun j hj => h j (by omega)) (fun j hj => hl j (by omega))
    obtain ⟨k, hk, hB⟩ := hl i (by omega)
    have hr := roundF_many (h i (by omega)).1 (h i (by omega)).2
    have hp := sumR_page (sz := sz) (i := i) fun j hj => h j (by omega)
    have ms : ∀ k : Nat, meetsB (heldF tf 0 b) (heldF tm 0 fun j => roundF (sz j)) (0 + i) (16 * (k : Int)) (roundF (sz i)) = decide (16 * (k : Int) < sumR sz i) := fun k => meets_sum (fun j hj => h j (by omega)) hb (by omega) (by omega)
    have h1 := hB.free
    rw [ms, decide_eq_false_iff_not] at h1
    have e : 16 * (k : Int) = sumR sz i := by
      by_cases hk0 : k = 0
      · subst hk0; omega
      · have h2 := hB.least (k - 1) (by omega)
        rw [ms, decide_eq_true_eq] at h2
        omega
    refine ⟨fun j hj => ?_, fun _ => ?_⟩
    · by_cases hji : j = i
      · subst hji; rw [hk, e]
      · exact hb j (by omega)
    · have := hB.inside; simp only [sumR]; omega
theorem laidNot_sum {tf tm sz b : Nat → Int} {i : Nat} (h : ∀ j, j < i + 1 → 1 ≤ sz j ∧ sz j ≤ 40) (hl : ∀ j, j < i → Laid tf tm 0 sz b j) (hn : LaidNot tf tm 0 sz b i) : 256 < sumR sz (i + 1) := by
  obtain ⟨hb, _⟩ := laid_sum (fun j hj => h j (by omega)) hl
  have hr := roundF_many (h i (by omega)).1 (h i (by omega)).2
  have hp := sumR_page (sz := sz) (i := i) fun j hj => h j (by omega)
  by_cases e : 256 < sumR sz (i + 1)
  · exact e
  · simp only [sumR] at e
    have hk := hn (sumR sz i / 16).toNat (by omega)
    rw [meets_sum (fun j hj => h j (by omega)) hb (by omega) (by omega), decide_eq_true_eq] at hk
    omega
/-- there is no room just if all together are too much. -/
theorem BasesAre.sum {ns : Nat} {sz : Nat → Int} {tf tm : Nat → Int} {f : Nat} {b : Nat → Int} (h : BasesAre ns sz 0 tf tm f b) (hn : ns ≤ 6) (hs : ∀ j, j < ns → 1 ≤ sz j ∧ sz j ≤ 40) :
    (f = 0 ∧ sumR sz ns ≤ 256) ∨ (f = 8 ∧ 256 < sumR sz ns) := by
  cases h with
  | bad _ h =>
    exfalso; apply h
    unfold placeF
    rw [if_neg (by omega), if_neg, if_neg (by simp [anyTo])]
    rw [anyTo_iff]
    rintro ⟨i, hi, e⟩
    rw [decide_eq_true_eq] at e
    have := hs i hi
    omega
  | full _ i h hi hl hno =>
    have := laidNot_sum (fun j hj => hs j (by omega)) hl hno
    have hm := sumR_mono hs (show i + 1 ≤ ns by omega)
    exact .inr ⟨rfl, by omega⟩
  | ok _ h hl =>
    have := (laid_sum hs hl).2
    by_cases e : ns = 0
    · subst e; exact .inl ⟨rfl, by simp [sumR]⟩
    · exact .inl ⟨rfl, this (by omega)⟩
end Go.Proofs.Ytnbmnljknfgafab
