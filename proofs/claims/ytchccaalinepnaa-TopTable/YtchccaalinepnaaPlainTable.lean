/-
  Plain words on tables, with nothing of the program: who is the first of a bucket, what is found along a chain.
-/
import Derived.Test.YtchccaalinepnaaPlainHash
namespace Go.Proofs.Ytchccaalinepnaa

/-- along a chain: at most d steps from i on. -/
def alongF (g : Nat → Int) (nn n : Nat) (is : Nat → Bool) : Nat → Int → Int
  | 0, _ => -1
  | d + 1, i => if i < 0 then -1 else if (n : Int) ≤ i then -1 else if is i.toNat = true then i else if (nn : Int) ≤ i then -1 else alongF g nn n is d (g i.toNat)

theorem alongF_neg (g : Nat → Int) (nn n : Nat) (is : Nat → Bool) (d : Nat) (i : Int) (hd : 0 < d) (h : i < 0) : alongF g nn n is d i = -1 := by
  obtain ⟨d, rfl⟩ := Nat.exists_eq_add_of_lt hd
  rw [Nat.zero_add]; unfold alongF; rw [if_pos h]
theorem alongF_big (g : Nat → Int) (nn n : Nat) (is : Nat → Bool) (d : Nat) (i : Int) (hd : 0 < d) (h : (n : Int) ≤ i) : alongF g nn n is d i = -1 := by
  obtain ⟨d, rfl⟩ := Nat.exists_eq_add_of_lt hd
  rw [Nat.zero_add]; unfold alongF; rw [if_neg (by omega), if_pos h]
theorem alongF_yes (g : Nat → Int) (nn n : Nat) (is : Nat → Bool) (d q : Nat) (hd : 0 < d) (h : q < n) (hi : is q = true) : alongF g nn n is d (q : Int) = q := by
  obtain ⟨d, rfl⟩ := Nat.exists_eq_add_of_lt hd
  rw [Nat.zero_add]; unfold alongF; rw [if_neg (by omega), if_neg (by omega), Int.toNat_natCast, if_pos hi]
theorem alongF_end (g : Nat → Int) (nn n : Nat) (is : Nat → Bool) (d q : Nat) (hd : 0 < d) (h : q < n) (hi : is q = false) (hq : nn ≤ q) : alongF g nn n is d (q : Int) = -1 := by
  obtain ⟨d, rfl⟩ := Nat.exists_eq_add_of_lt hd
  rw [Nat.zero_add]; unfold alongF; rw [if_neg (by omega), if_neg (by omega), Int.toNat_natCast, if_neg (by simp [hi]), if_pos (by omega)]
theorem alongF_next (g : Nat → Int) (nn n : Nat) (is : Nat → Bool) (d q : Nat) (h : q < n) (hi : is q = false) (hq : q < nn) : alongF g nn n is (d + 1) (q : Int) = alongF g nn n is d (g q) := by
  conv => lhs; unfold alongF
  rw [if_neg (by omega), if_neg (by omega), Int.toNat_natCast, if_neg (by simp [hi]), if_neg (by omega)]

/-- whatever the chain, what is found is it. -/
theorem alongF_is (g : Nat → Int) (nn n : Nat) (is : Nat → Bool) (d : Nat) (i : Int) :
    alongF g nn n is d i < 0 ∨ (0 ≤ alongF g nn n is d i ∧ alongF g nn n is d i < n ∧ is (alongF g nn n is d i).toNat = true) := by
  induction d generalizing i with
  | zero => left; simp [alongF]
  | succ d ih =>
    unfold alongF
    split
    · left; decide
    · split
      · left; decide
      · split
        · right; exact ⟨by omega, by omega, by assumption⟩
        · split
          · left; decide
          · exact ih _

/-- the first one of a kind, from j on, of d ones; below 0: there is none. -/
def firstOf (p : Nat → Bool) : Nat → Nat → Int
  | 0, _ => -1
  | d + 1, j => if p j = true then (j : Int) else firstOf p d (j + 1)
/-- .. of n ones. -/
def firstFrom (p : Nat → Bool) (n j : Nat) : Int := firstOf p (n - j) j

theorem firstFrom_end (p : Nat → Bool) (n j : Nat) (h : n ≤ j) : firstFrom p n j = -1 := by
  unfold firstFrom
  rw [show n - j = 0 by omega]
  rfl
theorem firstFrom_step (p : Nat → Bool) (n j : Nat) (h : j < n) : firstFrom p n j = if p j = true then (j : Int) else firstFrom p n (j + 1) := by
  unfold firstFrom
  rw [show n - j = (n - (j + 1)) + 1 by omega]
  rfl
theorem firstFrom_yes (p : Nat → Bool) (n j : Nat) (h : j < n) (hp : p j = true) : firstFrom p n j = j := by rw [firstFrom_step p n j h, if_pos hp]
theorem firstFrom_no (p : Nat → Bool) (n j : Nat) (h : j < n) (hp : p j = false) : firstFrom p n j = firstFrom p n (j + 1) := by rw [firstFrom_step p n j h, if_neg (by simp [hp])]
theorem firstFrom_range (p : Nat → Bool) (n j : Nat) : firstFrom p n j = -1 ∨ ((j : Int) ≤ firstFrom p n j ∧ firstFrom p n j < n) := by
  unfold firstFrom
  generalize hd : n - j = d
  induction d generalizing j with
  | zero => left; rfl
  | succ d ih =>
    unfold firstOf
    split
    · right; exact ⟨by omega, by omega⟩
    · rcases ih (j + 1) (by omega) with h | ⟨h1, h2⟩
      · left; exact h
      · right; exact ⟨by omega, h2⟩
/-- what is found is of the kind, and none ahead of it is. -/
theorem firstFrom_found (p : Nat → Bool) (n j : Nat) (i : Nat) (h : firstFrom p n j = (i : Int)) : j ≤ i ∧ i < n ∧ p i = true ∧ ∀ k, j ≤ k → k < i → p k = false := by
  unfold firstFrom at h
  generalize hd : n - j = d at h
  induction d generalizing j with
  | zero => simp [firstOf] at h
  | succ d ih =>
    unfold firstOf at h
    split at h
    · have : i = j := by omega
      subst this
      exact ⟨Nat.le_refl _, by omega, by assumption, fun k h1 h2 => by omega⟩
    · rename_i hp
      obtain ⟨h1, h2, h3, h4⟩ := ih (j + 1) (by omega) h
      refine ⟨by omega, h2, h3, fun k hk1 hk2 => ?_⟩
      by_cases e : k = j
      · subst e; simpa using hp
      · exact h4 k (by omega) hk2
theorem firstFrom_none (p : Nat → Bool) (n j : Nat) (h : firstFrom p n j < 0) : ∀ k, j ≤ k → k < n → p k = false := by
  unfold firstFrom at h
  generalize hd : n - j = d at h
  induction d generalizing j with
  | zero => intro k h1 h2; omega
  | succ d ih =>
    unfold firstOf at h
    split at h
    · omega
    · rename_i hp
      intro k h1 h2
      by_cases e : k = j
      · subst e; simpa using hp
      · exact ih (j + 1) (by omega) h k (by omega) h2
theorem firstFrom_of_none (p : Nat → Bool) (n j : Nat) (h : ∀ k, j ≤ k → k < n → p k = false) : firstFrom p n j = -1 := by
  rcases firstFrom_range p n j with h' | ⟨h1, h2⟩
  · exact h'
  · obtain ⟨i, hi⟩ := Int.eq_ofNat_of_zero_le (show 0 ≤ firstFrom p n j by omega)
    obtain ⟨a, b, c, _⟩ := firstFrom_found p n j i hi
    rw [h i a b] at c
    cases c
theorem firstFrom_of_first (p : Nat → Bool) (n j i : Nat) (h1 : j ≤ i) (h2 : i < n) (hp : p i = true) (h : ∀ k, j ≤ k → k < i → p k = false) : firstFrom p n j = (i : Int) := by
  rcases firstFrom_range p n j with h' | ⟨a, b⟩
  · have := firstFrom_none p n j (by omega) i h1 h2
    rw [hp] at this; cases this
  · obtain ⟨x, hx⟩ := Int.eq_ofNat_of_zero_le (show 0 ≤ firstFrom p n j by omega)
    obtain ⟨e1, e2, e3, e4⟩ := firstFrom_found p n j x hx
    by_cases hlt : x < i
    · rw [h x e1 hlt] at e3; cases e3
    · by_cases hgt : i < x
      · rw [e4 i h1 hgt] at hp; cases hp
      · rw [hx]
        have : x = i := by omega
        rw [this]

/-- by a table that was made, along the chain of its bucket, just that one is found that is found one by one. -/
theorem alongF_made (bk : Nat → Nat) (n : Nat) (b : Nat) (is : Nat → Bool) (hb : ∀ i, i < n → is i = true → bk i = b) (g : Nat → Int)
    (hg : ∀ i, i < n → g i = firstFrom (fun k => decide (bk k = bk i)) n (i + 1)) (d j : Nat) (hd : n ≤ d + j)
    (hj : ∀ k, k < j → k < n → is k = false) :
    alongF g n n is d (firstFrom (fun k => decide (bk k = b)) n j) = firstFrom is n 0 := by
  induction d generalizing j with
  | zero =>
    rw [firstFrom_of_none is n 0 (fun k _ hk => hj k (by omega) hk)]
    rfl
  | succ d ih =>
    unfold alongF
    rcases firstFrom_range (fun k => decide (bk k = b)) n j with h | ⟨h1, h2⟩
    · rw [if_pos (by omega)]
      have hn := firstFrom_none (fun k => decide (bk k = b)) n j (by omega)
      refine (firstFrom_of_none is n 0 (fun k _ hk => ?_)).symm
      by_cases hkj : k < j
      · exact hj k hkj hk
      · have h3 := hn k (by omega) hk
        cases hik : is k with
        | false => rfl
        | true => simp [hb k hk hik] at h3
    · obtain ⟨i, hi⟩ := Int.eq_ofNat_of_zero_le (show 0 ≤ firstFrom (fun k => decide (bk k = b)) n j by omega)
      obtain ⟨a1, a2, a3, a4⟩ := firstFrom_found _ n j i hi
      rw [hi, if_neg (by omega), if_neg (by omega)]
      have hno : ∀ k, k < i → is k = false := by
        intro k hk
        by_cases hkj : k < j
        · exact hj k hkj (by omega)
        · have h3 := a4 k (by omega) hk
          cases hik : is k with
          | false => rfl
          | true => simp [hb k (by omega) hik] at h3
      simp only [Int.toNat_natCast]
      by_cases hik : is i = true
      · rw [if_pos hik]
        exact (firstFrom_of_first is n 0 i (by omega) a2 hik (fun k _ hk => hno k hk)).symm
      · rw [if_neg hik, if_neg (by omega), hg i a2]
        have hbi : bk i = b := by simpa using a3
        rw [hbi]
        refine ih (i + 1) (by omega) (fun k hk1 hk2 => ?_)
        by_cases e : k = i
        · subst e; simpa using hik
        · exact hno k (by omega)
end Go.Proofs.Ytchccaalinepnaa
