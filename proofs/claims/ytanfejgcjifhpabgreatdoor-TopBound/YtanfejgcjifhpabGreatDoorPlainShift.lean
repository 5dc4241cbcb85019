/-
  Plain words: where all lie farther by as much, what is near stays as it is, and all else is farther by as much, but what is tied to nobody.
-/
import Derived.Test.YtanfejgcjifhpabGreatDoorPatRows
namespace Go.Proofs.YtanfejgcjifhpabGreatDoor

/-- by how much a tie's word moves. -/
def wantF (O : Nat → ObjF) (P : ByteArray → Int) (by' : Int) (i k : Nat) : Int :=
  (if (O i).tKind k = 3 then 0 else by') - (if (O i).tKind k ≠ 1 ∧ P ((O i).tName k) < 0 then by' else 0)
theorem hangF_val {kind base at' add : Int} {wh : Option Int} (h : (hangF kind base at' add wh).1 = 0) : ∃ p, wh = some p ∧ (hangF kind base at' add wh).2 = if kind = 3 then p + add - (base + at') else p + add := by
  cases wh with
  | none => cases h
  | some p =>
    refine ⟨p, rfl, ?_⟩
    by_cases k3 : kind = 3
    · simp only [hangF, if_pos k3] at h ⊢
      split at h
      · cases h
      · rename_i g
        rw [if_neg g]
    · simp only [hangF, if_neg k3] at h ⊢
      split at h
      · rename_i g
        rw [if_pos g]
      · cases h
theorem whereF_shift {O : Nat → ObjF} {P Q : ByteArray → Int} {B : Nat → Int} {by' : Int} {i k : Nat} {p p' : Int} (h : whereF O P Q B i k = some p) (h' : whereF O P Q (fun j => B j + by') i k = some p') : p' = p + by' - (if (O i).tKind k ≠ 1 ∧ P ((O i).tName k) < 0 then by' else 0) := by
  unfold whereF at h h'
  by_cases k1 : (O i).tKind k = 1
  · rw [if_pos k1] at h h'
    rw [if_neg (fun e => e.1 k1)]
    injection h with h
    injection h' with h'
    dsimp only at h'
    omega
  · rw [if_neg k1] at h h'
    by_cases hp : 0 ≤ P ((O i).tName k)
    · rw [if_pos hp] at h h'
      rw [if_neg (fun e => by omega)]
      injection h with h
      injection h' with h'
      dsimp only at h'
      omega
    · rw [if_neg hp] at h h'
      rw [if_pos ⟨k1, by omega⟩]
      by_cases hw : (O i).tWeak k = true
      · rw [if_pos hw] at h h'
        injection h with h
        injection h' with h'
        omega
      · rw [if_neg hw] at h
        cases h
theorem shift_word {O : Nat → ObjF} {P Q : ByteArray → Int} (B : Nat → Int) (by' : Int) (i k : Nat) (h1 : (tieW O P Q B i k).1 = 0) (h2 : (tieW O P Q (fun j => B j + by') i k).1 = 0) :
    (tieW O P Q (fun j => B j + by') i k).2 = (tieW O P Q B i k).2 + wantF O P by' i k := by
  obtain ⟨p, hp, e⟩ := hangF_val h1
  obtain ⟨p', hp', e'⟩ := hangF_val h2
  have hs := whereF_shift hp hp'
  unfold tieW
  rw [e, e']
  unfold wantF
  by_cases k3 : (O i).tKind k = 3
  · rw [if_pos k3, if_pos k3, if_pos k3]
    dsimp only
    omega
  · rw [if_neg k3, if_neg k3, if_neg k3]
    omega
/-- a fault that isn't 'too far' is one wherever they lie. -/
theorem shift_loose {O : Nat → ObjF} {P Q : ByteArray → Int} (B B' : Nat → Int) (i k : Nat) : (tieW O P Q B i k).1 = 6 ↔ (tieW O P Q B' i k).1 = 6 := by
  have key : ∀ C : Nat → Int, (tieW O P Q C i k).1 = 6 ↔ (¬ (O i).tKind k = 1 ∧ ¬ 0 ≤ P ((O i).tName k) ∧ ¬ (O i).tWeak k = true) := fun C => by
    unfold tieW whereF
    by_cases k1 : (O i).tKind k = 1
    · rw [if_pos k1]
      unfold hangF
      dsimp only
      constructor
      · intro h
        split at h <;> split at h <;> cases h
      · intro h; exact absurd k1 h.1
    · rw [if_neg k1]
      by_cases hp : 0 ≤ P ((O i).tName k)
      · rw [if_pos hp]
        unfold hangF
        dsimp only
        constructor
        · intro h
          split at h <;> split at h <;> cases h
        · intro h; exact absurd hp h.2.1
      · rw [if_neg hp]
        by_cases hw : (O i).tWeak k = true
        · rw [if_pos hw]
          unfold hangF
          dsimp only
          constructor
          · intro h
            split at h <;> split at h <;> cases h
          · intro h; exact absurd hw h.2.2
        · rw [if_neg hw]
          exact ⟨fun _ => ⟨k1, hp, hw⟩, fun _ => rfl⟩
  rw [key B, key B']
theorem fault_first {g : Nat → Nat} {n f : Nat} (h : faultTo g n = f) (hf : f ≠ 0) : ∃ i, i < n ∧ g i = f ∧ ∀ j, j < i → g j = 0 := by
  induction n with
  | zero => exact absurd h.symm hf
  | succ n ih =>
    simp only [faultTo, seqF] at h
    split at h
    · rename_i h0
      exact ⟨n, by omega, h, faultTo_zero h0⟩
    · obtain ⟨i, hi, h1, h2⟩ := ih h
      exact ⟨i, by omega, h1, h2⟩
theorem tiesF_first {O : Nat → ObjF} {P Q : ByteArray → Int} {B : Nat → Int} {n f : Nat} (h : tiesF O P Q B n = f) (hf : f ≠ 0) : ∃ i k, i < n ∧ k < (O i).nT ∧ (tieW O P Q B i k).1 = f ∧ (∀ j q, j < i → q < (O j).nT → (tieW O P Q B j q).1 = 0) ∧ ∀ q, q < k → (tieW O P Q B i q).1 = 0 := by
  obtain ⟨i, hi, h1, h2⟩ := fault_first h hf
  obtain ⟨k, hk, h3, h4⟩ := fault_first h1 hf
  exact ⟨i, k, hi, hk, h3, fun j q hj hq => faultTo_zero (h2 j hj) q hq, h4⟩
theorem tie_fault (O : Nat → ObjF) (P Q : ByteArray → Int) (B : Nat → Int) (i k : Nat) : (tieW O P Q B i k).1 = 0 ∨ (tieW O P Q B i k).1 = 6 ∨ (tieW O P Q B i k).1 = 7 := hangF_le _ _ _ _ _
/-- the errors of the two are the same, or one is 'too far'. -/
theorem shift_fault {O : Nat → ObjF} {P Q : ByteArray → Int} (B B' : Nat → Int) (n : Nat) : tiesF O P Q B n = tiesF O P Q B' n ∨ tiesF O P Q B n = 7 ∨ tiesF O P Q B' n = 7 := by
  have cases3 : ∀ C : Nat → Int, tiesF O P Q C n = 0 ∨ tiesF O P Q C n = 6 ∨ tiesF O P Q C n = 7 := fun C => by
    by_cases h0 : tiesF O P Q C n = 0
    · exact .inl h0
    · obtain ⟨i, k, _, _, h, _⟩ := tiesF_first rfl h0
      rcases tie_fault O P Q C i k with e | e | e
      · rw [e] at h; exact absurd h.symm h0
      · rw [e] at h; exact .inr (.inl h.symm)
      · rw [e] at h; exact .inr (.inr h.symm)
  have half : ∀ C C' : Nat → Int, tiesF O P Q C n = 6 → tiesF O P Q C' n ≠ 0 := fun C C' h h' => by
    obtain ⟨i, k, hi, hk, e, _, _⟩ := tiesF_first h (by decide)
    have e' := (shift_loose C C' i k).1 e
    have := faultTo_zero (faultTo_zero h' i hi) k hk
    omega
  rcases cases3 B with h | h | h
  · rcases cases3 B' with h' | h' | h'
    · exact .inl (h.trans h'.symm)
    · exact absurd h (half B' B h')
    · exact .inr (.inr h')
  · rcases cases3 B' with h' | h' | h'
    · exact absurd h' (half B B' h)
    · exact .inl (h.trans h'.symm)
    · exact .inr (.inr h')
  · exact .inr (.inl h)
theorem ties_none {O : Nat → ObjF} {P Q : ByteArray → Int} {B : Nat → Int} {n : Nat} (h : tiesF O P Q B n = 0) {i k : Nat} (hi : i < n) (hk : k < (O i).nT) : (tieW O P Q B i k).1 = 0 := faultTo_zero (faultTo_zero h i hi) k hk
/-- how many ties stand ahead of object i. -/
def tiesTo (O : Nat → ObjF) : Nat → Nat
  | 0 => 0
  | i + 1 => tiesTo O i + (O i).nT
theorem patsOf_at (O : Nat → ObjF) (P Q : ByteArray → Int) (B : Nat → Int) (i : Nat) {q : Nat} : ∀ k, q < k → (patsOf O P Q B i k)[q]? = some (i, (O i).tAt q, (tieW O P Q B i q).2)
  | 0, h => by omega
  | k + 1, h => by
    simp only [patsOf]
    by_cases e : q = k
    · subst e
      rw [List.getElem?_append_right (by rw [patsOf_len]; omega), patsOf_len]
      simp
    · rw [List.getElem?_append_left (by rw [patsOf_len]; omega)]
      exact patsOf_at O P Q B i k (by omega)
theorem patsTo_len (O : Nat → ObjF) (P Q : ByteArray → Int) (B : Nat → Int) : ∀ n, (patsTo O P Q B n).length = tiesTo O n
  | 0 => rfl
  | n + 1 => by simp only [patsTo, tiesTo, List.length_append, patsOf_len, patsTo_len O P Q B n]
theorem patsTo_at (O : Nat → ObjF) (P Q : ByteArray → Int) (B : Nat → Int) {i q : Nat} : ∀ n, i < n → q < (O i).nT → (patsTo O P Q B n)[tiesTo O i + q]? = some (i, (O i).tAt q, (tieW O P Q B i q).2)
  | 0, h, _ => by omega
  | n + 1, h, hq => by
    simp only [patsTo]
    by_cases e : i = n
    · subst e
      rw [List.getElem?_append_right (by rw [patsTo_len]; omega), patsTo_len]
      rw [show tiesTo O i + q - tiesTo O i = q by omega]
      exact patsOf_at O P Q B i _ hq
    · have hl : tiesTo O i + q < tiesTo O n := by
        have mono : ∀ a b, a ≤ b → tiesTo O a ≤ tiesTo O b := fun a b hab => by
          induction b with
          | zero => have : a = 0 := by omega
                    subst this; exact Nat.le_refl _
          | succ b ih =>
            by_cases e : a = b + 1
            · subst e; exact Nat.le_refl _
            · exact Nat.le_trans (ih (by omega)) (by simp only [tiesTo]; omega)
        have := mono (i + 1) n (by omega)
        simp only [tiesTo] at this
        omega
      rw [List.getElem?_append_left (by rw [patsTo_len]; exact hl)]
      exact patsTo_at O P Q B n (by omega) hq
end Go.Proofs.YtanfejgcjifhpabGreatDoor
