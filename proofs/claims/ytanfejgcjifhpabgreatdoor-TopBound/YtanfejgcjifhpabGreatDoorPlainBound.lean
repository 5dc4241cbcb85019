/-
  Plain words on an image that is bound: what stands at a word that is tied, and at one that isn't.
-/
import Derived.Test.YtanfejgcjifhpabGreatDoorPlainShift
import Derived.Test.YtanfejgcjifhpabGreatDoorPlainOnce
namespace Go.Proofs.YtanfejgcjifhpabGreatDoor
open Go.RowKit Go.Maps

theorem rd_obj {D : DataW Unit} {T : ByteArray → ByteArray} {s : ByteArray} (h : (rdD D T s).1 = 0) : objF (rdD D T s).2 = 0 := by
  unfold rdD at h ⊢
  split
  · rename_i hh; rw [if_pos hh] at h; exact (textF_zero (parse_back h).1).1
  · rename_i hh; rw [if_neg hh] at h; cases h
theorem tie_rise {o : ObjF} (h : objF o = 0) {j : Nat} (hj : j + 1 < o.nT) : o.tAt j < o.tAt (j + 1) := by
  unfold objF at h
  rw [seqF_zero_iff, seqF_zero_iff, seqF_zero_iff, seqF_zero_iff] at h
  have h1 := faultTo_zero h.2.2.2.2 (j + 1) hj
  unfold tieF tieOneF at h1
  split at h1
  · split at h1
    · cases h1
    · rename_i h2
      have : prevAt o.tAt (j + 1) = o.tAt j := rfl
      rw [this] at h2
      omega
  · cases h1
theorem ties_rise {o : ObjF} (h : objF o = 0) {i : Nat} : ∀ {j : Nat}, i < j → j < o.nT → o.tAt i < o.tAt j
  | 0, hij, _ => by omega
  | j + 1, hij, hj => by
    have h1 := tie_rise h hj
    by_cases e : i = j
    · subst e; exact h1
    · have := ties_rise h (i := i) (j := j) (by omega) (by omega)
      omega
theorem putF_hit {X : Nat → Nat → Int} {p t v : Nat → Int} {i j k0 : Nat} : ∀ {n : Nat}, k0 < n → (p k0 = (i : Int) ∧ t k0 = (j : Int)) → (∀ k, k < n → p k = (i : Int) ∧ t k = (j : Int) → k = k0) → putF X p t v n i j = v k0
  | 0, hk, _, _ => by omega
  | n + 1, hk, h0, hu => by
    simp only [putF]
    by_cases e : k0 = n
    · subst e
      rw [if_pos h0]
    · rw [if_neg (fun h => e (hu n (by omega) h).symm)]
      exact putF_hit (by omega) h0 fun k hk => hu k (by omega)
theorem putF_miss {X : Nat → Nat → Int} {p t v : Nat → Int} {i j : Nat} : ∀ {n : Nat}, (∀ k, k < n → ¬ (p k = (i : Int) ∧ t k = (j : Int))) → putF X p t v n i j = X i j
  | 0, _ => rfl
  | n + 1, h => by
    simp only [putF]
    rw [if_neg (h n (by omega))]
    exact putF_miss fun k hk => h k (by omega)
theorem ties_inv (O : Nat → ObjF) : ∀ n k, k < tiesTo O n → ∃ i q, i < n ∧ q < (O i).nT ∧ k = tiesTo O i + q
  | 0, k, h => by simp [tiesTo] at h
  | n + 1, k, h => by
    by_cases e : k < tiesTo O n
    · obtain ⟨i, q, h1, h2, h3⟩ := ties_inv O n k e
      exact ⟨i, q, by omega, h2, h3⟩
    · simp only [tiesTo] at h
      exact ⟨n, k - tiesTo O n, by omega, by omega, by omega⟩
theorem pats_read {l : List (Nat × Int × Int)} {k i : Nat} {x y : Int} (h : l[k]? = some (i, x, y)) : pP l k = (i : Int) ∧ pT l k = x ∧ pV l k = y ∧ k < l.length := by
  have hd : l.getD k (0, 0, 0) = (i, x, y) := by rw [List.getD_eq_getElem?_getD, h]; rfl
  unfold pP pT pV
  rw [hd]
  exact ⟨rfl, rfl, rfl, (List.getElem?_eq_some_iff.1 h).1⟩
section
variable {O : Nat → ObjF} {P Q : ByteArray → Int} {B : Nat → Int} {m : Nat}
/-- the words of all parts, behind all patches. -/
abbrev putW (O : Nat → ObjF) (P Q : ByteArray → Int) (B : Nat → Int) (m : Nat) : Nat → Nat → Int := putF (fun i j => (O i).words j) (pP (patsTo O P Q B m)) (pT (patsTo O P Q B m)) (pV (patsTo O P Q B m)) (patsTo O P Q B m).length
theorem tied_word (h : ∀ i, i < m → objF (O i) = 0) {i q a : Nat} (hi : i < m) (hq : q < (O i).nT) (ha : (O i).tAt q = (a : Int)) : putW O P Q B m i a = (tieW O P Q B i q).2 := by
  obtain ⟨a1, a2, a3, a4⟩ := pats_read (patsTo_at O P Q B m hi hq)
  unfold putW
  rw [putF_hit (k0 := tiesTo O i + q) a4 ⟨a1, by rw [a2, ha]⟩ fun k hk hh => ?_, a3]
  rw [patsTo_len] at hk
  obtain ⟨i', q', hi', hq', rfl⟩ := ties_inv O m k hk
  obtain ⟨b1, b2, _, _⟩ := pats_read (patsTo_at O P Q B m hi' hq')
  have e1 : i' = i := by have := hh.1; rw [b1] at this; omega
  subst e1
  have e2 : (O i').tAt q' = (O i').tAt q := by rw [← b2, hh.2, ha]
  have e3 : q' = q := by
    rcases Nat.lt_trichotomy q' q with e | e | e
    · have := ties_rise (h i' hi) e hq; omega
    · exact e
    · have := ties_rise (h i' hi) e hq'; omega
  rw [e3]
theorem free_word {i a : Nat} (h : ∀ q, q < (O i).nT → (O i).tAt q ≠ (a : Int)) : putW O P Q B m i a = (O i).words a := by
  unfold putW
  refine putF_miss fun k hk hh => ?_
  rw [patsTo_len] at hk
  obtain ⟨i', q', hi', hq', rfl⟩ := ties_inv O m k hk
  obtain ⟨b1, b2, _, _⟩ := pats_read (patsTo_at O P Q B m hi' hq')
  have e1 : i' = i := by have := hh.1; rw [b1] at this; omega
  subst e1
  exact h q' hq' (by rw [← b2]; exact hh.2)
end
/-- what a tie of an image tells. -/
structure TieIs (O : Nat → ObjF) (P Q : ByteArray → Int) (B : Nat → Int) (m i q : Nat) (p : Int) : Prop where
  word : (tieW O P Q B i q).2 = if (O i).tKind q = 3 then p + (O i).tAdd q - (B i + (O i).tAt q) else p + (O i).tAdd q
  base : (O i).tKind q = 1 → p = B i
  nobody : (O i).tKind q ≠ 1 → P ((O i).tName q) < 0 → p = 0 ∧ (O i).tWeak q = true
  found : (O i).tKind q ≠ 1 → ¬ P ((O i).tName q) < 0 → ∃ x y : Nat, P ((O i).tName q) = x ∧ Q ((O i).tName q) = y ∧ x < m ∧ y < (O x).nS ∧ p = B x + (O x).sAt y
theorem tie_is {O : Nat → ObjF} {P Q : ByteArray → Int} {B : Nat → Int} {m i q : Nat} (hP : Finds (symsF m O) P Q) (h : (tieW O P Q B i q).1 = 0) : ∃ p, TieIs O P Q B m i q p := by
  obtain ⟨p, hp, e⟩ := hangF_val h
  refine ⟨p, e, fun k1 => ?_, fun k1 hn => ?_, fun k1 hn => ?_⟩
  · unfold whereF at hp
    rw [if_pos k1] at hp
    injection hp with hp
    exact hp.symm
  · unfold whereF at hp
    rw [if_neg k1, if_neg (by omega)] at hp
    by_cases hw : (O i).tWeak q = true
    · rw [if_pos hw] at hp
      injection hp with hp
      exact ⟨hp.symm, hw⟩
    · rw [if_neg hw] at hp; cases hp
  · unfold whereF at hp
    rw [if_neg k1, if_pos (by omega)] at hp
    injection hp with hp
    rcases hP.shape ((O i).tName q) with ⟨h1, _⟩ | ⟨x, y, h1, h2, h3, h4, _⟩
    · omega
    · refine ⟨x, y, h1, h2, h3, h4, ?_⟩
      rw [← hp, h1, h2, Int.toNat_natCast, Int.toNat_natCast]
theorem allF_none {O : Nat → ObjF} {P Q : ByteArray → Int} {B : Nat → Int} {m : Nat} (h : allF m O P Q m B = 0) {i q : Nat} (hi : i < m) (hq : q < (O i).nT) : (tieW O P Q B i q).1 = 0 := by
  unfold allF at h
  rw [if_neg (by simp)] at h
  split at h
  · cases h
  · exact ties_none h hi hq
/-- is a word tied by one of the first k ties? -/
def tiedTo (o : ObjF) (k : Nat) (z : Nat) : Bool := anyTo (fun q => decide (o.tAt q = (z : Int))) k
theorem tiedTo_succ {o : ObjF} {k a : Nat} (h : o.tAt k = (a : Int)) (z : Nat) : tiedTo o (k + 1) z = if z = a then true else tiedTo o k z := by
  unfold tiedTo
  simp only [anyTo, h]
  by_cases e : z = a
  · subst e; simp
  · rw [if_neg e, decide_eq_false (by omega), Bool.or_false]
theorem tiedTo_no {o : ObjF} {k z : Nat} (h : tiedTo o k z = false) : ∀ q, q < k → o.tAt q ≠ (z : Int) := fun q hq e => by
  unfold tiedTo at h
  rw [anyTo_yes hq (decide_eq_true e)] at h
  cases h
end Go.Proofs.YtanfejgcjifhpabGreatDoor
