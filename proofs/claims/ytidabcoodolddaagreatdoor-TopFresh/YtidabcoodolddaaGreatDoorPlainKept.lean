/-
  What a kept entry is worth, in plain words: it was made of files as they were; whatever was written since has a later stamp: so where the stamps are those of now, the files read as they did.
-/
import Derived.Test.YtidabcoodolddaaGreatDoorPlainStm
import Derived.Test.YtidabcoodolddaaGreatDoorPlainBM
import Derived.Test.YtidabcoodolddaaGreatDoorPlainLine
namespace Go.Proofs.YtidabcoodolddaaGreatDoor
open Go.RowKit Go.Maps

/-- the files of now (D), held against those of an earlier time (D0, of which k0 was the last stamp): what has an early stamp is as it was. -/
structure Since (D0 : DataW Unit) (k0 : Nat) (D : DataW Unit) (k : Nat) : Prop where
  le : k0 ≤ k
  was : ∀ x t n, Maps.has D (keyB x) = true → D.atKey (keyB x) (fileD [] 0) = fileD t n → n ≤ (k0 : Int) → Maps.has D0 (keyB x) = true ∧ D0.atKey (keyB x) (fileD [] 0) = fileD t n
theorem Since.refl (D : DataW Unit) (k : Nat) : Since D k D k := ⟨Nat.le_refl _, fun _ _ _ h ha _ => ⟨h, ha⟩⟩
theorem Since.put {D0 D : DataW Unit} {k0 k : Nat} {s : ByteArray} {t : List UInt8} (hI : Inv D k) (h : Since D0 k0 D k) : Since D0 k0 (D.put (keyB s) (fileD t ((k : Int) + 1))) (k + 1) := ⟨Nat.le_succ_of_le h.le, fun x t' n hx ha hn => by
  by_cases e : x = s
  · subst e
    rw [atKey_put_same hI.tidy.isMap (keyB_key x)] at ha
    have := fileD_stamp ha
    have := h.le
    omega
  · rw [has_put_other (fun q => e (keyB_inj' q))] at hx
    rw [atKey_put_other (fun q => e (keyB_inj' q))] at ha
    exact h.was x t' n hx ha hn⟩
theorem Since.del {D0 D : DataW Unit} {k0 k : Nat} {s : ByteArray} (h : Since D0 k0 D k) : Since D0 k0 (D.del (keyB s)) k := ⟨h.le, fun x t' n hx ha hn => by
  by_cases e : x = s
  · subst e; rw [has_del_same] at hx; cases hx
  · rw [has_del_other (fun q => e (keyB_inj' q))] at hx
    rw [atKey_del_other (fun q => e (keyB_inj' q))] at ha
    exact h.was x t' n hx ha hn⟩
theorem Since.done {D0 : DataW Unit} {k0 : Nat} {q : DataW Unit × Nat} {X : Nat → ActF} (hI : Inv q.1 q.2) (h : Since D0 k0 q.1 q.2) (m : Nat) : Since D0 k0 (doneD q X m).1 (doneD q X m).2 := by
  induction m with
  | zero => exact h
  | succ m ih =>
    have hIm := (doneD_inv (X := X) (q := q) hI m).1
    show Since D0 k0 (actD (doneD q X m) (X m)).1 (actD (doneD q X m) (X m)).2
    unfold actD
    by_cases h1 : (X m).kind = kWrite
    · rw [if_pos h1]
      by_cases h2 : writeF (doneD q X m).1 (doneD q X m).2 (X m).s (X m).t = 0
      · rw [if_pos h2]; exact ih.put hIm
      · rw [if_neg h2]; exact ih
    · rw [if_neg h1]
      by_cases h2 : (X m).kind = kRemove
      · rw [if_pos h2]; exact ih.del
      · rw [if_neg h2]; exact ih
/-- an entry that was made of files as they were. -/
structure Made (D : DataW Unit) (k : Nat) (e : EntF) (D0 : DataW Unit) (k0 : Nat) (T0 : ByteArray → ByteArray) (S0 : ByteArray → Int) (m : Nat) (B : Nat → Int) (P Q : ByteArray → Int) : Prop where
  since : Since D0 k0 D k
  inv : Inv D0 k0
  texts : Texts D0 T0
  stamps : Stamps D0 S0
  reck : Reckoned (rdD D0 T0) e.root m B P Q
  same : SameE e (madeE (rdD D0 T0) S0 e.root m B (patsAt (rdD D0 T0) e.root m B P Q))
def Held (D : DataW Unit) (k : Nat) (e : EntF) : Prop := ∃ D0 k0 T0 S0 m B P Q, Made D k e D0 k0 T0 S0 m B P Q
theorem Held.step {D D' : DataW Unit} {k k' : Nat} {e : EntF} (h : Held D k e) (f : ∀ D0 k0, Since D0 k0 D k → Since D0 k0 D' k') : Held D' k' e := by
  obtain ⟨D0, k0, T0, S0, m, B, P, Q, h⟩ := h
  exact ⟨D0, k0, T0, S0, m, B, P, Q, { h with since := f _ _ h.since }⟩
theorem any_false {f : Nat → Bool} {n : Nat} (h : anyTo f n = false) : ∀ i, i < n → f i = false := by
  induction n with
  | zero => intro i hi; omega
  | succ n ih =>
    intro i hi
    simp only [anyTo, Bool.or_eq_false_iff] at h
    by_cases e : i = n
    · subst e; exact h.2
    · exact ih h.1 i (by omega)
theorem ofIs_read {rd : ByteArray → Nat × ObjF} {root : ByteArray} {F m : Nat} (h : OfIs rd root F m) (hF : F = 0) : ReadTo rd root m := by
  cases h with
  | bad i h hi hf => exact absurd hF hf
  | ok i h hi => exact h
/-- where the stamps are those of now, the files read as they did. -/
theorem Made.reads {D : DataW Unit} {k : Nat} {e : EntF} {D0 : DataW Unit} {k0 : Nat} {T0 : ByteArray → ByteArray} {S0 : ByteArray → Int} {m : Nat} {B : Nat → Int} {P Q : ByteArray → Int} (h : Made D k e D0 k0 T0 S0 m B P Q) {T : ByteArray → ByteArray} {S : ByteArray → Int} (hI : Inv D k) (hT : Texts D T) (hS : Stamps D S) (hst : staleTo D S (nmAt (rdD D0 T0) e.root) (fun j => S0 (nmAt (rdD D0 T0) e.root j)) m = false) :
    ∀ j, j < m → rdD D T (nmAt (rdD D0 T0) e.root j) = rdD D0 T0 (nmAt (rdD D0 T0) e.root j) := by
  intro j hj
  have h1 := any_false hst j hj
  simp only [Bool.not_eq_false', Bool.and_eq_true, decide_eq_true_eq] at h1
  obtain ⟨hh, hs⟩ := h1
  have hrd := (ofIs_read h.reck.of rfl j hj).2
  generalize nmAt (rdD D0 T0) e.root j = x at *
  obtain ⟨n, hn⟩ := texts_at hI hT hh
  have hn1 : n = S0 x := (hS.is x _ n hh hn).trans hs
  have h0 : Maps.has D0 (keyB x) = true → n ≤ (k0 : Int) := fun h2 => by
    obtain ⟨t, n', ha, hle⟩ := h.inv.st _ h2
    have := h.stamps.is x t n' h2 ha
    omega
  by_cases h2 : Maps.has D0 (keyB x) = true
  · obtain ⟨_, ha⟩ := h.since.was x _ n hh hn (h0 h2)
    have ht := h.texts.is x (T x) n h2 ha
    unfold rdD
    rw [if_pos hh, if_pos h2, ht]
  · rw [show rdD D0 T0 x = (5, emptyO) by unfold rdD; rw [if_neg h2]] at hrd
    cases hrd
/-- what was just made. -/
theorem Held.new {D : DataW Unit} {k : Nat} {T : ByteArray → ByteArray} {S : ByteArray → Int} {root : ByteArray} {m : Nat} {B : Nat → Int} {P Q : ByteArray → Int} (hI : Inv D k) (hT : Texts D T) (hS : Stamps D S) (h : Reckoned (rdD D T) root m B P Q) : Held D k (madeE (rdD D T) S root m B (patsAt (rdD D T) root m B P Q)) :=
  ⟨D, k, T, S, m, B, P, Q, Since.refl D k, hI, hT, hS, h, SameE.refl _⟩
end Go.Proofs.YtidabcoodolddaaGreatDoor
