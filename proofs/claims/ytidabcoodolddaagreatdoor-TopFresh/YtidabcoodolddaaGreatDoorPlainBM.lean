/-
  Plain words: where all lie farther by as much, what is near stays as it is, and all else is farther by as much, but what is tied to nobody.
  Plain words: parts that are laid lie apart, inside; so a place is had of one part at most. Parts of a call's own, read.
  Plain words on an image that is bound: what stands at a word that is tied, and at one that isn't.
  Plain words: what was made of a root passes for an entry.
-/
import Derived.Test.YtidabcoodolddaaGreatDoorPatRows
import Derived.Test.YtidabcoodolddaaGreatDoorImageLoad
import Derived.Test.YtidabcoodolddaaGreatDoorPlainStm
import Derived.Test.YtidabcoodolddaaGreatDoorPlainEntry
namespace Go.Proofs.YtidabcoodolddaaGreatDoor

/-- by how much a tie's word moves. -/
def wantF (O : Nat → ObjF) (P : ByteArray → Int) (by' : Int) (i k : Nat) : Int :=
  (if (O i).tKind k = 3 then 0 else by') - (if (O i).tKind k ≠ 1 ∧ P ((O i).tName k) < 0 then by' else 0)
theorem hangF_val {kind base at' add : Int} {wh : Option Int} (h : (hangF kind base at' add wh).1 = 0) : ∃ p, wh = some p ∧ (hangF kind base at' add wh).2 = if kind = 3 then p + add - (base + at') else p + add := by
  cases wh with
  | none => cases h
  | some p =>
    refine ⟨p, rfl, ?_⟩
    by_cases k3 : kind = 3
    · simp only [hangF, if_pos k3] at h ⊢
      split at h
      · cases h
      · rename_i g
        rw [if_neg g]
    · simp only [hangF, if_neg k3] at h ⊢
      split at h
      · rename_i g
        rw [if_pos g]
      · cases h
theorem whereF_shift {O : Nat → ObjF} {P Q : ByteArray → Int} {B : Nat → Int} {by' : Int} {i k : Nat} {p p' : Int} (h : whereF O P Q B i k = some p) (h' : whereF O P Q (fun j => B j + by') i k = some p') : p' = p + by' - (if (O i).tKind k ≠ 1 ∧ P ((O i).tName k) < 0 then by' else 0) := by
  unfold whereF at h h'
  by_cases k1 : (O i).tKind k = 1
  · rw [if_pos k1] at h h'
    rw [if_neg (fun e => e.1 k1)]
    injection h with h
    injection h' with h'
    dsimp only at h'
    omega
  · rw [if_neg k1] at h h'
    by_cases hp : 0 ≤ P ((O i).tName k)
    · rw [if_pos hp] at h h'
      rw [if_neg (fun e => by omega)]
      injection h with h
      injection h' with h'
      dsimp only at h'
      omega
    · rw [if_neg hp] at h h'
      rw [if_pos ⟨k1, by omega⟩]
      by_cases hw : (O i).tWeak k = true
      · rw [if_pos hw] at h h'
        injection h with h
        injection h' with h'
        omega
      · rw [if_neg hw] at h
        cases h
theorem shift_word {O : Nat → ObjF} {P Q : ByteArray → Int} (B : Nat → Int) (by' : Int) (i k : Nat) (h1 : (tieW O P Q B i k).1 = 0) (h2 : (tieW O P Q (fun j => B j + by') i k).1 = 0) :
    (tieW O P Q (fun j => B j + by') i k).2 = (tieW O P Q B i k).2 + wantF O P by' i k := by
  obtain ⟨p, hp, e⟩ := hangF_val h1
  obtain ⟨p', hp', e'⟩ := hangF_val h2
  have hs := whereF_shift hp hp'
  unfold tieW
  rw [e, e']
  unfold wantF
  by_cases k3 : (O i).tKind k = 3
  · rw [if_pos k3, if_pos k3, if_pos k3]
    dsimp only
    omega
  · rw [if_neg k3, if_neg k3, if_neg k3]
    omega
/-- a fault that isn't 'too far' is one wherever they lie. -/
theorem shift_loose {O : Nat → ObjF} {P Q : ByteArray → Int} (B B' : Nat → Int) (i k : Nat) : (tieW O P Q B i k).1 = 6 ↔ (tieW O P Q B' i k).1 = 6 := by
  have key : ∀ C : Nat → Int, (tieW O P Q C i k).1 = 6 ↔ (¬ (O i).tKind k = 1 ∧ ¬ 0 ≤ P ((O i).tName k) ∧ ¬ (O i).tWeak k = true) := fun C => by
    unfold tieW whereF
    by_cases k1 : (O i).tKind k = 1
    · rw [if_pos k1]
      unfold hangF
      dsimp only
      constructor
      · intro h
        split at h <;> split at h <;> cases h
      · intro h; exact absurd k1 h.1
    · rw [if_neg k1]
      by_cases hp : 0 ≤ P ((O i).tName k)
      · rw [if_pos hp]
        unfold hangF
        dsimp only
        constructor
        · intro h
          split at h <;> split at h <;> cases h
        · intro h; exact absurd hp h.2.1
      · rw [if_neg hp]
        by_cases hw : (O i).tWeak k = true
        · rw [if_pos hw]
          unfold hangF
          dsimp only
          constructor
          · intro h
            split at h <;> split at h <;> cases h
          · intro h; exact absurd hw h.2.2
        · rw [if_neg hw]
          exact ⟨fun _ => ⟨k1, hp, hw⟩, fun _ => rfl⟩
  rw [key B, key B']
theorem fault_first {g : Nat → Nat} {n f : Nat} (h : faultTo g n = f) (hf : f ≠ 0) : ∃ i, i < n ∧ g i = f ∧ ∀ j, j < i → g j = 0 := by
  induction n with
  | zero => exact absurd h.symm hf
  | succ n ih =>
    simp only [faultTo, seqF] at h
    split at h
    · rename_i h0
      exact ⟨n, by omega, h, faultTo_zero h0⟩
    · obtain ⟨i, hi, h1, h2⟩ := ih h
      exact ⟨i, by omega, h1, h2⟩
theorem tiesF_first {O : Nat → ObjF} {P Q : ByteArray → Int} {B : Nat → Int} {n f : Nat} (h : tiesF O P Q B n = f) (hf : f ≠ 0) : ∃ i k, i < n ∧ k < (O i).nT ∧ (tieW O P Q B i k).1 = f ∧ (∀ j q, j < i → q < (O j).nT → (tieW O P Q B j q).1 = 0) ∧ ∀ q, q < k → (tieW O P Q B i q).1 = 0 := by
  obtain ⟨i, hi, h1, h2⟩ := fault_first h hf
  obtain ⟨k, hk, h3, h4⟩ := fault_first h1 hf
  exact ⟨i, k, hi, hk, h3, fun j q hj hq => faultTo_zero (h2 j hj) q hq, h4⟩
theorem tie_fault (O : Nat → ObjF) (P Q : ByteArray → Int) (B : Nat → Int) (i k : Nat) : (tieW O P Q B i k).1 = 0 ∨ (tieW O P Q B i k).1 = 6 ∨ (tieW O P Q B i k).1 = 7 := hangF_le _ _ _ _ _
/-- the errors of the two are the same, or one is 'too far'. -/
theorem shift_fault {O : Nat → ObjF} {P Q : ByteArray → Int} (B B' : Nat → Int) (n : Nat) : tiesF O P Q B n = tiesF O P Q B' n ∨ tiesF O P Q B n = 7 ∨ tiesF O P Q B' n = 7 := by
  have cases3 : ∀ C : Nat → Int, tiesF O P Q C n = 0 ∨ tiesF O P Q C n = 6 ∨ tiesF O P Q C n = 7 := fun C => by
    by_cases h0 : tiesF O P Q C n = 0
    · exact .inl h0
    · obtain ⟨i, k, _, _, h, _⟩ := tiesF_first rfl h0
      rcases tie_fault O P Q C i k with e | e | e
      · rw [e] at h; exact absurd h.symm h0
      · rw [e] at h; exact .inr (.inl h.symm)
      · rw [e] at h; exact .inr (.inr h.symm)
  have half : ∀ C C' : Nat → Int, tiesF O P Q C n = 6 → tiesF O P Q C' n ≠ 0 := fun C C' h h' => by
    obtain ⟨i, k, hi, hk, e, _, _⟩ := tiesF_first h (by decide)
    have e' := (shift_loose C C' i k).1 e
    have := faultTo_zero (faultTo_zero h' i hi) k hk
    omega
  rcases cases3 B with h | h | h
  · rcases cases3 B' with h' | h' | h'
    · exact .inl (h.trans h'.symm)
    · exact absurd h (half B' B h')
    · exact .inr (.inr h')
  · rcases cases3 B' with h' | h' | h'
    · exact absurd h' (half B B' h)
    · exact .inl (h.trans h'.symm)
    · exact .inr (.inr h')
  · exact .inr (.inl h)
theorem ties_none {O : Nat → ObjF} {P Q : ByteArray → Int} {B : Nat → Int} {n : Nat} (h : tiesF O P Q B n = 0) {i k : Nat} (hi : i < n) (hk : k < (O i).nT) : (tieW O P Q B i k).1 = 0 := faultTo_zero (faultTo_zero h i hi) k hk
/-- how many ties stand ahead of object i. -/
def tiesTo (O : Nat → ObjF) : Nat → Nat
  | 0 => 0
  | i + 1 => tiesTo O i + (O i).nT
theorem patsOf_at (O : Nat → ObjF) (P Q : ByteArray → Int) (B : Nat → Int) (i : Nat) {q : Nat} : ∀ k, q < k → (patsOf O P Q B i k)[q]? = some (i, (O i).tAt q, (tieW O P Q B i q).2)
  | 0, h => by omega
  | k + 1, h => by
    simp only [patsOf]
    by_cases e : q = k
    · subst e
      rw [List.getElem?_append_right (by rw [patsOf_len]; omega), patsOf_len]
      simp
    · rw [List.getElem?_append_left (by rw [patsOf_len]; omega)]
      exact patsOf_at O P Q B i k (by omega)
theorem patsTo_len (O : Nat → ObjF) (P Q : ByteArray → Int) (B : Nat → Int) : ∀ n, (patsTo O P Q B n).length = tiesTo O n
  | 0 => rfl
  | n + 1 => by simp only [patsTo, tiesTo, List.length_append, patsOf_len, patsTo_len O P Q B n]
theorem patsTo_at (O : Nat → ObjF) (P Q : ByteArray → Int) (B : Nat → Int) {i q : Nat} : ∀ n, i < n → q < (O i).nT → (patsTo O P Q B n)[tiesTo O i + q]? = some (i, (O i).tAt q, (tieW O P Q B i q).2)
  | 0, h, _ => by omega
  | n + 1, h, hq => by
    simp only [patsTo]
    by_cases e : i = n
    · subst e
      rw [List.getElem?_append_right (by rw [patsTo_len]; omega), patsTo_len]
      rw [show tiesTo O i + q - tiesTo O i = q by omega]
      exact patsOf_at O P Q B i _ hq
    · have hl : tiesTo O i + q < tiesTo O n := by
        have mono : ∀ a b, a ≤ b → tiesTo O a ≤ tiesTo O b := fun a b hab => by
          induction b with
          | zero => have : a = 0 := by omega
                    subst this; exact Nat.le_refl _
          | succ b ih =>
            by_cases e : a = b + 1
            · subst e; exact Nat.le_refl _
            · exact Nat.le_trans (ih (by omega)) (by simp only [tiesTo]; omega)
        have := mono (i + 1) n (by omega)
        simp only [tiesTo] at this
        omega
      rw [List.getElem?_append_left (by rw [patsTo_len]; exact hl)]
      exact patsTo_at O P Q B n (by omega) hq
end Go.Proofs.YtidabcoodolddaaGreatDoor

namespace Go.Proofs.YtidabcoodolddaaGreatDoor
open Go.RowKit Go.Maps

theorem held_none (t b : Nat → Int) (i : Nat) : heldF t 0 b i = b i := by
  unfold heldF
  rw [if_neg (by omega)]
  rfl
theorem bases_apart {m : Nat} {sz B : Nat → Int} (h : BasesAre m sz 0 (fun _ => 0) (fun _ => 0) 0 B) :
    (∀ i, i < m → 1 ≤ sz i ∧ sz i ≤ 40) ∧ (∀ i, i < m → 0 ≤ B i ∧ B i + sz i ≤ 256) ∧ ∀ i j, i < j → j < m → B i + sz i ≤ B j ∨ B j + sz j ≤ B i := by
  obtain ⟨h0, hl⟩ := h.laid rfl
  obtain ⟨_, _, hs, _⟩ := placeF_zero h0
  refine ⟨hs, fun i hi => ?_, fun i j hij hj => ?_⟩
  · obtain ⟨k, hk, hb⟩ := hl i hi
    have h1 := hb.inside
    have h2 := roundF_many (hs i hi).1 (hs i hi).2
    omega
  · obtain ⟨k, hk, hb⟩ := hl j hj
    have h1 := meetsB_false.1 hb.free i (by omega)
    rw [held_none, held_none, ← hk] at h1
    have h2 := roundF_many (hs i (by omega)).1 (hs i (by omega)).2
    have h3 := roundF_many (hs j hj).1 (hs j hj).2
    unfold apartB at h1
    have := of_decide_eq_true h1
    omega
theorem has_once {m : Nat} {M : Nat → Nat} {B : Nat → Int} (h : BasesAre m (fun i => (M i : Int)) 0 (fun _ => 0) (fun _ => 0) 0 B) {x : Int} {i j : Nat} (hi : i < m) (hj : j < m) (h1 : hasB B M x i = true) (h2 : hasB B M x j = true) : i = j := by
  obtain ⟨_, _, ha⟩ := bases_apart h
  unfold hasB at h1 h2
  simp only [Bool.and_eq_true, decide_eq_true_eq] at h1 h2
  rcases Nat.lt_trichotomy i j with e | e | e
  · have := ha i j e hj; omega
  · exact e
  · have := ha j i e hi; omega
/-- how many of the first k are so? -/
def cntTo (p : Nat → Bool) : Nat → Nat
  | 0 => 0
  | k + 1 => cntTo p k + (if p k = true then 1 else 0)
theorem cntTo_none {p : Nat → Bool} {k : Nat} (h : ∀ j, j < k → p j = false) : cntTo p k = 0 := by
  induction k with
  | zero => rfl
  | succ k ih => simp only [cntTo]; rw [ih fun j hj => h j (by omega), h k (by omega)]; rfl
theorem cntTo_one {p : Nat → Bool} {i : Nat} (h : p i = true) {k : Nat} (hu : ∀ j, j < k → p j = true → j = i) : cntTo p k = if i < k then 1 else 0 := by
  induction k with
  | zero => rfl
  | succ k ih =>
    simp only [cntTo]
    rw [ih fun j hj => hu j (by omega)]
    by_cases e : k = i
    · subst e
      simp [h]
    · have hp : p k = false := by
        cases hp : p k with
        | false => rfl
        | true => exact absurd (hu k (by omega) hp) e
      by_cases hk : i < k
      · have : i < k + 1 := by omega
        simp [hp, hk, this]
      · have : ¬ i < k + 1 := by omega
        simp [hp, hk, this]
theorem parts_row {w : World} {B0 : Nat} {v : Value} {n : Nat} {nm : Nat → ByteArray} {B : Nat → Int} {M : Nat → Nat} {X : Nat → Nat → Int} {g : Nat} {A : Nat → Option Addr} {C G : Nat → Nat} (h : PartsIn w B0 v n nm B M X g A C G) :
    ∃ a c, v = .slice a n c ∧ n ≤ c ∧ PartRow w a n nm B A M C X := by
  obtain ⟨a, c, rfl, hc⟩ := owns_shape h.own
  refine ⟨a, c, rfl, hc, ?_⟩
  by_cases h0 : n = 0
  · exact .inl h0
  · have key : ∀ i, i < n → ∀ j u, (partC nm B A M C i)[j]? = some u → j < 3 → ∃ g, a = some ⟨g, 0, none⟩ ∧ B0 ≤ g ∧ w.cell? ⟨g, i * 3 + j, none⟩ = some u := fun i hi j u hu hj =>
      owns_cell h.own (by rw [joinC_at (s := 3) (fun i _ => rfl) hi hj]; exact hu)
    obtain ⟨g0, ha, _, _⟩ := key 0 (by omega) 0 _ rfl (by omega)
    refine .inr ⟨g0, 0, ha, fun i hi => ?_⟩
    have get : ∀ j u, (partC nm B A M C i)[j]? = some u → j < 3 → w.cell? ⟨g0, i * 3 + j, none⟩ = some u := fun j u hu hj => by
      obtain ⟨g', ha', _, hc'⟩ := key i hi j u hu hj
      rw [ha] at ha'
      injection ha' with ha'
      injection ha' with ha'
      subst ha'
      exact hc'
    refine ⟨by rw [Nat.zero_add]; exact get 0 _ rfl (by omega), by rw [Nat.zero_add]; exact get 1 _ rfl (by omega), by rw [Nat.zero_add]; exact get 2 _ rfl (by omega), ?_⟩
    by_cases hm : M i = 0
    · exact .inl hm
    · exact .inr ⟨G i, 0, h.out.adr i hi (by omega), fun j hj => by rw [Nat.zero_add]; exact h.out.row i hi j hj⟩
end Go.Proofs.YtidabcoodolddaaGreatDoor

namespace Go.Proofs.YtidabcoodolddaaGreatDoor
open Go.RowKit Go.Maps

theorem rd_obj {D : DataW Unit} {T : ByteArray → ByteArray} {s : ByteArray} (h : (rdD D T s).1 = 0) : objF (rdD D T s).2 = 0 := by
  unfold rdD at h ⊢
  split
  · rename_i hh; rw [if_pos hh] at h; exact (textF_zero (parse_back h).1).1
  · rename_i hh; rw [if_neg hh] at h; cases h
theorem tie_rise {o : ObjF} (h : objF o = 0) {j : Nat} (hj : j + 1 < o.nT) : o.tAt j < o.tAt (j + 1) := by
  unfold objF at h
  rw [seqF_zero_iff, seqF_zero_iff, seqF_zero_iff, seqF_zero_iff] at h
  have h1 := faultTo_zero h.2.2.2.2 (j + 1) hj
  unfold tieF tieOneF at h1
  split at h1
  · split at h1
    · cases h1
    · rename_i h2
      have : prevAt o.tAt (j + 1) = o.tAt j := rfl
      rw [this] at h2
      omega
  · cases h1
theorem ties_rise {o : ObjF} (h : objF o = 0) {i : Nat} : ∀ {j : Nat}, i < j → j < o.nT → o.tAt i < o.tAt j
  | 0, hij, _ => by omega
  | j + 1, hij, hj => by
    have h1 := tie_rise h hj
    by_cases e : i = j
    · subst e; exact h1
    · have := ties_rise h (i := i) (j := j) (by omega) (by omega)
      omega
theorem putF_hit {X : Nat → Nat → Int} {p t v : Nat → Int} {i j k0 : Nat} : ∀ {n : Nat}, k0 < n → (p k0 = (i : Int) ∧ t k0 = (j : Int)) → (∀ k, k < n → p k = (i : Int) ∧ t k = (j : Int) → k = k0) → putF X p t v n i j = v k0
  | 0, hk, _, _ => by omega
  | n + 1, hk, h0, hu => by
    simp only [putF]
    by_cases e : k0 = n
    · subst e
      rw [if_pos h0]
    · rw [if_neg (fun h => e (hu n (by omega) h).symm)]
      exact putF_hit (by omega) h0 fun k hk => hu k (by omega)
theorem putF_miss {X : Nat → Nat → Int} {p t v : Nat → Int} {i j : Nat} : ∀ {n : Nat}, (∀ k, k < n → ¬ (p k = (i : Int) ∧ t k = (j : Int))) → putF X p t v n i j = X i j
  | 0, _ => rfl
  | n + 1, h => by
    simp only [putF]
    rw [if_neg (h n (by omega))]
    exact putF_miss fun k hk => h k (by omega)
theorem ties_inv (O : Nat → ObjF) : ∀ n k, k < tiesTo O n → ∃ i q, i < n ∧ q < (O i).nT ∧ k = tiesTo O i + q
  | 0, k, h => by simp [tiesTo] at h
  | n + 1, k, h => by
    by_cases e : k < tiesTo O n
    · obtain ⟨i, q, h1, h2, h3⟩ := ties_inv O n k e
      exact ⟨i, q, by omega, h2, h3⟩
    · simp only [tiesTo] at h
      exact ⟨n, k - tiesTo O n, by omega, by omega, by omega⟩
theorem pats_read {l : List (Nat × Int × Int)} {k i : Nat} {x y : Int} (h : l[k]? = some (i, x, y)) : pP l k = (i : Int) ∧ pT l k = x ∧ pV l k = y ∧ k < l.length := by
  have hd : l.getD k (0, 0, 0) = (i, x, y) := by rw [List.getD_eq_getElem?_getD, h]; rfl
  unfold pP pT pV
  rw [hd]
  exact ⟨rfl, rfl, rfl, (List.getElem?_eq_some_iff.1 h).1⟩
section
variable {O : Nat → ObjF} {P Q : ByteArray → Int} {B : Nat → Int} {m : Nat}
/-- the words of all parts, behind all patches. -/
abbrev putW (O : Nat → ObjF) (P Q : ByteArray → Int) (B : Nat → Int) (m : Nat) : Nat → Nat → Int := putF (fun i j => (O i).words j) (pP (patsTo O P Q B m)) (pT (patsTo O P Q B m)) (pV (patsTo O P Q B m)) (patsTo O P Q B m).length
theorem tied_word (h : ∀ i, i < m → objF (O i) = 0) {i q a : Nat} (hi : i < m) (hq : q < (O i).nT) (ha : (O i).tAt q = (a : Int)) : putW O P Q B m i a = (tieW O P Q B i q).2 := by
  obtain ⟨a1, a2, a3, a4⟩ := pats_read (patsTo_at O P Q B m hi hq)
  unfold putW
  rw [putF_hit (k0 := tiesTo O i + q) a4 ⟨a1, by rw [a2, ha]⟩ fun k hk hh => ?_, a3]
  rw [patsTo_len] at hk
  obtain ⟨i', q', hi', hq', rfl⟩ := ties_inv O m k hk
  obtain ⟨b1, b2, _, _⟩ := pats_read (patsTo_at O P Q B m hi' hq')
  have e1 : i' = i := by have := hh.1; rw [b1] at this; omega
  subst e1
  have e2 : (O i').tAt q' = (O i').tAt q := by rw [← b2, hh.2, ha]
  have e3 : q' = q := by
    rcases Nat.lt_trichotomy q' q with e | e | e
    · have := ties_rise (h i' hi) e hq; omega
    · exact e
    · have := ties_rise (h i' hi) e hq'; omega
  rw [e3]
theorem free_word {i a : Nat} (h : ∀ q, q < (O i).nT → (O i).tAt q ≠ (a : Int)) : putW O P Q B m i a = (O i).words a := by
  unfold putW
  refine putF_miss fun k hk hh => ?_
  rw [patsTo_len] at hk
  obtain ⟨i', q', hi', hq', rfl⟩ := ties_inv O m k hk
  obtain ⟨b1, b2, _, _⟩ := pats_read (patsTo_at O P Q B m hi' hq')
  have e1 : i' = i := by have := hh.1; rw [b1] at this; omega
  subst e1
  exact h q' hq' (by rw [← b2]; exact hh.2)
end
/-- what a tie of an image tells. -/
structure TieIs (O : Nat → ObjF) (P Q : ByteArray → Int) (B : Nat → Int) (m i q : Nat) (p : Int) : Prop where
  word : (tieW O P Q B i q).2 = if (O i).tKind q = 3 then p + (O i).tAdd q - (B i + (O i).tAt q) else p + (O i).tAdd q
  base : (O i).tKind q = 1 → p = B i
  nobody : (O i).tKind q ≠ 1 → P ((O i).tName q) < 0 → p = 0 ∧ (O i).tWeak q = true
  found : (O i).tKind q ≠ 1 → ¬ P ((O i).tName q) < 0 → ∃ x y : Nat, P ((O i).tName q) = x ∧ Q ((O i).tName q) = y ∧ x < m ∧ y < (O x).nS ∧ p = B x + (O x).sAt y
theorem tie_is {O : Nat → ObjF} {P Q : ByteArray → Int} {B : Nat → Int} {m i q : Nat} (hP : Finds (symsF m O) P Q) (h : (tieW O P Q B i q).1 = 0) : ∃ p, TieIs O P Q B m i q p := by
  obtain ⟨p, hp, e⟩ := hangF_val h
  refine ⟨p, e, fun k1 => ?_, fun k1 hn => ?_, fun k1 hn => ?_⟩
  · unfold whereF at hp
    rw [if_pos k1] at hp
    injection hp with hp
    exact hp.symm
  · unfold whereF at hp
    rw [if_neg k1, if_neg (by omega)] at hp
    by_cases hw : (O i).tWeak q = true
    · rw [if_pos hw] at hp
      injection hp with hp
      exact ⟨hp.symm, hw⟩
    · rw [if_neg hw] at hp; cases hp
  · unfold whereF at hp
    rw [if_neg k1, if_pos (by omega)] at hp
    injection hp with hp
    rcases hP.shape ((O i).tName q) with ⟨h1, _⟩ | ⟨x, y, h1, h2, h3, h4, _⟩
    · omega
    · refine ⟨x, y, h1, h2, h3, h4, ?_⟩
      rw [← hp, h1, h2, Int.toNat_natCast, Int.toNat_natCast]
theorem allF_none {O : Nat → ObjF} {P Q : ByteArray → Int} {B : Nat → Int} {m : Nat} (h : allF m O P Q m B = 0) {i q : Nat} (hi : i < m) (hq : q < (O i).nT) : (tieW O P Q B i q).1 = 0 := by
  unfold allF at h
  rw [if_neg (by simp)] at h
  split at h
  · cases h
  · exact ties_none h hi hq
/-- is a word tied by one of the first k ties? -/
def tiedTo (o : ObjF) (k : Nat) (z : Nat) : Bool := anyTo (fun q => decide (o.tAt q = (z : Int))) k
theorem tiedTo_succ {o : ObjF} {k a : Nat} (h : o.tAt k = (a : Int)) (z : Nat) : tiedTo o (k + 1) z = if z = a then true else tiedTo o k z := by
  unfold tiedTo
  simp only [anyTo, h]
  by_cases e : z = a
  · subst e; simp
  · rw [if_neg e, decide_eq_false (by omega), Bool.or_false]
theorem tiedTo_no {o : ObjF} {k z : Nat} (h : tiedTo o k z = false) : ∀ q, q < k → o.tAt q ≠ (z : Int) := fun q hq e => by
  unfold tiedTo at h
  rw [anyTo_yes hq (decide_eq_true e)] at h
  cases h
end Go.Proofs.YtidabcoodolddaaGreatDoor

namespace Go.Proofs.YtidabcoodolddaaGreatDoor
open Go.RowKit Go.Maps

/-- each file's stamp is 1 or more. -/
def StampsPos (D : DataW Unit) : Prop := ∀ s t n, Maps.has D (keyB s) = true → D.atKey (keyB s) (fileD [] 0) = fileD t n → 1 ≤ n
theorem StampsPos.empty : StampsPos (.map []) := fun s t n h _ => by simp [Maps.has] at h
theorem StampsPos.put {D : DataW Unit} {k : Nat} {s : ByteArray} {t : List UInt8} (hI : Inv D k) (h : StampsPos D) : StampsPos (D.put (keyB s) (fileD t ((k : Int) + 1))) := fun x t' n hx ha => by
  by_cases e : x = s
  · subst e
    rw [atKey_put_same hI.tidy.isMap (keyB_key x)] at ha
    have := fileD_stamp ha
    omega
  · rw [has_put_other (fun q => e (keyB_inj' q))] at hx
    rw [atKey_put_other (fun q => e (keyB_inj' q))] at ha
    exact h x t' n hx ha
theorem StampsPos.del {D : DataW Unit} {s : ByteArray} (h : StampsPos D) : StampsPos (D.del (keyB s)) := fun x t' n hx ha => by
  by_cases e : x = s
  · subst e; rw [has_del_same] at hx; cases hx
  · rw [has_del_other (fun q => e (keyB_inj' q))] at hx
    rw [atKey_del_other (fun q => e (keyB_inj' q))] at ha
    exact h x t' n hx ha
theorem doneD_pos {q : DataW Unit × Nat} {X : Nat → ActF} (hI : Inv q.1 q.2) (h : StampsPos q.1) (m : Nat) : StampsPos (doneD q X m).1 := by
  induction m with
  | zero => exact h
  | succ m ih =>
    have hIm := (doneD_inv (X := X) (q := q) hI m).1
    show StampsPos (actD (doneD q X m) (X m)).1
    unfold actD
    by_cases h1 : (X m).kind = kWrite
    · rw [if_pos h1]
      by_cases h2 : writeF (doneD q X m).1 (doneD q X m).2 (X m).s (X m).t = 0
      · rw [if_pos h2]; exact ih.put hIm
      · rw [if_neg h2]; exact ih
    · rw [if_neg h1]
      by_cases h2 : (X m).kind = kRemove
      · rw [if_pos h2]; exact ih.del
      · rw [if_neg h2]; exact ih
theorem hang_word {kind base at' add : Int} {wh : Option Int} (h : (hangF kind base at' add wh).1 = 0) : isWordF (hangF kind base at' add wh).2 = true := by
  unfold hangF at *
  cases wh with
  | none => cases h
  | some p =>
    dsimp only at *
    by_cases hk : kind = 3
    · rw [if_pos hk] at *
      by_cases hp : p + add - (base + at') < -500 ∨ 500 < p + add - (base + at')
      · rw [if_pos hp] at h; cases h
      · rw [if_neg hp]
        simp [isWordF]; omega
    · rw [if_neg hk] at *
      by_cases hw : isWordF (p + add) = true
      · rw [if_pos hw]; exact hw
      · rw [if_neg hw] at h; cases h
theorem base_ok {m : Nat} {sz : Nat → Int} {B : Nat → Int} (h : BasesAre m sz 0 (fun _ => 0) (fun _ => 0) 0 B) {j : Nat} (hj : j < m) (h1 : 1 ≤ sz j) (h2 : sz j ≤ 40) : 0 ≤ B j ∧ B j < 256 ∧ B j % 16 = 0 := by
  have key : ∀ F, BasesAre m sz 0 (fun _ => 0) (fun _ => 0) F B → F = 0 → Laid (fun _ => 0) (fun _ => 0) 0 sz B j := fun F h hF => by
    cases h with
    | bad _ h => exact absurd hF h
    | full _ _ => cases hF
    | ok _ _ hl => exact hl j hj
  obtain ⟨k, hk, hb⟩ := key 0 h rfl
  have hin := hb.inside
  have hr := roundF_many h1 h2
  omega
/-- the entry that was made. -/
def madeE (rd : ByteArray → Nat × ObjF) (S : ByteArray → Int) (root : ByteArray) (m : Nat) (B : Nat → Int) (l : List (Nat × Int × Int)) : EntF := ⟨root, m, nmAt rd root, fun j => S (nmAt rd root j), B, l.length, pP l, pT l, pV l⟩
theorem faultTo_none {g : Nat → Nat} {n : Nat} (h : ∀ i, i < n → g i = 0) : faultTo g n = 0 := by
  induction n with
  | zero => rfl
  | succ n ih => exact faultTo_ok (ih fun i hi => h i (by omega)) (h n (by omega))
theorem made_entF {D : DataW Unit} {k : Nat} {T : ByteArray → ByteArray} {S : ByteArray → Int} {root : ByteArray} {m : Nat} {B : Nat → Int} {P Q : ByteArray → Int} (hI : Inv D k) (hN : NamesOk D) (hP : StampsPos D) (hS : Stamps D S) (hk : k ≤ 1000000) (h : Reckoned (rdD D T) root m B P Q) :
    entF (madeE (rdD D T) S root m B (patsAt (rdD D T) root m B P Q)) = 0 := by
  obtain ⟨hSc, _, _⟩ := scope_of h.of (rd_few (T := T) hI)
  have hhas := made_has hI h.of
  have hok : ∀ j, j < m → ObjOk (obAt (rdD D T) root j) := fun j hj => rd_ok (D := D) (T := T) (s := nmAt (rdD D T) root j) (by rw [hSc.read j hj])
  have hlen : (patsAt (rdD D T) root m B P Q).length ≤ 6 * m := patsTo_le (O := obAt (rdD D T) root) P Q B (i := m) fun j hj => (hok j hj).nT
  have hm := hSc.few
  have hp := hSc.pos
  unfold entF madeE
  have e1 : nameF root.data.toList = 0 := by have := hN _ (hhas 0 hp); rwa [hSc.root] at this
  have e2 : mayBeB (m : Int) ((patsAt (rdD D T) root m B P Q).length : Int) = true := by unfold mayBeB; exact decide_eq_true (by omega)
  rw [e1, seqF_zero]
  dsimp only
  rw [if_pos e2, seqF_zero]
  have e3 : partsF (madeE (rdD D T) S root m B (patsAt (rdD D T) root m B P Q)) m = 0 := faultTo_none fun i hi => by
    show stampedF (nmAt (rdD D T) root i) (S (nmAt (rdD D T) root i)) (B i) = 0
    unfold stampedF
    obtain ⟨t, n, ha, _⟩ := hI.st _ (hhas i hi)
    have h1 := hP _ t n (hhas i hi) ha
    have h2 := hS.is _ t n (hhas i hi) ha
    have h3 := stamp_le hI hS (hhas i hi)
    have hb := base_ok h.bases hi (by show (1 : Int) ≤ ((obAt (rdD D T) root i).nW : Int); have := (hok i hi).nW0; omega) (by show ((obAt (rdD D T) root i).nW : Int) ≤ 40; have := (hok i hi).nW; omega)
    rw [hN _ (hhas i hi), seqF_zero, if_neg (by omega), if_neg (by omega)]
  have e4 : patchesF (madeE (rdD D T) S root m B (patsAt (rdD D T) root m B P Q)) (patsAt (rdD D T) root m B P Q).length = 0 := faultTo_none fun i hi => by
    show patchedF m (pP (patsAt (rdD D T) root m B P Q) i) (pT (patsAt (rdD D T) root m B P Q) i) (pV (patsAt (rdD D T) root m B P Q) i) = 0
    have hmem : (patsAt (rdD D T) root m B P Q).getD i (0, 0, 0) ∈ patsAt (rdD D T) root m B P Q := by
      rw [List.getD_eq_getElem?_getD, List.getElem?_eq_getElem hi]
      exact List.getElem_mem hi
    obtain ⟨a, q, ha, hq, e⟩ := patsTo_mem hmem
    have ht := (hok a ha).ties q hq
    have hw := hang_word (allF_none h.all ha hq)
    unfold patchedF
    rw [if_pos]
    refine ⟨?_, ?_, ?_⟩
    · show isPlaceF ((((patsAt (rdD D T) root m B P Q).getD i (0, 0, 0)).1 : Nat) : Int) (m : Int) = true
      rw [e]; simp [isPlaceF]; omega
    · show isPlaceF ((patsAt (rdD D T) root m B P Q).getD i (0, 0, 0)).2.1 40 = true
      rw [e]
      show isPlaceF ((obAt (rdD D T) root a).tAt q) 40 = true
      have hw40 := (hok a ha).nW
      simp only [isPlaceF, Bool.and_eq_true, decide_eq_true_eq]
      omega
    · show isWordF ((patsAt (rdD D T) root m B P Q).getD i (0, 0, 0)).2.2 = true
      rw [e]; exact hw
  show seqF (partsF (madeE (rdD D T) S root m B (patsAt (rdD D T) root m B P Q)) m) (patchesF (madeE (rdD D T) S root m B (patsAt (rdD D T) root m B P Q)) (patsAt (rdD D T) root m B P Q).length) = 0
  rw [e3, seqF_zero]
  exact e4
end Go.Proofs.YtidabcoodolddaaGreatDoor
