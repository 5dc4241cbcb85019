/-
  What a shelf has behind Put and Drop, in plain words.
-/
import Derived.Test.YtlcdacldhalnnaaGreatDoorShelfOps
namespace Go.Proofs.YtlcdacldhalnnaaGreatDoor
open Go.RowKit

theorem SameE.symm {a b : EntF} (h : SameE a b) : SameE b a :=
  ⟨h.root.symm, h.nP.symm, h.nQ.symm, fun i hi => by obtain ⟨h1, h2, h3⟩ := h.parts i (by rw [← h.nP]; exact hi); exact ⟨h1.symm, h2.symm, h3.symm⟩, fun i hi => by obtain ⟨h1, h2, h3⟩ := h.pats i (by rw [← h.nQ]; exact hi); exact ⟨h1.symm, h2.symm, h3.symm⟩⟩
theorem SameE.trans {a b c : EntF} (h : SameE a b) (g : SameE b c) : SameE a c :=
  ⟨h.root.trans g.root, h.nP.trans g.nP, h.nQ.trans g.nQ, fun i hi => by obtain ⟨h1, h2, h3⟩ := h.parts i (by rw [g.nP]; exact hi); obtain ⟨g1, g2, g3⟩ := g.parts i hi; exact ⟨h1.trans g1, h2.trans g2, h3.trans g3⟩, fun i hi => by obtain ⟨h1, h2, h3⟩ := h.pats i (by rw [g.nQ]; exact hi); obtain ⟨g1, g2, g3⟩ := g.pats i hi; exact ⟨h1.trans g1, h2.trans g2, h3.trans g3⟩⟩
theorem findF_congr {E E' : Nat → EntF} {root : ByteArray} {n : Nat} (h : ∀ i, i < n → (E i).root = (E' i).root) : ∀ (m i : Nat), n - i = m → findF E root n i = findF E' root n i
  | 0, i, hm => by rw [findF_end (by omega), findF_end (by omega)]
  | m + 1, i, hm => by
    by_cases he : (E i).root = root
    · rw [findF_hit (by omega) he, findF_hit (by omega) ((h i (by omega)).symm.trans he)]
    · rw [findF_miss (by omega) he, findF_miss (by omega) (fun e => he ((h i (by omega)).trans e))]
      exact findF_congr h m (i + 1) (by omega)
theorem ShelfOk.same {E E' : Nat → EntF} {k : Nat} (h : ShelfOk E k) (e : ∀ i, i < k → SameE (E i) (E' i)) : ShelfOk E' k :=
  ⟨h.few, fun i hi => ((e i hi).line (h.ok i hi)).1, fun i j hi hj he => h.once i j hi hj (by rw [(e i hi).root, (e j hj).root]; exact he)⟩
/-- all but the i-th. -/
def cutV {α : Type} (V : Nat → α) (i j : Nat) : α := if j < i then V j else V (j + 1)
/-- what is told of a Put, and what there is behind it. -/
def putE (E : Nat → EntF) (k : Nat) (en : EntF) : Nat × (Nat → EntF) × Nat :=
  if entF en ≠ 0 then (entF en, E, k) else if 0 ≤ findF E en.root k 0 then (0, addV E (findF E en.root k 0).toNat en, k) else if k = 3 then (2, E, k) else (0, addV E k en, k + 1)
def dropE (E : Nat → EntF) (k : Nat) (root : ByteArray) : Nat × (Nat → EntF) × Nat :=
  if findF E root k 0 < 0 then (5, E, k) else (0, cutV E (findF E root k 0).toNat, k - 1)
theorem set_ok {E : Nat → EntF} {k i : Nat} {en : EntF} (h : ShelfOk E k) (hr : (E i).root = en.root) (h0 : entF en = 0) : ShelfOk (addV E i en) k := by
  have er : ∀ j, j < k → (addV E i en j).root = (E j).root := fun j _ => by
    unfold addV
    split
    · rename_i e; rw [e, hr]
    · rfl
  refine ⟨h.few, fun j hj => ?_, fun a b ha hb he => h.once a b ha hb (by rw [er a ha, er b hb] at he; exact he)⟩
  unfold addV
  split
  · exact h0
  · exact h.ok j hj
theorem add_ok {E : Nat → EntF} {k : Nat} {en : EntF} (h : ShelfOk E k) (hk : k ≠ 3) (hn : ∀ j, j < k → (E j).root ≠ en.root) (h0 : entF en = 0) : ShelfOk (addV E k en) (k + 1) := by
  have hf := h.few
  refine ⟨by omega, fun j hj => ?_, fun a b ha hb he => ?_⟩
  · unfold addV
    split
    · exact h0
    · exact h.ok j (by omega)
  · unfold addV at he
    split at he
    · split at he
      · omega
      · exact absurd he.symm (hn b (by omega))
    · split at he
      · exact absurd he (hn a (by omega))
      · exact h.once a b (by omega) (by omega) he
theorem cut_ok {E : Nat → EntF} {k i : Nat} (h : ShelfOk E k) (hi : i < k) : ShelfOk (cutV E i) (k - 1) := by
  have hf := h.few
  refine ⟨by omega, fun j hj => ?_, fun a b ha hb he => ?_⟩
  · unfold cutV
    split
    · exact h.ok j (by omega)
    · exact h.ok _ (by omega)
  · unfold cutV at he
    split at he
    · split at he
      · exact h.once a b (by omega) (by omega) he
      · have := h.once a (b + 1) (by omega) (by omega) he; omega
    · split at he
      · have := h.once (a + 1) b (by omega) (by omega) he; omega
      · have := h.once (a + 1) (b + 1) (by omega) (by omega) he; omega
theorem Split.same {s : DSt} {n : Nat} {E : Nat → EntF} {k : Nat} {F F' : Nat → EntF} {m : Nat} (h : Split s n E k F m) (e : ∀ i, i < m → SameE (F i) (F' i)) : Split s n E k F' m :=
  ⟨h.1, fun keep => (h.2 keep).imp id fun h => h.same e⟩
theorem KeepEnd.same {s : DSt} {n : Nat} {E : Nat → EntF} {k : Nat} {F F' : Nat → EntF} {m : Nat} {s' : DSt} {x : Ending} (h : KeepEnd s n E k F m s' x) (e : ∀ i, i < m → SameE (F i) (F' i)) : KeepEnd s n E k F' m s' x := by
  cases h with
  | ok h hl => exact .ok (h.same e) hl
  | fell hl h => exact .fell hl (h.same e)
/-- a call of Put or Drop that returned: what is refused changes nothing. -/
inductive PutEnd (s : DSt) (n : Nat) (E : Nat → EntF) (k : Nat) (r : Nat × (Nat → EntF) × Nat) (s' : DSt) : Ending → Prop
  | bad (h : r.1 ≠ 0) (hs : s' = s) : PutEnd s n E k r s' (.returned (errV r.1))
  | keep (e : Ending) (h : r.1 = 0) (hk : KeepEnd s n E k r.2.1 r.2.2 s' e) : PutEnd s n E k r s' e
theorem putE_bad {E : Nat → EntF} {k : Nat} {en : EntF} (h : entF en ≠ 0) : putE E k en = (entF en, E, k) := by unfold putE; rw [if_pos h]
theorem putE_set {E : Nat → EntF} {k i : Nat} {en : EntF} (h : entF en = 0) (hf : findF E en.root k 0 = (i : Int)) : putE E k en = (0, addV E i en, k) := by
  unfold putE; rw [if_neg (by simp [h]), if_pos (by omega), hf]; rfl
theorem putE_many {E : Nat → EntF} {en : EntF} (h : entF en = 0) (hf : findF E en.root 3 0 < 0) : putE E 3 en = (2, E, 3) := by
  unfold putE; rw [if_neg (by simp [h]), if_neg (by omega), if_pos rfl]
theorem putE_add {E : Nat → EntF} {k : Nat} {en : EntF} (h : entF en = 0) (hf : findF E en.root k 0 < 0) (hk : k ≠ 3) : putE E k en = (0, addV E k en, k + 1) := by
  unfold putE; rw [if_neg (by simp [h]), if_neg (by omega), if_neg hk]
theorem dropE_none {E : Nat → EntF} {k : Nat} {root : ByteArray} (hf : findF E root k 0 < 0) : dropE E k root = (5, E, k) := by unfold dropE; rw [if_pos hf]
theorem dropE_cut {E : Nat → EntF} {k i : Nat} {root : ByteArray} (hf : findF E root k 0 = (i : Int)) : dropE E k root = (0, cutV E i, k - 1) := by unfold dropE; rw [if_neg (by omega), hf]; rfl
end Go.Proofs.YtlcdacldhalnnaaGreatDoor
