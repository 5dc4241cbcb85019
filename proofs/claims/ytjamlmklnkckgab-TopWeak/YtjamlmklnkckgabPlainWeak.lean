/-
  Plain words on symbols of objects: who is found when one object more is among them.
-/
import Derived.Test.YtjamlmklnkckgabPlainFind
namespace Go.Proofs.Ytjamlmklnkckgab

/-- one object more: at place k. -/
structure OneMore (L L' : SymsF) (k : Nat) : Prop where
  hk : k ≤ L.n
  hn : L'.n = L.n + 1
  lm : ∀ i, i < k → L'.m i = L.m i
  ln : ∀ i j, i < k → L'.nm i j = L.nm i j
  lw : ∀ i j, i < k → L'.wk i j = L.wk i j
  hm : ∀ i, k ≤ i → i < L.n → L'.m (i + 1) = L.m i
  hnm : ∀ i j, k ≤ i → i < L.n → L'.nm (i + 1) j = L.nm i j
  hw : ∀ i j, k ≤ i → i < L.n → L'.wk (i + 1) j = L.wk i j

/-- where an object's place is then. -/
def shiftAt (k i : Nat) : Nat := if i < k then i else i + 1
theorem OneMore.hit {L L' : SymsF} {k : Nat} (h : OneMore L L' k) {s : ByteArray} {i j : Nat} (hh : Hit L s i j) : Hit L' s (shiftAt k i) j ∧ L'.wk (shiftAt k i) j = L.wk i j := by
  have li := hh.li
  have lk := hh.lk
  have hn := h.hn
  unfold shiftAt
  by_cases e : i < k
  · rw [if_pos e]
    exact ⟨⟨by omega, by rw [h.lm i e]; exact lk, by rw [h.ln i j e]; exact hh.eq⟩, h.lw i j e⟩
  · rw [if_neg e]
    exact ⟨⟨by omega, by rw [h.hm i (by omega) li]; exact lk, by rw [h.hnm i j (by omega) li]; exact hh.eq⟩, h.hw i j (by omega) li⟩
theorem OneMore.back {L L' : SymsF} {k : Nat} (h : OneMore L L' k) {s : ByteArray} {i j : Nat} (hh : Hit L' s i j) : i = k ∨ ∃ i0, i = shiftAt k i0 ∧ Hit L s i0 j ∧ L'.wk i j = L.wk i0 j := by
  have li := hh.li
  have lk := hh.lk
  have hn := h.hn
  have hk := h.hk
  by_cases e : i < k
  · refine .inr ⟨i, by unfold shiftAt; rw [if_pos e], ⟨by omega, by rw [← h.lm i e]; exact lk, by rw [← h.ln i j e]; exact hh.eq⟩, h.lw i j e⟩
  · by_cases e2 : i = k
    · exact .inl e2
    · obtain ⟨i0, rfl⟩ : ∃ i0, i = i0 + 1 := ⟨i - 1, by omega⟩
      refine .inr ⟨i0, by unfold shiftAt; rw [if_neg (by omega)], ⟨by omega, by rw [← h.hm i0 (by omega) (by omega)]; exact lk, by rw [← h.hnm i0 j (by omega) (by omega)]; exact hh.eq⟩, h.hw i0 j (by omega) (by omega)⟩
theorem shiftAt_bef (k a b c d : Nat) : Bef (shiftAt k a) b (shiftAt k c) d ↔ Bef a b c d := by
  unfold Bef shiftAt
  by_cases h1 : a < k <;> by_cases h2 : c < k <;> simp only [if_pos, if_neg, h1, h2, not_false_iff] <;> omega

/-- who is found, one place farther if it lies there. -/
def farther (k : Nat) (p : Int) : Int := if (k : Int) ≤ p then p + 1 else p
theorem farther_nat (k i : Nat) : farther k (i : Int) = ((shiftAt k i : Nat) : Int) := by
  unfold farther shiftAt
  by_cases h : i < k
  · rw [if_neg (by omega), if_pos h]
  · rw [if_pos (by omega), if_neg h]; omega
theorem farther_none (k : Nat) : farther k (-1) = -1 := by unfold farther; rw [if_neg (by omega)]

/-- one that doesn't have it, wherever. -/
theorem IsFound.more {L L' : SymsF} {s : ByteArray} {k : Nat} {p q : Int} (hF : IsFound L s p q) (h : OneMore L L' k) (hno : ∀ j, ¬ Hit L' s k j) : IsFound L' s (farther k p) q := by
  cases hF with
  | strong i j hh hw hb =>
    rw [farther_nat]
    refine .strong _ _ (h.hit hh).1 ((h.hit hh).2.trans hw) fun a b g e => ?_
    rcases h.back g with rfl | ⟨a0, rfl, g0, e0⟩
    · exact absurd g (hno b)
    · rw [e0]; exact hb a0 b g0 ((shiftAt_bef ..).1 e)
  | weak i j hh hf hw =>
    rw [farther_nat]
    refine .weak _ _ (h.hit hh).1 (fun a b g e => ?_) fun a b g => ?_
    · rcases h.back g with rfl | ⟨a0, rfl, g0, e0⟩
      · exact absurd g (hno b)
      · exact hf a0 b g0 ((shiftAt_bef ..).1 e)
    · rcases h.back g with rfl | ⟨a0, rfl, g0, e0⟩
      · exact absurd g (hno b)
      · rw [e0]; exact hw a0 b g0
  | none hn =>
    rw [farther_none]
    refine .none fun a b g => ?_
    rcases h.back g with rfl | ⟨a0, rfl, g0, e0⟩
    · exact hno b g
    · exact hn a0 b g0

/-- one that has it weakly, behind one who has it; or not at all. -/
theorem IsFound.behind {L L' : SymsF} {s : ByteArray} {p q : Int} (hF : IsFound L s p q) (h : OneMore L L' L.n) (hwk : ∀ j, Hit L' s L.n j → L'.wk L.n j = true ∧ ¬ p < 0) : IsFound L' s p q := by
  have sh : ∀ i, i < L.n → shiftAt L.n i = i := fun i hi => by unfold shiftAt; rw [if_pos hi]
  cases hF with
  | strong i j hh hw hb =>
    have e1 := h.hit hh
    rw [sh i hh.li] at e1
    refine .strong i j e1.1 (e1.2.trans hw) fun a b g e => ?_
    rcases h.back g with rfl | ⟨a0, rfl, g0, e0⟩
    · exact (hwk b g).1
    · rw [e0]; rw [sh a0 g0.li] at e; exact hb a0 b g0 e
  | weak i j hh hf hw =>
    have e1 := h.hit hh
    rw [sh i hh.li] at e1
    refine .weak i j e1.1 (fun a b g e => ?_) fun a b g => ?_
    · rcases h.back g with rfl | ⟨a0, rfl, g0, e0⟩
      · have := hh.li; unfold Bef at e; omega
      · rw [sh a0 g0.li] at e; exact hf a0 b g0 e
    · rcases h.back g with rfl | ⟨a0, rfl, g0, e0⟩
      · exact (hwk b g).1
      · rw [e0]; exact hw a0 b g0
  | none hn =>
    refine .none fun a b g => ?_
    rcases h.back g with rfl | ⟨a0, rfl, g0, e0⟩
    · exact (hwk b g).2 (by decide)
    · exact hn a0 b g0
end Go.Proofs.Ytjamlmklnkckgab
