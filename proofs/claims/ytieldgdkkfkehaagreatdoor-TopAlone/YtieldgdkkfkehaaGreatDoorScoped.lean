/-
  Plain words on names and objects that belong together: what is known of them where there is no error.
-/
import Derived.Test.YtieldgdkkfkehaaGreatDoorScopeOf
namespace Go.Proofs.YtieldgdkkfkehaaGreatDoor
open Go.RowKit Go.Maps

/-- what is known of names and objects that belong together. -/
structure Scoped (rd : ByteArray → Nat × ObjF) (root : ByteArray) (n : Nat) (nm : Nat → ByteArray) (O : Nat → ObjF) : Prop where
  pos : 0 < n
  few : n ≤ 6
  root : nm 0 = root
  read : ∀ i, i < n → rd (nm i) = (0, O i)
  once : ∀ i j, i < n → j < n → nm i = nm j → i = j
  want : ∀ i, 0 < i → i < n → ∃ k q, k < i ∧ q < (O k).nN ∧ (O k).needs q = nm i
  need : ∀ k q, k < n → q < (O k).nN → ∃ i, i < n ∧ nm i = (O k).needs q
theorem scope_of {rd : ByteArray → Nat × ObjF} {root : ByteArray} {i : Nat} (h : OfIs rd root 0 i) (hf : ∀ l : List ByteArray, l.Nodup → (∀ s, s ∈ l → (rd s).1 = 0) → l.length ≤ 6) : Scoped rd root i (nmAt rd root) (fun j => (rd (nmAt rd root j)).2) ∧ (namesAt rd root i).length = i ∧ ∀ j, j < i → (namesAt rd root i).getD j ⟨#[]⟩ = nmAt rd root j := by
  generalize hF : (0 : Nat) = F at h
  cases h with
  | bad _ _ _ hf => exact absurd hF.symm hf
  | ok _ h hi =>
    have hget : ∀ j, j < i → (namesAt rd root i)[j]? = some (nmAt rd root j) := fun j hj => names_get (by omega) (h j hj).1
    refine ⟨⟨?_, h.few hf, rfl, fun j hj => ?_, fun a b ha hb e => ?_, fun a h0 ha => ?_, fun k q hk hq => ?_⟩, hi, fun j hj => ?_⟩
    · have := names_one rd root i
      omega
    · exact Prod.ext (h j hj).2 rfl
    · have h1 := hget a ha
      have h2 := hget b hb
      rw [e] at h1
      have hla : a < (namesAt rd root i).length := by omega
      have hlb : b < (namesAt rd root i).length := by omega
      rw [List.getElem?_eq_getElem hla] at h1
      rw [List.getElem?_eq_getElem hlb] at h2
      have hnd := List.pairwise_iff_getElem.1 (names_nodup rd root i)
      have e2 : (namesAt rd root i)[a] = (namesAt rd root i)[b] := (Option.some.inj h1).trans (Option.some.inj h2).symm
      rcases Nat.lt_trichotomy a b with q | q | q
      · exact absurd e2 (hnd a b hla hlb q)
      · exact q
      · exact absurd e2.symm (hnd b a hlb hla q)
    · obtain ⟨k, q, _, h2, h3, h4⟩ := names_wanted (hget a ha) h0 h
      exact ⟨k, q, h2, h3, h4⟩
    · have hm := names_needs (rd := rd) (root := root) hk hq
      obtain ⟨j, hj, e⟩ := List.getElem_of_mem hm
      have hj' : j < i := by omega
      have := hget j hj'
      rw [List.getElem?_eq_getElem hj] at this
      exact ⟨j, hj', by rw [← Option.some.inj this]; exact e⟩
    · rw [List.getD_eq_getElem?_getD, hget j hj]; rfl

end Go.Proofs.YtieldgdkkfkehaaGreatDoor
