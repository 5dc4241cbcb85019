/-
  Rows of patches of the call's own, read.
-/
import Derived.Test.YtidabcoodolddaaGreatDoorPatchBoth
import Derived.Test.YtidabcoodolddaaGreatDoorAtAll
namespace Go.Proofs.YtidabcoodolddaaGreatDoor
open Go.RowKit

/-- a list of patches, by places. -/
def pP (l : List (Nat × Int × Int)) (i : Nat) : Int := ((l.getD i (0, 0, 0)).1 : Int)
def pT (l : List (Nat × Int × Int)) (i : Nat) : Int := (l.getD i (0, 0, 0)).2.1
def pV (l : List (Nat × Int × Int)) (i : Nat) : Int := (l.getD i (0, 0, 0)).2.2
theorem joinPat (l : List (Nat × Int × Int)) : ∀ k, k ≤ l.length → patsC (l.take k) = joinC (fun i => patC (l.getD i (0, 0, 0))) k := by
  intro k
  induction k with
  | zero => intro _; rfl
  | succ k ih =>
    intro hk
    rw [List.take_succ_eq_append_getElem (by omega)]
    show patsC (l.take k ++ [l[k]]) = joinC _ k ++ patC (l.getD k (0, 0, 0))
    have e1 : patsC (l.take k ++ [l[k]]) = patsC (l.take k) ++ patC l[k] := by unfold patsC; rw [List.flatMap_append]; simp only [List.flatMap_cons, List.flatMap_nil, List.append_nil]
    rw [e1, ih (by omega)]
    congr 2
    rw [List.getD_eq_getElem?_getD, List.getElem?_eq_getElem (by omega : k < l.length)]
    rfl
theorem patsC_join (l : List (Nat × Int × Int)) : patsC l = joinC (fun i => patC (l.getD i (0, 0, 0))) l.length := by
  have := joinPat l l.length (Nat.le_refl _)
  rwa [List.take_length] at this
theorem patC_len (x : Nat × Int × Int) : (patC x).length = 3 := rfl
theorem rows_pat {w : World} {B : Nat} {e : TypeId} {v : Value} {l : List (Nat × Int × Int)} (h : w.ownsRow B e 3 v l.length (patsC l)) : ∃ a c, v = .slice a l.length c ∧ l.length ≤ c ∧ PatRow w a l.length (pP l) (pT l) (pV l) := by
  obtain ⟨a, c, rfl, hc⟩ := owns_shape h
  refine ⟨a, c, rfl, hc, ?_⟩
  by_cases h0 : l.length = 0
  · exact .inl h0
  · rw [patsC_join] at h
    have key : ∀ i, i < l.length → ∀ j u, (patC (l.getD i (0, 0, 0)))[j]? = some u → j < 3 → ∃ g, a = some ⟨g, 0, none⟩ ∧ B ≤ g ∧ w.cell? ⟨g, i * 3 + j, none⟩ = some u := fun i hi j u hu hj =>
      owns_cell h (by rw [joinC_at (s := 3) (fun i _ => patC_len _) hi hj]; exact hu)
    obtain ⟨g, ha, _, _⟩ := key 0 (by omega) 0 _ rfl (by omega)
    refine .inr ⟨g, 0, ha, fun i hi => ?_⟩
    have get : ∀ j u, (patC (l.getD i (0, 0, 0)))[j]? = some u → j < 3 → w.cell? ⟨g, i * 3 + j, none⟩ = some u := fun j u hu hj => by
      obtain ⟨g', ha', _, hc'⟩ := key i hi j u hu hj
      rw [ha] at ha'
      injection ha' with ha'
      injection ha' with ha'
      subst ha'
      exact hc'
    exact ⟨by rw [Nat.zero_add]; exact get 0 _ rfl (by omega), by rw [Nat.zero_add]; exact get 1 _ rfl (by omega), by rw [Nat.zero_add]; exact get 2 _ rfl (by omega)⟩
end Go.Proofs.YtidabcoodolddaaGreatDoor
