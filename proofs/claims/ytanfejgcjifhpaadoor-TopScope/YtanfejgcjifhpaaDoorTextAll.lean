/-
  What Text returns, for every object: its fault, or its text; memory that was there stays as it was.
-/
import Derived.Test.YtanfejgcjifhpaaDoorTextWalk
namespace Go.Proofs.YtanfejgcjifhpaaDoor
open Go.RowKit

set_option maxRecDepth 100000 in
theorem text_fault (v : ObjV) (o : ObjF) (w : World) (hA : ObjAt w v o) (hf : ObjFit o) (h0 : objF o ≠ 0) :
    Calls Tryd.prog 11 #[.agg (v.cells o)] w fun e w' => (∃ s : ByteArray, e = .returned (.tuple #[.string s, errV (textF o).1]) ∧ s.data.toList = (textF o).2) ∧ Below w.heap.size w w' := by
  obtain ⟨aN, cN, aW, cW, aS, cS, aT, cT⟩ := v
  have hb0 : ∀ ob : Obj, Below w.heap.size w (w.alloc ob) := fun ob => (Below.refl _ _).alloc (Nat.le_refl _) ob
  have HC := fun (w' : World) (hx : Below w.heap.size w w') => checkObj_any ⟨aN, cN, aW, cW, aS, cS, aT, cT⟩ o w' (hA.later hx) hf
  have ht : textF o = (objF o, []) := if_neg h0
  rw [ht]
  simp only [errV_some h0] at HC ⊢
  unfold ObjV.cells at HC
  unfold ObjV.cells
  generalize objF o = f at *
  clear ht
  go_enter Tryd.func11, Tryd.ntmps11
  go_wp2_with fail
  refine (HC _ (hb0 _)).mono ?_
  rintro e w1 ⟨rfl, hb1⟩
  clear HC
  have hx : Below w.heap.size w w1 := (hb0 _).trans (hb1.mono (hb0 _).size)
  clear hb1 hb0
  go_wp2
  go_ret2
  exact ⟨⟨⟨#[]⟩, rfl, rfl⟩, hx⟩

theorem text_any (v : ObjV) (o : ObjF) (w : World) (hE : Env w) (hA : ObjAt w v o) (hf : ObjFit o) :
    Calls Tryd.prog 11 #[.agg (v.cells o)] w fun e w' => (∃ s : ByteArray, e = .returned (.tuple #[.string s, errV (textF o).1]) ∧ s.data.toList = (textF o).2) ∧ Below w.heap.size w w' := by
  by_cases h0 : objF o = 0
  · exact text_ok v o w hE hA hf h0
  · exact text_fault v o w hA hf h0
end Go.Proofs.YtanfejgcjifhpaaDoor
