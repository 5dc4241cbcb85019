/-
  Plain words on the stamps of files that are as they were but for one name; what Make returns over them.
-/
import Derived.Test.YtanfejgcjifhpacGreatDoorElseFiles
import Derived.Test.YtanfejgcjifhpacGreatDoorEntryMake
namespace Go.Proofs.YtanfejgcjifhpacGreatDoor
open Go.RowKit Go.Maps

theorem stamps_else {D : DataW Unit} {k : Nat} {S : ByteArray → Int} {s text : ByteArray} (hI : Inv D k) (hS : Stamps D S) {S' : ByteArray → Int} (hS' : Stamps (D.put (keyB s) (fileD text.data.toList ((k : Int) + 1))) S') {x : ByteArray} (hx : x ≠ s) (h : Maps.has D (keyB x) = true) : S' x = S x := by
  have hk : keyB x ≠ keyB s := fun e => hx (keyB_inj' e)
  obtain ⟨t, n, h1, _⟩ := hI.st _ h
  have e1 := hS.is x t n h h1
  have e2 := hS'.is x t n (by rw [has_put_other hk]; exact h) (by rw [atKey_put_other hk]; exact h1)
  omega
theorem stamps_same {D : DataW Unit} {k : Nat} {S S' : ByteArray → Int} (hI : Inv D k) (hS : Stamps D S) (hS' : Stamps D S') {x : ByteArray} (h : Maps.has D (keyB x) = true) : S' x = S x := by
  obtain ⟨t, n, h1, _⟩ := hI.st _ h
  have e1 := hS.is x t n h h1
  have e2 := hS'.is x t n h h1
  omega
theorem else_write2 {D : DataW Unit} {k : Nat} {T : ByteArray → ByteArray} {S : ByteArray → Int} {s text : ByteArray} (hI : Inv D k) (hT : Texts D T) (hS : Stamps D S) {w w' : World} {p bm F : Nat} {e : Ending} (hF : F = writeF D k s text) (h : WriteEnd w p bm D k s text F e w') :
    ∃ D' k', FilesAt w' p bm D' k' ∧ Else D T s D' k' ∧ ∀ S', Stamps D' S' → ∀ x, x ≠ s → Maps.has D (keyB x) = true → S' x = S x := by
  by_cases h0 : F = 0
  · exact ⟨_, _, h.yes h0, ⟨hI.put (hF.symm.trans h0), fun T' hT' x hx => rd_put_other hI hT hT' hx⟩, fun S' hS' x hx hh => stamps_else hI hS hS' hx hh⟩
  · exact ⟨_, _, h.no h0, Else.refl hI hT, fun S' hS' x _ hh => stamps_same hI hS hS' hh⟩
theorem MadeEnd.same {w : World} {B0 : Nat} {rd rd' : ByteArray → Nat × ObjF} {S S' : ByteArray → Int} {root : ByteArray} {m : Nat} {e : Ending} (h : MadeEnd w B0 rd' S' root e) (hO : OfIs rd root 0 m) (hs : ∀ j, j < m → rd' (nmAt rd root j) = rd (nmAt rd root j)) (hS : ∀ j, j < m → S' (nmAt rd root j) = S (nmAt rd root j)) : MadeEnd w B0 rd S root e := by
  have hs' : ∀ j, j < m → rd (nmAt rd' root j) = rd' (nmAt rd' root j) := fun j hj => by rw [nm_same hs (by omega)]; exact (hs j hj).symm
  have hO' := of_same hO hs
  cases h with
  | bad F h hf => exact .bad F (reckIs_same hO' hs' h) hf
  | ok m' B P Q aP aQ cP cQ h hp hq =>
    obtain ⟨_, rfl⟩ := h.of.unique hO'
    obtain ⟨h1, h2, h3⟩ := reckoned_same h hs'
    rw [← h2] at hq ⊢
    refine .ok m' B P Q aP aQ cP cQ h1 ?_ hq
    rwa [joinC_congr (g := stmC (nmAt rd' root) S' B) (h := stmC (nmAt rd root) S B) fun i hi => by unfold stmC; rw [← (h3 i hi).1, hS i hi]] at hp
/-- two calls of Make that returned the same. -/
theorem made_has {D : DataW Unit} {T : ByteArray → ByteArray} {root : ByteArray} {m : Nat} {k : Nat} (hI : Inv D k) (hO : OfIs (rdD D T) root 0 m) : ∀ j, j < m → Maps.has D (keyB (nmAt (rdD D T) root j)) = true := fun j hj => by
  obtain ⟨hS, _, _⟩ := scope_of hO (rd_few (T := T) hI)
  exact rd_has (by rw [hS.read j hj])
end Go.Proofs.YtanfejgcjifhpacGreatDoor
