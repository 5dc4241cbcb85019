/-
  Plain words on files that read as they did but for one name.
-/
import Derived.Test.YtanfejgcjifhpacGreatDoorPlainOther
namespace Go.Proofs.YtanfejgcjifhpacGreatDoor
open Go.RowKit Go.Maps

theorem texts_at {D : DataW Unit} {k : Nat} {T : ByteArray → ByteArray} (hI : Inv D k) (hT : Texts D T) {x : ByteArray} (h : Maps.has D (keyB x) = true) : ∃ n, D.atKey (keyB x) (fileD [] 0) = fileD (T x).data.toList n := by
  obtain ⟨t, n, h1, _⟩ := hI.st _ h
  have h2 : D.atKey (keyB x) (fileD [] 0) = fileD (⟨t.toArray⟩ : ByteArray).data.toList n := by simpa using h1
  exact ⟨n, by rw [← hT.is x _ n h h2]; exact h2⟩
theorem rd_put_other {D : DataW Unit} {k : Nat} {T T' : ByteArray → ByteArray} {s : ByteArray} {d : DataW Unit} (hI : Inv D k) (hT : Texts D T) (hT' : Texts (D.put (keyB s) d) T') {x : ByteArray} (hx : x ≠ s) : rdD (D.put (keyB s) d) T' x = rdD D T x := by
  have hk : keyB x ≠ keyB s := fun e => hx (keyB_inj' e)
  unfold rdD
  rw [has_put_other hk]
  split
  · rename_i h
    obtain ⟨n, hn⟩ := texts_at hI hT h
    rw [hT'.is x (T x) n (by rw [has_put_other hk]; exact h) (by rw [atKey_put_other hk]; exact hn)]
  · rfl
theorem rd_del_other {D : DataW Unit} {k : Nat} {T T' : ByteArray → ByteArray} {s : ByteArray} (hI : Inv D k) (hT : Texts D T) (hT' : Texts (D.del (keyB s)) T') {x : ByteArray} (hx : x ≠ s) : rdD (D.del (keyB s)) T' x = rdD D T x := by
  have hk : keyB x ≠ keyB s := fun e => hx (keyB_inj' e)
  unfold rdD
  rw [has_del_other hk]
  split
  · rename_i h
    obtain ⟨n, hn⟩ := texts_at hI hT h
    rw [hT'.is x (T x) n (by rw [has_del_other hk]; exact h) (by rw [atKey_del_other hk]; exact hn)]
  · rfl
/-- files that read as they did but for one name. -/
structure Else (D : DataW Unit) (T : ByteArray → ByteArray) (s : ByteArray) (D' : DataW Unit) (k' : Nat) : Prop where
  inv : Inv D' k'
  read : ∀ T', Texts D' T' → ∀ x, x ≠ s → rdD D' T' x = rdD D T x
theorem Else.refl {D : DataW Unit} {k : Nat} {T : ByteArray → ByteArray} {s : ByteArray} (hI : Inv D k) (hT : Texts D T) : Else D T s D k := ⟨hI, fun T' hT' x _ => by
  unfold rdD
  split
  · rename_i h
    obtain ⟨n, hn⟩ := texts_at hI hT h
    rw [hT'.is x (T x) n h hn]
  · rfl⟩
theorem else_write {D : DataW Unit} {k : Nat} {T : ByteArray → ByteArray} {s text : ByteArray} (hI : Inv D k) (hT : Texts D T) {w w' : World} {p bm F : Nat} {e : Ending} (hF : F = writeF D k s text) (h : WriteEnd w p bm D k s text F e w') : ∃ D' k', FilesAt w' p bm D' k' ∧ Else D T s D' k' := by
  by_cases h0 : F = 0
  · exact ⟨_, _, h.yes h0, hI.put (hF.symm.trans h0), fun T' hT' x hx => rd_put_other hI hT hT' hx⟩
  · exact ⟨_, _, h.no h0, Else.refl hI hT⟩
theorem Else.del {D D' : DataW Unit} {k' : Nat} {T : ByteArray → ByteArray} {s : ByteArray} (h : Else D T s D' k') : Else D T s (D'.del (keyB s)) k' := by
  obtain ⟨T1, hT1⟩ := texts_some D'
  exact ⟨h.inv.del, fun T' hT' x hx => (rd_del_other h.inv hT1 hT' hx).trans (h.read T1 hT1 x hx)⟩
end Go.Proofs.YtanfejgcjifhpacGreatDoor
