/-
  What the library's Builder does here; a builder of the call's own.
-/
import Derived.Test.YthdccmjdbcllkaaGreatDoorShelf
import Derived.Test.YthdccmjdbcllkaaGreatDoorAtAll
import Derived.Lib.AppendIntMem
namespace Go.Proofs.YthdccmjdbcllkaaGreatDoor
open Go.RowKit

theorem isBuilder_later {T e : TypeId} {B b : Nat} {bs : List Value} {w w' : World} (h : Lib.IsBuilder T e B b bs w) (hb : Below w.heap.size w w') : Lib.IsBuilder T e B b bs w' := by
  have one : ∀ p, Lib.BuilderAt T e B b p bs w → Lib.BuilderAt T e B b p bs w' := by
    rintro p ⟨h1, v, h2, h3, h4⟩
    have hl : b < w.heap.size := (Array.getElem?_eq_some_iff.1 h2).1
    refine ⟨h1, v, (hb.block b hl).trans h2, ?_, h4⟩
    obtain ⟨h5, h6⟩ := h3
    refine ⟨h5, ?_⟩
    rcases h6 with h6 | ⟨g, cap, cur, a1, a2, a3, a4⟩
    · exact .inl h6
    · have hg : g < w.heap.size := (Array.getElem?_eq_some_iff.1 a3).1
      exact .inr ⟨g, cap, cur, a1, a2, (hb.block g hg).trans a3, a4⟩
  rcases h with h | h
  · exact .inl (one _ h)
  · exact .inr (one _ h)

theorem writeString_any (B b : Nat) (L : List UInt8) (s : ByteArray) (w : World) (h : Lib.IsBuilder 126 5 B b (Lib.byteCells L) w) (hl : L.length ≤ 1000000) (hs : s.size ≤ 1000000) (hB : B ≤ w.heap.size) :
    Calls Tryz.prog 57 #[.pointer (some ⟨b, 0, none⟩), .string s] w fun e w' => e = .returned (.tuple #[.int .i64 s.size, .nilIface]) ∧ Lib.IsBuilder 126 5 B b (Lib.byteCells (L ++ s.data.toList)) w' ∧ Below B w w' := by
  refine (show Calls Tryz.prog 57 _ w _ from Any.Builder_WriteString { Tryz.lays156 with } Tryz.Builder_Extra_156 B b (Lib.byteCells L) s w h (by rw [Lib.byteCells_length]; omega) hB).mono ?_
  rintro e w' ⟨rfl, h1, h2⟩
  refine ⟨rfl, .inr ?_, h2⟩
  rw [Lib.byteCells_append]
  exact h1

/-- a builder of the call's own, and memory below it as it was. -/
structure Built (w1 wr : World) (L : List UInt8) : Prop where
  is : Lib.IsBuilder 126 5 w1.heap.size w1.heap.size (Lib.byteCells L) wr
  below : Below w1.heap.size w1 wr
theorem built_start (w1 : World) : Built w1 (w1.alloc (.cells #[.pointer none, .slice none 0 0] 126)) [] :=
  ⟨.inl ⟨Nat.le_refl _, .slice none 0 0, by show (w1.heap.push _)[w1.heap.size]? = _; simp, World.ownsRow_nil _ _ _ _, by simp [Value.ownBlock]⟩, (Below.refl _ _).alloc (Nat.le_refl _) _⟩
/-- one line more: 'line' (or tieLine) came back at w2, WriteString at w3. -/
theorem Built.more {w1 wr w2 w3 : World} {L L' : List UInt8} (h : Built w1 wr L) (h2 : Below wr.heap.size wr w2) (h3 : Lib.IsBuilder 126 5 w1.heap.size w1.heap.size (Lib.byteCells L') w3 ∧ Below w1.heap.size w2 w3) : Built w1 w3 L' :=
  ⟨h3.1, h.below.trans ((h2.mono h.below.size).trans h3.2)⟩

theorem size_le {r : ByteArray} {l : List UInt8} {m : Nat} (h : r.data.toList = l) (hl : l.length ≤ m) : r.size ≤ m := by
  rw [← h] at hl
  simpa using hl
end Go.Proofs.YthdccmjdbcllkaaGreatDoor
