/-
  Lists of lists of numbers in memory; patches in memory; rows of the call's own that are patched: what stays of them as memory grows and as one place is written.
-/
import Derived.Test.YtnbmnljknfgafabPlainObject
import Derived.Test.YtnbmnljknfgafabRowsAt
import Derived.Deep.OwnRows
namespace Go.Proofs.Ytnbmnljknfgafab
open Go.RowKit

/-- the n patches behind 'a'. -/
def PatRow (w : World) (a : Option Addr) (n : Nat) (p t v : Nat → Int) : Prop :=
  n = 0 ∨ ∃ bk o, a = some ⟨bk, o, none⟩ ∧ ∀ i, i < n → w.cell? ⟨bk, o + i * 3, none⟩ = some (.int .i64 (p i)) ∧ w.cell? ⟨bk, o + i * 3 + 1, none⟩ = some (.int .i64 (t i)) ∧ w.cell? ⟨bk, o + i * 3 + 2, none⟩ = some (.int .i64 (v i))
theorem PatRow.later {w w' : World} {a : Option Addr} {n : Nat} {p t v : Nat → Int} (h : PatRow w a n p t v) (hb : Below w.heap.size w w') : PatRow w' a n p t v := by
  rcases h with h | ⟨bk, o, ha, hc⟩
  · exact .inl h
  · exact .inr ⟨bk, o, ha, fun i hi => ⟨cell_later hb (hc i hi).1, cell_later hb (hc i hi).2.1, cell_later hb (hc i hi).2.2⟩⟩
/-- the n lists behind 'a': how long each is, what each holds. -/
def ListsRow (w : World) (a : Option Addr) (n : Nat) (A : Nat → Option Addr) (M C : Nat → Nat) (X : Nat → Nat → Int) : Prop :=
  n = 0 ∨ ∃ bk o, a = some ⟨bk, o, none⟩ ∧ ∀ i, i < n → w.cell? ⟨bk, o + i, none⟩ = some (.slice (A i) (M i) (C i)) ∧ RowAt w (A i) (M i) fun j => .int .i64 (X i j)
theorem ListsRow.later {w w' : World} {a : Option Addr} {n : Nat} {A : Nat → Option Addr} {M C : Nat → Nat} {X : Nat → Nat → Int} (h : ListsRow w a n A M C X) (hb : Below w.heap.size w w') : ListsRow w' a n A M C X := by
  rcases h with h | ⟨bk, o, ha, hc⟩
  · exact .inl h
  · exact .inr ⟨bk, o, ha, fun i hi => ⟨cell_later hb (hc i hi).1, (hc i hi).2.later hb⟩⟩

/-- is there such a word? -/
def patOk (n : Nat) (M : Nat → Nat) (p t : Int) : Bool := isPlaceF p n && isPlaceF t (M p.toNat)
/-- the words behind the first k patches. -/
def putF (X : Nat → Nat → Int) (p t v : Nat → Int) : Nat → Nat → Nat → Int
  | 0, i, j => X i j
  | k + 1, i, j => if p k = i ∧ t k = j then v k else putF X p t v k i j
/-- the first one that is not so. -/
def BadAt (f : Nat → Bool) (n : Nat) : Prop := ∃ k, k < n ∧ f k = false
def AllOk (f : Nat → Bool) (n : Nat) : Prop := ∀ k, k < n → f k = true
theorem BadAt.not {f : Nat → Bool} {n : Nat} (h : BadAt f n) (h' : AllOk f n) : False := by
  obtain ⟨k, hk, e⟩ := h
  rw [h' k hk] at e; cases e

/-- rows of the call's own, from block B on: 'g' holds the lists, G i the i-th one's words. -/
structure OutAt (w : World) (B g n : Nat) (M : Nat → Nat) (A : Nat → Option Addr) (C G : Nat → Nat) (X : Nat → Nat → Int) : Prop where
  hB : B ≤ g
  lt : g < w.heap.size
  top : ∀ i, i < n → w.cell? ⟨g, i, none⟩ = some (.slice (A i) (M i) (C i))
  free : ∀ i, w.frozen? ⟨g, i, none⟩ = false
  adr : ∀ i, i < n → 0 < M i → A i = some ⟨G i, 0, none⟩
  own : ∀ i, i < n → 0 < M i → B ≤ G i
  ne : ∀ i, i < n → 0 < M i → G i ≠ g
  row : ∀ i, i < n → ∀ j, j < M i → w.cell? ⟨G i, j, none⟩ = some (.int .i64 (X i j))
  rfree : ∀ i, i < n → 0 < M i → ∀ j, w.frozen? ⟨G i, j, none⟩ = false
  apart : ∀ i j, i < n → j < n → i ≠ j → 0 < M i → 0 < M j → G i ≠ G j
theorem OutAt.later {w w' : World} {B g n : Nat} {M : Nat → Nat} {A : Nat → Option Addr} {C G : Nat → Nat} {X : Nat → Nat → Int} (h : OutAt w B g n M A C G X) (hb : Below w.heap.size w w') : OutAt w' B g n M A C G X where
  hB := h.hB
  lt := Nat.lt_of_lt_of_le h.lt hb.size
  top := fun i hi => cell_later hb (h.top i hi)
  free := fun i => by rw [hb.frozen (p := ⟨g, i, none⟩) h.lt]; exact h.free i
  adr := h.adr
  own := h.own
  ne := h.ne
  row := fun i hi j hj => cell_later hb (h.row i hi j hj)
  rfree := fun i hi hm j => by
    have := World.block_lt_of_cell? _ _ (h.row i hi 0 hm)
    rw [hb.frozen (p := ⟨G i, j, none⟩) this]; exact h.rfree i hi hm j
  apart := h.apart
/-- one word is written. -/
theorem OutAt.put {w : World} {B g n : Nat} {M : Nat → Nat} {A : Nat → Option Addr} {C G : Nat → Nat} {X : Nat → Nat → Int} (h : OutAt w B g n M A C G X) {x y : Nat} (hx : x < n) (hy : y < M x) (v : Int) :
    OutAt (w.setCell ⟨G x, y, none⟩ (.int .i64 v)) B g n M A C G fun i j => if i = x ∧ j = y then v else X i j where
  hB := h.hB
  lt := by simpa [World.setCell] using h.lt
  top := fun i hi => by
    rw [World.cell?_setCell_other _ _ _ _ (by intro e; injection e with e _ _; exact h.ne x hx (by omega) e)]; exact h.top i hi
  free := fun i => by rw [World.frozen?_setCell]; exact h.free i
  adr := h.adr
  own := h.own
  ne := h.ne
  row := fun i hi j hj => by
    by_cases e : i = x ∧ j = y
    · obtain ⟨rfl, rfl⟩ := e
      rw [World.cell?_setCell_same _ _ _ (h.row i hi j hj)]; simp
    · rw [World.cell?_setCell_other _ _ _ _ ?_, if_neg e]
      · exact h.row i hi j hj
      · intro e2
        injection e2 with e2 e3 _
        by_cases hix : i = x
        · subst hix; exact e ⟨rfl, e3.symm⟩
        · exact h.apart i x hi hx hix (by omega) (by omega) e2.symm
  rfree := fun i hi hm j => by rw [World.frozen?_setCell]; exact h.rfree i hi hm j
  apart := h.apart
theorem OutAt.congr {w : World} {B g n : Nat} {M : Nat → Nat} {A : Nat → Option Addr} {C G : Nat → Nat} {X Y : Nat → Nat → Int} (h : OutAt w B g n M A C G X) (e : ∀ i, i < n → ∀ j, j < M i → X i j = Y i j) : OutAt w B g n M A C G Y :=
  { h with row := fun i hi j hj => by rw [← e i hi j hj]; exact h.row i hi j hj }
end Go.Proofs.Ytnbmnljknfgafab
