/-
  A row of an entry's parts in memory; what is read of a row of the call's own.
-/
import Derived.Test.YtanfejgcjifhpacGreatDoorEntryMake
namespace Go.Proofs.YtanfejgcjifhpacGreatDoor
open Go.RowKit Go.Maps

/-- the n parts behind 'a': name, stamp, base. -/
def StmRow (w : World) (a : Option Addr) (n : Nat) (s : Nat → ByteArray) (k b : Nat → Int) : Prop :=
  n = 0 ∨ ∃ bk o, a = some ⟨bk, o, none⟩ ∧ ∀ i, i < n → w.cell? ⟨bk, o + i * 3, none⟩ = some (.string (s i)) ∧ w.cell? ⟨bk, o + i * 3 + 1, none⟩ = some (.int .i64 (k i)) ∧ w.cell? ⟨bk, o + i * 3 + 2, none⟩ = some (.int .i64 (b i))
theorem StmRow.later {w w' : World} {a : Option Addr} {n : Nat} {s : Nat → ByteArray} {k b : Nat → Int} (h : StmRow w a n s k b) (hb : Below w.heap.size w w') : StmRow w' a n s k b := by
  rcases h with h | ⟨bk, o, ha, hc⟩
  · exact .inl h
  · exact .inr ⟨bk, o, ha, fun i hi => ⟨cell_later hb (hc i hi).1, cell_later hb (hc i hi).2.1, cell_later hb (hc i hi).2.2⟩⟩
theorem rows_stm {w : World} {B0 : Nat} {e : TypeId} {a : Option Addr} {n c : Nat} {nm : Nat → ByteArray} {S : ByteArray → Int} {B : Nat → Int} (h : w.ownsRow B0 e 3 (.slice a n c) n (joinC (stmC nm S B) n)) : StmRow w a n nm (fun i => S (nm i)) B := by
  by_cases h0 : n = 0
  · exact .inl h0
  · have key : ∀ i, i < n → ∀ j u, (stmC nm S B i)[j]? = some u → j < 3 → ∃ g, a = some ⟨g, 0, none⟩ ∧ B0 ≤ g ∧ w.cell? ⟨g, i * 3 + j, none⟩ = some u := fun i hi j u hu hj =>
      owns_cell h (by rw [joinC_at (s := 3) (fun i _ => rfl) hi hj]; exact hu)
    obtain ⟨g0, ha, _, _⟩ := key 0 (by omega) 0 _ rfl (by omega)
    refine .inr ⟨g0, 0, ha, fun i hi => ?_⟩
    have get : ∀ j u, (stmC nm S B i)[j]? = some u → j < 3 → w.cell? ⟨g0, i * 3 + j, none⟩ = some u := fun j u hu hj => by
      obtain ⟨g', ha', _, hc'⟩ := key i hi j u hu hj
      rw [ha] at ha'
      injection ha' with ha'
      injection ha' with ha'
      subst ha'
      exact hc'
    exact ⟨by rw [Nat.zero_add]; exact get 0 _ rfl (by omega), by rw [Nat.zero_add]; exact get 1 _ rfl (by omega), by rw [Nat.zero_add]; exact get 2 _ rfl (by omega)⟩
end Go.Proofs.YtanfejgcjifhpacGreatDoor
