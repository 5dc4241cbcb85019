/-
  A slice in memory, read by a function of its places: what a walk is told of it. Plain words on two such functions.
-/
import Derived.WalkKit
import Derived.ProofKit
import Derived.WalkLawsBesides
import Derived.Below
import Derived.WalkSpells
namespace Go.Proofs.YtanfejgcjifhpaaDoor
open Go.RowKit

/-- the n places behind 'a' hold what f says (n = 0: nothing is said of 'a'). -/
def RowAt (w : World) (a : Option Addr) (n : Nat) (f : Nat → Value) : Prop :=
  n = 0 ∨ ∃ b o, a = some ⟨b, o, none⟩ ∧ ∀ i, i < n → w.cell? ⟨b, o + i, none⟩ = some (f i)

theorem RowAt.drewN {w : World} {a : Option Addr} {n : Nat} {f : Nat → Value} (h : RowAt w a n f) (k : Nat) : RowAt (w.drewN k) a n f := by
  rcases h with h | ⟨b, o, ha, hc⟩
  · exact .inl h
  · exact .inr ⟨b, o, ha, fun i hi => by simpa using hc i hi⟩

theorem RowAt.later {w w' : World} {a : Option Addr} {n : Nat} {f : Nat → Value} (h : RowAt w a n f) (hb : Below w.heap.size w w') : RowAt w' a n f := by
  rcases h with h | ⟨b, o, ha, hc⟩
  · exact .inl h
  · exact .inr ⟨b, o, ha, fun i hi => cell_later hb (hc i hi)⟩

/-- are two functions alike at the first n places? -/
def eqTo {α : Type} [DecidableEq α] (f g : Nat → α) : Nat → Bool
  | 0 => true
  | k + 1 => eqTo f g k && decide (f k = g k)
theorem eqTo_succ {α : Type} [DecidableEq α] {f g : Nat → α} {k : Nat} (h : eqTo f g k = true) (e : f k = g k) : eqTo f g (k + 1) = true := by simp [eqTo, h, e]
theorem eqTo_stop {α : Type} [DecidableEq α] {f g : Nat → α} {k n : Nat} (e : f k ≠ g k) (h : k < n) : eqTo f g n = false := by
  induction n with
  | zero => omega
  | succ n ih =>
    by_cases hk : k = n
    · subst hk; simp [eqTo, e]
    · simp [eqTo, ih (by omega)]
theorem eqTo_iff {α : Type} [DecidableEq α] {f g : Nat → α} {n : Nat} : eqTo f g n = true ↔ ∀ i, i < n → f i = g i := by
  induction n with
  | zero => simp [eqTo]
  | succ n ih =>
    simp only [eqTo, Bool.and_eq_true, decide_eq_true_eq, ih]
    constructor
    · rintro ⟨h, e⟩ i hi
      by_cases hk : i = n
      · subst hk; exact e
      · exact h i (by omega)
    · intro h
      exact ⟨fun i hi => h i (by omega), h n (by omega)⟩
end Go.Proofs.YtanfejgcjifhpaaDoor
