/-
  Plain words on names, with nothing of the program: which bytes fit, and the fault's number of a name.
-/
import Derived.Laws.BitsAllLaws
namespace Go.Proofs.YtanfejgcjifhpaaDoor
/-- may that byte stand in a name (b: it is the first one)? -/
def fit (n : Int) (b : Bool) : Bool := (decide (97 ≤ n) && decide (n ≤ 122)) || (!b && ((decide (48 ≤ n) && decide (n ≤ 57)) || n == 95))
/-- do the first k bytes fit? -/
def fitTo (l : List UInt8) : Nat → Bool
  | 0 => true
  | k + 1 => fitTo l k && fit ((l.getD k 0).toNat : Int) ((k : Int) == 0)
/-- the fault's number of a name (0: none). -/
def nameF (l : List UInt8) : Nat := if l.length < 1 ∨ 8 < l.length then 1 else if fitTo l l.length = true then 0 else 3
theorem getD_byte (s : ByteArray) (k : Nat) (h : k < s.size) : s.data.toList.getD k 0 = s[k] := by
  have : k < s.data.toList.length := by simpa using h
  rw [List.getD_eq_getElem?_getD, List.getElem?_eq_getElem this]
  rfl
theorem fitTo_false (l : List UInt8) (k n : Nat) (hkn : k ≤ n) (h : fitTo l k = false) : fitTo l n = false := by
  induction n with
  | zero => have : k = 0 := by omega
            subst this; exact h
  | succ n ih =>
    by_cases e : k = n + 1
    · subst e; exact h
    · simp [fitTo, ih (by omega)]
theorem fitTo_succ (s : ByteArray) (k : Nat) (h : k < s.size) (hk : fitTo s.data.toList k = true) : fitTo s.data.toList (k + 1) = fit (s[k].toNat : Int) ((k : Int) == 0) := by
  simp only [fitTo, hk, getD_byte s k h, Bool.true_and]
theorem nameF_bound (l : List UInt8) (h : l.length < 1 ∨ 8 < l.length) : nameF l = 1 := by simp only [nameF, if_pos h]
theorem nameF_ok (l : List UInt8) (h : ¬ (l.length < 1 ∨ 8 < l.length)) (hf : fitTo l l.length = true) : nameF l = 0 := by simp only [nameF, if_neg h, if_pos hf]
theorem nameF_shape (l : List UInt8) (h : ¬ (l.length < 1 ∨ 8 < l.length)) (hf : fitTo l l.length = false) : nameF l = 3 := by unfold nameF; rw [if_neg h, if_neg (by simp [hf])]
end Go.Proofs.YtanfejgcjifhpaaDoor
