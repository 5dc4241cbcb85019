/-
  Plain words, with nothing of the program: a text is cut at one byte; a number is read of its digits.
-/
import Derived.WalkKit
namespace Go.Proofs.YthdccmjdbcllkaaGreatDoor

/-- cutting at one byte: what is cut off, and what lies behind the last cut. -/
def cutStep (c : UInt8) (st : List (List UInt8) × List UInt8) (b : UInt8) : List (List UInt8) × List UInt8 := if b = c then (st.1 ++ [st.2], []) else (st.1, st.2 ++ [b])
def cut (c : UInt8) (l : List UInt8) : List (List UInt8) × List UInt8 := l.foldl (cutStep c) ([], [])
theorem cut_no (c : UInt8) : ∀ (p : List UInt8) (d : List (List UInt8)) (w : List UInt8), c ∉ p → p.foldl (cutStep c) (d, w) = (d, w ++ p)
  | [], d, w, _ => by simp
  | b :: p, d, w, h => by
    have h1 : b ≠ c := fun e => h (by rw [e]; simp)
    rw [List.foldl_cons]
    show p.foldl (cutStep c) (if b = c then _ else _) = _
    rw [if_neg h1, cut_no c p _ _ (fun e => h (List.mem_cons_of_mem _ e))]
    simp
theorem cut_mid (c : UInt8) (p r : List UInt8) (d : List (List UInt8)) (w : List UInt8) (h : c ∉ p) : (p ++ c :: r).foldl (cutStep c) (d, w) = r.foldl (cutStep c) (d ++ [w ++ p], []) := by
  rw [List.foldl_append, cut_no c p d w h, List.foldl_cons]
  show r.foldl (cutStep c) (if c = c then _ else _) = _
  rw [if_pos rfl]
theorem cut_from (c : UInt8) : ∀ (l : List UInt8) (d e : List (List UInt8)) (w : List UInt8), l.foldl (cutStep c) (d ++ e, w) = (d ++ (l.foldl (cutStep c) (e, w)).1, (l.foldl (cutStep c) (e, w)).2)
  | [], d, e, w => rfl
  | b :: l, d, e, w => by
    rw [List.foldl_cons, List.foldl_cons]
    by_cases h : b = c
    · have e1 : cutStep c (d ++ e, w) b = (d ++ (e ++ [w]), []) := by simp [cutStep, h]
      have e2 : cutStep c (e, w) b = (e ++ [w], []) := by simp [cutStep, h]
      rw [e1, e2, cut_from c l d (e ++ [w]) []]
    · have e1 : cutStep c (d ++ e, w) b = (d ++ e, w ++ [b]) := by simp [cutStep, h]
      have e2 : cutStep c (e, w) b = (e, w ++ [b]) := by simp [cutStep, h]
      rw [e1, e2, cut_from c l d e (w ++ [b])]
theorem cut_end (c : UInt8) (p : List UInt8) (h : c ∉ p) : cut c p = ([], p) := cut_no c p [] [] h
theorem cut_first (c : UInt8) (p r : List UInt8) (h : c ∉ p) : cut c (p ++ c :: r) = (p :: (cut c r).1, (cut c r).2) := by
  unfold cut
  rw [cut_mid c p r [] [] h]
  exact cut_from c r [p] [] []
/-- a line's words. -/
def wordsR (l : List UInt8) : List (List UInt8) := (cut 32 l).1 ++ [(cut 32 l).2]
theorem wordsR_end (p : List UInt8) (h : (32 : UInt8) ∉ p) : wordsR p = [p] := by unfold wordsR; rw [cut_end 32 p h]; rfl
theorem wordsR_mid (p r : List UInt8) (h : (32 : UInt8) ∉ p) : wordsR (p ++ 32 :: r) = p :: wordsR r := by unfold wordsR; rw [cut_first 32 p r h]; rfl

/-- a number, by its digits. -/
def val (l : List UInt8) : Nat := l.foldl (fun n b => 10 * n + (b.toNat - 48)) 0
theorem val_snoc (l : List UInt8) (b : UInt8) : val (l ++ [b]) = 10 * val l + (b.toNat - 48) := by unfold val; rw [List.foldl_append]; rfl
def isDig (b : UInt8) : Bool := decide (48 ≤ b.toNat) && decide (b.toNat ≤ 57)
theorem val_lt : ∀ (n : Nat) (l : List UInt8), l.length = n → l.all isDig = true → val l < 10 ^ n := by
  intro n
  induction n with
  | zero =>
    intro l h _
    rw [List.length_eq_zero_iff.1 h]
    decide
  | succ n ih =>
    intro l h hd
    have hne : l ≠ [] := by intro e; rw [e] at h; simp at h
    rw [← List.dropLast_concat_getLast hne] at h hd ⊢
    rw [List.all_append, Bool.and_eq_true] at hd
    rw [List.length_append, List.length_singleton] at h
    have h1 := ih l.dropLast (by omega) hd.1
    have h2 : isDig (l.getLast hne) = true := by simpa using hd.2
    simp only [isDig, Bool.and_eq_true, decide_eq_true_eq] at h2
    rw [val_snoc, Nat.pow_succ]
    omega
/-- what lies behind a sign. -/
def magR (l : List UInt8) : List UInt8 := if l.head? = some 45 then l.tail else l
/-- the number that a text is. -/
def refNum (l : List UInt8) : Option Int :=
  if (magR l).length < 1 ∨ 18 < (magR l).length ∨ ((magR l).head? = some 48 ∧ 1 < l.length) then none
  else if (magR l).all isDig = true then some (if (magR l).length < l.length then -(val (magR l) : Int) else (val (magR l) : Int)) else none
def numR (l : List UInt8) : Int := (refNum l).getD (-1099511627776)
theorem numR_le (l : List UInt8) : -1000000000000000000 ≤ numR l ∧ numR l ≤ 1000000000000000000 := by
  unfold numR refNum
  split
  · simp
  · rename_i h
    split
    · rename_i hd
      have h1 := val_lt _ _ rfl hd
      have h2 : (10 : Nat) ^ (magR l).length ≤ 10 ^ 18 := Nat.pow_le_pow_right (by omega) (by omega)
      have h3 : (10 : Nat) ^ 18 = 1000000000000000000 := by decide
      simp only [Option.getD_some]
      split <;> omega
    · simp
end Go.Proofs.YthdccmjdbcllkaaGreatDoor
