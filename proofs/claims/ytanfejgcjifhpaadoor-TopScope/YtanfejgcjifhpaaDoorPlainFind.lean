/-
  Plain words on symbols of objects, with nothing of the program: who is found (E2), and that it is one alone.
-/
import Derived.Test.YtanfejgcjifhpaaDoorPlainObject
namespace Go.Proofs.YtanfejgcjifhpaaDoor

/-- the symbols of objects: how many objects, how many symbols each has, their names, and whether they are weak. -/
structure SymsF where
  n : Nat
  m : Nat → Nat
  nm : Nat → Nat → ByteArray
  wk : Nat → Nat → Bool

/-- symbol k of object i has that name. -/
structure Hit (L : SymsF) (s : ByteArray) (i k : Nat) : Prop where
  li : i < L.n
  lk : k < L.m i
  eq : L.nm i k = s

/-- one is ahead of another one. -/
def Bef (i k i' k' : Nat) : Prop := i < i' ∨ i = i' ∧ k < k'

theorem Bef.tri (i k i' k' : Nat) : Bef i k i' k' ∨ (i = i' ∧ k = k') ∨ Bef i' k' i k := by
  unfold Bef; omega
theorem Bef.irrefl {i k : Nat} (h : Bef i k i k) : False := by unfold Bef at h; omega

/-- who is found: the first one that isn't weak; else the first one; else nobody. -/
inductive IsFound (L : SymsF) (s : ByteArray) : Int → Int → Prop
  | strong (i k : Nat) (h : Hit L s i k) (hw : L.wk i k = false) (hb : ∀ a b, Hit L s a b → Bef a b i k → L.wk a b = true) : IsFound L s i k
  | weak (i k : Nat) (h : Hit L s i k) (hf : ∀ a b, Hit L s a b → ¬ Bef a b i k) (hw : ∀ a b, Hit L s a b → L.wk a b = true) : IsFound L s i k
  | none (h : ∀ a b, ¬ Hit L s a b) : IsFound L s (-1) (-1)

theorem IsFound.unique {L : SymsF} {s : ByteArray} {a b c d : Int} (h : IsFound L s a b) (h' : IsFound L s c d) : a = c ∧ b = d := by
  cases h with
  | strong i k hh hw hb =>
    cases h' with
    | strong i' k' hh' hw' hb' =>
      rcases Bef.tri i k i' k' with e | ⟨rfl, rfl⟩ | e
      · exact absurd (hb' _ _ hh e) (by simp [hw])
      · exact ⟨rfl, rfl⟩
      · exact absurd (hb _ _ hh' e) (by simp [hw'])
    | weak i' k' hh' hf hw' => exact absurd (hw' _ _ hh) (by simp [hw])
    | none hn => exact absurd hh (hn _ _)
  | weak i k hh hf hw =>
    cases h' with
    | strong i' k' hh' hw' hb' => exact absurd (hw _ _ hh') (by simp [hw'])
    | weak i' k' hh' hf' hw' =>
      rcases Bef.tri i k i' k' with e | ⟨rfl, rfl⟩ | e
      · exact absurd e (hf' _ _ hh)
      · exact ⟨rfl, rfl⟩
      · exact absurd e (hf _ _ hh')
    | none hn => exact absurd hh (hn _ _)
  | none hn =>
    cases h' with
    | strong i' k' hh' hw' hb' => exact absurd hh' (hn _ _)
    | weak i' k' hh' hf' hw' => exact absurd hh' (hn _ _)
    | none _ => exact ⟨rfl, rfl⟩

/-- what is known when all ahead of (i, k) were looked at, and none was found that isn't weak: the first one, or nobody. -/
inductive SoFar (L : SymsF) (s : ByteArray) (i k : Nat) : Int → Int → Prop
  | none (h : ∀ a b, Hit L s a b → ¬ Bef a b i k) : SoFar L s i k (-1) (-1)
  | some (x y : Nat) (h : Hit L s x y) (hb : Bef x y i k) (hf : ∀ a b, Hit L s a b → ¬ Bef a b x y) (hw : ∀ a b, Hit L s a b → Bef a b i k → L.wk a b = true) : SoFar L s i k x y

theorem SoFar.start (L : SymsF) (s : ByteArray) : SoFar L s 0 0 (-1) (-1) := .none fun a b _ e => by unfold Bef at e; omega
/-- a symbol of another name. -/
theorem SoFar.other {L : SymsF} {s : ByteArray} {i k : Nat} {a b : Int} (h : SoFar L s i k a b) (hn : L.nm i k ≠ s) : SoFar L s i (k + 1) a b := by
  have key : ∀ a b, Hit L s a b → Bef a b i (k + 1) → Bef a b i k := fun a b hh e => by
    have : ¬ (a = i ∧ b = k) := fun ⟨x, y⟩ => by subst x y; exact hn hh.eq
    unfold Bef at *; omega
  cases h with
  | none h => exact .none fun a b hh e => h a b hh (key a b hh e)
  | some x y h hb hf hw => exact .some x y h (by unfold Bef at *; omega) hf fun a b hh e => hw a b hh (key a b hh e)
/-- the first one, and it is weak. -/
theorem SoFar.first {L : SymsF} {s : ByteArray} {i k : Nat} (h : SoFar L s i k (-1) (-1)) (hi : Hit L s i k) (hw : L.wk i k = true) : SoFar L s i (k + 1) i k := by
  cases h with
  | none h =>
    refine .some i k hi (by unfold Bef; omega) h fun a b hh e => ?_
    by_cases x : a = i ∧ b = k
    · obtain ⟨rfl, rfl⟩ := x; exact hw
    · exact absurd (by unfold Bef at *; omega) (h a b hh)
/-- one more that is weak. -/
theorem SoFar.more {L : SymsF} {s : ByteArray} {i k x y : Nat} (h : SoFar L s i k x y) (hw : L.wk i k = true) : SoFar L s i (k + 1) x y := by
  generalize hx : (x : Int) = X at h
  generalize hy : (y : Int) = Y at h
  cases h with
  | none h => omega
  | some x' y' h hb hf hw' =>
    refine .some x' y' h (by unfold Bef at *; omega) hf fun a b hh e => ?_
    by_cases z : a = i ∧ b = k
    · obtain ⟨rfl, rfl⟩ := z; exact hw
    · exact hw' a b hh (by unfold Bef at *; omega)
/-- an object's end. -/
theorem SoFar.next {L : SymsF} {s : ByteArray} {i : Nat} {a b : Int} (h : SoFar L s i (L.m i) a b) : SoFar L s (i + 1) 0 a b := by
  have key : ∀ a b, Hit L s a b → Bef a b (i + 1) 0 → Bef a b i (L.m i) := fun a b hh e => by
    have := hh.lk
    by_cases z : a = i
    · subst z; unfold Bef at *; omega
    · unfold Bef at *; omega
  cases h with
  | none h => exact .none fun a b hh e => h a b hh (key a b hh e)
  | some x y h hb hf hw => exact .some x y h (by unfold Bef at *; omega) hf fun a b hh e => hw a b hh (key a b hh e)
/-- the end of all. -/
theorem SoFar.done {L : SymsF} {s : ByteArray} {a b : Int} (h : SoFar L s L.n 0 a b) : IsFound L s a b := by
  have key : ∀ a b, Hit L s a b → Bef a b L.n 0 := fun a b hh => Or.inl hh.li
  cases h with
  | none h => exact .none fun a b hh => h a b hh (key a b hh)
  | some x y h hb hf hw => exact .weak x y h hf fun a b hh => hw a b hh (key a b hh)
/-- one that isn't weak. -/
theorem SoFar.strong {L : SymsF} {s : ByteArray} {i k : Nat} {a b : Int} (h : SoFar L s i k a b) (hi : Hit L s i k) (hw : L.wk i k = false) : IsFound L s i k := by
  refine .strong i k hi hw fun x y hh e => ?_
  cases h with
  | none h => exact absurd e (h x y hh)
  | some x' y' h' hb hf hw' => exact hw' x y hh e
/-- two numbers, or none. -/
theorem SoFar.shape {L : SymsF} {s : ByteArray} {i k : Nat} {a b : Int} (h : SoFar L s i k a b) : (a = -1 ∧ b = -1) ∨ ∃ x y : Nat, a = x ∧ b = y ∧ x < L.n ∧ y < L.m x := by
  cases h with
  | none _ => exact .inl ⟨rfl, rfl⟩
  | some x y h _ _ _ => exact .inr ⟨x, y, rfl, rfl, h.li, h.lk⟩
theorem IsFound.shape {L : SymsF} {s : ByteArray} {a b : Int} (h : IsFound L s a b) : (a = -1 ∧ b = -1 ∧ ∀ x y, ¬ Hit L s x y) ∨ ∃ x y : Nat, a = x ∧ b = y ∧ Hit L s x y := by
  cases h with
  | strong i k h _ _ => exact .inr ⟨i, k, rfl, rfl, h⟩
  | weak i k h _ _ => exact .inr ⟨i, k, rfl, rfl, h⟩
  | none h => exact .inl ⟨rfl, rfl, h⟩
end Go.Proofs.YtanfejgcjifhpaaDoor
