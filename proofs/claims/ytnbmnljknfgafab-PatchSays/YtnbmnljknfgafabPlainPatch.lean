/-
  Plain words on words that hang on where objects lie, with nothing of the program: what each tie asks for, the number of the fault, and all patches in order.
-/
import Derived.Test.YtnbmnljknfgafabPlainText
import Derived.Test.YtnbmnljknfgafabPlainFind
namespace Go.Proofs.Ytnbmnljknfgafab

/-- of each name one is found, or nobody. -/
theorem found_some (L : SymsF) (s : ByteArray) : ∃ p q, IsFound L s p q := by
  have inner : ∀ i, i < L.n → ∀ {p q : Int}, SoFar L s i 0 p q → ∀ k, k ≤ L.m i → (∃ p q, IsFound L s p q) ∨ ∃ p q, SoFar L s i k p q := by
    intro i hi p q h k
    induction k with
    | zero => intro _; exact .inr ⟨p, q, h⟩
    | succ k ih =>
      intro hk
      rcases ih (by omega) with h | ⟨p, q, h⟩
      · exact .inl h
      · by_cases e : L.nm i k = s
        · have hh : Hit L s i k := ⟨hi, by omega, e⟩
          cases hw : L.wk i k with
          | false => exact .inl ⟨_, _, h.strong hh hw⟩
          | true =>
            rcases h.shape with ⟨rfl, rfl⟩ | ⟨x, y, rfl, rfl, _, _⟩
            · exact .inr ⟨_, _, h.first hh hw⟩
            · exact .inr ⟨_, _, h.more hw⟩
        · exact .inr ⟨_, _, h.other e⟩
  have outer : ∀ i, i ≤ L.n → (∃ p q, IsFound L s p q) ∨ ∃ p q, SoFar L s i 0 p q := by
    intro i
    induction i with
    | zero => intro _; exact .inr ⟨_, _, SoFar.start L s⟩
    | succ i ih =>
      intro hi
      rcases ih (by omega) with h | ⟨p, q, h⟩
      · exact .inl h
      · rcases inner i (by omega) h (L.m i) (Nat.le_refl _) with h | ⟨p, q, h⟩
        · exact .inl h
        · exact .inr ⟨_, _, h.next⟩
  rcases outer L.n (Nat.le_refl _) with h | ⟨p, q, h⟩
  · exact h
  · exact ⟨p, q, h.done⟩
/-- who is found, as functions of the name. -/
structure Finds (L : SymsF) (P Q : ByteArray → Int) : Prop where
  is : ∀ s, IsFound L s (P s) (Q s)
theorem finds_some (L : SymsF) : ∃ P Q, Finds L P Q := by
  have h : ∀ s, ∃ pq : Int × Int, IsFound L s pq.1 pq.2 := fun s => by
    obtain ⟨p, q, h⟩ := found_some L s
    exact ⟨(p, q), h⟩
  obtain ⟨f, hf⟩ := Classical.axiomOfChoice h
  exact ⟨fun s => (f s).1, fun s => (f s).2, ⟨hf⟩⟩
theorem Finds.eq {L : SymsF} {P Q : ByteArray → Int} (h : Finds L P Q) {s : ByteArray} {p q : Int} (hF : IsFound L s p q) : p = P s ∧ q = Q s := hF.unique (h.is s)
theorem Finds.shape {L : SymsF} {P Q : ByteArray → Int} (h : Finds L P Q) (s : ByteArray) : (P s = -1 ∧ Q s = -1) ∨ ∃ x y : Nat, P s = x ∧ Q s = y ∧ x < L.n ∧ y < L.m x ∧ L.nm x y = s := by
  rcases (h.is s).shape with ⟨a, b, _⟩ | ⟨x, y, a, b, hh⟩
  · exact .inl ⟨a, b⟩
  · exact .inr ⟨x, y, a, b, hh.li, hh.lk, hh.eq⟩

/-- where lies what tie k of object i is tied to? -/
def whereF (O : Nat → ObjF) (P Q : ByteArray → Int) (B : Nat → Int) (i k : Nat) : Option Int :=
  if (O i).tKind k = 1 then some (B i) else
  if 0 ≤ P ((O i).tName k) then some (B (P ((O i).tName k)).toNat + (O (P ((O i).tName k)).toNat).sAt (Q ((O i).tName k)).toNat) else
  if (O i).tWeak k = true then some 0 else none
/-- the word that a tie asks for, or the number of the error. -/
def hangF (kind base at' add : Int) : Option Int → Nat × Int
  | none => (6, 0)
  | some p =>
    if kind = 3 then
      (if p + add - (base + at') < -500 ∨ 500 < p + add - (base + at') then (7, 0) else (0, p + add - (base + at')))
    else (if isWordF (p + add) = true then (0, p + add) else (7, 0))
def tieW (O : Nat → ObjF) (P Q : ByteArray → Int) (B : Nat → Int) (i k : Nat) : Nat × Int := hangF ((O i).tKind k) (B i) ((O i).tAt k) ((O i).tAdd k) (whereF O P Q B i k)
/-- the patches of object i, by its first k ties. -/
def patsOf (O : Nat → ObjF) (P Q : ByteArray → Int) (B : Nat → Int) (i : Nat) : Nat → List (Nat × Int × Int)
  | 0 => []
  | k + 1 => patsOf O P Q B i k ++ [(i, (O i).tAt k, (tieW O P Q B i k).2)]
/-- those of the first i objects. -/
def patsTo (O : Nat → ObjF) (P Q : ByteArray → Int) (B : Nat → Int) : Nat → List (Nat × Int × Int)
  | 0 => []
  | i + 1 => patsTo O P Q B i ++ patsOf O P Q B i (O i).nT
theorem patsOf_len (O : Nat → ObjF) (P Q : ByteArray → Int) (B : Nat → Int) (i k : Nat) : (patsOf O P Q B i k).length = k := by
  induction k with
  | zero => rfl
  | succ k ih => simp [patsOf, ih]
theorem patsTo_le {O : Nat → ObjF} (P Q : ByteArray → Int) (B : Nat → Int) {i : Nat} (h : ∀ j, j < i → (O j).nT ≤ 6) : (patsTo O P Q B i).length ≤ 6 * i := by
  induction i with
  | zero => simp [patsTo]
  | succ i ih =>
    have := ih fun j hj => h j (by omega)
    have := h i (by omega)
    simp only [patsTo, List.length_append, patsOf_len]
    omega
/-- the first fault of the first i objects' ties. -/
def tiesF (O : Nat → ObjF) (P Q : ByteArray → Int) (B : Nat → Int) : Nat → Nat := faultTo fun i => faultTo (fun k => (tieW O P Q B i k).1) (O i).nT
def outB (B : Nat → Int) (n : Nat) : Bool := anyTo (fun i => decide (B i < 0 ∨ 256 < B i)) n
/-- the number of the error of all patches (0: none). -/
def allF (n : Nat) (O : Nat → ObjF) (P Q : ByteArray → Int) (nb : Nat) (B : Nat → Int) : Nat :=
  if nb ≠ n then 3 else if outB B nb = true then 1 else tiesF O P Q B n
theorem hangF_le (kind base at' add : Int) (wh : Option Int) : (hangF kind base at' add wh).1 = 0 ∨ (hangF kind base at' add wh).1 = 6 ∨ (hangF kind base at' add wh).1 = 7 := by
  unfold hangF
  cases wh with
  | none => simp
  | some p => dsimp only; split <;> split <;> simp
end Go.Proofs.Ytnbmnljknfgafab
