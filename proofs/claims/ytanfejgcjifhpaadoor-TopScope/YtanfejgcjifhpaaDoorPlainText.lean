/-
  Plain words on an object's text, with nothing of the program: its lines, and how long they are.
-/
import Derived.Test.YtanfejgcjifhpaaDoorPlainObject
import Derived.Lib.Join
import Derived.Lib.ItoaNum
namespace Go.Proofs.YtanfejgcjifhpaaDoor

/-- a line: its words, a blank between two, and its end. -/
def lineL (weak : Bool) (xs : List (List UInt8)) : List UInt8 := (if weak = true then [119, 101, 97, 107, 32] else []) ++ (Lib.join xs [32] ++ [10])
def needLn (s : ByteArray) : List UInt8 := lineL false [[110, 101, 101, 100], s.data.toList]
def wordLn (n : Int) : List UInt8 := lineL false [[119, 111, 114, 100], Lib.itoa n]
def symLn (s : ByteArray) (a : Int) (b : Bool) : List UInt8 := lineL b [[115, 121, 109, 98, 111, 108], s.data.toList, Lib.itoa a]
def tieLn (x k d : Int) (s : ByteArray) (b : Bool) : List UInt8 :=
  if k = 1 then lineL false [[98, 97, 115, 101], Lib.itoa x, Lib.itoa d]
  else if k = 2 then lineL b [[119, 104, 111, 108, 101], Lib.itoa x, Lib.itoa d, s.data.toList]
  else lineL b [[110, 101, 97, 114], Lib.itoa x, Lib.itoa d, s.data.toList]
/-- the first k lines, one behind the other. -/
def catTo (g : Nat → List UInt8) : Nat → List UInt8
  | 0 => []
  | k + 1 => catTo g k ++ g k
def needsL (o : ObjF) : Nat → List UInt8 := catTo fun i => needLn (o.needs i)
def wordsL (o : ObjF) : Nat → List UInt8 := catTo fun i => wordLn (o.words i)
def symsL (o : ObjF) : Nat → List UInt8 := catTo fun i => symLn (o.sName i) (o.sAt i) (o.sWeak i)
def tiesL (o : ObjF) : Nat → List UInt8 := catTo fun i => tieLn (o.tAt i) (o.tKind i) (o.tAdd i) (o.tName i) (o.tWeak i)
/-- an object's text. -/
def textL (o : ObjF) : List UInt8 := needsL o o.nN ++ wordsL o o.nW ++ symsL o o.nS ++ tiesL o o.nT

theorem catTo_le (g : Nat → List UInt8) (m n k : Nat) (hk : k ≤ n) (h : ∀ i, i < n → (g i).length ≤ m) : (catTo g k).length ≤ k * m := by
  induction k with
  | zero => simp [catTo]
  | succ k ih =>
    have h1 := ih (by omega)
    have h2 := h k (by omega)
    simp only [catTo, List.length_append, Nat.add_mul]
    omega

theorem decDigits_len (k : Nat) : ∀ u, u < 10 ^ (k + 1) → (Lib.decDigits u).length ≤ k + 1 := by
  induction k with
  | zero =>
    intro u hu
    rw [Lib.decDigits, dif_pos (by omega)]
    simp
  | succ k ih =>
    intro u hu
    rw [Lib.decDigits]
    by_cases h : u < 10
    · rw [dif_pos h]; simp
    · rw [dif_neg h]
      have h' : u / 10 < 10 ^ (k + 1) := by
        rw [Nat.pow_succ] at hu
        omega
      have := ih (u / 10) h'
      simp
      omega
theorem itoa_len (n : Int) (h0 : -9223372036854775808 ≤ n) (h1 : n ≤ 9223372036854775807) : (Lib.itoa n).length ≤ 20 := by
  unfold Lib.itoa
  split
  · have := decDigits_len 18 n.natAbs (by have : (10 : Nat) ^ (18 + 1) = 10000000000000000000 := by decide
                                          omega)
    simp
    omega
  · have := decDigits_len 18 n.toNat (by have : (10 : Nat) ^ (18 + 1) = 10000000000000000000 := by decide
                                         omega)
    omega
theorem join2 (a b : List UInt8) : Lib.join [a, b] [32] = a ++ ([32] ++ b) := by
  rw [Lib.join_cons]; simp [Lib.joinTail]
theorem join3 (a b c : List UInt8) : Lib.join [a, b, c] [32] = a ++ ([32] ++ b ++ ([32] ++ c)) := by
  rw [Lib.join_cons]; simp [Lib.joinTail]
theorem join4 (a b c d : List UInt8) : Lib.join [a, b, c, d] [32] = a ++ ([32] ++ b ++ ([32] ++ c ++ ([32] ++ d))) := by
  rw [Lib.join_cons]; simp [Lib.joinTail]

theorem lineL_len (b : Bool) (xs : List (List UInt8)) (h : (Lib.join xs [32]).length ≤ 90) : (lineL b xs).length ≤ 100 := by
  unfold lineL
  cases b <;> simp <;> omega
theorem needLn_len (s : ByteArray) (h : s.data.toList.length ≤ 8) : (needLn s).length ≤ 100 := by
  apply lineL_len
  rw [join2]
  simp only [List.length_append, List.length_cons, List.length_nil]
  omega
theorem wordLn_len (n : Int) (h0 : -9223372036854775808 ≤ n) (h1 : n ≤ 9223372036854775807) : (wordLn n).length ≤ 100 := by
  have := itoa_len n h0 h1
  apply lineL_len
  rw [join2]
  simp only [List.length_append, List.length_cons, List.length_nil]
  omega
theorem symLn_len (s : ByteArray) (a : Int) (b : Bool) (h : s.data.toList.length ≤ 8) (h0 : -9223372036854775808 ≤ a) (h1 : a ≤ 9223372036854775807) : (symLn s a b).length ≤ 100 := by
  have := itoa_len a h0 h1
  apply lineL_len
  rw [join3]
  simp only [List.length_append, List.length_cons, List.length_nil]
  omega
theorem tieLn_len (x k d : Int) (s : ByteArray) (b : Bool) (h : s.data.toList.length ≤ 8) (hx : -9223372036854775808 ≤ x ∧ x ≤ 9223372036854775807) (hd : -9223372036854775808 ≤ d ∧ d ≤ 9223372036854775807) : (tieLn x k d s b).length ≤ 100 := by
  have := itoa_len x hx.1 hx.2
  have := itoa_len d hd.1 hd.2
  unfold tieLn
  split
  · apply lineL_len
    rw [join3]
    simp only [List.length_append, List.length_cons, List.length_nil]
    omega
  · split
    · apply lineL_len
      rw [join4]
      simp only [List.length_append, List.length_cons, List.length_nil]
      omega
    · apply lineL_len
      rw [join4]
      simp only [List.length_append, List.length_cons, List.length_nil]
      omega

theorem nameF_len {l : List UInt8} (h : nameF l = 0) : l.length ≤ 8 := by
  unfold nameF at h
  split at h
  · omega
  · omega
theorem faultTo_zero {g : Nat → Nat} {n : Nat} (h : faultTo g n = 0) : ∀ i, i < n → g i = 0 := by
  induction n with
  | zero => intro i hi; omega
  | succ n ih =>
    intro i hi
    simp only [faultTo, seqF] at h
    split at h
    · by_cases e : i = n
      · subst e; exact h
      · exact ih (by assumption) i (by omega)
    · contradiction
theorem seqF_zero_iff {a b : Nat} : seqF a b = 0 ↔ a = 0 ∧ b = 0 := by
  unfold seqF
  constructor
  · intro h
    split at h
    · exact ⟨by assumption, h⟩
    · contradiction
  · rintro ⟨rfl, rfl⟩; rfl

/-- what there is of an object without a fault. -/
structure ObjOk (o : ObjF) : Prop where
  nN : o.nN ≤ 4
  nW0 : 1 ≤ o.nW
  nW : o.nW ≤ 40
  nS : o.nS ≤ 8
  nT : o.nT ≤ 6
  needs : ∀ i, i < o.nN → nameF (o.needs i).data.toList = 0
  words : ∀ i, i < o.nW → -2147483648 ≤ o.words i ∧ o.words i ≤ 2147483647
  syms : ∀ i, i < o.nS → nameF (o.sName i).data.toList = 0 ∧ 0 ≤ o.sAt i ∧ o.sAt i < o.nW
  ties : ∀ i, i < o.nT → 0 ≤ o.tAt i ∧ o.tAt i < o.nW ∧ -2147483648 ≤ o.tAdd i ∧ o.tAdd i ≤ 2147483647 ∧ (o.tKind i = 1 ∧ (o.tName i).size = 0 ∧ o.tWeak i = false ∨ (o.tKind i = 2 ∨ o.tKind i = 3) ∧ nameF (o.tName i).data.toList = 0)
theorem ObjOk.tieName {o : ObjF} (h : ObjOk o) (i : Nat) (hi : i < o.nT) : (o.tName i).data.toList.length ≤ 8 := by
  rcases (h.ties i hi).2.2.2.2 with ⟨_, h1, _⟩ | ⟨_, h1⟩
  · have : (o.tName i).data.toList.length = (o.tName i).size := by simp
    omega
  · exact nameF_len h1
theorem objOk {o : ObjF} (h : objF o = 0) : ObjOk o := by
  unfold objF at h
  rw [seqF_zero_iff, seqF_zero_iff, seqF_zero_iff, seqF_zero_iff] at h
  obtain ⟨h1, h2, h3, h4, h5⟩ := h
  have hc : o.nN ≤ 4 ∧ 1 ≤ o.nW ∧ o.nW ≤ 40 ∧ o.nS ≤ 8 ∧ o.nT ≤ 6 := by
    unfold countsF at h1
    split at h1
    · omega
    · omega
  refine ⟨hc.1, hc.2.1, hc.2.2.1, hc.2.2.2.1, hc.2.2.2.2, fun i hi => ?_, fun i hi => ?_, fun i hi => ?_, fun i hi => ?_⟩
  · exact (seqF_zero_iff.1 (faultTo_zero h2 i hi)).1
  · have := faultTo_zero h3 i hi
    unfold wordF isWordF at this
    split at this
    · rename_i hw; simpa using hw
    · contradiction
  · have := seqF_zero_iff.1 (faultTo_zero h4 i hi)
    refine ⟨this.1, ?_⟩
    have h2 := this.2
    split at h2
    · rename_i hp; simpa [isPlaceF] using hp
    · contradiction
  · have := faultTo_zero h5 i hi
    unfold tieF tieOneF at this
    split at this
    · rename_i hp
      have hp1 : 0 ≤ o.tAt i ∧ o.tAt i < (o.nW : Int) := by simpa [isPlaceF] using hp.1
      have hp2 : -2147483648 ≤ o.tAdd i ∧ o.tAdd i ≤ 2147483647 := by simpa [isWordF] using hp.2
      refine ⟨hp1.1, hp1.2, hp2.1, hp2.2, ?_⟩
      split at this
      · contradiction
      · split at this
        · split at this
          · rename_i h1 h2; exact .inl ⟨h1, h2.1, h2.2⟩
          · contradiction
        · split at this
          · rename_i h1; exact .inr ⟨h1, this⟩
          · contradiction
    · contradiction

theorem needsL_len {o : ObjF} (h : ObjOk o) (k : Nat) (hk : k ≤ o.nN) : (needsL o k).length ≤ 400 := by
  have := catTo_le (fun i => needLn (o.needs i)) 100 o.nN k hk (fun i hi => needLn_len _ (nameF_len (h.needs i hi)))
  have := h.nN
  unfold needsL
  omega
theorem wordsL_len {o : ObjF} (h : ObjOk o) (k : Nat) (hk : k ≤ o.nW) : (wordsL o k).length ≤ 4000 := by
  have := catTo_le (fun i => wordLn (o.words i)) 100 o.nW k hk (fun i hi => wordLn_len _ (by have := h.words i hi; omega) (by have := h.words i hi; omega))
  have := h.nW
  unfold wordsL
  omega
theorem symsL_len {o : ObjF} (h : ObjOk o) (k : Nat) (hk : k ≤ o.nS) : (symsL o k).length ≤ 800 := by
  have hw := h.nW
  have := catTo_le (fun i => symLn (o.sName i) (o.sAt i) (o.sWeak i)) 100 o.nS k hk (fun i hi => symLn_len _ _ _ (nameF_len (h.syms i hi).1) (by have := h.syms i hi; omega) (by have := h.syms i hi; omega))
  have := h.nS
  unfold symsL
  omega
theorem tiesL_len {o : ObjF} (h : ObjOk o) (k : Nat) (hk : k ≤ o.nT) : (tiesL o k).length ≤ 600 := by
  have hw := h.nW
  have := catTo_le (fun i => tieLn (o.tAt i) (o.tKind i) (o.tAdd i) (o.tName i) (o.tWeak i)) 100 o.nT k hk (fun i hi => tieLn_len _ _ _ _ _ (h.tieName i hi) (by have := h.ties i hi; omega) (by have := h.ties i hi; omega))
  have := h.nT
  unfold tiesL
  omega
/-- what Text answers: a fault's number, and the text. -/
def textF (o : ObjF) : Nat × List UInt8 := if objF o = 0 then (if 1200 < (textL o).length then (2, []) else (0, textL o)) else (objF o, [])
end Go.Proofs.YtanfejgcjifhpaaDoor
