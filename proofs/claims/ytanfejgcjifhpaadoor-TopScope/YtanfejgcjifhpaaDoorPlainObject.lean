/-
  Plain words on objects, with nothing of the program: what an object is, and the number of its fault.
-/
import Derived.Test.YtanfejgcjifhpaaDoorPlainName
import Derived.WideShapes
import Derived.Laws.Strings
namespace Go.Proofs.YtanfejgcjifhpaaDoor

/-- an object: how many of each, and each by its place. -/
structure ObjF where
  nN : Nat
  needs : Nat → ByteArray
  nW : Nat
  words : Nat → Int
  nS : Nat
  sName : Nat → ByteArray
  sAt : Nat → Int
  sWeak : Nat → Bool
  nT : Nat
  tAt : Nat → Int
  tKind : Nat → Int
  tAdd : Nat → Int
  tName : Nat → ByteArray
  tWeak : Nat → Bool

theorem toList_beq (x y : ByteArray) : (x.toList == y.toList) = decide (x = y) := by
  rw [Bool.eq_iff_iff, beq_iff_eq, decide_eq_true_eq, ByteArray.toList_eq, ByteArray.toList_eq]
  exact ⟨fun h => WideShapes.bytes_inj h, fun h => by rw [h]⟩

/-- the first fault, else the second one. -/
def seqF (a b : Nat) : Nat := if a = 0 then b else a
theorem seqF_zero (b : Nat) : seqF 0 b = b := rfl
theorem seqF_some {a : Nat} (b : Nat) (h : a ≠ 0) : seqF a b = a := if_neg h
/-- the first fault of the first k. -/
def faultTo (g : Nat → Nat) : Nat → Nat
  | 0 => 0
  | k + 1 => seqF (faultTo g k) (g k)
theorem faultTo_ok {g : Nat → Nat} {k : Nat} (h : faultTo g k = 0) (h' : g k = 0) : faultTo g (k + 1) = 0 := by simp [faultTo, h, h', seqF]
theorem faultTo_stop {g : Nat → Nat} {k n : Nat} (hk : k < n) (h : faultTo g k = 0) (h' : g k ≠ 0) : faultTo g n = g k := by
  induction n with
  | zero => omega
  | succ n ih =>
    by_cases e : k = n
    · subst e; simp [faultTo, h, seqF]
    · simp only [faultTo, ih (by omega), seqF, if_neg h']

/-- is one of the first k so? -/
def anyTo (p : Nat → Bool) : Nat → Bool
  | 0 => false
  | k + 1 => anyTo p k || p k
theorem anyTo_no {p : Nat → Bool} {k : Nat} (h : anyTo p k = false) (h' : p k = false) : anyTo p (k + 1) = false := by simp [anyTo, h, h']
theorem anyTo_yes {p : Nat → Bool} {k n : Nat} (hk : k < n) (h : p k = true) : anyTo p n = true := by
  induction n with
  | zero => omega
  | succ n ih =>
    by_cases e : k = n
    · subst e; simp [anyTo, h]
    · simp [anyTo, ih (by omega)]
theorem anyTo_congr {p q : Nat → Bool} {n : Nat} (h : ∀ i, i < n → p i = q i) : anyTo p n = anyTo q n := by
  induction n with
  | zero => rfl
  | succ n ih => simp only [anyTo, ih (fun i hi => h i (by omega)), h n (by omega)]

def isWordF (n : Int) : Bool := decide (-2147483648 ≤ n) && decide (n ≤ 2147483647)
def isPlaceF (a n : Int) : Bool := decide (0 ≤ a) && decide (a < n)

def countsF (o : ObjF) : Nat := if 4 < o.nN ∨ o.nW = 0 ∨ 40 < o.nW ∨ 8 < o.nS ∨ 6 < o.nT then 2 else 0
def dupF (f : Nat → ByteArray) (i : Nat) : Bool := anyTo (fun j => decide (f j = f i)) i
def needF (f : Nat → ByteArray) (i : Nat) : Nat := seqF (nameF (f i).data.toList) (if dupF f i = true then 3 else 0)
def wordF (f : Nat → Int) (i : Nat) : Nat := if isWordF (f i) = true then 0 else 1
def symF (nW : Int) (s : Nat → ByteArray) (a : Nat → Int) (i : Nat) : Nat :=
  seqF (nameF (s i).data.toList) (if isPlaceF (a i) nW = true then (if dupF s i = true then 3 else 0) else 1)
def prevAt (a : Nat → Int) : Nat → Int
  | 0 => -1
  | i + 1 => a i
def tieOneF (at' kind add : Int) (name : ByteArray) (weak : Bool) (ahead nW : Int) : Nat :=
  if isPlaceF at' nW = true ∧ isWordF add = true then
    (if at' ≤ ahead then 3
     else if kind = 1 then (if name.size = 0 ∧ weak = false then 0 else 3)
     else if kind = 2 ∨ kind = 3 then nameF name.data.toList else 3)
  else 1
def tieF (o : ObjF) (i : Nat) : Nat := tieOneF (o.tAt i) (o.tKind i) (o.tAdd i) (o.tName i) (o.tWeak i) (prevAt o.tAt i) o.nW
/-- the number of an object's fault (0: none). -/
def objF (o : ObjF) : Nat :=
  seqF (countsF o) (seqF (faultTo (needF o.needs) o.nN) (seqF (faultTo (wordF o.words) o.nW) (seqF (faultTo (symF o.nW o.sName o.sAt) o.nS) (faultTo (tieF o) o.nT))))
end Go.Proofs.YtanfejgcjifhpaaDoor
