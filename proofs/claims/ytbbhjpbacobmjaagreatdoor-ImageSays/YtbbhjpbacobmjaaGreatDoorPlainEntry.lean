/-
  Plain words on an entry and its line, with nothing of the program: what may be, the words of its text, and that they are read as it.
-/
import Derived.Test.YtbbhjpbacobmjaaGreatDoorPlainNumb
namespace Go.Proofs.YtbbhjpbacobmjaaGreatDoor

structure EntF where
  root : ByteArray
  nP : Nat
  pName : Nat → ByteArray
  pStamp : Nat → Int
  pBase : Nat → Int
  nQ : Nat
  qPart : Nat → Int
  qAt : Nat → Int
  qWord : Nat → Int

/-- what there is of an entry without a fault. -/
structure EntOk (e : EntF) : Prop where
  root : nameF e.root.data.toList = 0
  nP0 : 1 ≤ e.nP
  nP : e.nP ≤ 6
  nQ : e.nQ ≤ 36
  parts : ∀ i, i < e.nP → nameF (e.pName i).data.toList = 0 ∧ 1 ≤ e.pStamp i ∧ e.pStamp i ≤ 1000000 ∧ 0 ≤ e.pBase i ∧ e.pBase i < 256
  pats : ∀ i, i < e.nQ → 0 ≤ e.qPart i ∧ e.qPart i < e.nP ∧ 0 ≤ e.qAt i ∧ e.qAt i < 40 ∧ -2147483648 ≤ e.qWord i ∧ e.qWord i ≤ 2147483647
def wd (ws : List ByteArray) (i : Nat) : ByteArray := ws.getD i ⟨#[]⟩
structure SameE (a b : EntF) : Prop where
  root : a.root = b.root
  nP : a.nP = b.nP
  nQ : a.nQ = b.nQ
  parts : ∀ i, i < b.nP → a.pName i = b.pName i ∧ a.pStamp i = b.pStamp i ∧ a.pBase i = b.pBase i
  pats : ∀ i, i < b.nQ → a.qPart i = b.qPart i ∧ a.qAt i = b.qAt i ∧ a.qWord i = b.qWord i
end Go.Proofs.YtbbhjpbacobmjaaGreatDoor
