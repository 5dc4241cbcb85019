/-
  A row of objects in memory: what its places hold; what stays of it as memory grows; its symbols in plain words.
-/
import Derived.Test.YtanfejgcjifhpaaDoorObjAt
import Derived.Test.YtanfejgcjifhpaaDoorPlainFind
namespace Go.Proofs.YtanfejgcjifhpaaDoor
open Go.RowKit

/-- the four slices of an object that lies at a place. -/
structure ObjHere (w : World) (bk o : Nat) (v : ObjV) (x : ObjF) : Prop where
  c0 : w.cell? ⟨bk, o, none⟩ = some (.slice v.aN x.nN v.cN)
  c1 : w.cell? ⟨bk, o + 1, none⟩ = some (.slice v.aW x.nW v.cW)
  c2 : w.cell? ⟨bk, o + 2, none⟩ = some (.slice v.aS x.nS v.cS)
  c3 : w.cell? ⟨bk, o + 3, none⟩ = some (.slice v.aT x.nT v.cT)
  here : ObjAt w v x
theorem ObjHere.later {w w' : World} {bk o : Nat} {v : ObjV} {x : ObjF} (h : ObjHere w bk o v x) (hb : Below w.heap.size w w') : ObjHere w' bk o v x :=
  ⟨cell_later hb h.c0, cell_later hb h.c1, cell_later hb h.c2, cell_later hb h.c3, h.here.later hb⟩
/-- the n objects behind 'a'. -/
def ObjsRow (w : World) (a : Option Addr) (n : Nat) (V : Nat → ObjV) (O : Nat → ObjF) : Prop :=
  n = 0 ∨ ∃ bk o, a = some ⟨bk, o, none⟩ ∧ ∀ i, i < n → ObjHere w bk (o + i * 4) (V i) (O i)
theorem ObjsRow.later {w w' : World} {a : Option Addr} {n : Nat} {V : Nat → ObjV} {O : Nat → ObjF} (h : ObjsRow w a n V O) (hb : Below w.heap.size w w') : ObjsRow w' a n V O := by
  rcases h with h | ⟨bk, o, ha, hc⟩
  · exact .inl h
  · exact .inr ⟨bk, o, ha, fun i hi => (hc i hi).later hb⟩
/-- their symbols. -/
def symsF (n : Nat) (O : Nat → ObjF) : SymsF := ⟨n, fun i => (O i).nS, fun i => (O i).sName, fun i => (O i).sWeak⟩
end Go.Proofs.YtanfejgcjifhpaaDoor
