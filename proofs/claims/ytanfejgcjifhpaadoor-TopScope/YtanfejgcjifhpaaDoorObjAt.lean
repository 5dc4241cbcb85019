/-
  An object in memory: what its four slices hold; what stays of it as memory grows.
-/
import Derived.Test.YtanfejgcjifhpaaDoorPlainObject
import Derived.Test.YtanfejgcjifhpaaDoorRowsAt
namespace Go.Proofs.YtanfejgcjifhpaaDoor
open Go.RowKit

/-- the n symbols behind 'a'. -/
def SymsRow (w : World) (a : Option Addr) (n : Nat) (s : Nat → ByteArray) (v : Nat → Int) (b : Nat → Bool) : Prop :=
  n = 0 ∨ ∃ bk o, a = some ⟨bk, o, none⟩ ∧ ∀ i, i < n → w.cell? ⟨bk, o + i * 3, none⟩ = some (.string (s i)) ∧ w.cell? ⟨bk, o + i * 3 + 1, none⟩ = some (.int .i64 (v i)) ∧ w.cell? ⟨bk, o + i * 3 + 2, none⟩ = some (.bool (b i))
/-- the n ties behind 'a'. -/
def TiesRow (w : World) (a : Option Addr) (n : Nat) (x k d : Nat → Int) (s : Nat → ByteArray) (b : Nat → Bool) : Prop :=
  n = 0 ∨ ∃ bk o, a = some ⟨bk, o, none⟩ ∧ ∀ i, i < n → w.cell? ⟨bk, o + i * 5, none⟩ = some (.int .i64 (x i)) ∧ w.cell? ⟨bk, o + i * 5 + 1, none⟩ = some (.int .i64 (k i)) ∧ w.cell? ⟨bk, o + i * 5 + 2, none⟩ = some (.int .i64 (d i)) ∧ w.cell? ⟨bk, o + i * 5 + 3, none⟩ = some (.string (s i)) ∧ w.cell? ⟨bk, o + i * 5 + 4, none⟩ = some (.bool (b i))

theorem SymsRow.later {w w' : World} {a : Option Addr} {n : Nat} {s : Nat → ByteArray} {v : Nat → Int} {b : Nat → Bool} (h : SymsRow w a n s v b) (hb : Below w.heap.size w w') : SymsRow w' a n s v b := by
  rcases h with h | ⟨bk, o, ha, hc⟩
  · exact .inl h
  · exact .inr ⟨bk, o, ha, fun i hi => ⟨cell_later hb (hc i hi).1, cell_later hb (hc i hi).2.1, cell_later hb (hc i hi).2.2⟩⟩
theorem TiesRow.later {w w' : World} {a : Option Addr} {n : Nat} {x k d : Nat → Int} {s : Nat → ByteArray} {b : Nat → Bool} (h : TiesRow w a n x k d s b) (hb : Below w.heap.size w w') : TiesRow w' a n x k d s b := by
  rcases h with h | ⟨bk, o, ha, hc⟩
  · exact .inl h
  · exact .inr ⟨bk, o, ha, fun i hi => ⟨cell_later hb (hc i hi).1, cell_later hb (hc i hi).2.1, cell_later hb (hc i hi).2.2.1, cell_later hb (hc i hi).2.2.2.1, cell_later hb (hc i hi).2.2.2.2⟩⟩

/-- where an object's four slices lie. -/
structure ObjV where
  aN : Option Addr
  cN : Nat
  aW : Option Addr
  cW : Nat
  aS : Option Addr
  cS : Nat
  aT : Option Addr
  cT : Nat
/-- the four slices. -/
def ObjV.cells (v : ObjV) (o : ObjF) : Array Value := #[.slice v.aN o.nN v.cN, .slice v.aW o.nW v.cW, .slice v.aS o.nS v.cS, .slice v.aT o.nT v.cT]
/-- what they hold is that object. -/
structure ObjAt (w : World) (v : ObjV) (o : ObjF) : Prop where
  needs : RowAt w v.aN o.nN fun i => .string (o.needs i)
  words : RowAt w v.aW o.nW fun i => .int .i64 (o.words i)
  syms : SymsRow w v.aS o.nS o.sName o.sAt o.sWeak
  ties : TiesRow w v.aT o.nT o.tAt o.tKind o.tAdd o.tName o.tWeak
  capN : o.nN ≤ v.cN
  capS : o.nS ≤ v.cS
theorem ObjAt.later {w w' : World} {v : ObjV} {o : ObjF} (h : ObjAt w v o) (hb : Below w.heap.size w w') : ObjAt w' v o :=
  ⟨h.needs.later hb, h.words.later hb, h.syms.later hb, h.ties.later hb, h.capN, h.capS⟩
/-- texts are no longer than texts may be, numbers are numbers. -/
structure ObjFit (o : ObjF) : Prop where
  lN : o.nN ≤ maxLen
  lW : o.nW ≤ maxLen
  lS : o.nS ≤ maxLen
  lT : o.nT ≤ maxLen
  needs : ∀ i, i < o.nN → (o.needs i).size ≤ maxLen
  words : ∀ i, i < o.nW → (Lit.int .i64 (o.words i)).wf = true
  syms : ∀ i, i < o.nS → (o.sName i).size ≤ maxLen ∧ (Lit.int .i64 (o.sAt i)).wf = true
  ties : ∀ i, i < o.nT → (o.tName i).size ≤ maxLen ∧ (Lit.int .i64 (o.tAt i)).wf = true ∧ (Lit.int .i64 (o.tKind i)).wf = true ∧ (Lit.int .i64 (o.tAdd i)).wf = true
end Go.Proofs.YtanfejgcjifhpaaDoor
