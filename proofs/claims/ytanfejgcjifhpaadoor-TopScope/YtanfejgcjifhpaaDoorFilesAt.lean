/-
  Files in memory: a block of a map and a count; what the map holds, in plain words; what stays of it as memory grows.
-/
import Derived.Test.YtanfejgcjifhpaaDoorErr
import Derived.Test.YtanfejgcjifhpaaDoorNameWalks
import Derived.Test.YtanfejgcjifhpaaDoorRowsAt
import Derived.Maps.OwnSet
import Derived.Maps.Views
import Derived.StringKeys
import Derived.Deep.RegionLaw
import Derived.Deep.QuietTactic
import Derived.BigQuiet
namespace Go.Proofs.YtanfejgcjifhpaaDoor
open Go.RowKit Go.Maps

/-- how a file reads: its text, its stamp. -/
def fileList : List Value → Option (DataW Unit × List MemPlace)
  | [.string t, .int .i64 n] => some (.agg [.lit (.string t.data.toList), .lit (.int .i64 n)], [])
  | _ => none
def fileElem : Value → Option (DataW Unit × List MemPlace)
  | .agg c => fileList c.toList
  | _ => none
def fileD (t : List UInt8) (n : Int) : DataW Unit := .agg [.lit (.string t), .lit (.int .i64 n)]
theorem fileElem_mk (t : ByteArray) (n : Int) : fileElem (.agg #[.string t, .int .i64 n]) = some (fileD t.data.toList n, []) := rfl
theorem fileElem_inv {v : Value} {z : DataW Unit × List MemPlace} (h : fileElem v = some z) : ∃ t n, v = .agg #[.string t, .int .i64 n] ∧ z = (fileD t.data.toList n, []) := by
  unfold fileElem at h
  split at h
  · rename_i c
    generalize hl : c.toList = l at h
    unfold fileList at h
    split at h
    · injection h with h
      refine ⟨_, _, ?_, h.symm⟩
      rw [← Array.toArray_toList (xs := c), hl]
    · cases h
  · cases h
theorem keysStr : Keyed Tryd.prog 9 := string_keyed Tryd.underlying9
theorem zeroFile (w : World) : (zeroValue 80).run Tryd.prog w = .ok (.agg #[.string ⟨#[]⟩, .int .i64 0]) w := by kernel_rfl
/-- a name as a key. -/
def keyB (s : ByteArray) : Lit := .string s.data.toList
theorem keyB_of (s : ByteArray) (hs : s.size ≤ maxLen) : keyOf Tryd.prog 9 (.string s) = some (keyB s) := Go.WideMaps.keyOf_string_mk Tryd.underlying9 hs

/-- files: the map D (in block bm), how many were written (k), in block p. -/
structure FilesAt (w : World) (p bm : Nat) (D : DataW Unit) (k : Nat) : Prop where
  blk : w.heap[p]? = some (.cells #[.map (some bm), .int .i64 (k : Int)] 75 (0, 0))
  own : w.ownsMap Tryd.prog 9 fileElem bm (Maps.size D) D

theorem own_exact {w : World} {bm n : Nat} {D : DataW Unit} (h : w.ownsMap Tryd.prog 9 fileElem bm n D) : w.ownsMap Tryd.prog 9 fileElem bm (Maps.size D) D := by
  obtain ⟨es, clock, hb, F, _, rfl⟩ := h
  exact ⟨es, clock, hb, F, by simp [Maps.size, length_sorted], rfl⟩
/-- all but those two blocks stays. -/
structure Turned (p bm : Nat) (w w' : World) : Prop where
  os : w'.os = w.os
  tape : w'.tape = w.tape
  output : w'.output = w.output
  size : w.heap.size ≤ w'.heap.size
  block : ∀ k, k < w.heap.size → k ≠ p → k ≠ bm → w'.heap[k]? = w.heap[k]?
theorem Turned.refl (p bm : Nat) (w : World) : Turned p bm w w := ⟨rfl, rfl, rfl, Nat.le_refl _, fun _ _ _ _ => rfl⟩
theorem Turned.of {p bm : Nat} {w w' : World} (h : Below w.heap.size w w') : Turned p bm w w' := ⟨h.os, h.tape, h.output, h.size, fun k hk _ _ => h.block k hk⟩
theorem Turned.trans {p bm : Nat} {a b c : World} (h : Turned p bm a b) (g : Turned p bm b c) : Turned p bm a c :=
  ⟨g.os.trans h.os, g.tape.trans h.tape, g.output.trans h.output, Nat.le_trans h.size g.size, fun k hk h1 h2 => (g.block k (Nat.lt_of_lt_of_le hk h.size) h1 h2).trans (h.block k hk h1 h2)⟩
theorem Turned.below {p bm B : Nat} {w w' : World} (h : Turned p bm w w') (hB : B ≤ w.heap.size) (h1 : B ≤ p) (h2 : B ≤ bm) : Below B w w' :=
  ⟨h.os, h.tape, h.output, h.size, fun k hk => h.block k (by omega) (by omega) (by omega)⟩

theorem FilesAt.c0 {w : World} {p bm : Nat} {D : DataW Unit} {k : Nat} (h : FilesAt w p bm D k) : w.cell? ⟨p, 0, none⟩ = some (.map (some bm)) := by simp [World.cell?, h.blk]
theorem FilesAt.c1 {w : World} {p bm : Nat} {D : DataW Unit} {k : Nat} (h : FilesAt w p bm D k) : w.cell? ⟨p, 1, none⟩ = some (.int .i64 (k : Int)) := by simp [World.cell?, h.blk]
theorem FilesAt.fz {w : World} {p bm : Nat} {D : DataW Unit} {k : Nat} (h : FilesAt w p bm D k) (i : Nat) : w.frozen? ⟨p, i, none⟩ = false := by simp [World.frozen?, h.blk]
theorem FilesAt.lt {w : World} {p bm : Nat} {D : DataW Unit} {k : Nat} (h : FilesAt w p bm D k) : p < w.heap.size := (Array.getElem?_eq_some_iff.1 h.blk).1
theorem FilesAt.ne {w : World} {p bm : Nat} {D : DataW Unit} {k : Nat} (h : FilesAt w p bm D k) : p ≠ bm := by
  intro e
  obtain ⟨es, clock, hb, _⟩ := h.own
  have := h.blk
  rw [e, hb] at this
  cases this
theorem FilesAt.later {w w' : World} {p bm : Nat} {D : DataW Unit} {k : Nat} (h : FilesAt w p bm D k) (hb : Below w.heap.size w w') : FilesAt w' p bm D k :=
  ⟨(hb.block p h.lt).trans h.blk, h.own.kept (row := none) ⟨hb.os, hb.tape, hb.output, hb.size, fun j hj _ => hb.block j hj⟩ (by simp)⟩
/-- the look-up of a name. -/
theorem FilesAt.look {w : World} {p bm : Nat} {D : DataW Unit} {k : Nat} (h : FilesAt w p bm D k) (s : ByteArray) (hs : s.size ≤ maxLen) :
    ∃ t n, (Instr.lookup 73 (.map (some bm)) (.string s) true).run Tryd.prog w = .ok (.tuple #[.agg #[.string t, .int .i64 n], .bool (Maps.has D (keyB s))]) w ∧ D.atKey (keyB s) (fileD [] 0) = fileD t.data.toList n := by
  obtain ⟨v, ps, hrun, hR⟩ := h.own.look_ok keysStr Tryd.underlying73 (zeroFile w) (fileElem_mk ⟨#[]⟩ 0) (keyB_of s hs)
  obtain ⟨t, n, rfl, hz⟩ := fileElem_inv hR
  exact ⟨t, n, hrun, congrArg Prod.fst hz⟩
end Go.Proofs.YtanfejgcjifhpaaDoor
