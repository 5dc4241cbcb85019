/-
  Files in memory: a block of a map and a count; what the map holds, in plain words; what stays of it as memory grows.
  What New, Read, others and Remove of package files do, for every file: in plain words on what the map holds; all other memory stays as it was.
-/
import Derived.Test.YtieldgdkkfkehaaGreatDoorErr
import Derived.Test.YtieldgdkkfkehaaGreatDoorNameWalks
import Derived.Test.YtieldgdkkfkehaaGreatDoorAtAll
import Derived.Maps.OwnSet
import Derived.Maps.Views
import Derived.StringKeys
import Derived.Deep.RegionLaw
import Derived.Deep.QuietTactic
import Derived.BigQuiet
namespace Go.Proofs.YtieldgdkkfkehaaGreatDoor
open Go.RowKit Go.Maps

/-- how a file reads: its text, its stamp. -/
def fileList : List Value → Option (DataW Unit × List MemPlace)
  | [.string t, .int .i64 n] => some (.agg [.lit (.string t.data.toList), .lit (.int .i64 n)], [])
  | _ => none
def fileElem : Value → Option (DataW Unit × List MemPlace)
  | .agg c => fileList c.toList
  | _ => none
def fileD (t : List UInt8) (n : Int) : DataW Unit := .agg [.lit (.string t), .lit (.int .i64 n)]
theorem fileElem_mk (t : ByteArray) (n : Int) : fileElem (.agg #[.string t, .int .i64 n]) = some (fileD t.data.toList n, []) := rfl
theorem fileElem_inv {v : Value} {z : DataW Unit × List MemPlace} (h : fileElem v = some z) : ∃ t n, v = .agg #[.string t, .int .i64 n] ∧ z = (fileD t.data.toList n, []) := by
  unfold fileElem at h
  split at h
  · rename_i c
    generalize hl : c.toList = l at h
    unfold fileList at h
    split at h
    · injection h with h
      refine ⟨_, _, ?_, h.symm⟩
      rw [← Array.toArray_toList (xs := c), hl]
    · cases h
  · cases h
theorem keysStr : Keyed Tryz.prog 9 := string_keyed Tryz.underlying9
theorem zeroFile (w : World) : (zeroValue 87).run Tryz.prog w = .ok (.agg #[.string ⟨#[]⟩, .int .i64 0]) w := by kernel_rfl
/-- a name as a key. -/
def keyB (s : ByteArray) : Lit := .string s.data.toList
theorem keyB_of (s : ByteArray) (hs : s.size ≤ maxLen) : keyOf Tryz.prog 9 (.string s) = some (keyB s) := Go.WideMaps.keyOf_string_mk Tryz.underlying9 hs

/-- files: the map D (in block bm), how many were written (k), in block p. -/
structure FilesAt (w : World) (p bm : Nat) (D : DataW Unit) (k : Nat) : Prop where
  blk : w.heap[p]? = some (.cells #[.map (some bm), .int .i64 (k : Int)] 83 (0, 0))
  own : w.ownsMap Tryz.prog 9 fileElem bm (Maps.size D) D

theorem own_exact {w : World} {bm n : Nat} {D : DataW Unit} (h : w.ownsMap Tryz.prog 9 fileElem bm n D) : w.ownsMap Tryz.prog 9 fileElem bm (Maps.size D) D := by
  obtain ⟨es, clock, hb, F, _, rfl⟩ := h
  exact ⟨es, clock, hb, F, by simp [Maps.size, length_sorted], rfl⟩
/-- all but those two blocks stays. -/
structure Turned (p bm : Nat) (w w' : World) : Prop where
  os : w'.os = w.os
  tape : w'.tape = w.tape
  output : w'.output = w.output
  size : w.heap.size ≤ w'.heap.size
  block : ∀ k, k < w.heap.size → k ≠ p → k ≠ bm → w'.heap[k]? = w.heap[k]?
theorem Turned.refl (p bm : Nat) (w : World) : Turned p bm w w := ⟨rfl, rfl, rfl, Nat.le_refl _, fun _ _ _ _ => rfl⟩
theorem Turned.of {p bm : Nat} {w w' : World} (h : Below w.heap.size w w') : Turned p bm w w' := ⟨h.os, h.tape, h.output, h.size, fun k hk _ _ => h.block k hk⟩
theorem Turned.trans {p bm : Nat} {a b c : World} (h : Turned p bm a b) (g : Turned p bm b c) : Turned p bm a c :=
  ⟨g.os.trans h.os, g.tape.trans h.tape, g.output.trans h.output, Nat.le_trans h.size g.size, fun k hk h1 h2 => (g.block k (Nat.lt_of_lt_of_le hk h.size) h1 h2).trans (h.block k hk h1 h2)⟩
theorem Turned.below {p bm B : Nat} {w w' : World} (h : Turned p bm w w') (hB : B ≤ w.heap.size) (h1 : B ≤ p) (h2 : B ≤ bm) : Below B w w' :=
  ⟨h.os, h.tape, h.output, h.size, fun k hk => h.block k (by omega) (by omega) (by omega)⟩

theorem FilesAt.c0 {w : World} {p bm : Nat} {D : DataW Unit} {k : Nat} (h : FilesAt w p bm D k) : w.cell? ⟨p, 0, none⟩ = some (.map (some bm)) := by simp [World.cell?, h.blk]
theorem FilesAt.c1 {w : World} {p bm : Nat} {D : DataW Unit} {k : Nat} (h : FilesAt w p bm D k) : w.cell? ⟨p, 1, none⟩ = some (.int .i64 (k : Int)) := by simp [World.cell?, h.blk]
theorem FilesAt.fz {w : World} {p bm : Nat} {D : DataW Unit} {k : Nat} (h : FilesAt w p bm D k) (i : Nat) : w.frozen? ⟨p, i, none⟩ = false := by simp [World.frozen?, h.blk]
theorem FilesAt.lt {w : World} {p bm : Nat} {D : DataW Unit} {k : Nat} (h : FilesAt w p bm D k) : p < w.heap.size := (Array.getElem?_eq_some_iff.1 h.blk).1
theorem FilesAt.ne {w : World} {p bm : Nat} {D : DataW Unit} {k : Nat} (h : FilesAt w p bm D k) : p ≠ bm := by
  intro e
  obtain ⟨es, clock, hb, _⟩ := h.own
  have := h.blk
  rw [e, hb] at this
  cases this
theorem FilesAt.later {w w' : World} {p bm : Nat} {D : DataW Unit} {k : Nat} (h : FilesAt w p bm D k) (hb : Below w.heap.size w w') : FilesAt w' p bm D k :=
  ⟨(hb.block p h.lt).trans h.blk, h.own.kept (row := none) ⟨hb.os, hb.tape, hb.output, hb.size, fun j hj _ => hb.block j hj⟩ (by simp)⟩
/-- the look-up of a name. -/
theorem FilesAt.look {w : World} {p bm : Nat} {D : DataW Unit} {k : Nat} (h : FilesAt w p bm D k) (s : ByteArray) (hs : s.size ≤ maxLen) :
    ∃ t n, (Instr.lookup 81 (.map (some bm)) (.string s) true).run Tryz.prog w = .ok (.tuple #[.agg #[.string t, .int .i64 n], .bool (Maps.has D (keyB s))]) w ∧ D.atKey (keyB s) (fileD [] 0) = fileD t.data.toList n := by
  obtain ⟨v, ps, hrun, hR⟩ := h.own.look_ok keysStr Tryz.underlying81 (zeroFile w) (fileElem_mk ⟨#[]⟩ 0) (keyB_of s hs)
  obtain ⟨t, n, rfl, hz⟩ := fileElem_inv hR
  exact ⟨t, n, hrun, congrArg Prod.fst hz⟩
end Go.Proofs.YtieldgdkkfkehaaGreatDoor

namespace Go.Proofs.YtieldgdkkfkehaaGreatDoor
open Go.RowKit Go.Maps



theorem new_any (w : World) :
    Calls Tryz.prog 9 #[] w fun e w' => ∃ p bm, e = .returned (.pointer (some ⟨p, 0, none⟩)) ∧ w.heap.size ≤ p ∧ w.heap.size ≤ bm ∧ FilesAt w' p bm (.map []) 0 ∧ Below w.heap.size w w' := by
  have hmm := @run_makeMap Tryz.prog
  go_enter Tryz.func9, Tryz.ntmps9
  go_wp2
  go_ret
  refine ⟨w.heap.size + 1, w.heap.size, rfl, by omega, Nat.le_refl _, ⟨?_, ?_⟩, ((Below.refl _ _).alloc (Nat.le_refl _) _).alloc (by simp) _⟩
  · have e : (w.alloc (.map #[] 0)).heap.size = w.heap.size + 1 := by simp
    rw [← e]
    show ((w.alloc (.map #[] 0)).heap.push _)[(w.alloc (.map #[] 0)).heap.size]? = _
    rw [Array.getElem?_push_size]
    rfl
  · exact (World.ownsMap_made w _ _ _).alloc _

/-- what Read answers. -/
structure ReadIs (D : DataW Unit) (s t : ByteArray) (n : Int) (f : Nat) : Prop where
  yes : Maps.has D (keyB s) = true → f = 0 ∧ D.atKey (keyB s) (fileD [] 0) = fileD t.data.toList n
  no : Maps.has D (keyB s) = false → f = 5 ∧ t = ⟨#[]⟩ ∧ n = 0

/-- a call of Read that returned. -/
def ReadEnd (D : DataW Unit) (s : ByteArray) (e : Ending) : Prop := ∃ t n f, e = .returned (.tuple #[.string t, .int .i64 n, errV f]) ∧ ReadIs D s t n f

theorem fileRead_any (w : World) (p bm : Nat) (D : DataW Unit) (k : Nat) (s : ByteArray) (h : FilesAt w p bm D k) (hs : s.size ≤ maxLen) :
    Calls Tryz.prog 53 #[.pointer (some ⟨p, 0, none⟩), .string s] w fun e w' => ReadEnd D s e ∧ Below w.heap.size w w' := by
  obtain ⟨t, n, hrun, hat⟩ := h.look s hs
  have c0 := h.c0
  have HT : Hid (D.atKey (keyB s) (fileD [] 0) = fileD t.data.toList n) := hat
  clear hat
  cases hh : Maps.has D (keyB s) with
  | true =>
    rw [hh] at hrun
    have HH : Hid (Maps.has D (keyB s) = true) := hh
    clear hh
    go_enter Tryz.func53, Tryz.ntmps53
    go_wp2
    go_quiet (fail)
    go_wp2
    go_ret3
    exact ⟨⟨t, n, 0, rfl, fun _ => ⟨rfl, HT.out⟩, fun h => absurd (h.symm.trans HH.out) (by decide)⟩, below_drewN ((Below.refl _ _).alloc (Nat.le_refl _) _) _⟩
  | false =>
    rw [hh] at hrun
    have HH : Hid (Maps.has D (keyB s) = false) := hh
    clear hh
    go_enter Tryz.func53, Tryz.ntmps53
    go_wp2
    go_ret3
    exact ⟨⟨⟨#[]⟩, 0, 5, rfl, fun h => absurd (h.symm.trans HH.out) (by decide), fun _ => ⟨rfl, rfl, rfl⟩⟩, (Below.refl _ _).alloc (Nat.le_refl _) _⟩

/-- how many others. -/
def othersF (D : DataW Unit) (s : ByteArray) : Int := if Maps.has D (keyB s) = true then (Maps.size D : Int) - 1 else Maps.size D

theorem others_any (w : World) (p bm : Nat) (D : DataW Unit) (k : Nat) (s : ByteArray) (h : FilesAt w p bm D k) (hs : s.size ≤ maxLen) (hz : Maps.size D ≤ 1000) :
    Calls Tryz.prog 32 #[.pointer (some ⟨p, 0, none⟩), .string s] w fun e w' => e = .returned (.int .i64 (othersF D s)) ∧ Below w.heap.size w w' := by
  obtain ⟨t, n, hrun, hat⟩ := h.look s hs
  have hlen := fun (ob : Obj) (ty : TypeId) => (h.own.alloc ob).len Tryz.underlying81 ty
  have c0 := h.c0
  have c0' : ∀ ob : Obj, (w.alloc ob).cell? ⟨p, 0, none⟩ = some (.map (some bm)) := fun ob => by rw [World.cell?_alloc_lt _ _ _ h.lt]; exact c0
  clear hat
  cases hh : Maps.has D (keyB s) with
  | true =>
    have HO : Hid (othersF D s = (Maps.size D : Int) - 1) := if_pos hh
    rw [hh] at hrun
    clear hh
    go_enter Tryz.func32, Tryz.ntmps32
    go_wp2
    go_ret
    rw [HO.out]
    exact ⟨rfl, (Below.refl _ _).alloc (Nat.le_refl _) _⟩
  | false =>
    have HO : Hid (othersF D s = (Maps.size D : Int)) := if_neg (by simp [hh])
    rw [hh] at hrun
    clear hh
    go_enter Tryz.func32, Tryz.ntmps32
    go_wp2
    go_ret
    rw [HO.out]
    exact ⟨rfl, (Below.refl _ _).alloc (Nat.le_refl _) _⟩

/-- the map's own block turned. -/
theorem FilesAt.map_turned {w w' : World} {p bm : Nat} {D D' : DataW Unit} {k n : Nat} (h : FilesAt w p bm D k) (ho : w'.ownsMap Tryz.prog 9 fileElem bm n D') (ht : w.mapTurned w' bm) : FilesAt w' p bm D' k ∧ Turned p bm w w' := by
  have hg := ht.grown
  refine ⟨⟨(hg.block p h.lt (fun e => h.ne (Option.some.inj e))).trans h.blk, own_exact ho⟩, hg.os, hg.tape, hg.output, hg.size, fun j hj _ h2 => hg.block j hj (fun e => h2 (Option.some.inj e))⟩

theorem remove_any (w : World) (p bm : Nat) (D : DataW Unit) (k : Nat) (s : ByteArray) (h : FilesAt w p bm D k) (hs : s.size ≤ maxLen) (F : Nat) (hF : F = if Maps.has D (keyB s) = true then 0 else 5) :
    Calls Tryz.prog 22 #[.pointer (some ⟨p, 0, none⟩), .string s] w fun e w' => e = .returned (errV F) ∧ FilesAt w' p bm (D.del (keyB s)) k ∧ Turned p bm w w' := by
  obtain ⟨t, n, hrun, hat⟩ := h.look s hs
  have c0 := h.c0
  clear hat
  have hb : Below w.heap.size w (w.alloc (.cells #[.string t, .int .i64 n] 87)) := (Below.refl _ _).alloc (Nat.le_refl _) _
  have h2 := h.later hb
  cases hh : Maps.has D (keyB s) with
  | true =>
    rw [hh] at hrun
    rw [hh, if_pos rfl] at hF
    subst hF
    have c0' := h2.c0
    clear hh
    go_enter Tryz.func22, Tryz.ntmps22
    go_wp2_with (first
      | (at_delete; refine wpList_delete_own _ rfl _ _ 81 9 rfl 87 keysStr Tryz.underlying81 fileElem bm _ D rfl h2.own _ _ rfl (keyB_of s hs) ?_; intro w1 hown1 hturn1)
      | go_in)
    go_ret
    obtain ⟨g1, g2⟩ := h2.map_turned hown1 hturn1
    exact ⟨rfl, g1, (Turned.of hb).trans g2⟩
  | false =>
    rw [hh] at hrun
    rw [hh, if_neg (by decide)] at hF
    subst hF
    have HD : D.del (keyB s) = D := del_of_not_has hh
    rw [HD]
    clear hh HD
    go_enter Tryz.func22, Tryz.ntmps22
    go_wp2
    go_ret
    exact ⟨rfl, h2, Turned.of hb⟩
end Go.Proofs.YtieldgdkkfkehaaGreatDoor
