/-
  Rows of entries of a call's own: where they lie, and what keeps them.
  The lines of a text, one by one: what the iterator of package shelf's cut hands to a loop.
  What parse of package shelf returns, of the lines of entries that a shelf may have: those entries.
  What entries and keep of package shelf do, on a disk on which a shelf stands.
-/
import Derived.Test.YtidabcoodolddaaGreatDoorShelfSmall
import Derived.Test.YtidabcoodolddaaGreatDoorEntOne
import Derived.Test.YtidabcoodolddaaGreatDoorDiskOne
import Derived.Test.YtidabcoodolddaaGreatDoorPlainLine
import Derived.RangeFuncNested
import Derived.RangeFuncBound
import Derived.RangeFuncCalls
import Derived.RangeFuncLeaves
import Derived.RangeFuncBox
import Derived.Shelf.Abstract
import Derived.Shelf.RegionOpen
import Derived.WalkKit
import Derived.OwnWalkIn
import Derived.TacticsInMore
import Derived.LoopNIn
import Derived.LoopIn
import Derived.Maps.AppendAt
import Derived.Test.YtidabcoodolddaaGreatDoorShelf
import Derived.Test.YtidabcoodolddaaGreatDoorShelfLow
import Derived.Deep.Cut
import Derived.Deep.CutRange
namespace Go.Proofs.YtidabcoodolddaaGreatDoor
open Go.RowKit

/-- the rows of an entry lie below B, or in blocks of their own kind. -/
structure EntIn (w : World) (B : Nat) (v : EntV) (e : EntF) : Prop where
  here : EntAt w v e
  tP : e.nP = 0 ∨ ∃ bk o, v.aP = some ⟨bk, o, none⟩ ∧ (bk < B ∨ ∃ C, w.heap[bk]? = some (.cells C 115 (0, 0)))
  tQ : e.nQ = 0 ∨ ∃ bk o, v.aQ = some ⟨bk, o, none⟩ ∧ (bk < B ∨ ∃ C, w.heap[bk]? = some (.cells C 167 (0, 0)))
theorem EntNew.within {w : World} {v : EntV} {e : EntF} (h : EntNew w v e) (B : Nat) : EntIn w B v e :=
  ⟨h.here, h.tP.imp id fun ⟨bk, o, C, ha, hC⟩ => ⟨bk, o, ha, .inr ⟨C, hC⟩⟩, h.tQ.imp id fun ⟨bk, o, C, ha, hC⟩ => ⟨bk, o, ha, .inr ⟨C, hC⟩⟩⟩
/-- an entry that lay there when memory was w. -/
theorem EntAt.within {w : World} {v : EntV} {e : EntF} (h : EntAt w v e) : EntIn w w.heap.size v e := by
  refine ⟨h, ?_, ?_⟩
  · rcases h.parts with h0 | ⟨bk, o, ha, hc⟩
    · exact .inl h0
    · by_cases h0 : e.nP = 0
      · exact .inl h0
      · exact .inr ⟨bk, o, ha, .inl (World.block_lt_of_cell? _ _ (hc 0 (by omega)).1)⟩
  · rcases h.pats with h0 | ⟨bk, o, ha, hc⟩
    · exact .inl h0
    · by_cases h0 : e.nQ = 0
      · exact .inl h0
      · exact .inr ⟨bk, o, ha, .inl (World.block_lt_of_cell? _ _ (hc 0 (by omega)).1)⟩
/-- what lies below B, and the rows of entries, stay. -/
structure Keeps (B : Nat) (w w' : World) : Prop where
  low : ∀ k : Nat, k < B → w'.heap[k]? = w.heap[k]?
  kind : ∀ (k : Nat) (C : Array Value) (t : TypeId), (t = 115 ∨ t = 167) → w.heap[k]? = some (.cells C t (0, 0)) → w'.heap[k]? = w.heap[k]?
theorem Keeps.refl (B : Nat) (w : World) : Keeps B w w := ⟨fun _ _ => rfl, fun _ _ _ _ _ => rfl⟩
theorem Keeps.trans {B : Nat} {a b c : World} (h : Keeps B a b) (g : Keeps B b c) : Keeps B a c :=
  ⟨fun k hk => (g.low k hk).trans (h.low k hk), fun k C t ht hk => (g.kind k C t ht ((h.kind k C t ht hk).trans hk)).trans (h.kind k C t ht hk)⟩
theorem Keeps.of_below {B : Nat} {w w' : World} (hB : B ≤ w.heap.size) (h : Below w.heap.size w w') : Keeps B w w' :=
  ⟨fun k hk => h.block k (by omega), fun k _ _ _ hk => h.block k (Array.getElem?_eq_some_iff.1 hk).1⟩
theorem Keeps.of_spun {B : Nat} {w w' : World} (h : Spun B w w') : Keeps B w w' :=
  ⟨fun k hk => h.below.block k hk, fun k C t ht hk => (h.block k _ hk (fun ⟨c, t', f, e, h'⟩ => by
    injection e with _ e2 _
    subst e2
    rcases ht with rfl | rfl <;> exact absurd h' (by decide))).trans hk.symm⟩
theorem Keeps.set {B g i : Nat} {w : World} {C : Array Value} {t : TypeId} {f : Nat × Nat} (hg : w.heap[g]? = some (.cells C t f)) (ht : t ≠ 115 ∧ t ≠ 167) (hB : B ≤ g) (v : Value) : Keeps B w (w.setCell ⟨g, i, none⟩ v) :=
  ⟨fun k hk => Below.heap_setCell _ _ _ _ (by show k ≠ g; omega), fun k C' t' ht' hk => Below.heap_setCell _ _ _ _ (fun e => by
    have e : k = g := e
    subst e
    rw [hg] at hk
    injection hk with hk
    injection hk with _ h2 _
    subst h2
    rcases ht' with h | h
    · exact ht.1 h
    · exact ht.2 h)⟩
/-- another row grew. -/
theorem Keeps.grown {B B1 : Nat} {w w' : World} {e : TypeId} {s n : Nat} {v : Value} {xs : List Value} (hB : B ≤ B1) (hw : B ≤ w.heap.size) (h : w.ownsRow B1 e s v n xs) (he : e ≠ 115 ∧ e ≠ 167) (hg : w.grownBy w' v.ownBlock) : Keeps B w w' := by
  have key : ∀ k, some k = v.ownBlock → B1 ≤ k ∧ ∃ C, w.heap[k]? = some (.cells C e (0, 0)) := fun k hk => by
    rcases h.2 with ⟨rfl, _⟩ | ⟨g, cap, cur, rfl, hb, hgb, _⟩
    · simp [Value.ownBlock] at hk
    · have : k = g := by simpa [Value.ownBlock] using hk
      subst this
      exact ⟨hb, cur, hgb⟩
  refine ⟨fun k hk => hg.block k (by omega) (fun e' => by have := (key k e').1; omega), fun k C t ht hk => hg.block k (Array.getElem?_eq_some_iff.1 hk).1 (fun e' => ?_)⟩
  obtain ⟨C', hC'⟩ := (key k e').2
  rw [hC'] at hk
  injection hk with hk
  injection hk with _ h2 _
  subst h2
  rcases ht with h | h
  · exact he.1 h
  · exact he.2 h
theorem EntIn.keeps {w w' : World} {B : Nat} {v : EntV} {e : EntF} (h : EntIn w B v e) (hk : Keeps B w w') : EntIn w' B v e := by
  have kP : ∀ bk, (bk < B ∨ ∃ C, w.heap[bk]? = some (.cells C 115 (0, 0))) → w'.heap[bk]? = w.heap[bk]? := fun bk hb => by
    rcases hb with hb | ⟨C, hC⟩
    · exact hk.low bk hb
    · exact hk.kind bk C _ (.inl rfl) hC
  have kQ : ∀ bk, (bk < B ∨ ∃ C, w.heap[bk]? = some (.cells C 167 (0, 0))) → w'.heap[bk]? = w.heap[bk]? := fun bk hb => by
    rcases hb with hb | ⟨C, hC⟩
    · exact hk.low bk hb
    · exact hk.kind bk C _ (.inr rfl) hC
  refine ⟨⟨?_, ?_⟩, h.tP.imp id fun ⟨bk, o, ha, hb⟩ => ⟨bk, o, ha, hb.imp id fun ⟨C, hC⟩ => ⟨C, (kP bk (.inr ⟨C, hC⟩)).trans hC⟩⟩, h.tQ.imp id fun ⟨bk, o, ha, hb⟩ => ⟨bk, o, ha, hb.imp id fun ⟨C, hC⟩ => ⟨C, (kQ bk (.inr ⟨C, hC⟩)).trans hC⟩⟩⟩
  · rcases h.tP with h0 | ⟨bk, o, ha, hb⟩
    · exact .inl h0
    · have hs := kP bk hb
      rcases h.here.parts with h0 | ⟨bk', o', ha', hc⟩
      · exact .inl h0
      · rw [ha] at ha'
        injection ha' with ha'
        injection ha' with h1 h2
        subst h1 h2
        exact .inr ⟨bk, o, ha, fun i hi => ⟨(World.cell?_of_block (a := ⟨bk, _, none⟩) hs).trans (hc i hi).1, (World.cell?_of_block (a := ⟨bk, _, none⟩) hs).trans (hc i hi).2.1, (World.cell?_of_block (a := ⟨bk, _, none⟩) hs).trans (hc i hi).2.2⟩⟩
  · rcases h.tQ with h0 | ⟨bk, o, ha, hb⟩
    · exact .inl h0
    · have hs := kQ bk hb
      rcases h.here.pats with h0 | ⟨bk', o', ha', hc⟩
      · exact .inl h0
      · rw [ha] at ha'
        injection ha' with ha'
        injection ha' with h1 h2
        subst h1 h2
        exact .inr ⟨bk, o, ha, fun i hi => ⟨(World.cell?_of_block (a := ⟨bk, _, none⟩) hs).trans (hc i hi).1, (World.cell?_of_block (a := ⟨bk, _, none⟩) hs).trans (hc i hi).2.1, (World.cell?_of_block (a := ⟨bk, _, none⟩) hs).trans (hc i hi).2.2⟩⟩
theorem EntIn.more {w : World} {B B' : Nat} {v : EntV} {e : EntF} (h : EntIn w B v e) (hB : B ≤ B') : EntIn w B' v e :=
  ⟨h.here, h.tP.imp id fun ⟨bk, o, ha, hb⟩ => ⟨bk, o, ha, hb.imp (fun h => Nat.lt_of_lt_of_le h hB) id⟩, h.tQ.imp id fun ⟨bk, o, ha, hb⟩ => ⟨bk, o, ha, hb.imp (fun h => Nat.lt_of_lt_of_le h hB) id⟩⟩

/-- the cells of entries. -/
def entL (V : Nat → EntV) (E : Nat → EntF) (i : Nat) : List Value := [.string (E i).root, .slice (V i).aP (E i).nP (V i).cP, .slice (V i).aQ (E i).nQ (V i).cQ]
/-- a row of k entries of the call's own (from B on); what they lead to lies below B0, or in blocks of its own kind. -/
structure EntsOwn (w : World) (B0 B : Nat) (v : Value) (k : Nat) (V : Nat → EntV) (E : Nat → EntF) : Prop where
  row : w.ownsRow B 62 3 v k (joinC (entL V E) k)
  ins : ∀ i, i < k → EntIn w B0 (V i) (E i)
theorem EntsOwn.ents {w : World} {B0 B : Nat} {v : Value} {k : Nat} {V : Nat → EntV} {E : Nat → EntF} (h : EntsOwn w B0 B v k V E) : ∃ a c, v = .slice a k c ∧ EntsRow w a k V E := by
  obtain ⟨a, c, rfl, hr⟩ := rows3 (fun _ => rfl) h.row
  refine ⟨a, c, rfl, ?_⟩
  rcases hr with h0 | ⟨bk, hbk, ha, hc, _⟩
  · exact .inl h0
  · refine .inr ⟨bk, 0, ha, fun i hi => ⟨?_, ?_, ?_, (h.ins i hi).here⟩⟩
    · have := hc i hi 0 _ rfl
      simpa using this
    · have := hc i hi 1 _ rfl
      simpa using this
    · have := hc i hi 2 _ rfl
      simpa using this
theorem EntsOwn.keeps {w w' : World} {B0 B : Nat} {v : Value} {k : Nat} {V : Nat → EntV} {E : Nat → EntF} (h : EntsOwn w B0 B v k V E) (hk : Keeps B0 w w') (hr : ∀ b, v.ownBlock = some b → w'.heap[b]? = w.heap[b]?) : EntsOwn w' B0 B v k V E :=
  ⟨own_kept h.row hr, fun i hi => (h.ins i hi).keeps hk⟩
theorem EntsOwn.later {w w' : World} {B0 B : Nat} {v : Value} {k : Nat} {V : Nat → EntV} {E : Nat → EntF} (h : EntsOwn w B0 B v k V E) (hB : B0 ≤ w.heap.size) (hb : Below w.heap.size w w') : EntsOwn w' B0 B v k V E :=
  h.keeps (Keeps.of_below hB hb) fun b e => by
    obtain ⟨C, hC⟩ := own_kind h.row e
    exact hb.block b (Array.getElem?_eq_some_iff.1 hC).1
theorem EntsOwn.spun {w w' : World} {B0 B : Nat} {v : Value} {k : Nat} {V : Nat → EntV} {E : Nat → EntF} (h : EntsOwn w B0 B v k V E) (hs : Spun B0 w w') : EntsOwn w' B0 B v k V E :=
  h.keeps (Keeps.of_spun hs) fun b e => by
    obtain ⟨C, hC⟩ := own_kind h.row e
    exact (hs.block b _ hC (fun ⟨c, t', f, e, h'⟩ => by
      injection e with _ e2 _
      subst e2
      exact absurd h' (by decide))).trans hC.symm
theorem EntsOwn.congr {w : World} {B0 B : Nat} {v : Value} {k : Nat} {V V' : Nat → EntV} {E E' : Nat → EntF} (h : EntsOwn w B0 B v k V E) (e : ∀ i, i < k → V i = V' i ∧ E i = E' i) : EntsOwn w B0 B v k V' E' :=
  ⟨by
    rw [← joinC_congr (g := entL V E) (fun i hi => by unfold entL; rw [(e i hi).1, (e i hi).2])]
    exact h.row, fun i hi => by rw [← (e i hi).1, ← (e i hi).2]; exact h.ins i hi⟩
/-- an entry more. -/
def addV {α : Type} (V : Nat → α) (k : Nat) (x : α) (i : Nat) : α := if i = k then x else V i
theorem EntsOwn.added {w' : World} {B0 B : Nat} {v' : Value} {k : Nat} {V : Nat → EntV} {E : Nat → EntF} {x : EntV} {e : EntF} (hi : ∀ i, i < k → EntIn w' B0 (V i) (E i)) (he : EntIn w' B0 x e)
    (hr : w'.ownsRow B 62 3 v' (k + 1) (joinC (entL V E) k ++ [.string e.root, .slice x.aP e.nP x.cP, .slice x.aQ e.nQ x.cQ])) : EntsOwn w' B0 B v' (k + 1) (addV V k x) (addV E k e) := by
  refine ⟨?_, fun i hlt => ?_⟩
  · show w'.ownsRow B _ 3 v' (k + 1) (joinC (entL (addV V k x) (addV E k e)) k ++ entL (addV V k x) (addV E k e) k)
    rw [joinC_congr (h := entL V E) (fun i hi => by unfold entL addV; rw [if_neg (by omega), if_neg (by omega)])]
    unfold entL addV
    rw [if_pos rfl, if_pos rfl]
    exact hr
  · unfold addV
    by_cases h : i = k
    · rw [if_pos h, if_pos h]; exact he
    · rw [if_neg h, if_neg h]; exact hi i (by omega)
end Go.Proofs.YtidabcoodolddaaGreatDoor

namespace Go.Proofs.YtidabcoodolddaaGreatDoor
open Go.RowKit Go.Shelf

attribute [local go_sem] Oper.semAt_some

/-- a line that is an entry's. -/
abbrev Ln := { x : ByteArray // (parseE x).1 = 0 ∧ x.size ≤ 1000 }
def upto (X : Nat → Ln) (k : Nat) : List Ln := (List.range k).map X
theorem upto_succ (X : Nat → Ln) (k : Nat) : upto X (k + 1) = upto X k ++ [X k] := by simp [upto, List.range_succ]
theorem upto_len (X : Nat → Ln) (k : Nat) : (upto X k).length = k := by simp [upto]
theorem upto_prefix (X : Nat → Ln) : ∀ {i k : Nat}, i ≤ k → upto X i <+: upto X k
  | i, 0, h => by obtain rfl : i = 0 := by omega
                  exact List.prefix_refl _
  | i, k + 1, h => by
    by_cases e : i = k + 1
    · subst e; exact List.prefix_refl _
    · rw [upto_succ]
      exact (upto_prefix X (by omega : i ≤ k)).trans (List.prefix_append _ _)
/-- what a round keeps: all below n₀, and the text. -/
def KpC (n₀ Bn : Nat) (W W' : World) : Prop := Below n₀ W W' ∧ W'.heap[Bn]? = W.heap[Bn]?
theorem KpC.trans {n₀ Bn : Nat} {A B C : World} (h : KpC n₀ Bn A B) (g : KpC n₀ Bn B C) : KpC n₀ Bn A C := ⟨h.1.trans g.1, g.2.trans h.2⟩
theorem KpC.put {n₀ Bn m : Nat} (h1 : n₀ ≤ m) (h2 : Bn < m) (W : World) (l : Nat) (o o' : Obj) (hl : m ≤ l) (_ : W.heap[l]? = some o) (_ : o.isCells = false) (_ : o.isWalk = false) : KpC n₀ Bn W (W.putObj l o') :=
  ⟨⟨rfl, rfl, rfl, by simp, fun k hk => World.putObj_heap_other (by omega)⟩, World.putObj_heap_other (by omega)⟩
set_option maxRecDepth 100000 in
set_option maxHeartbeats 4000000 in
theorem cut1_in (n : Nat) (hn : 2 ≤ n) (l Bn n₀ k : Nat) (X : Nat → Ln) (E : Nat → EntF) (T : ByteArray) (hT : T.data.toList = linesE E k) (hTs : T.size ≤ 2256) (hX : ∀ i, i < k → EntOk (E i) ∧ (X i).1 = ⟨(lineE (E i)).toArray⟩) (J Jx : List Ln → World → Prop)
    (hY : ∀ pre x W, J pre W → pre.length < k → YieldAt Fence.wide (n - 1) Tryz.prog l #[.string x.1] W fun e W' =>
      (e = .returned (.bool true) ∧ J (pre ++ [x]) W' ∧ KpC n₀ Bn W W') ∨ (e = .returned (.bool false) ∧ Jx (pre ++ [x]) W'))
    (W : World) (hBn : Boxed W Bn 9 (.string T)) (h0 : J [] W) :
    CallsIn Fence.wide n Tryz.prog 124 #[.func (.yield l) #[] #[], .pointer (some ⟨Bn, 0, none⟩)] W fun e W' => (∃ v, e = .returned v) ∧
      ((∃ ys, ys = upto X k ∧ J ys W') ∨ (∃ pre, pre <+: upto X k ∧ Jx pre W')) := by
  refine callsIn_of_wp Tryz.func124 rfl trivial ?_ rfl
  simp only [Tryz.ntmps124, List.size_toArray, List.length_cons, List.length_nil, Nat.reduceAdd, Nat.reduceSub, Array.replicate_succ, Array.replicate_zero, List.push_toArray, List.append_toArray, List.nil_append, List.cons_append]
  gi_wp2
  gi_loopw [3] (fun p wr => ∃ i : Nat, i ≤ k ∧ p = .int .i64 ((linesE E i).length : Int) ∧ Boxed wr Bn 9 (.string T) ∧ J (upto X i) wr)
    (fun p _ => T.size - (intOf p).toNat)
  case atStart => exact ⟨0, Nat.zero_le _, rfl, hBn, h0⟩
  case round =>
    obtain ⟨i, hi, rfl, hB, hJ⟩ := hrel
    have hc := hB.cell
    have hsz : T.size = (linesE E k).length := by rw [← hT]; simp
    by_cases hlt : i < k
    · obtain ⟨hOk, hXi⟩ := hX i hlt
      obtain ⟨r, hr1, hr2, hr3⟩ := linesE_cut hlt hOk
      have hp := lineE_pos (E i)
      obtain ⟨m, hm⟩ : ∃ m, (lineE (E i)).length = m + 1 := ⟨(lineE (E i)).length - 1, by omega⟩
      have hlen : T.size = (linesE E i).length + (m + 1 + r.length) := by rw [hsz, hr3]; simp [hm]
      have HU : Hid (upto X (i + 1) = upto X i ++ [X i]) := upto_succ X i
      have HN : Hid (((linesE E (i + 1)).length : Int) = ((linesE E i).length : Int) + (m : Int) + 1) := by show ((linesE E (i + 1)).length : Int) = _; rw [linesE_succ]; simp [hm]; omega
      have HXD : Hid ((T.extract (linesE E i).length T.size).data.toList = lineE (E i) ++ r) := by
        show (T.extract (linesE E i).length T.size).data.toList = _
        rw [Lib.extract_data, hT, hr1, List.take_of_length_le (by simp [hm]; omega)]
      have HXL : Hid (T.extract (linesE E i).length ((linesE E i).length + m + 1) = (X i).1) := by
        show T.extract (linesE E i).length ((linesE E i).length + m + 1) = _
        rw [hXi]
        apply ByteArray.ext
        apply Array.ext'
        rw [Lib.extract_data, hT, hr1, show (linesE E i).length + m + 1 - (linesE E i).length = (lineE (E i)).length by omega]
        simp
      have hiv : Lib.indexByte (lineE (E i) ++ r) 10 = (m : Int) := by rw [hr2, hm]; simp
      have HI : ∀ w, Calls Tryz.prog 125 #[.string (T.extract (linesE E i).length T.size), .int .u8 10] w fun e w' => e = .returned (.int .i64 (m : Int)) ∧ w' = w := fun w => by
        have := Tryz.strings_IndexByte (T.extract (linesE E i).length T.size) 10 w
        rw [HXD.out, show ((10 : Int).toNat.toUInt8) = 10 from rfl, hiv] at this
        exact this
      obtain ⟨fn, tmps, assign, body, hy, hR⟩ := hY (upto X i) (X i) wr hJ (by rw [upto_len]; exact hlt)
      have HLEN : Hid (T.size = (linesE E i).length + (m + 1 + r.length)) := hlen
      have h1 : ((linesE E i).length : Int) < (T.size : Int) := by omega
      have h2 : ((linesE E i).length : Int) + (m : Int) + 1 ≤ (T.size : Int) := by omega
      have h3 : (0 : Int) ≤ ((linesE E i).length : Int) := by omega
      have h4 : (0 : Int) ≤ (m : Int) := by omega
      have h5 : (T.size : Int) ≤ 2256 := by omega
      have HMP : Hid (upto X i <+: upto X k ∧ upto X (i + 1) <+: upto X k) := ⟨upto_prefix X (by omega), upto_prefix X (by omega)⟩
      clear hr1 hr2 hr3 hm hlen hp hsz hOk hXi hiv HXD hT hX hY hJ
      generalize hA : (linesE E i).length = A at *
      have HA : Hid ((linesE E i).length = A) := hA
      clear hA
      rw [← HXL.out] at hy
      gi_wp2
      refine ⟨trivial, fun _ => by omega, ?_⟩
      refine (callsIn_wide.2 (show Calls _ _ _ _ _ from HI _)).mono ?_
      rintro e w' ⟨rfl, hw⟩
      subst hw
      clear HI
      gi_wp2
      refine ⟨fun _ => by omega, hR.mono ?_⟩
      rintro e W3 (⟨rfl, hJ3, hk3⟩ | ⟨rfl, hJx3⟩)
      · rw [← HU.out] at hJ3
        have hB3 : Boxed W3 Bn 9 (.string T) := hk3.2.trans hB
        clear hR hy hB hc
        gi_wp2
        go_roundw
        case rel => exact ⟨i + 1, by omega, by rw [HN.out], hB3, hJ3⟩
        case measure => simp [intOf]; omega
      · rw [← HU.out] at hJx3
        gi_wp2
        refine bodyPost_ret (results_none rfl _ _ _) rfl ?_
        exact ⟨⟨_, rfl⟩, .inr ⟨_, HMP.out.2, hJx3⟩⟩
    · obtain rfl : i = k := by omega
      have h1 : ¬ ((linesE E i).length : Int) < (T.size : Int) := by omega
      clear hsz hlt
      gi_wp2
      go_end0
      exact ⟨⟨_, rfl⟩, .inl hJ⟩
/-- cut hands back the iterator, and the text in a box. -/
theorem cut_in (n : Nat) (T : ByteArray) (w : World) :
    CallsIn Fence.wide n Tryz.prog 97 #[.string T] w fun e w' => e = .returned (.func (.func 124) #[] #[.pointer (some ⟨w.heap.size, 0, none⟩)]) ∧ w' = w.alloc (.cells #[.string T] 9) := by
  refine callsIn_of_wp Tryz.func97 rfl trivial ?_ rfl
  simp only [Tryz.ntmps97, List.size_toArray, List.length_cons, List.length_nil, Nat.reduceAdd, Nat.reduceSub, Array.replicate_succ, Array.replicate_zero, List.push_toArray, List.append_toArray, List.nil_append, List.cons_append]
  gi_wp2
  go_ret
  exact ⟨rfl, rfl⟩
theorem cut_stops (n : Nat) (hn : 2 ≤ n) (Bn n₀ k : Nat) (X : Nat → Ln) (E : Nat → EntF) (T : ByteArray) (hT : T.data.toList = linesE E k) (hTs : T.size ≤ 2256) (hX : ∀ i, i < k → EntOk (E i) ∧ (X i).1 = ⟨(lineE (E i)).toArray⟩) (w : World) (hBn : Boxed w Bn 9 (.string T)) :
    SeqStopsK Fence.wide n Tryz.prog 124 #[.pointer (some ⟨Bn, 0, none⟩)] (fun x : Ln => #[Value.string x.1]) (KpC n₀ Bn) (fun ys => ys = upto X k) (fun pre => pre <+: upto X k) k w := fun l J Jx W hW _ _ hY h0 =>
  cut1_in n hn l Bn n₀ k X E T hT hTs hX J Jx hY W ((hW.block Bn hBn.lt).trans hBn) h0
end Go.Proofs.YtidabcoodolddaaGreatDoor

namespace Go.Proofs.YtidabcoodolddaaGreatDoor
open Go.RowKit Go.Shelf

attribute [local go_sem] Oper.semAt_some

/-- the entries of lines. -/
def entsOf (pre : List Ln) (i : Nat) : EntF := (parseE ((pre.map (·.1)).getD i ⟨#[]⟩)).2
theorem entsOf_old {pre : List Ln} {i : Nat} (x : Ln) (h : i < pre.length) : entsOf (pre ++ [x]) i = entsOf pre i := by
  unfold entsOf
  rw [List.map_append, List.getD_eq_getElem?_getD, List.getD_eq_getElem?_getD, List.getElem?_append_left (by simpa using h)]
theorem entsOf_new (pre : List Ln) (x : Ln) : entsOf (pre ++ [x]) pre.length = (parseE x.1).2 := by
  unfold entsOf
  rw [List.map_append, List.getD_eq_getElem?_getD, List.getElem?_append_right (by simp)]
  simp
theorem findF_some {E : Nat → EntF} {root : ByteArray} {n : Nat} : ∀ (m i : Nat), n - i = m → 0 ≤ findF E root n i → ∃ j, i ≤ j ∧ j < n ∧ (E j).root = root ∧ findF E root n i = (j : Int)
  | 0, i, hm, h => by rw [findF_end (by omega)] at h; exact absurd h (by decide)
  | m + 1, i, hm, h => by
    by_cases he : (E i).root = root
    · exact ⟨i, Nat.le_refl _, by omega, he, findF_hit (by omega) he⟩
    · rw [findF_miss (by omega) he] at h ⊢
      obtain ⟨j, h1, h2, h3, h4⟩ := findF_some m (i + 1) (by omega) h
      exact ⟨j, by omega, h2, h3, h4⟩
theorem findF_none {E : Nat → EntF} {root : ByteArray} {n : Nat} : ∀ (m i : Nat), n - i = m → findF E root n i < 0 → ∀ j, i ≤ j → j < n → (E j).root ≠ root
  | 0, i, hm, _ => fun j h1 h2 => by omega
  | m + 1, i, hm, h => fun j h1 h2 => by
    by_cases he : (E i).root = root
    · rw [findF_hit (by omega) he] at h; omega
    · rw [findF_miss (by omega) he] at h
      by_cases e : j = i
      · subst e; exact he
      · exact findF_none m (i + 1) (by omega) h j (by omega) h2
/-- between two lines. -/
def ParseIn (w : World) (T : ByteArray) (pre : List Ln) (W : World) : Prop :=
  ((∃ v, Boxed W (w.heap.size + 1 + 1) 116 v ∧ ∃ V, EntsOwn W 0 w.heap.size v pre.length V (entsOf pre)) ∧ Boxed W w.heap.size 116 (.slice none 0 0) ∧ Boxed W (w.heap.size + 1) 32 .nilIface ∧ Boxed W (w.heap.size + 1 + 1 + 1) 9 (.string T)) ∧ Below w.heap.size w W
theorem grown_cells {w w' : World} {row : Option Nat} (hg : w.grownBy w' row) (hr : ∀ r, row = some r → ∃ o : Obj, w.heap[r]? = some o ∧ o.isCells = false) {k : Nat} {C : Array Value} {t : TypeId} {f : Nat × Nat} (h : w.heap[k]? = some (.cells C t f)) : w'.heap[k]? = w.heap[k]? :=
  hg.block k (Array.getElem?_eq_some_iff.1 h).1 (fun e => by
    obtain ⟨o, ho, hc⟩ := hr k e.symm
    rw [h] at ho; cases ho; cases hc)
theorem parseIn_own (w : World) (T : ByteArray) (B : Nat) (hB : w.heap.size ≤ B) : OwnFrom B (ParseIn w T) := by
  refine OwnFrom.and (Own.from ?_ _) (ownFrom_below (Nat.le_refl _) hB)
  rintro pre A A' row ⟨⟨v, hv, V, hE⟩, h2, h3, h5⟩ hg hr
  refine ⟨⟨v, (grown_cells hg hr hv).trans hv, V, hE.keeps ⟨fun k hk => absurd hk (Nat.not_lt_zero _), fun k C t _ hk => grown_cells hg hr hk⟩ (fun b e => ?_)⟩, (grown_cells hg hr h2).trans h2, (grown_cells hg hr h3).trans h3, (grown_cells hg hr h5).trans h5⟩
  obtain ⟨C, hC⟩ := own_kind hE.row e
  exact grown_cells hg hr hC
/-- a line came whose root was there. -/
def ParseX (_ : Code) (pre : List Ln) (_ : World) : Prop := ∃ i, i + 1 < pre.length ∧ (entsOf pre i).root = (entsOf pre (pre.length - 1)).root
theorem Tryz.infoEntry : (Tryz.prog.info? 62).map (fun i => (i.zero, i.size, i.bytes)) = some (some (.agg #[.string ⟨#[]⟩, .slice none 0 0, .slice none 0 0]), 3, 64) := by kernel_rfl
/-- a box that is none of the row's, nor the list's, stays. -/
theorem box_added {w3 w5 : World} {tmp : Obj} {n₀ g B : Nat} {t : TypeId} {u v v' : Value} {k : Nat} {xs : List Value} (hb : Boxed w3 g t u) (ht : t ≠ 62) (hr : w3.ownsRow n₀ 62 3 v k xs) (hg : (w3.alloc tmp).grownBy w5 v.ownBlock) (hne : g ≠ B) : Boxed (w5.setCell ⟨B, 0, none⟩ v') g t u :=
  (Below.heap_setCell _ _ _ _ hne).trans ((hb.alloc tmp).kept hg (hb.not_row ht hr))
theorem keepsOthers_below {W W' : World} (h : Below W.heap.size W W') : KeepsOthers W W' := ⟨h.size, fun k _ hk _ => (h.block k (Array.getElem?_eq_some_iff.1 hk).1).trans hk⟩
set_option maxRecDepth 100000 in
set_option maxHeartbeats 4000000 in
theorem shelfParse_any (w : World) (hE : Env w) (E : Nat → EntF) (k : Nat) (hk : k ≤ 3) (hok : ∀ i, i < k → entF (E i) = 0) (hone : ∀ i j, i < k → j < k → (E i).root = (E j).root → i = j) (T : ByteArray) (hT : T.data.toList = linesE E k) :
    Calls Tryz.prog 69 #[.string T] w fun e w' => ∃ v V E', e = .returned (.tuple #[v, .nilIface]) ∧ EntsOwn w' 0 w.heap.size v k V E' ∧ (∀ i, i < k → SameE (E' i) (E i)) ∧ Below w.heap.size w w' := by
  have hTs : T.size ≤ 2256 := by
    have := linesE_len hk (fun i hi => entOk (hok i hi))
    rw [← hT] at this
    simpa using this
  have hX0 : ∀ i, i < k → (parseE ⟨(lineE (E i)).toArray⟩).1 = 0 ∧ SameE (parseE ⟨(lineE (E i)).toArray⟩).2 (E i) := fun i hi => parse_line (by rw [textE_ok (hok i hi)]) (by rw [textE_ok (hok i hi)])
  have oneE : Nonempty Ln := ⟨⟨⟨#[97, 32, 49, 32, 48, 32, 97, 32, 49, 32, 48, 10]⟩, by decide +kernel⟩⟩
  obtain ⟨X, hX⟩ : ∃ X : Nat → Ln, ∀ i, i < k → (X i).1 = ⟨(lineE (E i)).toArray⟩ := by
    refine ⟨fun i => if h : i < k then ⟨⟨(lineE (E i)).toArray⟩, (hX0 i h).1, by rw [ba_size]; have := lineE_len (entOk (hok i h)); omega⟩ else Classical.choice oneE, fun i hi => ?_⟩
    show (dite _ _ _ : Ln).1 = _
    rw [dif_pos hi]
  refine (callsIn_wide (n := 6)).1 ?_
  obtain ⟨i0, hi, hz0, hz1, hz2⟩ := info_parts Tryz.infoEntry
  refine callsIn_of_wp_marks Tryz.func69 rfl trivial ?_ rfl
  simp only [Tryz.ntmps69, List.size_toArray, List.length_cons, List.length_nil, Nat.reduceAdd, Nat.reduceSub, Array.replicate_succ, Array.replicate_zero, List.push_toArray, List.append_toArray, List.nil_append, List.cons_append]
  gi_wp2
  refine ⟨trivial, ?_⟩
  refine (cut_in _ T _).mono ?_
  rintro e w' ⟨rfl, rfl⟩
  have b2 := Boxed.new w 116 (.slice none 0 0)
  have b3 := Boxed.new (w.alloc (.cells #[.slice none 0 0] 116)) 32 .nilIface
  have b4 := Boxed.new ((w.alloc (.cells #[.slice none 0 0] 116)).alloc (.cells #[.nilIface] 32)) 116 (.slice none 0 0)
  have b5 := Boxed.new (((w.alloc (.cells #[.slice none 0 0] 116)).alloc (.cells #[.nilIface] 32)).alloc (.cells #[.slice none 0 0] 116)) 9 (.string T)
  simp only [World.size_alloc] at b3 b4 b5
  have b2' := ((b2.alloc (.cells #[.nilIface] 32)).alloc (.cells #[.slice none 0 0] 116)).alloc (.cells #[.string T] 9)
  have b3' := (b3.alloc (.cells #[.slice none 0 0] 116)).alloc (.cells #[.string T] 9)
  have b4' := b4.alloc (.cells #[.string T] 9)
  have hB0 : Below w.heap.size w ((((w.alloc (.cells #[.slice none 0 0] 116)).alloc (.cells #[.nilIface] 32)).alloc (.cells #[.slice none 0 0] 116)).alloc (.cells #[.string T] 9)) := ((((Below.refl _ w).alloc (Nat.le_refl _) _).alloc (by simp) _).alloc (by simp; omega) _).alloc (by simp; omega) _
  clear b2 b3 b4
  generalize hW0 : (((w.alloc (.cells #[.slice none 0 0] 116)).alloc (.cells #[.nilIface] 32)).alloc (.cells #[.slice none 0 0] 116)).alloc (.cells #[.string T] 9) = W0 at *
  have hzz : W0.heap.size = w.heap.size + 1 + 1 + 1 + 1 := by rw [← hW0]; simp
  clear hW0
  gi_wp2
  refine wpIn_rangeFunc_ownG rfl (by decide) (gf := 124) (lb := #[.pointer (some ⟨w.heap.size + 1 + 1 + 1, 0, none⟩)]) rfl trivial (enters_of Tryz.func124 (by kernel_rfl) rfl)
    (cut_stops 5 (by decide) (w.heap.size + 1 + 1 + 1) w.heap.size k X E T hT hTs (fun i hi => ⟨entOk (hok i hi), hX i hi⟩) W0 b5) KpC.trans (KpC.put (by omega) (by omega)) (Below.refl _ _) (fun _ => rfl)
    (ParseIn w T) ParseX (parseIn_own w T _ (by omega)) (fun _ _ _ _ _ hs _ _ => hs)
    ⟨⟨⟨_, b4', fun _ => ⟨none, 0, none, 0⟩, World.ownsRow_nil _ _ _ _, fun i hi => absurd hi (Nat.not_lt_zero _)⟩, b2', b3', b5⟩, hB0⟩
    (fun x => { tmps := #[.string T, undef, .pointer (some ⟨w.heap.size, 0, none⟩), .pointer (some ⟨w.heap.size + 1, 0, none⟩), .pointer (some ⟨w.heap.size + 1 + 1, 0, none⟩), .string x.1, undef, undef, .string T, .func (.func 124) #[] #[.pointer (some ⟨w.heap.size + 1 + 1 + 1, 0, none⟩)], .string x.1, undef, undef, undef, undef, undef, undef, undef, undef, undef, undef, undef, undef, undef, undef, undef, undef, undef, undef, undef, undef, undef, undef, undef, undef], defers := [] }) ?assign ?body ?done ?stop
  case assign =>
    intro l x W K hK
    gi_wp2
    exact hK
  case body =>
    rintro l pre x W ⟨⟨⟨v, hv, V, hEO⟩, h2, h3, h5⟩, hB⟩ hlt
    have HP := entParse_new x.1 W (hE.later hB) (by have := x.2.2; omega)
    rw [x.2.1, show errV 0 = .nilIface from rfl] at HP
    have hp3 : pre.length < 3 := by omega
    clear hX0 hX hok hone hT hTs b2' b3' b4' b5 hB0 oneE hE hk hlt
    have hER : entsOf (pre ++ [x]) pre.length = (parseE x.1).2 := entsOf_new pre x
    have HOLD : Hid (∀ i, i < pre.length → entsOf (pre ++ [x]) i = entsOf pre i) := fun i hi => entsOf_old x hi
    obtain ⟨a, c, rfl, hRow⟩ := hEO.ents
    generalize (parseE x.1).2 = en at *
    gi_wp2
    refine ⟨trivial, ?_⟩
    refine (CallsIn.inRound l (callsIn_wide.2 (show Calls _ _ _ _ _ from HP))).mono ?_
    rintro e w1 ⟨xv, rfl, hN, hb1⟩
    clear HP
    have hb2 : Below W.heap.size W (w1.alloc (.cells #[.string en.root, .slice xv.aP en.nP xv.cP, .slice xv.aQ en.nQ xv.cQ] 62)) := hb1.trans (((Below.refl _ _).alloc (Nat.le_refl _) _).mono hb1.size)
    have hN2 : EntNew (w1.alloc (.cells #[.string en.root, .slice xv.aP en.nP xv.cP, .slice xv.aQ en.nQ xv.cQ] 62)) xv en := hN.later ((Below.refl _ _).alloc (Nat.le_refl _) _)
    have d0 : (w1.alloc (.cells #[.string en.root, .slice xv.aP en.nP xv.cP, .slice xv.aQ en.nQ xv.cQ] 62)).cell? ⟨w1.heap.size, 0, none⟩ = some (.string en.root) := by simp [go_sem]
    have d1 : (w1.alloc (.cells #[.string en.root, .slice xv.aP en.nP xv.cP, .slice xv.aQ en.nQ xv.cQ] 62)).cell? ⟨w1.heap.size, 1, none⟩ = some (.slice xv.aP en.nP xv.cP) := by simp [go_sem]
    have d2 : (w1.alloc (.cells #[.string en.root, .slice xv.aP en.nP xv.cP, .slice xv.aQ en.nQ xv.cQ] 62)).cell? ⟨w1.heap.size, 2, none⟩ = some (.slice xv.aQ en.nQ xv.cQ) := by simp [go_sem]
    clear hN hb1
    unfold entCs
    have hv2 : Boxed _ _ _ _ := (hb2.block _ hv.lt).trans hv
    have hvc := hv2.cell
    have hl3 : ((pre.length : Int) == 3) = false := by simp; omega
    have HF := shelfFind_any a pre.length c V (entsOf pre) en.root _ (by omega) (hRow.later hb2)
    gi_wp2
    refine ⟨trivial, ?_⟩
    refine (CallsIn.inRound l (callsIn_wide.2 (show Calls _ _ _ _ _ from HF))).mono ?_
    rintro e w3 ⟨rfl, hb3⟩
    clear HF
    have hb4 := hb2.trans (hb3.mono hb2.size)
    have hv4 : Boxed w3 _ _ _ := (hb4.block _ hv.lt).trans hv
    have h24 : Boxed w3 _ _ _ := (hb4.block _ h2.lt).trans h2
    have h34 : Boxed w3 _ _ _ := (hb4.block _ h3.lt).trans h3
    have h54 : Boxed w3 _ _ _ := (hb4.block _ h5.lt).trans h5
    have hN4 := hN2.later hb3
    have e0 := cell_later hb3 d0
    have e1 := cell_later hb3 d1
    have e2 := cell_later hb3 d2
    have hEO4 := hEO.later (Nat.zero_le _) hb4
    have hB4 := hB.trans (hb4.mono hB.size)
    have HK4 : Hid (KeepsOthers W w3) := keepsOthers_below hb4
    have HBW : Hid (Below w.heap.size W w3) := hb4.mono hB.size
    have HT5 : Hid (Boxed W (w.heap.size + 1 + 1 + 1) 9 (.string T)) := h5
    have hsz4 := hb4.size
    clear hN2 d0 d1 d2 hv2 hvc hb2 hb3 hRow hv hEO h2 h3 h5 hb4
    generalize w1.heap.size = gE at *
    by_cases hpos : 0 ≤ findF (entsOf pre) en.root pre.length 0
    · obtain ⟨j, _, hj1, hj2, _⟩ := findF_some _ 0 rfl hpos
      have HX : Hid (ParseX .ret (pre ++ [x]) w3) := ⟨j, by simp; omega, by rw [List.length_append, List.length_singleton, Nat.add_sub_cancel, HOLD.out j hj1, hER]; exact hj2⟩
      have f2 := h24.frozen
      have f3 := h34.frozen
      have c2 := h24.cell
      have c3 := h34.cell
      generalize findF (entsOf pre) en.root pre.length 0 = f at *
      clear hER
      gi_wp2
      exact ⟨((HK4.out.trans (KeepsOthers.setCell _ _ _)).trans (KeepsOthers.setCell _ _ _)).from _, HX.out⟩
    · have hneg : findF (entsOf pre) en.root pre.length 0 < 0 := by omega
      have c4 := hv4.cell
      generalize findF (entsOf pre) en.root pre.length 0 = f at *
      have HER : Hid (entsOf (pre ++ [x]) pre.length = en) := hER
      clear hpos hER
      have hl4 := hEO4.row
      have hsz5 : w.heap.size ≤ w3.heap.size := hB4.size
      have hnews : Hid (∀ (j : Nat) (u : Value), [Value.string en.root, .slice xv.aP en.nP xv.cP, .slice xv.aQ en.nQ xv.cQ][j]? = some u → (w3.alloc (.cells #[.string en.root, .slice xv.aP en.nP xv.cP, .slice xv.aQ en.nQ xv.cQ] 62)).cell? ((⟨w3.heap.size, 0, none⟩ : Addr).add j) = some u) := fun j u hj => by
        match j, hj with
        | 0, hj => simp at hj; subst hj; simp [go_sem, Addr.add]
        | 1, hj => simp at hj; subst hj; simp [go_sem, Addr.add]
        | 2, hj => simp at hj; subst hj; simp [go_sem, Addr.add]
        | j + 3, hj => simp at hj
      have hone1 : Hid (∀ u ∈ [Value.string en.root, .slice xv.aP en.nP xv.cP, .slice xv.aQ en.nQ xv.cQ], u.oneCell' = true) := fun u hu => by simp at hu; rcases hu with rfl | rfl | rfl <;> rfl
      have hml : Hid (pre.length + 1 ≤ maxLen) := Nat.le_trans (by omega : pre.length + 1 ≤ 4) (by decide)
      have hmb : Hid ((pre.length + 1) * 64 ≤ 140737488355328) := by show (pre.length + 1) * 64 ≤ 140737488355328; omega
      have hms : Hid (w.heap.size ≤ (w3.alloc (.cells #[.string en.root, .slice xv.aP en.nP xv.cP, .slice xv.aQ en.nQ xv.cQ] 62)).heap.size) := by show w.heap.size ≤ (w3.alloc _).heap.size; rw [World.size_alloc]; omega
      have HL4 : Hid _ := hl4.alloc (.cells #[.string en.root, .slice xv.aP en.nP xv.cP, .slice xv.aQ en.nQ xv.cQ] 62)
      have HEO4 : Hid _ := hEO4
      have HNX4 : Hid _ := hN4
      have HBX4 : Hid _ := hB4
      have Hh24 : Hid _ := h24
      have Hh34 : Hid _ := h34
      have Hh54 : Hid _ := h54
      have Hhv4 : Hid _ := hv4
      clear hl4 hEO4 hN4 hB4 h24 h34 h54 hv4 hsz4 hB
      gi_wp2_with (gi_at_builtin; refine wpListIn_append_own _ rfl _ _ 116 rfl w.heap.size 62 i0 (.agg #[.string ⟨#[]⟩, .slice none 0 0, .slice none 0 0]) 3 64 Tryz.underlying116 hi hz0 hz1 hz2 rfl (by decide) (.slice a pre.length c) pre.length _ rfl HL4.out ⟨w3.heap.size, 0, none⟩ 1 1 [.string en.root, .slice xv.aP en.nP xv.cP, .slice xv.aQ en.nQ xv.cQ] rfl rfl hnews.out hone1.out hml.out hmb.out hms.out ?_; intro v' w5 hown' hgrow _; obtain ⟨g', cap', rfl⟩ := ownsRow_succ hown'; obtain ⟨hv1, hv2, hr2, hk2, hb2⟩ := Boxed.appended Hhv4.out (by decide) HEO4.out.row hsz5 (by omega) hown' hgrow; have hc1 := hv1.cell; have hf1 := hv1.frozen)
      have kk : Keeps 0 w3 (w5.setCell ⟨w.heap.size + 1 + 1, 0, none⟩ (.slice (some ⟨g', 0, none⟩) (pre.length + 1) cap')) :=
        ((Keeps.of_below (w := w3) (Nat.zero_le _) ((Below.refl _ w3).alloc (Nat.le_refl _) (.cells #[.string en.root, .slice xv.aP en.nP xv.cP, .slice xv.aQ en.nQ xv.cQ] 62))).trans (Keeps.grown (w := w3.alloc (.cells #[.string en.root, .slice xv.aP en.nP xv.cP, .slice xv.aQ en.nQ xv.cQ] 62)) (Nat.zero_le _) (Nat.zero_le _) HL4.out (by decide) hgrow)).trans (Keeps.set hv1 (by decide) (Nat.zero_le _) _)
      have hAll := EntsOwn.added (fun i hi => (HEO4.out.ins i hi).keeps kk) ((HNX4.out.within 0).keeps kk) hr2
      refine ⟨(HK4.out.trans hk2).from _, ⟨HBW.out.trans hb2, (box_added Hh54.out (by decide) HEO4.out.row hgrow (by omega)).trans HT5.out.symm⟩, ⟨⟨_, hv2, addV V pre.length xv, ?_⟩, box_added Hh24.out (by decide) HEO4.out.row hgrow (by omega), box_added Hh34.out (by decide) HEO4.out.row hgrow (by omega), box_added Hh54.out (by decide) HEO4.out.row hgrow (by omega)⟩, HBX4.out.trans hb2⟩
      rw [List.length_append, List.length_singleton]
      refine hAll.congr fun i hi => ⟨rfl, ?_⟩
      unfold addV
      by_cases h : i = pre.length
      · rw [if_pos h, h, HER.out]
      · rw [if_neg h, HOLD.out i (by omega)]
  case done =>
    rintro D ys W hD rfl ⟨⟨⟨v, hv, V, hEO⟩, h2, h3, h5⟩, hB⟩ hK
    rw [upto_len] at hEO
    obtain ⟨a, c, rfl, hRow⟩ := hEO.ents
    have c4 := hv.cell
    have c2 := h2.cell
    have c3 := h3.cell
    have f2 := h2.frozen
    have f3 := h3.frozen
    gi_wp2
    have hK' := ((KeepsOthers.setCell W ⟨w.heap.size, 0, none⟩ (.slice a k c)).trans (KeepsOthers.setCell _ ⟨w.heap.size + 1, 0, none⟩ .nilIface)).same D _ hK rfl
    refine ⟨by simp, .inl ⟨_, _, rfl, run_takeDeferred hK', ?_⟩⟩
    have b2n : Boxed ((W.setCell ⟨w.heap.size, 0, none⟩ (.slice a k c)).setCell ⟨w.heap.size + 1, 0, none⟩ .nilIface) w.heap.size 116 (.slice a k c) := (Below.heap_setCell _ _ _ _ (by simp)).trans (h2.set _)
    have b3m : Boxed (W.setCell ⟨w.heap.size, 0, none⟩ (.slice a k c)) (w.heap.size + 1) 32 .nilIface := (Below.heap_setCell _ _ _ _ (by simp)).trans h3
    have b3n : Boxed ((W.setCell ⟨w.heap.size, 0, none⟩ (.slice a k c)).setCell ⟨w.heap.size + 1, 0, none⟩ .nilIface) (w.heap.size + 1) 32 .nilIface := b3m.set _
    have hDo : ∀ j, j < W0.heap.size → j ≠ D := fun j hj => by omega
    have g2 := cell_kept b2n.cell (grownBy_putObj' _ D (.deferred none)) (fun r e => by cases e; exact ⟨_, hK', rfl⟩)
    have g3 := cell_kept b3n.cell (grownBy_putObj' _ D (.deferred none)) (fun r e => by cases e; exact ⟨_, hK', rfl⟩)
    have hkp : Keeps 0 W (((W.setCell ⟨w.heap.size, 0, none⟩ (.slice a k c)).setCell ⟨w.heap.size + 1, 0, none⟩ .nilIface).putObj D (.deferred none)) :=
      ((Keeps.set h2 (by decide) (Nat.zero_le _) _).trans (Keeps.set b3m (by decide) (Nat.zero_le _) _)).trans ⟨fun j hj => absurd hj (Nat.not_lt_zero _), fun j C t _ hj => grown_cells (grownBy_putObj' _ D (.deferred none)) (fun r e => by cases e; exact ⟨_, hK', rfl⟩) hj⟩
    have hEN : EntsOwn (((W.setCell ⟨w.heap.size, 0, none⟩ (.slice a k c)).setCell ⟨w.heap.size + 1, 0, none⟩ .nilIface).putObj D (.deferred none)) 0 w.heap.size (.slice a k c) k V (entsOf (upto X k)) := hEO.keeps hkp (fun b e => by
      obtain ⟨C, hC⟩ := own_kind hEO.row e
      have n2 : b ≠ w.heap.size := fun e' => by subst e'; rw [show W.heap[w.heap.size]? = _ from h2] at hC; simp at hC
      have n3 : b ≠ w.heap.size + 1 := fun e' => by subst e'; rw [show W.heap[w.heap.size + 1]? = _ from h3] at hC; simp at hC
      have hC2 : ((W.setCell ⟨w.heap.size, 0, none⟩ (.slice a k c)).setCell ⟨w.heap.size + 1, 0, none⟩ .nilIface).heap[b]? = W.heap[b]? := (Below.heap_setCell _ _ _ _ n3).trans (Below.heap_setCell _ _ _ _ n2)
      exact (grown_cells (grownBy_putObj' _ D (.deferred none)) (fun r e => by cases e; exact ⟨_, hK', rfl⟩) (hC2.trans hC)).trans hC2)
    refine ⟨.tuple #[.slice a k c, .nilIface], ?_, _, V, _, rfl, hEN, fun i hi' => ?_, ((hB.setCell (p := ⟨w.heap.size, 0, none⟩) (Nat.le_refl _) _).setCell (p := ⟨w.heap.size + 1, 0, none⟩) (by simp) _).trans (belowK_b (w := w) (Nat.le_refl _) _ D _ _ (by omega) hK' rfl rfl)⟩
    · simp [results, Tryz.results69, go_sem, g2, g3]
    · have e2 : entsOf (upto X k) i = (parseE (X i).1).2 := by
        unfold entsOf upto
        rw [List.getD_eq_getElem?_getD]
        simp [hi']
      rw [e2, hX i hi']
      exact (hX0 i hi').2
  case stop =>
    rintro D cc pre W hD hpre ⟨i, hi, he⟩ hK
    exfalso
    obtain ⟨r, hr⟩ := hpre
    have hl : pre.length ≤ k := by
      have := congrArg List.length hr
      rw [List.length_append, upto_len] at this
      omega
    have key : ∀ j, j < pre.length → (entsOf pre j).root = (E j).root := fun j hj => by
      have e1 : entsOf pre j = entsOf (upto X k) j := by
        unfold entsOf
        rw [← hr, List.map_append, List.getD_eq_getElem?_getD, List.getD_eq_getElem?_getD, List.getElem?_append_left (by simpa using hj)]
      have e2 : entsOf (upto X k) j = (parseE (X j).1).2 := by
        unfold entsOf upto
        rw [List.getD_eq_getElem?_getD]
        simp [show j < k by omega]
      rw [e1, e2, hX j (by omega)]
      exact (hX0 j (by omega)).2.root
    rw [key i (by omega), key _ (by omega)] at he
    have := hone _ _ (by omega) (by omega) he
    omega
end Go.Proofs.YtidabcoodolddaaGreatDoor

namespace Go.Proofs.YtidabcoodolddaaGreatDoor
open Go.RowKit

/-- a shelf in block g, of the disk in block p. -/
def ShelfAt (w : World) (g p : Nat) : Prop := w.heap[g]? = some (.cells #[.pointer (some ⟨p, 0, none⟩)] 139 (0, 0))
theorem ShelfAt.lt {w : World} {g p : Nat} (h : ShelfAt w g p) : g < w.heap.size := (Array.getElem?_eq_some_iff.1 h).1
theorem ShelfAt.cell {w : World} {g p : Nat} (h : ShelfAt w g p) : w.cell? ⟨g, 0, none⟩ = some (.pointer (some ⟨p, 0, none⟩)) := by simp [World.cell?, show w.heap[g]? = _ from h]
theorem ShelfAt.later {w w' : World} {g p : Nat} (h : ShelfAt w g p) (hb : Below w.heap.size w w') : ShelfAt w' g p := (hb.block _ h.lt).trans h
theorem ShelfAt.spun {w w' : World} {B g p : Nat} (h : ShelfAt w g p) (hs : Spun B w w') : ShelfAt w' g p := hs.block _ _ h (fun ⟨c, t, f, e, ht⟩ => by
  injection e with _ e2 _
  subst e2
  exact absurd ht (by decide))
theorem own_lower {w : World} {B B' : Nat} {e : TypeId} {s n : Nat} {v : Value} {xs : List Value} (h : w.ownsRow B e s v n xs) (hB : B' ≤ B) : w.ownsRow B' e s v n xs :=
  ⟨h.1, h.2.imp id fun ⟨g, cap, cur, h1, h2, h3⟩ => ⟨g, cap, cur, h1, Nat.le_trans hB h2, h3⟩⟩
theorem headT_at (b q : UInt8) : (headT b q).getD 18 0 = b ∧ (headT b q).getD 19 0 = q := ⟨rfl, rfl⟩
theorem headOf_headT {b q : Nat} (hb : b ≤ 1) (hq : q ≤ 55) : headOf (headT b.toUInt8 q.toUInt8) = some (b.toUInt8, q.toUInt8) := by
  unfold headOf
  rw [(headT_at _ _).1, (headT_at _ _).2, if_pos]
  refine ⟨?_, ?_, rfl⟩
  · simp; omega
  · simp; omega
theorem Stands.read {s : DSt} {n : Nat} {E : Nat → EntF} {k b q : Nat} (h : Stands s n E k) (hb : b ≤ 1) (hq : q ≤ 55) (hh : (s.K 0).kept = headT b.toUInt8 q.toUInt8) : readHeadF s n = (0, b.toUInt8, q.toUInt8) := by
  have hm := h.many
  have h0 : s.readF n 0 = 0 := by unfold DSt.readF; rw [h.up, if_neg (by decide), if_pos (by omega)]
  unfold readHeadF
  rw [if_neg (by simp [h0]), if_neg (by omega), h.now (by omega), hh, headOf_headT hb hq]
theorem bodyN_kept {s : DSt} {n : Nat} {E : Nat → EntF} {k b q : Nat} (h : Stands s n E k) (hb : b ≤ 1) (hq : q ≤ 55) : bodyN s b q = bodyK s b q := by
  have hm := h.many
  have hb55 : b * 55 ≤ 55 := by omega
  unfold bodyN bodyK
  refine catTo_same fun i hi => h.now (by omega)
set_option maxRecDepth 100000 in
set_option maxHeartbeats 4000000 in
theorem entries_any (w : World) (B p n g : Nat) (s : DSt) (E : Nat → EntF) (k : Nat) (h : Disk w B p n s) (hS : Stands s n E k) (hg : ShelfAt w g p) (hE : Env w) :
    Calls Tryz.prog 50 #[.pointer (some ⟨g, 0, none⟩)] w fun e w' => ∃ v V E', e = .returned (.tuple #[v, .nilIface]) ∧ EntsOwn w' 0 w.heap.size v k V E' ∧ (∀ i, i < k → SameE (E' i) (E i)) ∧ Below w.heap.size w w' := by
  obtain ⟨b, q, hb, hq, hh, ht⟩ := hS.head
  have hm := hS.many
  have HR := readHead_any w B p n s h (h.ok (by omega)).now
  rw [hS.read hb hq hh, show errV 0 = .nilIface from rfl] at HR
  have eb : ((b.toUInt8.toNat : Nat) : Int) = (b : Int) := by simp; omega
  have eq' : ((q.toUInt8.toNat : Nat) : Int) = (q : Int) := by simp; omega
  simp only [eb, eq'] at HR
  have gc := hg.cell
  go_enter Tryz.func50, Tryz.ntmps50
  go_wp2_with fail
  refine (show Calls _ _ _ _ _ from HR).mono ?_
  rintro e w1 ⟨rfl, hb1⟩
  clear HR
  have hb2 : Below w.heap.size w (w1.alloc (.cells #[.int .i64 (b : Int), .int .i64 (q : Int)] 143)) := hb1.trans (((Below.refl _ _).alloc (Nat.le_refl _) _).mono hb1.size)
  have d0 : (w1.alloc (.cells #[.int .i64 (b : Int), .int .i64 (q : Int)] 143)).cell? ⟨w1.heap.size, 0, none⟩ = some (.int .i64 (b : Int)) := by simp [go_sem]
  have d1 : (w1.alloc (.cells #[.int .i64 (b : Int), .int .i64 (q : Int)] 143)).cell? ⟨w1.heap.size, 1, none⟩ = some (.int .i64 (q : Int)) := by simp [go_sem]
  have gc2 := cell_later hb2 gc
  go_wp2
  have hSS : (fun w' : World => w'.cell? ⟨g, 0, none⟩ = some (.pointer (some ⟨p, 0, none⟩)) ∧ w'.cell? ⟨w1.heap.size, 0, none⟩ = some (.int .i64 (b : Int)) ∧ w'.cell? ⟨w1.heap.size, 1, none⟩ = some (.int .i64 (q : Int))) (w1.alloc (.cells #[.int .i64 (b : Int), .int .i64 (q : Int)] 143)).drew := ⟨gc2, d0, d1⟩
  have hb3 : Below w.heap.size w (w1.alloc (.cells #[.int .i64 (b : Int), .int .i64 (q : Int)] 143)).drew := hb2.drew
  refine wp_region_G (fun w' : World => w'.cell? ⟨g, 0, none⟩ = some (.pointer (some ⟨p, 0, none⟩)) ∧ w'.cell? ⟨w1.heap.size, 0, none⟩ = some (.int .i64 (b : Int)) ∧ w'.cell? ⟨w1.heap.size, 1, none⟩ = some (.int .i64 (q : Int))) 5 11 (by kernel_rfl) rfl ?_
  generalize (w1.alloc (.cells #[.int .i64 (b : Int), .int .i64 (q : Int)] 143)).drew = w2 at *
  clear d0 d1 gc2 hb2
  refine takeW 0 (v := ?v1) rfl (by kernel_rfl) (by kernel_rfl) (by kernel_rfl) (by kernel_rfl) (fun _ _ _ h => h) (.inr hSS) (.inl ⟨by rfl, fun w => ?hy1⟩) ?rest1
  case hy1 => (go_simp <;> with_reducible rfl)
  simp only [Go.Act.put, List.setIfInBounds_toArray, List.set_cons_zero, List.set_cons_succ]
  refine takeW 1 (v := ?v2) rfl (by kernel_rfl) (by kernel_rfl) (by kernel_rfl) (by kernel_rfl) (fun _ _ _ h => h) (.inr hSS) (.inl ⟨by rfl, fun w => ?hy2⟩) ?rest2
  case hy2 => (go_simp <;> with_reducible rfl)
  simp only [Go.Act.put, List.setIfInBounds_toArray, List.set_cons_zero, List.set_cons_succ]
  refine takeW 2 (v := ?v3) rfl (by kernel_rfl) (by kernel_rfl) (by kernel_rfl) (by kernel_rfl) (fun _ _ _ h => h) (.inr hSS) (.inl ⟨by rfl, fun w => ?hy3⟩) ?rest3
  case hy3 => (go_simp <;> with_reducible rfl)
  simp only [Go.Act.put, List.setIfInBounds_toArray, List.set_cons_zero, List.set_cons_succ]
  refine takeR 3 [] (v := ?v4) rfl (by kernel_rfl) (by kernel_rfl) (by kernel_rfl) (by kernel_rfl) (by kernel_rfl) (fun _ _ _ h => h) hSS (.inl ⟨by rfl, fun w hSw => ?hy4⟩) ?rest4
  case hy4 => ((try dsimp only at hSw); go_simp <;> with_reducible rfl)
  simp only [Go.Act.put, List.setIfInBounds_toArray, List.set_cons_zero, List.set_cons_succ]
  refine takeR 4 [] (v := ?v5) rfl (by kernel_rfl) (by kernel_rfl) (by kernel_rfl) (by kernel_rfl) (by kernel_rfl) (fun _ _ _ h => h) hSS (.inl ⟨by rfl, fun w hSw => ?hy5⟩) ?rest5
  case hy5 => ((try dsimp only at hSw); go_simp <;> with_reducible rfl)
  simp only [Go.Act.put, List.setIfInBounds_toArray, List.set_cons_zero, List.set_cons_succ]
  have HB := readBody_any w2 B p n s b q (h.later hb3) hS.up hm hb hq (fun i hi => (h.ok hi).now)
  rw [bodyN_kept hS hb hq, ht] at HB
  refine lastG 5 rfl (by kernel_rfl) (by kernel_rfl) (fun K hK => ?_)
  go_wp2_with fail
  refine (show Calls _ _ _ _ _ from HB).mono ?_
  rintro e w3 ⟨rfl, hb4⟩
  clear HB
  go_wp2
  refine hK _ _ ?_
  clear hK
  refine takeW 6 (v := ?v7) rfl (by kernel_rfl) (by kernel_rfl) (by kernel_rfl) (by kernel_rfl) (fun _ _ _ h => h) (.inl (by kernel_rfl)) (.inl ⟨by rfl, fun w => ?hy7⟩) ?rest7
  case hy7 => (go_simp <;> with_reducible rfl)
  simp only [Go.Act.put, List.setIfInBounds_toArray, List.set_cons_zero, List.set_cons_succ]
  refine takeW 7 (v := ?v8) rfl (by kernel_rfl) (by kernel_rfl) (by kernel_rfl) (by kernel_rfl) (fun _ _ _ h => h) (.inl (by kernel_rfl)) (.inl ⟨by rfl, fun w => ?hy8⟩) ?rest8
  case hy8 => (go_simp <;> with_reducible rfl)
  simp only [Go.Act.put, List.setIfInBounds_toArray, List.set_cons_zero, List.set_cons_succ]
  refine takeW 8 (v := ?v9) rfl (by kernel_rfl) (by kernel_rfl) (by kernel_rfl) (by kernel_rfl) (fun _ _ _ h => h) (.inl (by kernel_rfl)) (.inl ⟨by rfl, fun w => ?hy9⟩) ?rest9
  case hy9 => (go_simp <;> with_reducible rfl)
  simp only [Go.Act.put, List.setIfInBounds_toArray, List.set_cons_zero, List.set_cons_succ]
  refine takeW 9 (v := ?v10) rfl (by kernel_rfl) (by kernel_rfl) (by kernel_rfl) (by kernel_rfl) (fun _ _ _ h => h) (.inl (by kernel_rfl)) (.inl ⟨by rfl, fun w => ?hy10⟩) ?rest10
  case hy10 => (go_simp <;> with_reducible rfl)
  simp only [Go.Act.put, List.setIfInBounds_toArray, List.set_cons_zero, List.set_cons_succ]
  refine takeW 10 (v := ?v11) rfl (by kernel_rfl) (by kernel_rfl) (by kernel_rfl) (by kernel_rfl) (fun _ _ _ h => h) (.inl (by kernel_rfl)) (.inl ⟨by rfl, fun w => ?hy11⟩) ?rest11
  case hy11 => (go_simp <;> with_reducible rfl)
  simp only [Go.Act.put, List.setIfInBounds_toArray, List.set_cons_zero, List.set_cons_succ]
  refine doneG (by kernel_rfl) ?_ _
  have hb5 := hb3.trans (hb4.mono hb3.size)
  have HP := shelfParse_any w3 (hE.later hb5) E k hS.good.few hS.good.ok hS.good.once ⟨(linesE E k).toArray⟩ (ba_mk _)
  generalize (⟨(linesE E k).toArray⟩ : ByteArray) = T at *
  go_wp2_with fail
  refine (show Calls _ _ _ _ _ from HP).mono ?_
  rintro e w4 ⟨v, V, E', rfl, hEO, hSame, hb6⟩
  clear HP
  obtain ⟨a, c, rfl, _⟩ := hEO.ents
  have HF : Hid (∃ v V E', Ending.returned (.tuple #[.slice a k c, .nilIface]) = .returned (.tuple #[v, .nilIface]) ∧ EntsOwn w4 0 w.heap.size v k V E' ∧ (∀ i, i < k → SameE (E' i) (E i)) ∧ Below w.heap.size w w4) := ⟨_, V, E', rfl, ⟨own_lower hEO.row hb5.size, hEO.ins⟩, hSame, hb5.trans (hb6.mono hb5.size)⟩
  go_wp2
  go_ret2
  exact HF.out
/-- a call of keep that returned. -/
inductive KeepEnd (s : DSt) (n : Nat) (E : Nat → EntF) (k : Nat) (E' : Nat → EntF) (k' : Nat) (s' : DSt) : Ending → Prop
  | ok (h : Stands s' n E' k') (hl : s.left = -1 → s'.left = -1) : KeepEnd s n E k E' k' s' (.returned .nilIface)
  | fell (hl : s.left ≠ -1) (h : Split s' n E k E' k') : KeepEnd s n E k E' k' s' (.returned (errV 9))
/-- the body is written, or the disk fell. -/
inductive MidEnd (s : DSt) (n b : Nat) (t : List UInt8) (s' : DSt) (w : World) (g : Nat) : Value → Prop
  | ok (h : BodyKept s s' n b t) (hb : w.heap[g]? = some (.cells #[.int .i64 (b : Int), .int .i64 (many64 t : Int)] 143 (0, 0))) : MidEnd s n b t s' w g .nilIface
  | fell (hl : s.left ≠ -1) (hd : s'.down = true) (hr : ∀ i, i < n → ¬ (1 + b * 55 ≤ i ∧ i < 1 + b * 55 + 55) → s'.K i = s.K i) : MidEnd s n b t s' w g (.iface 82 (.int .i64 9))
theorem mid_store {w w7 : World} {B p n g g8 : Nat} {s2 : DSt} (hD : Disk w7 B p n s2) (hSp : Spun B w w7) (hB : B ≤ w.heap.size) (hge : w.heap.size ≤ g8) (h8 : w7.heap[g8]? = some (.cells #[.int .i64 0, .int .i64 0] 143 (0, 0))) (hg : ShelfAt w7 g p) (x y : Value) :
    Disk ((w7.setCell ⟨g8, 0, none⟩ x).setCell ⟨g8, 1, none⟩ y) B p n s2 ∧ Spun B w ((w7.setCell ⟨g8, 0, none⟩ x).setCell ⟨g8, 1, none⟩ y) ∧ ShelfAt ((w7.setCell ⟨g8, 0, none⟩ x).setCell ⟨g8, 1, none⟩ y) g p ∧ ((w7.setCell ⟨g8, 0, none⟩ x).setCell ⟨g8, 1, none⟩ y).heap[g8]? = some (.cells #[x, y] 143 (0, 0)) := by
  have h8' := heap_set0 (i := 0) x h8
  have hne : g ≠ g8 := fun e => by subst e; rw [show w7.heap[g]? = _ from hg] at h8; simp at h8
  exact ⟨(hD.set h8 (by decide) _).set h8' (by decide) _, (hSp.own hB hge _).own hB hge _, (Below.heap_setCell _ _ _ _ hne).trans ((Below.heap_setCell _ _ _ _ hne).trans hg), heap_set0 (i := 1) y h8'⟩
theorem toNat_u8 {n : Nat} (h : n < 256) : ((n.toUInt8.toNat : Nat) : Int) = (n : Int) := by simp; omega
set_option maxRecDepth 100000 in
set_option maxHeartbeats 8000000 in
theorem keep_any (w : World) (B p n g : Nat) (s : DSt) (E : Nat → EntF) (k : Nat) (a : Option Addr) (c : Nat) (V' : Nat → EntV) (E' : Nat → EntF) (k' : Nat) (h : Disk w B p n s) (hS : Stands s n E k) (hg : ShelfAt w g p) (hE : Env w) (hr : EntsRow w a k' V' E') (hok : ShelfOk E' k') :
    Calls Tryz.prog 59 #[.pointer (some ⟨g, 0, none⟩), .slice a k' c] w fun e w' => ∃ s', KeepEnd s n E k E' k' s' e ∧ Disk w' B p n s' ∧ Spun B w w' := by
  obtain ⟨b, q, hb, hq, hh, ht⟩ := hS.head
  have hm := hS.many
  have hB := h.base
  have HT := textOf_any a k' c V' E' w hE hok.few hok.ok hr
  have q0 : errV 0 = .nilIface := rfl
  have q9 : errV 9 = .iface 82 (.int .i64 9) := rfl
  have hlen := linesE_len (E := E') hok.few (fun i hi => hok.ent hi)
  generalize hTT : (⟨(linesE E' k').toArray⟩ : ByteArray) = T at HT
  go_enter Tryz.func59, Tryz.ntmps59
  go_wp2_with fail
  refine (show Calls _ _ _ _ _ from HT).mono ?_
  rintro e w1 ⟨rfl, hb1⟩
  clear HT
  have h1 := h.later hb1
  have hg1 := hg.later hb1
  have gc := hg1.cell
  have HR := readHead_any w1 B p n s h1 (h1.ok (by omega)).now
  rw [hS.read hb hq hh, q0] at HR
  simp only [toNat_u8 (show b < 256 by omega), toNat_u8 (show q < 256 by omega)] at HR
  clear h hg hE hr
  go_wp2_with fail
  refine (show Calls _ _ _ _ _ from HR).mono ?_
  rintro e w2 ⟨rfl, hb2⟩
  clear HR
  have hbX : Below w.heap.size w (w2.alloc (.cells #[.int .i64 (b : Int), .int .i64 (q : Int)] 143)) := (hb1.trans (hb2.mono hb1.size)).trans (((Below.refl _ _).alloc (Nat.le_refl _) _).mono (Nat.le_trans hb1.size hb2.size))
  have hbY : Below w1.heap.size w1 (w2.alloc (.cells #[.int .i64 (b : Int), .int .i64 (q : Int)] 143)) := hb2.trans (((Below.refl _ _).alloc (Nat.le_refl _) _).mono hb2.size)
  have hw0 : (w2.alloc (.cells #[.int .i64 (b : Int), .int .i64 (q : Int)] 143)).heap[w2.heap.size]? = some (.cells #[.int .i64 (b : Int), .int .i64 (q : Int)] 143 (0, 0)) := Array.getElem?_push_size
  have hD2 := h1.later hbY
  have hg2 := hg1.later hbY
  clear h1 hg1 gc hb1 hb2 hbY
  go_wp2
  generalize hW : w2.alloc (.cells #[.int .i64 (b : Int), .int .i64 (q : Int)] 143) = w3 at *
  have hSp3 := Spun.of hB hbX
  clear hW hbX
  go_cut [6, 8] from 28 to 38 (fun e y wc => ∃ (s2 : DSt) (g8 : Nat), y = .pointer (some ⟨g8, 0, none⟩) ∧ MidEnd s n (1 - b) (linesE E' k') s2 wc g8 e ∧ Disk wc B p n s2 ∧ Spun B w wc ∧ ShelfAt wc g p)
  case first =>
    have hw3 : w3.drew.heap[w2.heap.size]? = some (.cells #[.int .i64 (b : Int), .int .i64 (q : Int)] 143 (0, 0)) := hw0
    have hDw4 := hD2.later (Below.refl _ w3).drew
    have hSpw4 : Spun B w w3.drew := hSp3.trans (Spun.of (Nat.le_trans hB hSp3.size) (Below.refl _ w3).drew)
    have hgw4 := hg2.later (Below.refl _ w3).drew
    have hhw4 := hw3
    have HO : ∀ W, Calls Tryz.prog 87 #[.agg #[.int .i64 (b : Int), .int .i64 (q : Int)]] W fun e w' => e = .returned (.int .i64 ((1 - b : Nat) : Int)) ∧ Below W.heap.size W w' := fun W => by
      have := other_any (b : Int) (q : Int) W (by omega) (by omega)
      rw [show (1 : Int) - (b : Int) = ((1 - b : Nat) : Int) by omega] at this
      exact this
    have HWB := fun W (hD : Disk W B p n s) => writeBody_any W B p n s (1 - b) (linesE E' k') hD hS.up hm (by omega) (by omega) hS.calm
    rw [hTT] at HWB
    clear hD2 hSp3 hg2 hw0 hw3
    generalize w2.heap.size = hw at *
    have mkS : ∀ W : World, ShelfAt W g p → W.heap[hw]? = some (.cells #[.int .i64 (b : Int), .int .i64 (q : Int)] 143 (0, 0)) → (fun w' : World => w'.cell? ⟨g, 0, none⟩ = some (.pointer (some ⟨p, 0, none⟩)) ∧ w'.cell? ⟨hw, 0, none⟩ = some (.int .i64 (b : Int)) ∧ w'.cell? ⟨hw, 1, none⟩ = some (.int .i64 (q : Int))) W := fun W h1 h2 => ⟨h1.cell, (box2 h2).1, (box2 h2).2.1⟩
    have hSS := mkS _ hgw4 hhw4
    refine wp_region_G (fun w' : World => w'.cell? ⟨g, 0, none⟩ = some (.pointer (some ⟨p, 0, none⟩)) ∧ w'.cell? ⟨hw, 0, none⟩ = some (.int .i64 (b : Int)) ∧ w'.cell? ⟨hw, 1, none⟩ = some (.int .i64 (q : Int))) 12 14 (by kernel_rfl) rfl ?_
    generalize w3.drew = w4 at *
    refine takeW 0 (v := ?v13) rfl (by kernel_rfl) (by kernel_rfl) (by kernel_rfl) (by kernel_rfl) (fun _ _ _ h => h) (.inr hSS) (.inl ⟨by rfl, fun w => ?hy13⟩) ?rest13
    case hy13 => (go_simp <;> with_reducible rfl)
    simp only [Go.Act.put, List.setIfInBounds_toArray, List.set_cons_zero, List.set_cons_succ]
    refine takeW 1 (v := ?v14) rfl (by kernel_rfl) (by kernel_rfl) (by kernel_rfl) (by kernel_rfl) (fun _ _ _ h => h) (.inr hSS) (.inl ⟨by rfl, fun w => ?hy14⟩) ?rest14
    case hy14 => (go_simp <;> with_reducible rfl)
    simp only [Go.Act.put, List.setIfInBounds_toArray, List.set_cons_zero, List.set_cons_succ]
    refine takeW 2 (v := ?v15) rfl (by kernel_rfl) (by kernel_rfl) (by kernel_rfl) (by kernel_rfl) (fun _ _ _ h => h) (.inr hSS) (.inl ⟨by rfl, fun w => ?hy15⟩) ?rest15
    case hy15 => (go_simp <;> with_reducible rfl)
    simp only [Go.Act.put, List.setIfInBounds_toArray, List.set_cons_zero, List.set_cons_succ]
    refine takeW 6 (v := ?v16) rfl (by kernel_rfl) (by kernel_rfl) (by kernel_rfl) (by kernel_rfl) (fun _ _ _ h => h) (.inr hSS) (.inl ⟨by rfl, fun w => ?hy16⟩) ?rest16
    case hy16 => (go_simp <;> with_reducible rfl)
    simp only [Go.Act.put, List.setIfInBounds_toArray, List.set_cons_zero, List.set_cons_succ]
    refine takeR 3 [] (v := ?v17) rfl (by kernel_rfl) (by kernel_rfl) (by kernel_rfl) (by kernel_rfl) (by kernel_rfl) (fun _ _ _ h => h) hSS (.inl ⟨by rfl, fun w hSw => ?hy17⟩) ?rest17
    case hy17 => ((try dsimp only at hSw); go_simp <;> with_reducible rfl)
    simp only [Go.Act.put, List.setIfInBounds_toArray, List.set_cons_zero, List.set_cons_succ]
    refine takeR 4 [] (v := ?v18) rfl (by kernel_rfl) (by kernel_rfl) (by kernel_rfl) (by kernel_rfl) (by kernel_rfl) (fun _ _ _ h => h) hSS (.inl ⟨by rfl, fun w hSw => ?hy18⟩) ?rest18
    case hy18 => ((try dsimp only at hSw); go_simp <;> with_reducible rfl)
    simp only [Go.Act.put, List.setIfInBounds_toArray, List.set_cons_zero, List.set_cons_succ]
    clear hSS
    refine readyG [5, 11] (by kernel_rfl) (by simp) (allG_cons 5 rfl (fun K hK => ?_) (allG_cons 11 rfl (fun K hK => ?_) allG_nil))
    · skip
      go_wp2_with fail
      refine (show Calls _ _ _ _ _ from HO w4).mono ?_
      rintro e w5 ⟨rfl, hbO⟩
      go_wp2
      have hDw5 := hDw4.later hbO
      have hSpw5 := hSpw4.trans (Spun.of (Nat.le_trans hB hSpw4.size) hbO)
      have hgw5 := hgw4.later hbO
      have hhw5 := (hbO.block _ (Array.getElem?_eq_some_iff.1 hhw4).1).trans hhw4
      refine hK _ _ (mkS _ hgw5 hhw5) ?_
      clear hK
      refine readyG [7, 11] (by kernel_rfl) (by simp) (allG_cons 7 rfl (fun K hK => ?_) (allG_cons 11 rfl (fun K hK => ?_) allG_nil))
      · skip
        go_wp2_with fail
        refine (show Calls _ _ _ _ _ from HWB w5 hDw5).mono ?_
        rintro e w6 ⟨s2, hEnd, hDw6, hS7⟩
        have hSpw6 := hSpw5.trans hS7
        have hgw6 := hgw5.spun hS7
        have hhw6 := hS7.block _ _ hhw5 (head_not _ _)
        cases hEnd with
        | ok hBK =>
          go_wp2
          refine hK _ _ (mkS _ hgw6 hhw6) ?_
          clear hK
          have hSS := mkS _ hgw6 hhw6
          refine takeW 8 (v := ?v19) rfl (by kernel_rfl) (by kernel_rfl) (by kernel_rfl) (by kernel_rfl) (fun _ _ _ h => h) (.inr hSS) (.inl ⟨by rfl, fun w => ?hy19⟩) ?rest19
          case hy19 => (go_simp <;> with_reducible rfl)
          simp only [Go.Act.put, List.setIfInBounds_toArray, List.set_cons_zero, List.set_cons_succ]
          refine takeW 9 (v := ?v20) rfl (by kernel_rfl) (by kernel_rfl) (by kernel_rfl) (by kernel_rfl) (fun _ _ _ h => h) (.inr hSS) (.inl ⟨by rfl, fun w => ?hy20⟩) ?rest20
          case hy20 => (go_simp <;> with_reducible rfl)
          simp only [Go.Act.put, List.setIfInBounds_toArray, List.set_cons_zero, List.set_cons_succ]
          refine takeW 10 (v := ?v21) rfl (by kernel_rfl) (by kernel_rfl) (by kernel_rfl) (by kernel_rfl) (fun _ _ _ h => h) (.inr hSS) (.inl ⟨by rfl, fun w => ?hy21⟩) ?rest21
          case hy21 => (go_simp <;> with_reducible rfl)
          simp only [Go.Act.put, List.setIfInBounds_toArray, List.set_cons_zero, List.set_cons_succ]
          clear hSS
          refine onlyG 11 rfl (by kernel_rfl) (fun K hK => ?_)
          go_wp2_with fail
          have hbN : Below w6.heap.size w6 (w6.alloc (.cells #[.int .i64 0, .int .i64 0] 143)) := (Below.refl _ _).alloc (Nat.le_refl _) _
          have hDw6x := hDw6.later hbN
          have hSpw6x := hSpw6.trans (Spun.of (Nat.le_trans hB hSpw6.size) hbN)
          have hgw6x := hgw6.later hbN
          have hhw6x := (hbN.block _ (Array.getElem?_eq_some_iff.1 hhw6).1).trans hhw6
          have h8w6x : (w6.alloc (.cells #[.int .i64 0, .int .i64 0] 143)).heap[w6.heap.size]? = some (.cells #[.int .i64 0, .int .i64 0] 143 (0, 0)) := Array.getElem?_push_size
          have hge : w.heap.size ≤ w6.heap.size := hSpw6.size
          refine hK _ _ (mkS _ hgw6x hhw6x) ?_
          clear hK
          generalize w6.alloc (.cells #[.int .i64 0, .int .i64 0] 143) = w6x at *
          generalize w6.heap.size = g8 at *
          obtain ⟨z0, z1, z2, z3⟩ := box2 h8w6x
          obtain ⟨fD, fS, fG, f8⟩ := mid_store hDw6x hSpw6x hB hge h8w6x hgw6x (.int .i64 ((1 - b : Nat) : Int)) (.int .i64 (many64 (linesE E' k') : Int))
          refine lastG 12 rfl (by kernel_rfl) (by kernel_rfl) (fun K hK => ?_)
          go_wp2
          refine hK _ _ ?_
          clear hK
          refine takeW 13 (v := ?v24) rfl (by kernel_rfl) (by kernel_rfl) (by kernel_rfl) (by kernel_rfl) (fun _ _ _ h => h) (.inl (by kernel_rfl)) (.inl ⟨by rfl, fun w => ?hy24⟩) ?rest24
          case hy24 => (go_simp <;> with_reducible rfl)
          simp only [Go.Act.put, List.setIfInBounds_toArray, List.set_cons_zero, List.set_cons_succ]
          refine doneG (by kernel_rfl) ?_ _
          go_wp2
          go_meet
          exact ⟨_, _, rfl, .ok hBK f8, fD, fS, fG⟩
        | fell x y hl hd hr =>
          go_wp2
          refine hK _ _ (mkS _ hgw6 hhw6) ?_
          clear hK
          have hSS := mkS _ hgw6 hhw6
          refine takeW 8 (v := ?v26) rfl (by kernel_rfl) (by kernel_rfl) (by kernel_rfl) (by kernel_rfl) (fun _ _ _ h => h) (.inr hSS) (.inl ⟨by rfl, fun w => ?hy26⟩) ?rest26
          case hy26 => (go_simp <;> with_reducible rfl)
          simp only [Go.Act.put, List.setIfInBounds_toArray, List.set_cons_zero, List.set_cons_succ]
          refine takeW 9 (v := ?v27) rfl (by kernel_rfl) (by kernel_rfl) (by kernel_rfl) (by kernel_rfl) (fun _ _ _ h => h) (.inr hSS) (.inl ⟨by rfl, fun w => ?hy27⟩) ?rest27
          case hy27 => (go_simp <;> with_reducible rfl)
          simp only [Go.Act.put, List.setIfInBounds_toArray, List.set_cons_zero, List.set_cons_succ]
          refine takeW 10 (v := ?v28) rfl (by kernel_rfl) (by kernel_rfl) (by kernel_rfl) (by kernel_rfl) (fun _ _ _ h => h) (.inr hSS) (.inl ⟨by rfl, fun w => ?hy28⟩) ?rest28
          case hy28 => (go_simp <;> with_reducible rfl)
          simp only [Go.Act.put, List.setIfInBounds_toArray, List.set_cons_zero, List.set_cons_succ]
          clear hSS
          refine onlyG 11 rfl (by kernel_rfl) (fun K hK => ?_)
          go_wp2_with fail
          have hbN : Below w6.heap.size w6 (w6.alloc (.cells #[.int .i64 0, .int .i64 0] 143)) := (Below.refl _ _).alloc (Nat.le_refl _) _
          have hDw6x := hDw6.later hbN
          have hSpw6x := hSpw6.trans (Spun.of (Nat.le_trans hB hSpw6.size) hbN)
          have hgw6x := hgw6.later hbN
          have hhw6x := (hbN.block _ (Array.getElem?_eq_some_iff.1 hhw6).1).trans hhw6
          have h8w6x : (w6.alloc (.cells #[.int .i64 0, .int .i64 0] 143)).heap[w6.heap.size]? = some (.cells #[.int .i64 0, .int .i64 0] 143 (0, 0)) := Array.getElem?_push_size
          have hge : w.heap.size ≤ w6.heap.size := hSpw6.size
          refine hK _ _ (mkS _ hgw6x hhw6x) ?_
          clear hK
          generalize w6.alloc (.cells #[.int .i64 0, .int .i64 0] 143) = w6x at *
          generalize w6.heap.size = g8 at *
          obtain ⟨z0, z1, z2, z3⟩ := box2 h8w6x
          obtain ⟨fD, fS, fG, f8⟩ := mid_store hDw6x hSpw6x hB hge h8w6x hgw6x (.int .i64 x) (.int .i64 y)
          refine lastG 12 rfl (by kernel_rfl) (by kernel_rfl) (fun K hK => ?_)
          go_wp2
          refine hK _ _ ?_
          clear hK
          refine takeW 13 (v := ?v31) rfl (by kernel_rfl) (by kernel_rfl) (by kernel_rfl) (by kernel_rfl) (fun _ _ _ h => h) (.inl (by kernel_rfl)) (.inl ⟨by rfl, fun w => ?hy31⟩) ?rest31
          case hy31 => (go_simp <;> with_reducible rfl)
          simp only [Go.Act.put, List.setIfInBounds_toArray, List.set_cons_zero, List.set_cons_succ]
          refine doneG (by kernel_rfl) ?_ _
          go_wp2
          go_meet
          exact ⟨_, _, rfl, .fell hl hd hr, fD, fS, fG⟩
      · skip
        go_wp2_with fail
        have hbN : Below w5.heap.size w5 (w5.alloc (.cells #[.int .i64 0, .int .i64 0] 143)) := (Below.refl _ _).alloc (Nat.le_refl _) _
        have hDw6 := hDw5.later hbN
        have hSpw6 := hSpw5.trans (Spun.of (Nat.le_trans hB hSpw5.size) hbN)
        have hgw6 := hgw5.later hbN
        have hhw6 := (hbN.block _ (Array.getElem?_eq_some_iff.1 hhw5).1).trans hhw5
        have h8w6 : (w5.alloc (.cells #[.int .i64 0, .int .i64 0] 143)).heap[w5.heap.size]? = some (.cells #[.int .i64 0, .int .i64 0] 143 (0, 0)) := Array.getElem?_push_size
        have hge : w.heap.size ≤ w5.heap.size := hSpw5.size
        refine hK _ _ (mkS _ hgw6 hhw6) ?_
        clear hK
        generalize w5.alloc (.cells #[.int .i64 0, .int .i64 0] 143) = w6 at *
        generalize w5.heap.size = g8 at *
        refine onlyG 7 rfl (by kernel_rfl) (fun K hK => ?_)
        go_wp2_with fail
        refine (show Calls _ _ _ _ _ from HWB w6 hDw6).mono ?_
        rintro e w7 ⟨s2, hEnd, hDw7, hS7⟩
        have hSpw7 := hSpw6.trans hS7
        have hgw7 := hgw6.spun hS7
        have hhw7 := hS7.block _ _ hhw6 (head_not _ _)
        have h8w7 := hS7.block _ _ h8w6 (head_not _ _)
        cases hEnd with
        | ok hBK =>
          go_wp2
          refine hK _ _ (mkS _ hgw7 hhw7) ?_
          clear hK
          have hSS := mkS _ hgw7 hhw7
          refine takeW 8 (v := ?v34) rfl (by kernel_rfl) (by kernel_rfl) (by kernel_rfl) (by kernel_rfl) (fun _ _ _ h => h) (.inr hSS) (.inl ⟨by rfl, fun w => ?hy34⟩) ?rest34
          case hy34 => (go_simp <;> with_reducible rfl)
          simp only [Go.Act.put, List.setIfInBounds_toArray, List.set_cons_zero, List.set_cons_succ]
          refine takeW 9 (v := ?v35) rfl (by kernel_rfl) (by kernel_rfl) (by kernel_rfl) (by kernel_rfl) (fun _ _ _ h => h) (.inr hSS) (.inl ⟨by rfl, fun w => ?hy35⟩) ?rest35
          case hy35 => (go_simp <;> with_reducible rfl)
          simp only [Go.Act.put, List.setIfInBounds_toArray, List.set_cons_zero, List.set_cons_succ]
          refine takeW 10 (v := ?v36) rfl (by kernel_rfl) (by kernel_rfl) (by kernel_rfl) (by kernel_rfl) (fun _ _ _ h => h) (.inr hSS) (.inl ⟨by rfl, fun w => ?hy36⟩) ?rest36
          case hy36 => (go_simp <;> with_reducible rfl)
          simp only [Go.Act.put, List.setIfInBounds_toArray, List.set_cons_zero, List.set_cons_succ]
          clear hSS
          obtain ⟨z0, z1, z2, z3⟩ := box2 h8w7
          obtain ⟨fD, fS, fG, f8⟩ := mid_store hDw7 hSpw7 hB hge h8w7 hgw7 (.int .i64 ((1 - b : Nat) : Int)) (.int .i64 (many64 (linesE E' k') : Int))
          refine lastG 12 rfl (by kernel_rfl) (by kernel_rfl) (fun K hK => ?_)
          go_wp2
          refine hK _ _ ?_
          clear hK
          refine takeW 13 (v := ?v38) rfl (by kernel_rfl) (by kernel_rfl) (by kernel_rfl) (by kernel_rfl) (fun _ _ _ h => h) (.inl (by kernel_rfl)) (.inl ⟨by rfl, fun w => ?hy38⟩) ?rest38
          case hy38 => (go_simp <;> with_reducible rfl)
          simp only [Go.Act.put, List.setIfInBounds_toArray, List.set_cons_zero, List.set_cons_succ]
          refine doneG (by kernel_rfl) ?_ _
          go_wp2
          go_meet
          exact ⟨_, _, rfl, .ok hBK f8, fD, fS, fG⟩
        | fell x y hl hd hr =>
          go_wp2
          refine hK _ _ (mkS _ hgw7 hhw7) ?_
          clear hK
          have hSS := mkS _ hgw7 hhw7
          refine takeW 8 (v := ?v40) rfl (by kernel_rfl) (by kernel_rfl) (by kernel_rfl) (by kernel_rfl) (fun _ _ _ h => h) (.inr hSS) (.inl ⟨by rfl, fun w => ?hy40⟩) ?rest40
          case hy40 => (go_simp <;> with_reducible rfl)
          simp only [Go.Act.put, List.setIfInBounds_toArray, List.set_cons_zero, List.set_cons_succ]
          refine takeW 9 (v := ?v41) rfl (by kernel_rfl) (by kernel_rfl) (by kernel_rfl) (by kernel_rfl) (fun _ _ _ h => h) (.inr hSS) (.inl ⟨by rfl, fun w => ?hy41⟩) ?rest41
          case hy41 => (go_simp <;> with_reducible rfl)
          simp only [Go.Act.put, List.setIfInBounds_toArray, List.set_cons_zero, List.set_cons_succ]
          refine takeW 10 (v := ?v42) rfl (by kernel_rfl) (by kernel_rfl) (by kernel_rfl) (by kernel_rfl) (fun _ _ _ h => h) (.inr hSS) (.inl ⟨by rfl, fun w => ?hy42⟩) ?rest42
          case hy42 => (go_simp <;> with_reducible rfl)
          simp only [Go.Act.put, List.setIfInBounds_toArray, List.set_cons_zero, List.set_cons_succ]
          clear hSS
          obtain ⟨z0, z1, z2, z3⟩ := box2 h8w7
          obtain ⟨fD, fS, fG, f8⟩ := mid_store hDw7 hSpw7 hB hge h8w7 hgw7 (.int .i64 x) (.int .i64 y)
          refine lastG 12 rfl (by kernel_rfl) (by kernel_rfl) (fun K hK => ?_)
          go_wp2
          refine hK _ _ ?_
          clear hK
          refine takeW 13 (v := ?v44) rfl (by kernel_rfl) (by kernel_rfl) (by kernel_rfl) (by kernel_rfl) (fun _ _ _ h => h) (.inl (by kernel_rfl)) (.inl ⟨by rfl, fun w => ?hy44⟩) ?rest44
          case hy44 => (go_simp <;> with_reducible rfl)
          simp only [Go.Act.put, List.setIfInBounds_toArray, List.set_cons_zero, List.set_cons_succ]
          refine doneG (by kernel_rfl) ?_ _
          go_wp2
          go_meet
          exact ⟨_, _, rfl, .fell hl hd hr, fD, fS, fG⟩
    · skip
      go_wp2_with fail
      have hbN : Below w4.heap.size w4 (w4.alloc (.cells #[.int .i64 0, .int .i64 0] 143)) := (Below.refl _ _).alloc (Nat.le_refl _) _
      have hDw5 := hDw4.later hbN
      have hSpw5 := hSpw4.trans (Spun.of (Nat.le_trans hB hSpw4.size) hbN)
      have hgw5 := hgw4.later hbN
      have hhw5 := (hbN.block _ (Array.getElem?_eq_some_iff.1 hhw4).1).trans hhw4
      have h8w5 : (w4.alloc (.cells #[.int .i64 0, .int .i64 0] 143)).heap[w4.heap.size]? = some (.cells #[.int .i64 0, .int .i64 0] 143 (0, 0)) := Array.getElem?_push_size
      have hge : w.heap.size ≤ w4.heap.size := hSpw4.size
      refine hK _ _ (mkS _ hgw5 hhw5) ?_
      clear hK
      generalize w4.alloc (.cells #[.int .i64 0, .int .i64 0] 143) = w5 at *
      generalize w4.heap.size = g8 at *
      refine onlyG 5 rfl (by kernel_rfl) (fun K hK => ?_)
      go_wp2_with fail
      refine (show Calls _ _ _ _ _ from HO w5).mono ?_
      rintro e w6 ⟨rfl, hbO⟩
      go_wp2
      have hDw6 := hDw5.later hbO
      have hSpw6 := hSpw5.trans (Spun.of (Nat.le_trans hB hSpw5.size) hbO)
      have hgw6 := hgw5.later hbO
      have hhw6 := (hbO.block _ (Array.getElem?_eq_some_iff.1 hhw5).1).trans hhw5
      have h8w6 := (hbO.block _ (Array.getElem?_eq_some_iff.1 h8w5).1).trans h8w5
      refine hK _ _ (mkS _ hgw6 hhw6) ?_
      clear hK
      refine onlyG 7 rfl (by kernel_rfl) (fun K hK => ?_)
      go_wp2_with fail
      refine (show Calls _ _ _ _ _ from HWB w6 hDw6).mono ?_
      rintro e w7 ⟨s2, hEnd, hDw7, hS7⟩
      have hSpw7 := hSpw6.trans hS7
      have hgw7 := hgw6.spun hS7
      have hhw7 := hS7.block _ _ hhw6 (head_not _ _)
      have h8w7 := hS7.block _ _ h8w6 (head_not _ _)
      cases hEnd with
      | ok hBK =>
        go_wp2
        refine hK _ _ (mkS _ hgw7 hhw7) ?_
        clear hK
        have hSS := mkS _ hgw7 hhw7
        refine takeW 8 (v := ?v48) rfl (by kernel_rfl) (by kernel_rfl) (by kernel_rfl) (by kernel_rfl) (fun _ _ _ h => h) (.inr hSS) (.inl ⟨by rfl, fun w => ?hy48⟩) ?rest48
        case hy48 => (go_simp <;> with_reducible rfl)
        simp only [Go.Act.put, List.setIfInBounds_toArray, List.set_cons_zero, List.set_cons_succ]
        refine takeW 9 (v := ?v49) rfl (by kernel_rfl) (by kernel_rfl) (by kernel_rfl) (by kernel_rfl) (fun _ _ _ h => h) (.inr hSS) (.inl ⟨by rfl, fun w => ?hy49⟩) ?rest49
        case hy49 => (go_simp <;> with_reducible rfl)
        simp only [Go.Act.put, List.setIfInBounds_toArray, List.set_cons_zero, List.set_cons_succ]
        refine takeW 10 (v := ?v50) rfl (by kernel_rfl) (by kernel_rfl) (by kernel_rfl) (by kernel_rfl) (fun _ _ _ h => h) (.inr hSS) (.inl ⟨by rfl, fun w => ?hy50⟩) ?rest50
        case hy50 => (go_simp <;> with_reducible rfl)
        simp only [Go.Act.put, List.setIfInBounds_toArray, List.set_cons_zero, List.set_cons_succ]
        clear hSS
        obtain ⟨z0, z1, z2, z3⟩ := box2 h8w7
        obtain ⟨fD, fS, fG, f8⟩ := mid_store hDw7 hSpw7 hB hge h8w7 hgw7 (.int .i64 ((1 - b : Nat) : Int)) (.int .i64 (many64 (linesE E' k') : Int))
        refine lastG 12 rfl (by kernel_rfl) (by kernel_rfl) (fun K hK => ?_)
        go_wp2
        refine hK _ _ ?_
        clear hK
        refine takeW 13 (v := ?v52) rfl (by kernel_rfl) (by kernel_rfl) (by kernel_rfl) (by kernel_rfl) (fun _ _ _ h => h) (.inl (by kernel_rfl)) (.inl ⟨by rfl, fun w => ?hy52⟩) ?rest52
        case hy52 => (go_simp <;> with_reducible rfl)
        simp only [Go.Act.put, List.setIfInBounds_toArray, List.set_cons_zero, List.set_cons_succ]
        refine doneG (by kernel_rfl) ?_ _
        go_wp2
        go_meet
        exact ⟨_, _, rfl, .ok hBK f8, fD, fS, fG⟩
      | fell x y hl hd hr =>
        go_wp2
        refine hK _ _ (mkS _ hgw7 hhw7) ?_
        clear hK
        have hSS := mkS _ hgw7 hhw7
        refine takeW 8 (v := ?v54) rfl (by kernel_rfl) (by kernel_rfl) (by kernel_rfl) (by kernel_rfl) (fun _ _ _ h => h) (.inr hSS) (.inl ⟨by rfl, fun w => ?hy54⟩) ?rest54
        case hy54 => (go_simp <;> with_reducible rfl)
        simp only [Go.Act.put, List.setIfInBounds_toArray, List.set_cons_zero, List.set_cons_succ]
        refine takeW 9 (v := ?v55) rfl (by kernel_rfl) (by kernel_rfl) (by kernel_rfl) (by kernel_rfl) (fun _ _ _ h => h) (.inr hSS) (.inl ⟨by rfl, fun w => ?hy55⟩) ?rest55
        case hy55 => (go_simp <;> with_reducible rfl)
        simp only [Go.Act.put, List.setIfInBounds_toArray, List.set_cons_zero, List.set_cons_succ]
        refine takeW 10 (v := ?v56) rfl (by kernel_rfl) (by kernel_rfl) (by kernel_rfl) (by kernel_rfl) (fun _ _ _ h => h) (.inr hSS) (.inl ⟨by rfl, fun w => ?hy56⟩) ?rest56
        case hy56 => (go_simp <;> with_reducible rfl)
        simp only [Go.Act.put, List.setIfInBounds_toArray, List.set_cons_zero, List.set_cons_succ]
        clear hSS
        obtain ⟨z0, z1, z2, z3⟩ := box2 h8w7
        obtain ⟨fD, fS, fG, f8⟩ := mid_store hDw7 hSpw7 hB hge h8w7 hgw7 (.int .i64 x) (.int .i64 y)
        refine lastG 12 rfl (by kernel_rfl) (by kernel_rfl) (fun K hK => ?_)
        go_wp2
        refine hK _ _ ?_
        clear hK
        refine takeW 13 (v := ?v58) rfl (by kernel_rfl) (by kernel_rfl) (by kernel_rfl) (by kernel_rfl) (fun _ _ _ h => h) (.inl (by kernel_rfl)) (.inl ⟨by rfl, fun w => ?hy58⟩) ?rest58
        case hy58 => (go_simp <;> with_reducible rfl)
        simp only [Go.Act.put, List.setIfInBounds_toArray, List.set_cons_zero, List.set_cons_succ]
        refine doneG (by kernel_rfl) ?_ _
        go_wp2
        go_meet
        exact ⟨_, _, rfl, .fell hl hd hr, fD, fS, fG⟩
  case rest =>
    obtain ⟨s2, g8, rfl, hMid, hD5, hSp5, hg5⟩ := hcut
    clear hD2 hg2 hw0 hSp3
    generalize w2.heap.size = hw at *
    cases hMid with
    | fell hl hd hr =>
      have HEND : KeepEnd s n E k E' k' s2 (.returned (errV 9)) := .fell hl (hS.fallen hb hq hh ht hd hr)
      go_wp2
      go_ret
      exact ⟨s2, HEND, hD5, hSp5⟩
    | ok hBK hb8 =>
      obtain ⟨y0, y1, _, _⟩ := box2 hb8
      have gc := hg5.cell
      have hq8 := many64_le hlen
      have HD := head_done hS hb hq hh ht hBK hok hD5.nx
      go_wp2
      have hSS : (fun w' : World => w'.cell? ⟨g, 0, none⟩ = some (.pointer (some ⟨p, 0, none⟩)) ∧ w'.cell? ⟨g8, 0, none⟩ = some (.int .i64 ((1 - b : Nat) : Int)) ∧ w'.cell? ⟨g8, 1, none⟩ = some (.int .i64 (many64 (linesE E' k') : Int))) wc.drew := ⟨gc, y0, y1⟩
      have hD6 := hD5.later (Below.refl _ wc).drew
      have hSp6 : Spun B w wc.drew := hSp5.trans (Spun.of (Nat.le_trans hB hSp5.size) (Below.refl _ wc).drew)
      clear gc y0 y1 hD5 hSp5 hg5 hb8
      refine wp_region_G (fun w' : World => w'.cell? ⟨g, 0, none⟩ = some (.pointer (some ⟨p, 0, none⟩)) ∧ w'.cell? ⟨g8, 0, none⟩ = some (.int .i64 ((1 - b : Nat) : Int)) ∧ w'.cell? ⟨g8, 1, none⟩ = some (.int .i64 (many64 (linesE E' k') : Int))) 5 7 (by kernel_rfl) rfl ?_
      generalize wc.drew = w6 at *
      have HWH := writeHead_any w6 B p n s2 (1 - b).toUInt8 (many64 (linesE E' k')).toUInt8 hD6
      simp only [toNat_u8 (show 1 - b < 256 by omega), toNat_u8 (show many64 (linesE E' k') < 256 by omega)] at HWH
      refine takeW 0 (v := ?v60) rfl (by kernel_rfl) (by kernel_rfl) (by kernel_rfl) (by kernel_rfl) (fun _ _ _ h => h) (.inr hSS) (.inl ⟨by rfl, fun w => ?hy60⟩) ?rest60
      case hy60 => (go_simp <;> with_reducible rfl)
      simp only [Go.Act.put, List.setIfInBounds_toArray, List.set_cons_zero, List.set_cons_succ]
      refine takeW 1 (v := ?v61) rfl (by kernel_rfl) (by kernel_rfl) (by kernel_rfl) (by kernel_rfl) (fun _ _ _ h => h) (.inr hSS) (.inl ⟨by rfl, fun w => ?hy61⟩) ?rest61
      case hy61 => (go_simp <;> with_reducible rfl)
      simp only [Go.Act.put, List.setIfInBounds_toArray, List.set_cons_zero, List.set_cons_succ]
      refine takeW 2 (v := ?v62) rfl (by kernel_rfl) (by kernel_rfl) (by kernel_rfl) (by kernel_rfl) (fun _ _ _ h => h) (.inr hSS) (.inl ⟨by rfl, fun w => ?hy62⟩) ?rest62
      case hy62 => (go_simp <;> with_reducible rfl)
      simp only [Go.Act.put, List.setIfInBounds_toArray, List.set_cons_zero, List.set_cons_succ]
      refine takeR 3 [] (v := ?v63) rfl (by kernel_rfl) (by kernel_rfl) (by kernel_rfl) (by kernel_rfl) (by kernel_rfl) (fun _ _ _ h => h) hSS (.inl ⟨by rfl, fun w hSw => ?hy63⟩) ?rest63
      case hy63 => ((try dsimp only at hSw); go_simp <;> with_reducible rfl)
      simp only [Go.Act.put, List.setIfInBounds_toArray, List.set_cons_zero, List.set_cons_succ]
      refine takeR 4 [] (v := ?v64) rfl (by kernel_rfl) (by kernel_rfl) (by kernel_rfl) (by kernel_rfl) (by kernel_rfl) (fun _ _ _ h => h) hSS (.inl ⟨by rfl, fun w hSw => ?hy64⟩) ?rest64
      case hy64 => ((try dsimp only at hSw); go_simp <;> with_reducible rfl)
      simp only [Go.Act.put, List.setIfInBounds_toArray, List.set_cons_zero, List.set_cons_succ]
      refine lastG 5 rfl (by kernel_rfl) (by kernel_rfl) (fun K hK => ?_)
      rcases HD with ⟨e0, hSt, hlf⟩ | ⟨hlf, e9, hSpl⟩
      · rw [e0, q0] at HWH
        have HEND : KeepEnd s n E k E' k' _ (.returned .nilIface) := .ok hSt hlf
        go_wp2_with fail
        refine (show Calls _ _ _ _ _ from HWH).mono ?_
        rintro e w7 ⟨rfl, hD7, hS7⟩
        clear HWH
        go_wp2
        refine hK _ _ ?_
        clear hK
        refine takeW 6 (v := ?v66) rfl (by kernel_rfl) (by kernel_rfl) (by kernel_rfl) (by kernel_rfl) (fun _ _ _ h => h) (.inl (by kernel_rfl)) (.inl ⟨by rfl, fun w => ?hy66⟩) ?rest66
        case hy66 => (go_simp <;> with_reducible rfl)
        simp only [Go.Act.put, List.setIfInBounds_toArray, List.set_cons_zero, List.set_cons_succ]
        refine doneG (by kernel_rfl) ?_ _
        go_wp2
        go_ret
        exact ⟨_, HEND, hD7, hSp6.trans hS7⟩
      · rw [e9] at HWH
        have HEND : KeepEnd s n E k E' k' _ (.returned (errV 9)) := .fell hlf hSpl
        go_wp2_with fail
        refine (show Calls _ _ _ _ _ from HWH).mono ?_
        rintro e w7 ⟨rfl, hD7, hS7⟩
        clear HWH
        go_wp2
        refine hK _ _ ?_
        clear hK
        refine takeW 6 (v := ?v68) rfl (by kernel_rfl) (by kernel_rfl) (by kernel_rfl) (by kernel_rfl) (fun _ _ _ h => h) (.inl (by kernel_rfl)) (.inl ⟨by rfl, fun w => ?hy68⟩) ?rest68
        case hy68 => (go_simp <;> with_reducible rfl)
        simp only [Go.Act.put, List.setIfInBounds_toArray, List.set_cons_zero, List.set_cons_succ]
        refine doneG (by kernel_rfl) ?_ _
        go_wp2
        go_ret
        exact ⟨_, HEND, hD7, hSp6.trans hS7⟩
end Go.Proofs.YtidabcoodolddaaGreatDoor
