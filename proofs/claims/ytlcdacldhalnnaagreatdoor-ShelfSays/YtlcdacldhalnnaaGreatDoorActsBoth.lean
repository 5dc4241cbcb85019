/-
  Acts in memory; what LightEntry and LightActs return, for every row of acts (true: they are few, and not too long); memory that was there stays as it was.
  Acts done on a shelf and on the document's: what both keep.
  A copy of an act that a law has laid; 'same' of two numbers that are alike.
  What SameTexts returns, of two lists that are alike: true; memory stays as it was.
-/
import Derived.Test.YtlcdacldhalnnaaGreatDoorErr
import Derived.Test.YtlcdacldhalnnaaGreatDoorAtAll
import Derived.Test.YtlcdacldhalnnaaGreatDoorShelfAll
import Derived.Test.YtlcdacldhalnnaaGreatDoorRefDrop
import Derived.Test.YtlcdacldhalnnaaGreatDoorNameMay
import Derived.Test.YtlcdacldhalnnaaGreatDoorDiskAll
import Derived.Test.YtlcdacldhalnnaaGreatDoorRows
import Derived.Deep.QuietTactic
import Derived.BigQuiet
namespace Go.Proofs.YtlcdacldhalnnaaGreatDoor
open Go.RowKit

/-- an act, and where its entry's two slices lie. -/
structure ActF where
  kind : ByteArray
  s : ByteArray
  t : ByteArray
  a : Int
  k : Int
  root : ByteArray
  pa : Option Addr
  pn : Nat
  pc : Nat
  pname : Nat → ByteArray
  qa : Option Addr
  qn : Nat
  qc : Nat
  pst : Nat → Int
  pbs : Nat → Int
  qp : Nat → Int
  qt : Nat → Int
  qv : Nat → Int
/-- rows of a text and two numbers, of three numbers. -/
def RowSII (w : World) (a : Option Addr) (n : Nat) (s : Nat → ByteArray) (k b : Nat → Int) : Prop :=
  n = 0 ∨ ∃ bk o, a = some ⟨bk, o, none⟩ ∧ ∀ i, i < n → w.cell? ⟨bk, o + i * 3, none⟩ = some (.string (s i)) ∧ w.cell? ⟨bk, o + i * 3 + 1, none⟩ = some (.int .i64 (k i)) ∧ w.cell? ⟨bk, o + i * 3 + 2, none⟩ = some (.int .i64 (b i))
theorem RowSII.later {w w' : World} {a : Option Addr} {n : Nat} {s : Nat → ByteArray} {k b : Nat → Int} (h : RowSII w a n s k b) (hb : Below w.heap.size w w') : RowSII w' a n s k b := by
  rcases h with h | ⟨bk, o, ha, hc⟩
  · exact .inl h
  · exact .inr ⟨bk, o, ha, fun i hi => ⟨cell_later hb (hc i hi).1, cell_later hb (hc i hi).2.1, cell_later hb (hc i hi).2.2⟩⟩
def RowIII (w : World) (a : Option Addr) (n : Nat) (p t v : Nat → Int) : Prop :=
  n = 0 ∨ ∃ bk o, a = some ⟨bk, o, none⟩ ∧ ∀ i, i < n → w.cell? ⟨bk, o + i * 3, none⟩ = some (.int .i64 (p i)) ∧ w.cell? ⟨bk, o + i * 3 + 1, none⟩ = some (.int .i64 (t i)) ∧ w.cell? ⟨bk, o + i * 3 + 2, none⟩ = some (.int .i64 (v i))
theorem RowIII.later {w w' : World} {a : Option Addr} {n : Nat} {p t v : Nat → Int} (h : RowIII w a n p t v) (hb : Below w.heap.size w w') : RowIII w' a n p t v := by
  rcases h with h | ⟨bk, o, ha, hc⟩
  · exact .inl h
  · exact .inr ⟨bk, o, ha, fun i hi => ⟨cell_later hb (hc i hi).1, cell_later hb (hc i hi).2.1, cell_later hb (hc i hi).2.2⟩⟩
/-- a number of 64 bits. -/
def Is64 (n : Int) : Prop := -9223372036854775808 ≤ n ∧ n ≤ 9223372036854775807
/-- the names of an entry's parts. -/
def PartsRow (w : World) (a : Option Addr) (n : Nat) (f : Nat → ByteArray) : Prop :=
  n = 0 ∨ ∃ b o, a = some ⟨b, o, none⟩ ∧ ∀ i, i < n → w.cell? ⟨b, o + i * 3, none⟩ = some (.string (f i))
theorem PartsRow.later {w w' : World} {a : Option Addr} {n : Nat} {f : Nat → ByteArray} (h : PartsRow w a n f) (hb : Below w.heap.size w w') : PartsRow w' a n f := by
  rcases h with h | ⟨b, o, ha, hc⟩
  · exact .inl h
  · exact .inr ⟨b, o, ha, fun i hi => cell_later hb (hc i hi)⟩
/-- an act that lies at a place. -/
structure ActHere (w : World) (b o : Nat) (x : ActF) : Prop where
  c0 : w.cell? ⟨b, o, none⟩ = some (.string x.kind)
  c1 : w.cell? ⟨b, o + 1, none⟩ = some (.string x.s)
  c2 : w.cell? ⟨b, o + 2, none⟩ = some (.string x.t)
  c3 : w.cell? ⟨b, o + 3, none⟩ = some (.int .i64 x.a)
  c4 : w.cell? ⟨b, o + 4, none⟩ = some (.int .u64 x.k)
  c5 : w.cell? ⟨b, o + 5, none⟩ = some (.string x.root)
  c6 : w.cell? ⟨b, o + 6, none⟩ = some (.slice x.pa x.pn x.pc)
  c7 : w.cell? ⟨b, o + 7, none⟩ = some (.slice x.qa x.qn x.qc)
  parts : PartsRow w x.pa x.pn x.pname
  rows : RowSII w x.pa x.pn x.pname x.pst x.pbs
  pats : RowIII w x.qa x.qn x.qp x.qt x.qv
theorem ActHere.later {w w' : World} {b o : Nat} {x : ActF} (h : ActHere w b o x) (hb : Below w.heap.size w w') : ActHere w' b o x :=
  ⟨cell_later hb h.c0, cell_later hb h.c1, cell_later hb h.c2, cell_later hb h.c3, cell_later hb h.c4, cell_later hb h.c5, cell_later hb h.c6, cell_later hb h.c7, h.parts.later hb, h.rows.later hb, h.pats.later hb⟩
/-- the n acts behind 'a'. -/
def ActsRow (w : World) (a : Option Addr) (n : Nat) (X : Nat → ActF) : Prop :=
  n = 0 ∨ ∃ b o, a = some ⟨b, o, none⟩ ∧ ∀ i, i < n → ActHere w b (o + i * 8) (X i)
theorem ActsRow.later {w w' : World} {a : Option Addr} {n : Nat} {X : Nat → ActF} (h : ActsRow w a n X) (hb : Below w.heap.size w w') : ActsRow w' a n X := by
  rcases h with h | ⟨b, o, ha, hc⟩
  · exact .inl h
  · exact .inr ⟨b, o, ha, fun i hi => (hc i hi).later hb⟩
/-- texts are no longer than texts may be. -/
structure ActFit (x : ActF) : Prop where
  s : x.s.size ≤ maxLen
  t : x.t.size ≤ maxLen
  a : Is64 x.a
  k : 0 ≤ x.k ∧ x.k ≤ 18446744073709551615
  root : x.root.size ≤ maxLen
  parts : ∀ i, i < x.pn → (x.pname i).size ≤ maxLen ∧ Is64 (x.pst i) ∧ Is64 (x.pbs i)
  pats : ∀ i, i < x.qn → Is64 (x.qp i) ∧ Is64 (x.qt i) ∧ Is64 (x.qv i)
  pcap : x.pn ≤ maxLen
  qcap : x.qn ≤ maxLen

/-- a call that returned true or false. -/
def SomeBool (e : Ending) : Prop := ∃ b, e = .returned (.bool b)

set_option maxRecDepth 100000 in
set_option maxHeartbeats 1000000 in
theorem lightEntry_any (root : ByteArray) (pa qa : Option Addr) (pn pc qn qc : Nat) (f : Nat → ByteArray) (w : World) (hp : PartsRow w pa pn f) :
    Calls Tryz.prog 21 #[.agg #[.string root, .slice pa pn pc, .slice qa qn qc]] w fun e w' => SomeBool e ∧ Below w.heap.size w w' := by
  have hx : Below w.heap.size w (w.alloc (.cells #[.string root, .slice pa pn pc, .slice qa qn qc] 43)) := (Below.refl _ _).alloc (Nat.le_refl _) _
  have c0 : (w.alloc (.cells #[.string root, .slice pa pn pc, .slice qa qn qc] 43)).cell? ⟨w.heap.size, 0, none⟩ = some (.string root) := by simp [go_sem]
  have c1 : (w.alloc (.cells #[.string root, .slice pa pn pc, .slice qa qn qc] 43)).cell? ⟨w.heap.size, 1, none⟩ = some (.slice pa pn pc) := by simp [go_sem]
  have c2 : (w.alloc (.cells #[.string root, .slice pa pn pc, .slice qa qn qc] 43)).cell? ⟨w.heap.size, 2, none⟩ = some (.slice qa qn qc) := by simp [go_sem]
  by_cases hc : 20 < root.size ∨ 8 < pn ∨ 40 < qn
  · go_enter Tryz.func21, Tryz.ntmps21
    go_wp2
    all_goals first | (go_ret; exact ⟨⟨_, rfl⟩, hx⟩) | (exfalso; omega)
  · have g1 : ¬ (20 : Int) < root.size := by omega
    have g2 : ¬ (8 : Int) < pn := by omega
    have g3 : ¬ (40 : Int) < qn := by omega
    have h8 : pn ≤ 8 := by omega
    have hp' := hp.later hx
    clear hc hp
    go_enter Tryz.func21, Tryz.ntmps21
    go_wp2
    generalize w.alloc (.cells #[.string root, .slice pa pn pc, .slice qa qn qc] 43) = Y at *
    go_loopw [3] (fun x wr => ∃ k : Nat, k ≤ pn ∧ x = .int .i64 k ∧ wr = Y) (fun x _ => pn - (intOf x).toNat)
    case atStart => exact ⟨0, Nat.zero_le _, rfl, rfl⟩
    case round =>
      obtain ⟨k, hk, rfl, hw⟩ := hrel
      replace hw := hw.symm
      subst hw
      by_cases hlt : k < pn
      · rcases hp' with h0 | ⟨b1, o1, rfl, h5⟩
        · omega
        have p0 := h5 k hlt
        clear h5
        go_wp2
        all_goals first
          | (go_ret; exact ⟨⟨_, rfl⟩, hx⟩)
          | (go_roundw
             case rel => exact ⟨k + 1, by omega, by go_num, trivial⟩
             case measure => simp [intOf]; omega)
      · go_wp2
        go_ret
        exact ⟨⟨_, rfl⟩, hx⟩

/-- a call that returned true (then they are few, and not too long) or false. -/
def LightActsEnd (n most : Nat) (X : Nat → ActF) (e : Ending) : Prop := ∃ b, e = .returned (.bool b) ∧ (b = true → n ≤ most ∧ ∀ i, i < n → (X i).s.size ≤ 100 ∧ (X i).t.size ≤ 1300)
theorem upto_more {p : Nat → Prop} {k : Nat} (h : ∀ i, i < k → p i) (hk : p k) : ∀ i, i < k + 1 → p i := fun i hi => by
  by_cases e : i = k
  · subst e; exact hk
  · exact h i (by omega)

set_option maxRecDepth 100000 in
set_option maxHeartbeats 2000000 in
theorem lightActs_any (a : Option Addr) (n c most : Nat) (X : Nat → ActF) (w : World) (hm : most ≤ 1000) (hr : ActsRow w a n X) (hf : ∀ i, i < n → ActFit (X i)) :
    Calls Tryz.prog 5 #[.slice a n c, .int .i64 (most : Int)] w fun e w' => LightActsEnd n most X e ∧ Below w.heap.size w w' := by
  by_cases h0 : most < n
  · have h0' : (most : Int) < (n : Int) := by omega
    clear h0 hr hf hm
    go_enter Tryz.func5, Tryz.ntmps5
    go_wp2
    go_ret
    exact ⟨⟨false, rfl, fun h => by cases h⟩, Below.refl _ _⟩
  · have h0' : ¬ (most : Int) < (n : Int) := by omega
    go_enter Tryz.func5, Tryz.ntmps5
    go_wp2
    go_loopw [5, 6] (fun y x wr => ∃ (k : Nat) (N : Int), k ≤ n ∧ x = .int .i64 k ∧ y = .int .i64 N ∧ 0 ≤ N ∧ N ≤ 20000 ∧ Below w.heap.size w wr ∧ Hid (∀ i, i < k → (X i).s.size ≤ 100 ∧ (X i).t.size ≤ 1300)) (fun _ x _ => n - (intOf x).toNat)
    case atStart => exact ⟨0, 0, Nat.zero_le _, rfl, rfl, by omega, by omega, Below.refl _ _, fun i hi => by omega⟩
    case round =>
      obtain ⟨k, N, hk, rfl, rfl, hN0, hN1, hb, HK⟩ := hrel
      by_cases hlt : k < n
      · rcases hr with hz | ⟨bk, o, rfl, hc⟩
        · omega
        have H := (hc k hlt).later hb
        have d1 := H.c1
        have d2 := H.c2
        have d5 := H.c5
        have d6 := H.c6
        have d7 := H.c7
        have ht := (hf k hlt).t
        unfold maxLen at ht
        have HE := lightEntry_any (X k).root (X k).pa (X k).qa (X k).pn (X k).pc (X k).qn (X k).qc (X k).pname wr H.parts
        clear hc hf H
        by_cases q1 : 100 < (X k).s.size
        · have q1' : (100 : Int) < ((X k).s.size : Int) := by omega
          clear q1 HE
          go_wp2
          go_ret
          exact ⟨⟨false, rfl, fun h => by cases h⟩, hb⟩
        · have q1' : ¬ (100 : Int) < ((X k).s.size : Int) := by omega
          by_cases q2 : 1300 < (X k).t.size
          · have q2' : (1300 : Int) < ((X k).t.size : Int) := by omega
            clear q1 q2 HE
            go_wp2
            go_ret
            exact ⟨⟨false, rfl, fun h => by cases h⟩, hb⟩
          · have q2' : ¬ (1300 : Int) < ((X k).t.size : Int) := by omega
            by_cases q3 : (20000 : Int) < N + ((X k).t.size : Int)
            · clear q1 q2 HE
              go_wp2
              go_ret
              exact ⟨⟨false, rfl, fun h => by cases h⟩, hb⟩
            · have HK2 : Hid (∀ i, i < k + 1 → (X i).s.size ≤ 100 ∧ (X i).t.size ≤ 1300) := upto_more HK.out ⟨by omega, by omega⟩
              clear q1 q2
              go_wp2_with fail
              refine HE.mono ?_
              rintro e w2 ⟨⟨b, rfl⟩, hb2⟩
              have hB := hb.trans (hb2.mono hb.size)
              clear HE d1 d2 d5 d6 d7 hb hb2
              cases b with
              | false =>
                go_wp2
                go_ret
                exact ⟨⟨false, rfl, fun h => by cases h⟩, hB⟩
              | true =>
                go_wp2
                go_roundw
                case rel => exact ⟨k + 1, N + ((X k).t.size : Int), by omega, by go_num, rfl, by omega, by omega, hB, HK2⟩
                case measure => simp [intOf]; omega
      · have e : k = n := by omega
        subst e
        go_wp2
        go_ret
        exact ⟨⟨true, rfl, fun _ => ⟨by omega, HK.out⟩⟩, hb⟩
end Go.Proofs.YtlcdacldhalnnaaGreatDoor

namespace Go.Proofs.YtlcdacldhalnnaaGreatDoor
open Go.RowKit

theorem Spun.mono {B B' : Nat} {w w' : World} (h : Spun B w w') (hB : B' ≤ B) : Spun B' w w' := ⟨h.below.mono hB, h.block⟩
theorem RShelf.spun {w w' : World} {B0 B m : Nat} {v : Value} {k : Nat} {V : Nat → EntV} {E : Nat → EntF} (h : RShelf w B0 B m v k V E) (hs : Spun B0 w w') : RShelf w' B0 B m v k V E :=
  ⟨hs.block _ _ h.blk (fun ⟨c, t, f, e, ht⟩ => by
    injection e with _ e2 _
    subst e2
    exact absurd ht (by decide)), h.own.spun hs, h.few, h.once⟩
/-- an act's entry. -/
def actE (x : ActF) : EntF := ⟨x.root, x.pn, x.pname, x.pst, x.pbs, x.qn, x.qp, x.qt, x.qv⟩
def actV (x : ActF) : EntV := ⟨x.pa, x.pc, x.qa, x.qc⟩
theorem ActHere.ent {w : World} {b o : Nat} {x : ActF} (h : ActHere w b o x) : EntAt w (actV x) (actE x) := ⟨h.rows, h.pats⟩
theorem ActFit.ent {x : ActF} (h : ActFit x) : EntFit (actE x) := ⟨h.root, h.pcap, h.qcap, fun i hi => (h.parts i hi).1⟩
theorem putE_kept {E : Nat → EntF} {k : Nat} {en : EntF} (h : (putE E k en).1 ≠ 0) : (putE E k en).2 = (E, k) := by
  unfold putE at h ⊢
  split
  · rfl
  · rename_i h1
    rw [if_neg h1] at h
    split
    · rename_i h2; rw [if_pos h2] at h; exact absurd rfl h
    · rename_i h2
      rw [if_neg h2] at h
      split
      · rfl
      · rename_i h3; rw [if_neg h3] at h; exact absurd rfl h
theorem dropE_kept {E : Nat → EntF} {k : Nat} {root : ByteArray} (h : (dropE E k root).1 ≠ 0) : (dropE E k root).2 = (E, k) := by
  unfold dropE at h ⊢
  split
  · rfl
  · rename_i h1; rw [if_neg h1] at h; exact absurd rfl h
/-- an entry of one part, that has nothing to patch. -/
def lonE (root nm : ByteArray) (st : Int) : EntF := ⟨root, 1, fun _ => nm, fun _ => st, fun _ => 0, 0, fun _ => 0, fun _ => 0, fun _ => 0⟩
theorem lon_at (w : World) (root nm : ByteArray) (st : Int) (c : Nat) : EntAt (w.alloc (.cells #[.string nm, .int .i64 st, .int .i64 0] 60)) ⟨some ⟨w.heap.size, 0, none⟩, c, none, 0⟩ (lonE root nm st) := by
  refine ⟨.inr ⟨w.heap.size, 0, rfl, fun i hi => ?_⟩, .inl rfl⟩
  obtain rfl : i = 0 := by simp [lonE] at hi; exact hi
  exact ⟨by simp [go_sem, lonE], by simp [go_sem, lonE], by simp [go_sem, lonE]⟩
theorem lon_ok {root nm : ByteArray} {st : Int} (h1 : nameF root.data.toList = 0) (h2 : nameF nm.data.toList = 0) (h3 : 1 ≤ st) (h4 : st ≤ 1000000) : entF (lonE root nm st) = 0 := by
  unfold entF lonE
  rw [h1, seqF_zero, if_pos (show mayBeB ((1 : Nat) : Int) ((0 : Nat) : Int) = true by decide), seqF_zero]
  show seqF (partsF _ 1) (patchesF _ 0) = 0
  have e : partsF (⟨root, 1, fun _ => nm, fun _ => st, fun _ => 0, 0, fun _ => 0, fun _ => 0, fun _ => 0⟩ : EntF) 1 = 0 := by
    show seqF 0 (stampedF nm st 0) = 0
    rw [seqF_zero]
    unfold stampedF
    rw [h2, seqF_zero, if_neg (by omega), if_neg (by omega)]
  rw [e, seqF_zero]
  rfl
/-- the document's shelf changed: the disk and its shelf stay. -/
theorem both_end {w w6 w7 : World} {B p m g n k : Nat} {s' : DSt} {vl : Value} {V : Nat → EntV} {E : Nat → EntF} (hBw : w.heap.size ≤ B) (hBm : B ≤ m) (hm : RShelf w6 w.heap.size w.heap.size m vl k V E) (hD : Disk w6 B p n s') (hg : ShelfAt w6 g p) (hb : Below w.heap.size w w6) (hG : w6.grownBy w7 (some m)) : Disk w7 B p n s' ∧ ShelfAt w7 g p ∧ Below w.heap.size w w7 := by
  have hmt : ∀ (q : Nat) (o : Obj), w6.heap[q]? = some o → (∀ v, o ≠ .cells #[v] 38 (0, 0)) → w7.heap[q]? = some o := fun q o hq hne => (hG.block q (Array.getElem?_eq_some_iff.1 hq).1 (fun e => by
    injection e with e
    subst e
    rw [hm.blk] at hq
    injection hq with hq
    exact hne _ hq.symm)).trans hq
  refine ⟨hD.other (fun q o hq ho => hmt q o hq (fun v e => ?_)), hmt g _ hg (fun v e => ?_), ?_⟩
  · subst e
    obtain ⟨c, t, f, e2, ht⟩ := ho
    injection e2 with _ e3 _
    subst e3
    exact absurd ht (by decide)
  · injection e with _ e2 _
    exact absurd e2 (by decide)
  · exact ⟨hG.os.trans hb.os, hG.tape.trans hb.tape, hG.output.trans hb.output, Nat.le_trans hb.size hG.size, fun q hq => (hG.block q (Nat.lt_of_lt_of_le hq hb.size) (fun e => by injection e; omega)).trans (hb.block q hq)⟩
end Go.Proofs.YtlcdacldhalnnaaGreatDoor

namespace Go.Proofs.YtlcdacldhalnnaaGreatDoor
open Go.RowKit

abbrev actCs (x : ActF) : Array Value := #[.string x.kind, .string x.s, .string x.t, .int .i64 x.a, .int .u64 x.k, .string x.root, .slice x.pa x.pn x.pc, .slice x.qa x.qn x.qc]
structure ActCopy (w : World) (b : Nat) (x : ActF) : Prop where
  blk : w.heap[b]? = some (.cells (actCs x) 45 (0, 0))
theorem ActCopy.c0 {w : World} {b : Nat} {x : ActF} (h : ActCopy w b x) : w.cell? ⟨b, 0, none⟩ = some (.string x.kind) := by simp [World.cell?, h.blk]
theorem ActCopy.c1 {w : World} {b : Nat} {x : ActF} (h : ActCopy w b x) : w.cell? ⟨b, 1, none⟩ = some (.string x.s) := by simp [World.cell?, h.blk]
theorem ActCopy.c5 {w : World} {b : Nat} {x : ActF} (h : ActCopy w b x) : w.cell? ⟨b, 5, none⟩ = some (.string x.root) := by simp [World.cell?, h.blk]
theorem ActCopy.c6 {w : World} {b : Nat} {x : ActF} (h : ActCopy w b x) : w.cell? ⟨b, 6, none⟩ = some (.slice x.pa x.pn x.pc) := by simp [World.cell?, h.blk]
theorem ActCopy.c7 {w : World} {b : Nat} {x : ActF} (h : ActCopy w b x) : w.cell? ⟨b, 7, none⟩ = some (.slice x.qa x.qn x.qc) := by simp [World.cell?, h.blk]
theorem act_not_disk (x : ActF) : ¬ DiskTy (.cells (actCs x) 45 (0, 0)) := by
  rintro ⟨c', t, f, h, ht⟩
  injection h with _ h _
  subst h
  revert ht
  decide
theorem ActCopy.lt {w : World} {b : Nat} {x : ActF} (h : ActCopy w b x) : b < w.heap.size := (Array.getElem?_eq_some_iff.1 h.blk).1
theorem ActCopy.spun {w w' : World} {B b : Nat} {x : ActF} (h : ActCopy w b x) (hs : Spun B w w') : ActCopy w' b x := ⟨hs.block _ _ h.blk (act_not_disk x)⟩
theorem ActCopy.later {w w' : World} {b : Nat} {x : ActF} (h : ActCopy w b x) (hb : Below w.heap.size w w') : ActCopy w' b x := ⟨(hb.block b h.lt).trans h.blk⟩
theorem ActCopy.grown {w w' : World} {b m : Nat} {x : ActF} (h : ActCopy w b x) (hg : w.grownBy w' (some m)) (hne : b ≠ m) : ActCopy w' b x := ⟨(hg.block b h.lt (fun e => by injection e with e; exact hne e)).trans h.blk⟩
theorem same_alike (a : Nat) (w : World) : Calls Tryz.prog 7 #[errV a, .int .i64 (a : Int)] w fun e w' => e = .returned (.bool true) ∧ w' = w :=
  (same_errV a a w).mono fun e w' ⟨he, hw⟩ => ⟨by rw [he]; simp, hw.symm⟩
theorem kind_no {a b : ByteArray} (h : a ≠ b) : (a.toList == b.toList) = false := by
  rw [beq_eq_false_iff_ne]
  intro z
  apply h
  rw [ByteArray.toList_eq, ByteArray.toList_eq] at z
  exact WideShapes.bytes_inj z
end Go.Proofs.YtlcdacldhalnnaaGreatDoor

namespace Go.Proofs.YtlcdacldhalnnaaGreatDoor
open Go.RowKit

theorem sameTexts_zero (a c : Option Addr) (ca cb : Nat) (w : World) :
    Calls Tryz.prog 17 #[.slice a 0 ca, .slice c 0 cb] w fun e w' => e = .returned (.bool true) ∧ ∃ k, w' = w.drewN k := by
  go_enter Tryz.func17, Tryz.ntmps17
  go_wp2
  refine wp_loop_rounds 1 ?_
  rw [rounds_succ]
  go_wp2
  go_ret
  exact ⟨rfl, 0, rfl⟩

set_option maxHeartbeats 400000 in
theorem sameTexts_some (f : Nat → ByteArray) (n : Nat) (bx ox cx bY oY cy : Nat) (w : World) (hm : n ≤ 1000000000)
    (hx : ∀ i, i < n → w.cell? ⟨bx, ox + i, none⟩ = some (.string (f i)))
    (hy : ∀ i, i < n → w.cell? ⟨bY, oY + i, none⟩ = some (.string (f i))) :
    Calls Tryz.prog 17 #[.slice (some ⟨bx, ox, none⟩) n cx, .slice (some ⟨bY, oY, none⟩) n cy] w fun e w' => e = .returned (.bool true) ∧ ∃ k, w' = w.drewN k := by
  go_enter Tryz.func17, Tryz.ntmps17
  go_wp2
  go_loopw [5] (fun i wr => ∃ k j : Nat, k ≤ n ∧ i = .int .i64 k ∧ wr = w.drewN j) (fun i _ => n - (intOf i).toNat)
  case atStart => exact ⟨0, 0, Nat.zero_le _, rfl, rfl⟩
  case round =>
    obtain ⟨k, j, hk, rfl, rfl⟩ := hrel
    by_cases hlt : k < n
    · have hxk := hx k hlt
      have hyk := hy k hlt
      clear hx hy
      generalize f k = z at *
      go_wp2
      go_quiet (fail)
      go_wp2
      go_roundw
      case rel => exact ⟨k + 1, j + nq, by omega, by go_num, rfl⟩
      case measure => simp [intOf]; omega
    · have hkn : k = n := by omega
      subst hkn
      clear hx hy
      go_wp2
      go_ret
      exact ⟨rfl, j, rfl⟩

theorem sameTexts_true (f g : Nat → ByteArray) (n : Nat) (a c : Option Addr) (ca cb : Nat) (w : World) (hm : n ≤ 1000000000)
    (hx : RowAt w a n fun i => .string (f i)) (hy : RowAt w c n fun i => .string (g i)) (he : ∀ i, i < n → f i = g i) :
    Calls Tryz.prog 17 #[.slice a n ca, .slice c n cb] w fun e w' => e = .returned (.bool true) ∧ ∃ k, w' = w.drewN k := by
  rcases hx with h0 | ⟨b, o, rfl, hx⟩
  · subst h0
    exact sameTexts_zero a c ca cb w
  · rcases hy with h0 | ⟨b', o', rfl, hy⟩
    · subst h0
      exact sameTexts_zero _ c ca cb w
    · exact sameTexts_some f n b o ca b' o' cb w hm hx (fun i hi => by rw [hy i hi, he i hi])
end Go.Proofs.YtlcdacldhalnnaaGreatDoor
