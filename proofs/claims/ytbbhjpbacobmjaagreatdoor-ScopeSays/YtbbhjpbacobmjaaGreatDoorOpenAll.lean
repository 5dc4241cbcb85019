/-
  Slices that came in, opened: a row of numbers, a row of texts, a row of structs of a text, a number and a bool: what each place holds.
  A row of acts that came in, opened: what each place holds.
  An object that came in, opened: where its four slices lie, and what they hold.
  A row of objects that came in, opened: where each one's four slices lie, and what they hold.
-/
import Derived.Test.YtbbhjpbacobmjaaGreatDoorAtAll
import Derived.Deep.Slices
import Derived.Deep.Strs
import Derived.ChangeSlices
import Derived.Test.YtbbhjpbacobmjaaGreatDoorActsOne
import Derived.Lib.SmallJoins
import Derived.ChangeOld
import Derived.Test.YtbbhjpbacobmjaaGreatDoorRows
namespace Go.Proofs.YtbbhjpbacobmjaaGreatDoor
open Go.RowKit Go.Deep Go.ChangeShapes Go.WideShapes

theorem rowAt_of_adds {w : World} {x : Addr} {n : Nat} {f : Nat → Value} (h : ∀ i, i < n → w.cell? (x.add i) = some (f i)) : RowAt w (some x) n f := by
  by_cases h0 : n = 0
  · exact .inl h0
  · obtain ⟨b, o, sp⟩ := x
    have hc := h 0 (by omega)
    have hsp : sp = none := by simpa [Addr.add] using World.cell?_spot hc
    subst hsp
    refine .inr ⟨b, o, rfl, fun i hi => ?_⟩
    have := h i hi
    cases i with
    | zero => simpa [Addr.add] using this
    | succ i => simpa [Addr.add] using this

section
variable {H : Type} {enc : TypeId × Value → H} {P : Program} {w : World} {base : Nat} {held : Bool}

/-- a row of numbers. -/
theorem open_row_ints {t e : TypeId} {k : IntKind} {fuel : Nat} {a : Option Addr} {n c : Nat} {x : DataW H × List MemPlace} (ht : P.underlying t = some (.slice e)) (he : P.underlying e = some (.int k)) (hc : P.cellsOf e = 1)
    (h : DataW.trod enc P w base (fun _ => true) held fuel t [.slice a n c] = some x) :
    ∃ f : Nat → Int, RowAt w a n (fun i => .int k (f i)) ∧ n ≤ maxLen ∧ ∀ i, i < n → (Lit.int k (f i)).wf = true := by
  rcases open_ints ht he hc h with ⟨hcs, _⟩ | ⟨y, l, cc, zs, hcs, _, hl, hm, hz, _, hcell, hwz⟩
  · simp at hcs
    obtain ⟨rfl, rfl, rfl⟩ := hcs
    exact ⟨fun _ => 0, .inl rfl, Nat.zero_le _, fun i hi => by omega⟩
  · simp at hcs
    obtain ⟨rfl, rfl, rfl⟩ := hcs
    simp at hz
    refine ⟨fun i => zs.getD i 0, rowAt_of_adds (fun i hi => hcell i (by omega)), by omega, fun i hi => hwz _ ?_⟩
    show zs.getD i 0 ∈ zs
    rw [List.getD_eq_getElem?_getD, List.getElem?_eq_getElem (by omega : i < zs.length)]
    exact List.getElem_mem _

/-- a slice in a cell: its form. -/
theorem slice_cell {t e : TypeId} {fuel : Nat} {v : Value} {spare : Nat → Bool} {x : DataW H × List MemPlace} (ht : P.underlying t = some (.slice e)) (h : DataW.trod enc P w base spare held fuel t [v] = some x) : ∃ a n c, v = .slice a n c := by
  rcases open_slice ht h with ⟨hcs, _⟩ | ⟨y, len, cap, m, fu, D, Pl, hcs, _⟩
  · simp at hcs; exact ⟨_, _, _, hcs⟩
  · simp at hcs; exact ⟨_, _, _, hcs⟩

/-- a row of texts. -/
theorem open_row_strs {t e : TypeId} {fuel : Nat} {a : Option Addr} {n c : Nat} {x : DataW H × List MemPlace} (ht : P.underlying t = some (.slice e)) (he : P.underlying e = some .string) (hc : P.cellsOf e = 1)
    (h : DataW.trod enc P w base (fun _ => true) held fuel t [.slice a n c] = some x) :
    ∃ f : Nat → ByteArray, RowAt w a n (fun i => .string (f i)) ∧ n ≤ maxLen ∧ ∀ i, i < n → (f i).size ≤ maxLen := by
  rcases open_strs ht he hc h with ⟨hcs, _⟩ | ⟨y, l, cc, m, Sx, hcs, _, hl, hm, hmm, _, hx⟩
  · simp at hcs
    obtain ⟨rfl, rfl, rfl⟩ := hcs
    exact ⟨fun _ => ByteArray.empty, .inl rfl, Nat.zero_le _, fun i hi => by omega⟩
  · simp at hcs
    obtain ⟨rfl, rfl, rfl⟩ := hcs
    simp at hmm
    exact ⟨Sx, rowAt_of_adds (fun i hi => (hx i (by omega)).1), by omega, fun i hi => (hx i (by omega)).2⟩

/-- a row of structs of a text, a number and a bool. -/
theorem open_row_syms {t e : TypeId} {f0 f1 f2 : Field} {fuel : Nat} {a : Option Addr} {n c : Nat} {x : DataW H × List MemPlace} (ht : P.underlying t = some (.slice e)) (he : P.underlying e = some (.struct #[f0, f1, f2]))
    (ce : P.cellsOf e = 3) (o0 : f0.offset = 0) (o1 : f1.offset = 1) (o2 : f2.offset = 2) (c0 : P.cellsOf f0.type = 1) (c1 : P.cellsOf f1.type = 1) (c2 : P.cellsOf f2.type = 1)
    (u0 : P.underlying f0.type = some .string) (u1 : P.underlying f1.type = some (.int .i64)) (u2 : P.underlying f2.type = some .bool)
    (h : DataW.trod enc P w base (fun _ => true) held fuel t [.slice a n c] = some x) :
    ∃ (s : Nat → ByteArray) (v : Nat → Int) (b : Nat → Bool), n ≤ maxLen ∧ (∀ i, i < n → (s i).size ≤ maxLen ∧ (Lit.int .i64 (v i)).wf = true) ∧
      (n = 0 ∨ ∃ bk o, a = some ⟨bk, o, none⟩ ∧ ∀ i, i < n → w.cell? ⟨bk, o + i * 3, none⟩ = some (.string (s i)) ∧ w.cell? ⟨bk, o + i * 3 + 1, none⟩ = some (.int .i64 (v i)) ∧ w.cell? ⟨bk, o + i * 3 + 2, none⟩ = some (.bool (b i))) := by
  rcases open_slice ht h with ⟨hcs, _⟩ | ⟨y, len, cap, m, fu, D, Pl, hcs, _, hl, hm, hmm, _, hx⟩
  · simp at hcs
    obtain ⟨rfl, rfl, rfl⟩ := hcs
    exact ⟨fun _ => ByteArray.empty, fun _ => 0, fun _ => false, Nat.zero_le _, fun i hi => by omega, .inl rfl⟩
  · simp at hcs
    obtain ⟨rfl, rfl, rfl⟩ := hcs
    simp at hmm
    have each : ∀ i, i < n → ∃ q : ByteArray × Int × Bool, w.cell? (y.add (i * 3)) = some (.string q.1) ∧ w.cell? (y.add (i * 3 + 1)) = some (.int .i64 q.2.1) ∧ w.cell? (y.add (i * 3 + 2)) = some (.bool q.2.2) ∧ q.1.size ≤ maxLen ∧ (Lit.int .i64 q.2.1).wf = true := by
      intro i hi
      obtain ⟨cs', h1, h2⟩ := hx i (by omega)
      rw [ce] at h1
      obtain ⟨_, hlen, hcell⟩ := World.cells?_some h1
      obtain ⟨xs, k, hk, hxy, _, hxl, hf⟩ := DataW.trod_struct he h2
      match xs, hxl, cs', hlen with
      | [y0, y1, y2], _, [v0, v1, v2], _ =>
        have g0 := hf 0 f0 rfl
        have g1 := hf 1 f1 rfl
        have g2 := hf 2 f2 rfl
        simp [o0, o1, o2, c0, c1, c2] at g0 g1 g2
        have e0 := hcell 0 (by omega)
        have e1 := hcell 1 (by omega)
        have e2 := hcell 2 (by omega)
        rw [add_add] at e0 e1 e2
        obtain ⟨s, hs, _, hsz⟩ := DataW.trod_string u0 g0
        obtain ⟨z, hz, _, wz⟩ := DataW.trod_int u1 g1
        obtain ⟨b, hb, _⟩ := DataW.trod_bool u2 g2
        simp at hs hz hb
        subst hs hz hb
        exact ⟨(s, z, b), by simpa using e0, by simpa using e1, by simpa using e2, hsz, wz⟩
    obtain ⟨q, hq⟩ := choose_lt each
    refine ⟨fun i => (q i).1, fun i => (q i).2.1, fun i => (q i).2.2, by omega, fun i hi => ⟨(hq i hi).2.2.2.1, (hq i hi).2.2.2.2⟩, ?_⟩
    by_cases h0 : n = 0
    · exact .inl h0
    · obtain ⟨bk, o, sp⟩ := y
      have hc := (hq 0 (by omega)).1
      have hsp : sp = none := by simpa [Addr.add] using World.cell?_spot hc
      subst hsp
      refine .inr ⟨bk, o, rfl, fun i hi => ?_⟩
      have := hq i hi
      rw [add_plain, add_plain, add_plain] at this
      exact ⟨this.1, by simpa [Nat.add_assoc] using this.2.1, by simpa [Nat.add_assoc] using this.2.2.1⟩
end
end Go.Proofs.YtbbhjpbacobmjaaGreatDoor

namespace Go.Proofs.YtbbhjpbacobmjaaGreatDoor
open Go.RowKit Go.Deep Go.ChangeShapes Go.WideShapes Go.Joins

section
variable {H : Type} {enc : TypeId × Value → H} {w : World} {base : Nat} {held : Bool}

theorem slice_capA {P : Program} {t e : TypeId} {fuel : Nat} {a : Option Addr} {n c : Nat} {spare : Nat → Bool} {x : DataW H × List MemPlace} (ht : P.underlying t = some (.slice e)) (h : DataW.trod enc P w base spare held fuel t [.slice a n c] = some x) : n ≤ c := by
  rcases open_slice ht h with ⟨hcs, _⟩ | ⟨y, len, cap, m, fu, D, Pl, hcs, _, hl, _⟩
  · simp at hcs
    obtain ⟨rfl, rfl, rfl⟩ := hcs
    exact Nat.le_refl _
  · simp at hcs
    obtain ⟨rfl, rfl, rfl⟩ := hcs
    exact hl

theorem is64_of {n : Int} (h : (Lit.int .i64 n).wf = true) : Is64 n := by
  have h1 : (decide (IntKind.min .i64 ≤ n) && decide (n ≤ IntKind.max .i64)) = true := h
  simp only [Bool.and_eq_true, decide_eq_true_eq] at h1
  exact h1
theorem isU64_of {n : Int} (h : (Lit.int .u64 n).wf = true) : 0 ≤ n ∧ n ≤ 18446744073709551615 := by
  have h1 : (decide (IntKind.min .u64 ≤ n) && decide (n ≤ IntKind.max .u64)) = true := h
  simp only [Bool.and_eq_true, decide_eq_true_eq] at h1
  exact h1
/-- a part of an entry. -/
structure PartQ where
  s : ByteArray
  k : Int
  b : Int
structure PatQ where
  p : Int
  t : Int
  v : Int
set_option maxRecDepth 100000 in
theorem open_parts {fuel : Nat} {a : Option Addr} {n c : Nat} {x : DataW H × List MemPlace} (h : DataW.trod enc Tryz.prog w base (fun _ => true) held fuel 64 [.slice a n c] = some x) :
    ∃ f : Nat → PartQ, RowSII w a n (fun i => (f i).s) (fun i => (f i).k) (fun i => (f i).b) ∧ (∀ i, i < n → (f i).s.size ≤ maxLen ∧ Is64 (f i).k ∧ Is64 (f i).b) ∧ n ≤ maxLen := by
  have ce : Tryz.prog.cellsOf 145 = 3 := by kernel_rfl
  rcases open_slice Tryz.underlying64 h with ⟨hcs, _⟩ | ⟨y, len, cap, m, fu, D, Pl, hcs, _, hl, hm, hmm, _, hx⟩
  · simp at hcs
    obtain ⟨rfl, rfl, rfl⟩ := hcs
    exact ⟨fun _ => ⟨ByteArray.empty, 0, 0⟩, .inl rfl, fun i hi => by omega, by decide⟩
  · simp at hcs
    obtain ⟨rfl, rfl, rfl⟩ := hcs
    simp at hmm
    have each : ∀ i, i < n → ∃ q : PartQ, w.cell? (y.add (i * 3)) = some (.string q.s) ∧ w.cell? (y.add (i * 3 + 1)) = some (.int .i64 q.k) ∧ w.cell? (y.add (i * 3 + 2)) = some (.int .i64 q.b) ∧ q.s.size ≤ maxLen ∧ Is64 q.k ∧ Is64 q.b := by
      intro i hi
      obtain ⟨cs', h1, h2⟩ := hx i (by omega)
      rw [ce] at h1
      obtain ⟨_, hlen, hcell⟩ := World.cells?_some h1
      obtain ⟨xs, k, hk, hxy, _, hxl, hf⟩ := DataW.trod_struct Tryz.underlying145 h2
      match xs, hxl, cs', hlen with
      | [y0, y1, y2], _, [v0, v1, v2], _ =>
        have g0 := hf 0 _ rfl
        have g1 := hf 1 _ rfl
        have g2 := hf 2 _ rfl
        have q0 : Tryz.prog.cellsOf 9 = 1 := by kernel_rfl
        have q1 : Tryz.prog.cellsOf 3 = 1 := by kernel_rfl
        simp [q0, q1] at g0 g1 g2
        have e0 := hcell 0 (by omega)
        have e1 := hcell 1 (by omega)
        have e2 := hcell 2 (by omega)
        rw [add_add] at e0 e1 e2
        obtain ⟨s, hs, _, m0⟩ := DataW.trod_string Tryz.underlying9 g0
        obtain ⟨z1, hz1, _, m1⟩ := DataW.trod_int Tryz.underlying3 g1
        obtain ⟨z2, hz2, _, m2⟩ := DataW.trod_int Tryz.underlying3 g2
        simp at hs hz1 hz2
        subst hs hz1 hz2
        exact ⟨⟨s, z1, z2⟩, by simpa using e0, by simpa using e1, by simpa using e2, m0, is64_of m1, is64_of m2⟩
    haveI : Inhabited PartQ := ⟨⟨ByteArray.empty, 0, 0⟩⟩
    obtain ⟨q, hq⟩ := choose_lt each
    refine ⟨q, ?_, fun i hi => (hq i hi).2.2.2, Nat.le_trans hl hm⟩
    by_cases h0 : n = 0
    · exact .inl h0
    · obtain ⟨bk, o, sp⟩ := y
      have hc := (hq 0 (by omega)).1
      have hsp : sp = none := by simpa [Addr.add] using World.cell?_spot hc
      subst hsp
      refine .inr ⟨bk, o, rfl, fun i hi => ?_⟩
      have := hq i hi
      rw [add_plain, add_plain, add_plain] at this
      exact ⟨this.1, by simpa [Nat.add_assoc] using this.2.1, by simpa [Nat.add_assoc] using this.2.2.1⟩
set_option maxRecDepth 100000 in
theorem open_pats {fuel : Nat} {a : Option Addr} {n c : Nat} {x : DataW H × List MemPlace} (h : DataW.trod enc Tryz.prog w base (fun _ => true) held fuel 47 [.slice a n c] = some x) :
    ∃ f : Nat → PatQ, RowIII w a n (fun i => (f i).p) (fun i => (f i).t) (fun i => (f i).v) ∧ (∀ i, i < n → Is64 (f i).p ∧ Is64 (f i).t ∧ Is64 (f i).v) ∧ n ≤ maxLen := by
  have ce : Tryz.prog.cellsOf 136 = 3 := by kernel_rfl
  rcases open_slice Tryz.underlying47 h with ⟨hcs, _⟩ | ⟨y, len, cap, m, fu, D, Pl, hcs, _, hl, hm, hmm, _, hx⟩
  · simp at hcs
    obtain ⟨rfl, rfl, rfl⟩ := hcs
    exact ⟨fun _ => ⟨0, 0, 0⟩, .inl rfl, fun i hi => by omega, by decide⟩
  · simp at hcs
    obtain ⟨rfl, rfl, rfl⟩ := hcs
    simp at hmm
    have each : ∀ i, i < n → ∃ q : PatQ, w.cell? (y.add (i * 3)) = some (.int .i64 q.p) ∧ w.cell? (y.add (i * 3 + 1)) = some (.int .i64 q.t) ∧ w.cell? (y.add (i * 3 + 2)) = some (.int .i64 q.v) ∧ Is64 q.p ∧ Is64 q.t ∧ Is64 q.v := by
      intro i hi
      obtain ⟨cs', h1, h2⟩ := hx i (by omega)
      rw [ce] at h1
      obtain ⟨_, hlen, hcell⟩ := World.cells?_some h1
      obtain ⟨xs, k, hk, hxy, _, hxl, hf⟩ := DataW.trod_struct Tryz.underlying136 h2
      match xs, hxl, cs', hlen with
      | [y0, y1, y2], _, [v0, v1, v2], _ =>
        have g0 := hf 0 _ rfl
        have g1 := hf 1 _ rfl
        have g2 := hf 2 _ rfl
        have q1 : Tryz.prog.cellsOf 3 = 1 := by kernel_rfl
        simp [q1] at g0 g1 g2
        have e0 := hcell 0 (by omega)
        have e1 := hcell 1 (by omega)
        have e2 := hcell 2 (by omega)
        rw [add_add] at e0 e1 e2
        obtain ⟨z0, hz0, _, m0⟩ := DataW.trod_int Tryz.underlying3 g0
        obtain ⟨z1, hz1, _, m1⟩ := DataW.trod_int Tryz.underlying3 g1
        obtain ⟨z2, hz2, _, m2⟩ := DataW.trod_int Tryz.underlying3 g2
        simp at hz0 hz1 hz2
        subst hz0 hz1 hz2
        exact ⟨⟨z0, z1, z2⟩, by simpa using e0, by simpa using e1, by simpa using e2, is64_of m0, is64_of m1, is64_of m2⟩
    haveI : Inhabited PatQ := ⟨⟨0, 0, 0⟩⟩
    obtain ⟨q, hq⟩ := choose_lt each
    refine ⟨q, ?_, fun i hi => (hq i hi).2.2.2, Nat.le_trans hl hm⟩
    by_cases h0 : n = 0
    · exact .inl h0
    · obtain ⟨bk, o, sp⟩ := y
      have hc := (hq 0 (by omega)).1
      have hsp : sp = none := by simpa [Addr.add] using World.cell?_spot hc
      subst hsp
      refine .inr ⟨bk, o, rfl, fun i hi => ?_⟩
      have := hq i hi
      rw [add_plain, add_plain, add_plain] at this
      exact ⟨this.1, by simpa [Nat.add_assoc] using this.2.1, by simpa [Nat.add_assoc] using this.2.2.1⟩
theorem RowSII.parts {a : Option Addr} {n : Nat} {s : Nat → ByteArray} {k b : Nat → Int} (h : RowSII w a n s k b) : PartsRow w a n s := h.imp id (fun ⟨bk, o, ha, hc⟩ => ⟨bk, o, ha, fun i hi => (hc i hi).1⟩)

set_option maxRecDepth 100000 in
theorem open_acts {fuel : Nat} {a : Option Addr} {n c : Nat} {x : DataW H × List MemPlace}
    (h : DataW.trod enc Tryz.prog w base (fun _ => true) held fuel 22 [.slice a n c] = some x) :
    ∃ X : Nat → ActF, ActsRow w a n X ∧ ∀ i, i < n → ActFit (X i) := by
  have ce : Tryz.prog.cellsOf 82 = 8 := by kernel_rfl
  rcases open_slice Tryz.underlying22 h with ⟨hcs, _⟩ | ⟨y, len, cap, m, fu, D, Pl, hcs, _, hl, hm, hmm, _, hx⟩
  · simp at hcs
    obtain ⟨rfl, rfl, rfl⟩ := hcs
    exact ⟨fun _ => ⟨ByteArray.empty, ByteArray.empty, ByteArray.empty, 0, 0, ByteArray.empty, none, 0, 0, fun _ => ByteArray.empty, none, 0, 0, fun _ => 0, fun _ => 0, fun _ => 0, fun _ => 0, fun _ => 0⟩, .inl rfl, fun i hi => by omega⟩
  · simp at hcs
    obtain ⟨rfl, rfl, rfl⟩ := hcs
    simp at hmm
    have each : ∀ i, i < n → ∃ q : ActF, w.cell? (y.add (i * 8)) = some (.string q.kind) ∧ w.cell? (y.add (i * 8 + 1)) = some (.string q.s) ∧ w.cell? (y.add (i * 8 + 2)) = some (.string q.t) ∧ w.cell? (y.add (i * 8 + 3)) = some (.int .i64 q.a) ∧ w.cell? (y.add (i * 8 + 4)) = some (.int .u64 q.k) ∧ w.cell? (y.add (i * 8 + 5)) = some (.string q.root) ∧ w.cell? (y.add (i * 8 + 6)) = some (.slice q.pa q.pn q.pc) ∧ w.cell? (y.add (i * 8 + 7)) = some (.slice q.qa q.qn q.qc) ∧ PartsRow w q.pa q.pn q.pname ∧ RowSII w q.pa q.pn q.pname q.pst q.pbs ∧ RowIII w q.qa q.qn q.qp q.qt q.qv ∧ ActFit q := by
      intro i hi
      obtain ⟨cs', h1, h2⟩ := hx i (by omega)
      rw [ce] at h1
      obtain ⟨_, hlen, hcell⟩ := World.cells?_some h1
      obtain ⟨xs, k, hk, hxy, _, hxl, hf⟩ := DataW.trod_struct Tryz.underlying82 h2
      match xs, hxl, cs', hlen with
      | [y0, y1, y2, y3, y4, y5], _, [v0, v1, v2, v3, v4, v5, v6, v7], _ =>
        have g0 := hf 0 _ rfl
        have g1 := hf 1 _ rfl
        have g2 := hf 2 _ rfl
        have g3 := hf 3 _ rfl
        have g4 := hf 4 _ rfl
        have g5 := hf 5 _ rfl
        have q0 : Tryz.prog.cellsOf 9 = 1 := by kernel_rfl
        have q5 : Tryz.prog.cellsOf 66 = 3 := by kernel_rfl
        have q3 : Tryz.prog.cellsOf 3 = 1 := by kernel_rfl
        have q4 : Tryz.prog.cellsOf 80 = 1 := by kernel_rfl
        simp [q0, q3, q4, q5] at g0 g1 g2 g3 g4 g5
        have e0 := hcell 0 (by omega)
        have e1 := hcell 1 (by omega)
        have e2 := hcell 2 (by omega)
        have e3 := hcell 3 (by omega)
        have e4 := hcell 4 (by omega)
        have e5 := hcell 5 (by omega)
        have e6 := hcell 6 (by omega)
        have e7 := hcell 7 (by omega)
        rw [add_add] at e0 e1 e2 e3 e4 e5 e6 e7
        obtain ⟨s0, hs0, _, _⟩ := DataW.trod_string Tryz.underlying9 g0
        obtain ⟨s1, hs1, _, m1⟩ := DataW.trod_string Tryz.underlying9 g1
        obtain ⟨s2, hs2, _, m2⟩ := DataW.trod_string Tryz.underlying9 g2
        obtain ⟨z3, hz3, _, m3⟩ := DataW.trod_int Tryz.underlying3 g3
        obtain ⟨z4, hz4, _, m4⟩ := DataW.trod_int Tryz.underlying80 g4
        obtain ⟨zs, k5, hk5, hxy5, _, hxl5, hf5⟩ := DataW.trod_struct Tryz.underlying66 g5
        match zs, hxl5 with
        | [z0, z1, z2], _ =>
          have r0 := hf5 0 _ rfl
          have r1 := hf5 1 _ rfl
          have r2 := hf5 2 _ rfl
          have q6 : Tryz.prog.cellsOf 64 = 1 := by kernel_rfl
          have q7 : Tryz.prog.cellsOf 47 = 1 := by kernel_rfl
          simp [q0, q6, q7] at r0 r1 r2
          obtain ⟨s5, hs5, _, m5⟩ := DataW.trod_string Tryz.underlying9 r0
          obtain ⟨pa, pn, pc, hp⟩ := slice_cell Tryz.underlying64 r1
          obtain ⟨qa, qn, qc, hq⟩ := slice_cell Tryz.underlying47 r2
          simp at hs0 hs1 hs2 hs5 hz3 hz4
          subst hs0 hs1 hs2 hs5 hp hq hz3 hz4
          obtain ⟨pf, hpf, hpr, hpl⟩ := open_parts r1
          obtain ⟨qf, hqf, hqr, hql⟩ := open_pats r2
          exact ⟨⟨s0, s1, s2, z3, z4, s5, pa, pn, pc, fun i => (pf i).s, qa, qn, qc, fun i => (pf i).k, fun i => (pf i).b, fun i => (qf i).p, fun i => (qf i).t, fun i => (qf i).v⟩, by simpa using e0, by simpa using e1, by simpa using e2, by simpa using e3, by simpa using e4, by simpa using e5, by simpa using e6, by simpa using e7, hpf.parts, hpf, hqf, ⟨m1, m2, is64_of m3, isU64_of m4, m5, hpr, hqr, hpl, hql⟩⟩
    haveI : Inhabited ActF := ⟨⟨ByteArray.empty, ByteArray.empty, ByteArray.empty, 0, 0, ByteArray.empty, none, 0, 0, fun _ => ByteArray.empty, none, 0, 0, fun _ => 0, fun _ => 0, fun _ => 0, fun _ => 0, fun _ => 0⟩⟩
    obtain ⟨q, hq⟩ := choose_lt each
    refine ⟨q, ?_, fun i hi => (hq i hi).2.2.2.2.2.2.2.2.2.2.2⟩
    by_cases h0 : n = 0
    · exact .inl h0
    · obtain ⟨bk, o, sp⟩ := y
      have hc := (hq 0 (by omega)).1
      have hsp : sp = none := by simpa [Addr.add] using World.cell?_spot hc
      subst hsp
      refine .inr ⟨bk, o, rfl, fun i hi => ?_⟩
      have := hq i hi
      rw [add_plain, add_plain, add_plain, add_plain, add_plain, add_plain, add_plain, add_plain] at this
      exact ⟨this.1, by simpa [Nat.add_assoc] using this.2.1, by simpa [Nat.add_assoc] using this.2.2.1, by simpa [Nat.add_assoc] using this.2.2.2.1, by simpa [Nat.add_assoc] using this.2.2.2.2.1, by simpa [Nat.add_assoc] using this.2.2.2.2.2.1, by simpa [Nat.add_assoc] using this.2.2.2.2.2.2.1, by simpa [Nat.add_assoc] using this.2.2.2.2.2.2.2.1, this.2.2.2.2.2.2.2.2.1, this.2.2.2.2.2.2.2.2.2.1, this.2.2.2.2.2.2.2.2.2.2.1⟩
end
end Go.Proofs.YtbbhjpbacobmjaaGreatDoor

namespace Go.Proofs.YtbbhjpbacobmjaaGreatDoor
open Go.RowKit Go.Deep Go.ChangeShapes Go.WideShapes Go.Joins

section
variable {H : Type} {enc : TypeId × Value → H} {P : Program} {w : World} {base : Nat} {held : Bool}

theorem slice_cap {t e : TypeId} {fuel : Nat} {a : Option Addr} {n c : Nat} {spare : Nat → Bool} {x : DataW H × List MemPlace} (ht : P.underlying t = some (.slice e)) (h : DataW.trod enc P w base spare held fuel t [.slice a n c] = some x) : n ≤ c := by
  rcases open_slice ht h with ⟨hcs, _⟩ | ⟨y, len, cap, m, fu, D, Pl, hcs, _, hl, _⟩
  · simp at hcs
    obtain ⟨rfl, rfl, rfl⟩ := hcs
    exact Nat.le_refl _
  · simp at hcs
    obtain ⟨rfl, rfl, rfl⟩ := hcs
    exact hl

/-- a row of structs of three numbers, a text and a bool. -/
theorem open_row_ties {t e : TypeId} {f0 f1 f2 f3 f4 : Field} {fuel : Nat} {a : Option Addr} {n c : Nat} {x : DataW H × List MemPlace} (ht : P.underlying t = some (.slice e)) (he : P.underlying e = some (.struct #[f0, f1, f2, f3, f4]))
    (ce : P.cellsOf e = 5) (o0 : f0.offset = 0) (o1 : f1.offset = 1) (o2 : f2.offset = 2) (o3 : f3.offset = 3) (o4 : f4.offset = 4) (c0 : P.cellsOf f0.type = 1) (c1 : P.cellsOf f1.type = 1) (c2 : P.cellsOf f2.type = 1) (c3 : P.cellsOf f3.type = 1) (c4 : P.cellsOf f4.type = 1)
    (u0 : P.underlying f0.type = some (.int .i64)) (u1 : P.underlying f1.type = some (.int .i64)) (u2 : P.underlying f2.type = some (.int .i64)) (u3 : P.underlying f3.type = some .string) (u4 : P.underlying f4.type = some .bool)
    (h : DataW.trod enc P w base (fun _ => true) held fuel t [.slice a n c] = some x) :
    ∃ (p k d : Nat → Int) (s : Nat → ByteArray) (b : Nat → Bool), n ≤ maxLen ∧ (∀ i, i < n → (s i).size ≤ maxLen ∧ (Lit.int .i64 (p i)).wf = true ∧ (Lit.int .i64 (k i)).wf = true ∧ (Lit.int .i64 (d i)).wf = true) ∧ TiesRow w a n p k d s b := by
  rcases open_slice ht h with ⟨hcs, _⟩ | ⟨y, len, cap, m, fu, D, Pl, hcs, _, hl, hm, hmm, _, hx⟩
  · simp at hcs
    obtain ⟨rfl, rfl, rfl⟩ := hcs
    exact ⟨fun _ => 0, fun _ => 0, fun _ => 0, fun _ => ByteArray.empty, fun _ => false, Nat.zero_le _, fun i hi => by omega, .inl rfl⟩
  · simp at hcs
    obtain ⟨rfl, rfl, rfl⟩ := hcs
    simp at hmm
    have each : ∀ i, i < n → ∃ q : Int × Int × Int × ByteArray × Bool, w.cell? (y.add (i * 5)) = some (.int .i64 q.1) ∧ w.cell? (y.add (i * 5 + 1)) = some (.int .i64 q.2.1) ∧ w.cell? (y.add (i * 5 + 2)) = some (.int .i64 q.2.2.1) ∧ w.cell? (y.add (i * 5 + 3)) = some (.string q.2.2.2.1) ∧ w.cell? (y.add (i * 5 + 4)) = some (.bool q.2.2.2.2) ∧
        q.2.2.2.1.size ≤ maxLen ∧ (Lit.int .i64 q.1).wf = true ∧ (Lit.int .i64 q.2.1).wf = true ∧ (Lit.int .i64 q.2.2.1).wf = true := by
      intro i hi
      obtain ⟨cs', h1, h2⟩ := hx i (by omega)
      rw [ce] at h1
      obtain ⟨_, hlen, hcell⟩ := World.cells?_some h1
      obtain ⟨xs, k, hk, hxy, _, hxl, hf⟩ := DataW.trod_struct he h2
      match xs, hxl, cs', hlen with
      | [y0, y1, y2, y3, y4], _, [v0, v1, v2, v3, v4], _ =>
        have g0 := hf 0 f0 rfl
        have g1 := hf 1 f1 rfl
        have g2 := hf 2 f2 rfl
        have g3 := hf 3 f3 rfl
        have g4 := hf 4 f4 rfl
        simp [o0, o1, o2, o3, o4, c0, c1, c2, c3, c4] at g0 g1 g2 g3 g4
        have e0 := hcell 0 (by omega)
        have e1 := hcell 1 (by omega)
        have e2 := hcell 2 (by omega)
        have e3 := hcell 3 (by omega)
        have e4 := hcell 4 (by omega)
        rw [add_add] at e0 e1 e2 e3 e4
        obtain ⟨z0, hz0, _, w0⟩ := DataW.trod_int u0 g0
        obtain ⟨z1, hz1, _, w1⟩ := DataW.trod_int u1 g1
        obtain ⟨z2, hz2, _, w2⟩ := DataW.trod_int u2 g2
        obtain ⟨s, hs, _, hsz⟩ := DataW.trod_string u3 g3
        obtain ⟨b, hb, _⟩ := DataW.trod_bool u4 g4
        simp at hz0 hz1 hz2 hs hb
        subst hz0 hz1 hz2 hs hb
        exact ⟨(z0, z1, z2, s, b), by simpa using e0, by simpa using e1, by simpa using e2, by simpa using e3, by simpa using e4, hsz, w0, w1, w2⟩
    obtain ⟨q, hq⟩ := choose_lt each
    refine ⟨fun i => (q i).1, fun i => (q i).2.1, fun i => (q i).2.2.1, fun i => (q i).2.2.2.1, fun i => (q i).2.2.2.2, by omega, fun i hi => (hq i hi).2.2.2.2.2, ?_⟩
    by_cases h0 : n = 0
    · exact .inl h0
    · obtain ⟨bk, o, sp⟩ := y
      have hc := (hq 0 (by omega)).1
      have hsp : sp = none := by simpa [Addr.add] using World.cell?_spot hc
      subst hsp
      refine .inr ⟨bk, o, rfl, fun i hi => ?_⟩
      have := hq i hi
      rw [add_plain, add_plain, add_plain, add_plain, add_plain] at this
      exact ⟨this.1, by simpa [Nat.add_assoc] using this.2.1, by simpa [Nat.add_assoc] using this.2.2.1, by simpa [Nat.add_assoc] using this.2.2.2.1, by simpa [Nat.add_assoc] using this.2.2.2.2.1⟩
end

end Go.Proofs.YtbbhjpbacobmjaaGreatDoor

namespace Go.Proofs.YtbbhjpbacobmjaaGreatDoor
open Go.RowKit Go.Deep Go.ChangeShapes Go.WideShapes Go.Joins

set_option maxRecDepth 100000 in
theorem open_objs {H : Type} {enc : TypeId × Value → H} {w : World} {base fuel : Nat} {held : Bool} {a : Option Addr} {n c : Nat} {x : DataW H × List MemPlace}
    (h : DataW.trod enc Tryz.prog w base (fun _ => true) held fuel 23 [.slice a n c] = some x) :
    ∃ (V : Nat → ObjV) (O : Nat → ObjF), n ≤ maxLen ∧ ObjsRow w a n V O ∧ ∀ i, i < n → ObjFit (O i) := by
  have ce : Tryz.prog.cellsOf 62 = 4 := by kernel_rfl
  rcases open_slice Tryz.underlying23 h with ⟨hcs, _⟩ | ⟨y, len, cap, m, fu, D, Pl, hcs, _, hl, hm, hmm, _, hx⟩
  · simp at hcs
    obtain ⟨rfl, rfl, rfl⟩ := hcs
    exact ⟨fun _ => ⟨none, 0, none, 0, none, 0, none, 0⟩, fun _ => ⟨0, fun _ => ByteArray.empty, 0, fun _ => 0, 0, fun _ => ByteArray.empty, fun _ => 0, fun _ => false, 0, fun _ => 0, fun _ => 0, fun _ => 0, fun _ => ByteArray.empty, fun _ => false⟩, Nat.zero_le _, .inl rfl, fun i hi => by omega⟩
  · simp at hcs
    obtain ⟨rfl, rfl, rfl⟩ := hcs
    simp at hmm
    have each : ∀ i, i < n → ∃ q : ObjV × ObjF, w.cell? (y.add (i * 4)) = some (.slice q.1.aN q.2.nN q.1.cN) ∧ w.cell? (y.add (i * 4 + 1)) = some (.slice q.1.aW q.2.nW q.1.cW) ∧ w.cell? (y.add (i * 4 + 2)) = some (.slice q.1.aS q.2.nS q.1.cS) ∧ w.cell? (y.add (i * 4 + 3)) = some (.slice q.1.aT q.2.nT q.1.cT) ∧ ObjAt w q.1 q.2 ∧ ObjFit q.2 := by
      intro i hi
      obtain ⟨cs', h1, h2⟩ := hx i (by omega)
      rw [ce] at h1
      obtain ⟨_, hlen, hcell⟩ := World.cells?_some h1
      obtain ⟨xs, k, hk, hxy, _, hxl, hf⟩ := DataW.trod_struct Tryz.underlying62 h2
      match xs, hxl, cs', hlen with
      | [y0, y1, y2, y3], _, [v0, v1, v2, v3], _ =>
        have g0 := hf 0 _ rfl
        have g1 := hf 1 _ rfl
        have g2 := hf 2 _ rfl
        have g3 := hf 3 _ rfl
        have q0 : Tryz.prog.cellsOf 31 = 1 := by kernel_rfl
        have q1 : Tryz.prog.cellsOf 51 = 1 := by kernel_rfl
        have q2 : Tryz.prog.cellsOf 59 = 1 := by kernel_rfl
        have q3 : Tryz.prog.cellsOf 60 = 1 := by kernel_rfl
        simp [q0, q1, q2, q3] at g0 g1 g2 g3
        have e0 := hcell 0 (by omega)
        have e1 := hcell 1 (by omega)
        have e2 := hcell 2 (by omega)
        have e3 := hcell 3 (by omega)
        rw [add_add] at e0 e1 e2 e3
        obtain ⟨aN, nN, cN, rfl⟩ := slice_cell Tryz.underlying31 g0
        obtain ⟨aW, nW, cW, rfl⟩ := slice_cell Tryz.underlying51 g1
        obtain ⟨aS, nS, cS, rfl⟩ := slice_cell Tryz.underlying59 g2
        obtain ⟨aT, nT, cT, rfl⟩ := slice_cell Tryz.underlying60 g3
        have kN := slice_cap Tryz.underlying31 g0
        have kS := slice_cap Tryz.underlying59 g2
        obtain ⟨needs, r0, m0, z0⟩ := open_row_strs Tryz.underlying31 Tryz.underlying9 (by kernel_rfl) g0
        obtain ⟨words, r1, m1, z1⟩ := open_row_ints Tryz.underlying51 Tryz.underlying3 (by kernel_rfl) g1
        obtain ⟨sn, sa, sw, m2, z2, r2⟩ := open_row_syms Tryz.underlying59 Tryz.underlying126 (by kernel_rfl) rfl rfl rfl (by kernel_rfl) (by kernel_rfl) (by kernel_rfl) Tryz.underlying9 Tryz.underlying3 Tryz.underlying4 g2
        obtain ⟨tp, tk, td, tn, tw, m3, z3, r3⟩ := open_row_ties Tryz.underlying60 Tryz.underlying177 (by kernel_rfl) rfl rfl rfl rfl rfl (by kernel_rfl) (by kernel_rfl) (by kernel_rfl) (by kernel_rfl) (by kernel_rfl) Tryz.underlying3 Tryz.underlying3 Tryz.underlying3 Tryz.underlying9 Tryz.underlying4 g3
        exact ⟨(⟨aN, cN, aW, cW, aS, cS, aT, cT⟩, ⟨nN, needs, nW, words, nS, sn, sa, sw, nT, tp, tk, td, tn, tw⟩), by simpa using e0, by simpa using e1, by simpa using e2, by simpa using e3, ⟨r0, r1, r2, r3, kN, kS⟩, ⟨m0, m1, m2, m3, z0, z1, z2, z3⟩⟩
    haveI : Inhabited (ObjV × ObjF) := ⟨(⟨none, 0, none, 0, none, 0, none, 0⟩, ⟨0, fun _ => ByteArray.empty, 0, fun _ => 0, 0, fun _ => ByteArray.empty, fun _ => 0, fun _ => false, 0, fun _ => 0, fun _ => 0, fun _ => 0, fun _ => ByteArray.empty, fun _ => false⟩)⟩
    obtain ⟨q, hq⟩ := choose_lt each
    refine ⟨fun i => (q i).1, fun i => (q i).2, by omega, ?_, fun i hi => (hq i hi).2.2.2.2.2⟩
    by_cases h0 : n = 0
    · exact .inl h0
    · obtain ⟨bk, o, sp⟩ := y
      have hc := (hq 0 (by omega)).1
      have hsp : sp = none := by simpa [Addr.add] using World.cell?_spot hc
      subst hsp
      refine .inr ⟨bk, o, rfl, fun i hi => ?_⟩
      have := hq i hi
      rw [add_plain, add_plain, add_plain, add_plain] at this
      exact ⟨this.1, by simpa [Nat.add_assoc] using this.2.1, by simpa [Nat.add_assoc] using this.2.2.1, by simpa [Nat.add_assoc] using this.2.2.2.1, this.2.2.2.2.1⟩
end Go.Proofs.YtbbhjpbacobmjaaGreatDoor
