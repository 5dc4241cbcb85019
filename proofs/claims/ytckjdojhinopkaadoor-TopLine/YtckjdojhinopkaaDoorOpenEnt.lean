/-
  An entry that came in, opened: where its two slices lie, and what they hold.
-/
import Derived.Test.YtckjdojhinopkaaDoorOpenRows
import Derived.Test.YtckjdojhinopkaaDoorEntCheck
import Derived.Lib.SmallJoins
import Derived.ChangeOld
namespace Go.Proofs.YtckjdojhinopkaaDoor
open Go.RowKit Go.Deep Go.ChangeShapes Go.WideShapes Go.Joins

section
variable {H : Type} {enc : TypeId × Value → H} {w : World} {base : Nat} {held : Bool}
theorem is64_of {n : Int} (h : (Lit.int .i64 n).wf = true) : In64 n := by
  have h1 : (decide (IntKind.min .i64 ≤ n) && decide (n ≤ IntKind.max .i64)) = true := h
  simp only [Bool.and_eq_true, decide_eq_true_eq] at h1
  exact h1
/-- a part of an entry. -/
structure PartQ where
  s : ByteArray
  k : Int
  b : Int
structure PatQ where
  p : Int
  t : Int
  v : Int
set_option maxRecDepth 100000 in
theorem open_parts {fuel : Nat} {a : Option Addr} {n c : Nat} {x : DataW H × List MemPlace} (h : DataW.trod enc Tryd.prog w base (fun _ => true) held fuel 22 [.slice a n c] = some x) :
    ∃ f : Nat → PartQ, RowE w a n (fun i => (f i).s) (fun i => (f i).k) (fun i => (f i).b) ∧ (∀ i, i < n → (f i).s.size ≤ maxLen ∧ In64 (f i).k ∧ In64 (f i).b) ∧ n ≤ maxLen := by
  have ce : Tryd.prog.cellsOf 31 = 3 := by kernel_rfl
  rcases open_slice Tryd.underlying22 h with ⟨hcs, _⟩ | ⟨y, len, cap, m, fu, D, Pl, hcs, _, hl, hm, hmm, _, hx⟩
  · simp at hcs
    obtain ⟨rfl, rfl, rfl⟩ := hcs
    exact ⟨fun _ => ⟨ByteArray.empty, 0, 0⟩, .inl rfl, fun i hi => by omega, by decide⟩
  · simp at hcs
    obtain ⟨rfl, rfl, rfl⟩ := hcs
    simp at hmm
    have each : ∀ i, i < n → ∃ q : PartQ, w.cell? (y.add (i * 3)) = some (.string q.s) ∧ w.cell? (y.add (i * 3 + 1)) = some (.int .i64 q.k) ∧ w.cell? (y.add (i * 3 + 2)) = some (.int .i64 q.b) ∧ q.s.size ≤ maxLen ∧ In64 q.k ∧ In64 q.b := by
      intro i hi
      obtain ⟨cs', h1, h2⟩ := hx i (by omega)
      rw [ce] at h1
      obtain ⟨_, hlen, hcell⟩ := World.cells?_some h1
      obtain ⟨xs, k, hk, hxy, _, hxl, hf⟩ := DataW.trod_struct Tryd.underlying31 h2
      match xs, hxl, cs', hlen with
      | [y0, y1, y2], _, [v0, v1, v2], _ =>
        have g0 := hf 0 _ rfl
        have g1 := hf 1 _ rfl
        have g2 := hf 2 _ rfl
        have q0 : Tryd.prog.cellsOf 9 = 1 := by kernel_rfl
        have q1 : Tryd.prog.cellsOf 3 = 1 := by kernel_rfl
        simp [q0, q1] at g0 g1 g2
        have e0 := hcell 0 (by omega)
        have e1 := hcell 1 (by omega)
        have e2 := hcell 2 (by omega)
        rw [add_add] at e0 e1 e2
        obtain ⟨s, hs, _, m0⟩ := DataW.trod_string Tryd.underlying9 g0
        obtain ⟨z1, hz1, _, m1⟩ := DataW.trod_int Tryd.underlying3 g1
        obtain ⟨z2, hz2, _, m2⟩ := DataW.trod_int Tryd.underlying3 g2
        simp at hs hz1 hz2
        subst hs hz1 hz2
        exact ⟨⟨s, z1, z2⟩, by simpa using e0, by simpa using e1, by simpa using e2, m0, is64_of m1, is64_of m2⟩
    haveI : Inhabited PartQ := ⟨⟨ByteArray.empty, 0, 0⟩⟩
    obtain ⟨q, hq⟩ := choose_lt each
    refine ⟨q, ?_, fun i hi => (hq i hi).2.2.2, Nat.le_trans hl hm⟩
    by_cases h0 : n = 0
    · exact .inl h0
    · obtain ⟨bk, o, sp⟩ := y
      have hc := (hq 0 (by omega)).1
      have hsp : sp = none := by simpa [Addr.add] using World.cell?_spot hc
      subst hsp
      refine .inr ⟨bk, o, rfl, fun i hi => ?_⟩
      have := hq i hi
      rw [add_plain, add_plain, add_plain] at this
      exact ⟨this.1, by simpa [Nat.add_assoc] using this.2.1, by simpa [Nat.add_assoc] using this.2.2.1⟩
set_option maxRecDepth 100000 in
theorem open_pats {fuel : Nat} {a : Option Addr} {n c : Nat} {x : DataW H × List MemPlace} (h : DataW.trod enc Tryd.prog w base (fun _ => true) held fuel 23 [.slice a n c] = some x) :
    ∃ f : Nat → PatQ, PatRow w a n (fun i => (f i).p) (fun i => (f i).t) (fun i => (f i).v) ∧ (∀ i, i < n → In64 (f i).p ∧ In64 (f i).t ∧ In64 (f i).v) ∧ n ≤ maxLen := by
  have ce : Tryd.prog.cellsOf 40 = 3 := by kernel_rfl
  rcases open_slice Tryd.underlying23 h with ⟨hcs, _⟩ | ⟨y, len, cap, m, fu, D, Pl, hcs, _, hl, hm, hmm, _, hx⟩
  · simp at hcs
    obtain ⟨rfl, rfl, rfl⟩ := hcs
    exact ⟨fun _ => ⟨0, 0, 0⟩, .inl rfl, fun i hi => by omega, by decide⟩
  · simp at hcs
    obtain ⟨rfl, rfl, rfl⟩ := hcs
    simp at hmm
    have each : ∀ i, i < n → ∃ q : PatQ, w.cell? (y.add (i * 3)) = some (.int .i64 q.p) ∧ w.cell? (y.add (i * 3 + 1)) = some (.int .i64 q.t) ∧ w.cell? (y.add (i * 3 + 2)) = some (.int .i64 q.v) ∧ In64 q.p ∧ In64 q.t ∧ In64 q.v := by
      intro i hi
      obtain ⟨cs', h1, h2⟩ := hx i (by omega)
      rw [ce] at h1
      obtain ⟨_, hlen, hcell⟩ := World.cells?_some h1
      obtain ⟨xs, k, hk, hxy, _, hxl, hf⟩ := DataW.trod_struct Tryd.underlying40 h2
      match xs, hxl, cs', hlen with
      | [y0, y1, y2], _, [v0, v1, v2], _ =>
        have g0 := hf 0 _ rfl
        have g1 := hf 1 _ rfl
        have g2 := hf 2 _ rfl
        have q1 : Tryd.prog.cellsOf 3 = 1 := by kernel_rfl
        simp [q1] at g0 g1 g2
        have e0 := hcell 0 (by omega)
        have e1 := hcell 1 (by omega)
        have e2 := hcell 2 (by omega)
        rw [add_add] at e0 e1 e2
        obtain ⟨z0, hz0, _, m0⟩ := DataW.trod_int Tryd.underlying3 g0
        obtain ⟨z1, hz1, _, m1⟩ := DataW.trod_int Tryd.underlying3 g1
        obtain ⟨z2, hz2, _, m2⟩ := DataW.trod_int Tryd.underlying3 g2
        simp at hz0 hz1 hz2
        subst hz0 hz1 hz2
        exact ⟨⟨z0, z1, z2⟩, by simpa using e0, by simpa using e1, by simpa using e2, is64_of m0, is64_of m1, is64_of m2⟩
    haveI : Inhabited PatQ := ⟨⟨0, 0, 0⟩⟩
    obtain ⟨q, hq⟩ := choose_lt each
    refine ⟨q, ?_, fun i hi => (hq i hi).2.2.2, Nat.le_trans hl hm⟩
    by_cases h0 : n = 0
    · exact .inl h0
    · obtain ⟨bk, o, sp⟩ := y
      have hc := (hq 0 (by omega)).1
      have hsp : sp = none := by simpa [Addr.add] using World.cell?_spot hc
      subst hsp
      refine .inr ⟨bk, o, rfl, fun i hi => ?_⟩
      have := hq i hi
      rw [add_plain, add_plain, add_plain] at this
      exact ⟨this.1, by simpa [Nat.add_assoc] using this.2.1, by simpa [Nat.add_assoc] using this.2.2.1⟩

end
set_option maxRecDepth 100000 in
theorem open_entry {H : Type} {enc : TypeId × Value → H} {w : World} {base b0 : Nat} {r : Reach} {v : Value} {d : DataW H} {p : List MemPlace} (hv : Value.okWide Tryd.prog w r b0 25 v) (h : DataW.Trod enc Tryd.prog w base (fun _ => true) true 25 v d p) :
    ∃ (v' : EntV) (en : EntF), v = .agg (entCs v' en) ∧ EntAt w v' en ∧ EntFit en := by
  obtain ⟨c0, c1, c2, y0, y1, y2, fu, rfl, _, _, h0, h1, h2⟩ := open_agg3 Tryd.underlying25 (by kernel_rfl) (by kernel_rfl) hv h
  obtain ⟨root, hr, _, hrs⟩ := DataW.trod_string Tryd.underlying9 h0
  simp at hr
  subst hr
  obtain ⟨aP, nP, cP, rfl⟩ := slice_cell Tryd.underlying22 h1
  obtain ⟨aQ, nQ, cQ, rfl⟩ := slice_cell Tryd.underlying23 h2
  obtain ⟨f, r1, z1, m1⟩ := open_parts h1
  obtain ⟨g, r2, z2, m2⟩ := open_pats h2
  exact ⟨⟨aP, cP, aQ, cQ⟩, ⟨root, nP, fun i => (f i).s, fun i => (f i).k, fun i => (f i).b, nQ, fun i => (g i).p, fun i => (g i).t, fun i => (g i).v⟩, rfl, ⟨r1, r2⟩, ⟨hrs, m1, m2, fun i hi => (z1 i hi).1⟩⟩
end Go.Proofs.YtckjdojhinopkaaDoor
