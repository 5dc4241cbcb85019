/-
  A row of objects that came in, opened: where each one's four slices lie, and what they hold.
-/
import Derived.Test.YtanfejgcjifhpabGreatDoorOpenObj
import Derived.Test.YtanfejgcjifhpabGreatDoorAtAll
namespace Go.Proofs.YtanfejgcjifhpabGreatDoor
open Go.RowKit Go.Deep Go.ChangeShapes Go.WideShapes Go.Joins

set_option maxRecDepth 100000 in
theorem open_objs {H : Type} {enc : TypeId × Value → H} {w : World} {base fuel : Nat} {held : Bool} {a : Option Addr} {n c : Nat} {x : DataW H × List MemPlace}
    (h : DataW.trod enc Tryz.prog w base (fun _ => true) held fuel 40 [.slice a n c] = some x) :
    ∃ (V : Nat → ObjV) (O : Nat → ObjF), n ≤ maxLen ∧ ObjsRow w a n V O ∧ ∀ i, i < n → ObjFit (O i) := by
  have ce : Tryz.prog.cellsOf 52 = 4 := by kernel_rfl
  rcases open_slice Tryz.underlying40 h with ⟨hcs, _⟩ | ⟨y, len, cap, m, fu, D, Pl, hcs, _, hl, hm, hmm, _, hx⟩
  · simp at hcs
    obtain ⟨rfl, rfl, rfl⟩ := hcs
    exact ⟨fun _ => ⟨none, 0, none, 0, none, 0, none, 0⟩, fun _ => ⟨0, fun _ => ByteArray.empty, 0, fun _ => 0, 0, fun _ => ByteArray.empty, fun _ => 0, fun _ => false, 0, fun _ => 0, fun _ => 0, fun _ => 0, fun _ => ByteArray.empty, fun _ => false⟩, Nat.zero_le _, .inl rfl, fun i hi => by omega⟩
  · simp at hcs
    obtain ⟨rfl, rfl, rfl⟩ := hcs
    simp at hmm
    have each : ∀ i, i < n → ∃ q : ObjV × ObjF, w.cell? (y.add (i * 4)) = some (.slice q.1.aN q.2.nN q.1.cN) ∧ w.cell? (y.add (i * 4 + 1)) = some (.slice q.1.aW q.2.nW q.1.cW) ∧ w.cell? (y.add (i * 4 + 2)) = some (.slice q.1.aS q.2.nS q.1.cS) ∧ w.cell? (y.add (i * 4 + 3)) = some (.slice q.1.aT q.2.nT q.1.cT) ∧ ObjAt w q.1 q.2 ∧ ObjFit q.2 := by
      intro i hi
      obtain ⟨cs', h1, h2⟩ := hx i (by omega)
      rw [ce] at h1
      obtain ⟨_, hlen, hcell⟩ := World.cells?_some h1
      obtain ⟨xs, k, hk, hxy, _, hxl, hf⟩ := DataW.trod_struct Tryz.underlying52 h2
      match xs, hxl, cs', hlen with
      | [y0, y1, y2, y3], _, [v0, v1, v2, v3], _ =>
        have g0 := hf 0 _ rfl
        have g1 := hf 1 _ rfl
        have g2 := hf 2 _ rfl
        have g3 := hf 3 _ rfl
        have q0 : Tryz.prog.cellsOf 39 = 1 := by kernel_rfl
        have q1 : Tryz.prog.cellsOf 41 = 1 := by kernel_rfl
        have q2 : Tryz.prog.cellsOf 49 = 1 := by kernel_rfl
        have q3 : Tryz.prog.cellsOf 50 = 1 := by kernel_rfl
        simp [q0, q1, q2, q3] at g0 g1 g2 g3
        have e0 := hcell 0 (by omega)
        have e1 := hcell 1 (by omega)
        have e2 := hcell 2 (by omega)
        have e3 := hcell 3 (by omega)
        rw [add_add] at e0 e1 e2 e3
        obtain ⟨aN, nN, cN, rfl⟩ := slice_cell Tryz.underlying39 g0
        obtain ⟨aW, nW, cW, rfl⟩ := slice_cell Tryz.underlying41 g1
        obtain ⟨aS, nS, cS, rfl⟩ := slice_cell Tryz.underlying49 g2
        obtain ⟨aT, nT, cT, rfl⟩ := slice_cell Tryz.underlying50 g3
        have kN := slice_cap Tryz.underlying39 g0
        have kS := slice_cap Tryz.underlying49 g2
        obtain ⟨needs, r0, m0, z0⟩ := open_row_strs Tryz.underlying39 Tryz.underlying9 (by kernel_rfl) g0
        obtain ⟨words, r1, m1, z1⟩ := open_row_ints Tryz.underlying41 Tryz.underlying3 (by kernel_rfl) g1
        obtain ⟨sn, sa, sw, m2, z2, r2⟩ := open_row_syms Tryz.underlying49 Tryz.underlying81 (by kernel_rfl) rfl rfl rfl (by kernel_rfl) (by kernel_rfl) (by kernel_rfl) Tryz.underlying9 Tryz.underlying3 Tryz.underlying4 g2
        obtain ⟨tp, tk, td, tn, tw, m3, z3, r3⟩ := open_row_ties Tryz.underlying50 Tryz.underlying72 (by kernel_rfl) rfl rfl rfl rfl rfl (by kernel_rfl) (by kernel_rfl) (by kernel_rfl) (by kernel_rfl) (by kernel_rfl) Tryz.underlying3 Tryz.underlying3 Tryz.underlying3 Tryz.underlying9 Tryz.underlying4 g3
        exact ⟨(⟨aN, cN, aW, cW, aS, cS, aT, cT⟩, ⟨nN, needs, nW, words, nS, sn, sa, sw, nT, tp, tk, td, tn, tw⟩), by simpa using e0, by simpa using e1, by simpa using e2, by simpa using e3, ⟨r0, r1, r2, r3, kN, kS⟩, ⟨m0, m1, m2, m3, z0, z1, z2, z3⟩⟩
    haveI : Inhabited (ObjV × ObjF) := ⟨(⟨none, 0, none, 0, none, 0, none, 0⟩, ⟨0, fun _ => ByteArray.empty, 0, fun _ => 0, 0, fun _ => ByteArray.empty, fun _ => 0, fun _ => false, 0, fun _ => 0, fun _ => 0, fun _ => 0, fun _ => ByteArray.empty, fun _ => false⟩)⟩
    obtain ⟨q, hq⟩ := choose_lt each
    refine ⟨fun i => (q i).1, fun i => (q i).2, by omega, ?_, fun i hi => (hq i hi).2.2.2.2.2⟩
    by_cases h0 : n = 0
    · exact .inl h0
    · obtain ⟨bk, o, sp⟩ := y
      have hc := (hq 0 (by omega)).1
      have hsp : sp = none := by simpa [Addr.add] using World.cell?_spot hc
      subst hsp
      refine .inr ⟨bk, o, rfl, fun i hi => ?_⟩
      have := hq i hi
      rw [add_plain, add_plain, add_plain, add_plain] at this
      exact ⟨this.1, by simpa [Nat.add_assoc] using this.2.1, by simpa [Nat.add_assoc] using this.2.2.1, by simpa [Nat.add_assoc] using this.2.2.2.1, this.2.2.2.2.1⟩
end Go.Proofs.YtanfejgcjifhpabGreatDoor
