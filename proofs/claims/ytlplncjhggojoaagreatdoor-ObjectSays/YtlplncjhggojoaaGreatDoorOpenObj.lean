/-
  An object that came in, opened: where its four slices lie, and what they hold.
-/
import Derived.Test.YtlplncjhggojoaaGreatDoorRows
import Derived.Test.YtlplncjhggojoaaGreatDoorOpenRows
import Derived.Test.YtlplncjhggojoaaGreatDoorAtAll
import Derived.Lib.SmallJoins
import Derived.ChangeOld
namespace Go.Proofs.YtlplncjhggojoaaGreatDoor
open Go.RowKit Go.Deep Go.ChangeShapes Go.WideShapes Go.Joins

section
variable {H : Type} {enc : TypeId × Value → H} {P : Program} {w : World} {base : Nat} {held : Bool}

theorem slice_cap {t e : TypeId} {fuel : Nat} {a : Option Addr} {n c : Nat} {spare : Nat → Bool} {x : DataW H × List MemPlace} (ht : P.underlying t = some (.slice e)) (h : DataW.trod enc P w base spare held fuel t [.slice a n c] = some x) : n ≤ c := by
  rcases open_slice ht h with ⟨hcs, _⟩ | ⟨y, len, cap, m, fu, D, Pl, hcs, _, hl, _⟩
  · simp at hcs
    obtain ⟨rfl, rfl, rfl⟩ := hcs
    exact Nat.le_refl _
  · simp at hcs
    obtain ⟨rfl, rfl, rfl⟩ := hcs
    exact hl

/-- a row of structs of three numbers, a text and a bool. -/
theorem open_row_ties {t e : TypeId} {f0 f1 f2 f3 f4 : Field} {fuel : Nat} {a : Option Addr} {n c : Nat} {x : DataW H × List MemPlace} (ht : P.underlying t = some (.slice e)) (he : P.underlying e = some (.struct #[f0, f1, f2, f3, f4]))
    (ce : P.cellsOf e = 5) (o0 : f0.offset = 0) (o1 : f1.offset = 1) (o2 : f2.offset = 2) (o3 : f3.offset = 3) (o4 : f4.offset = 4) (c0 : P.cellsOf f0.type = 1) (c1 : P.cellsOf f1.type = 1) (c2 : P.cellsOf f2.type = 1) (c3 : P.cellsOf f3.type = 1) (c4 : P.cellsOf f4.type = 1)
    (u0 : P.underlying f0.type = some (.int .i64)) (u1 : P.underlying f1.type = some (.int .i64)) (u2 : P.underlying f2.type = some (.int .i64)) (u3 : P.underlying f3.type = some .string) (u4 : P.underlying f4.type = some .bool)
    (h : DataW.trod enc P w base (fun _ => true) held fuel t [.slice a n c] = some x) :
    ∃ (p k d : Nat → Int) (s : Nat → ByteArray) (b : Nat → Bool), n ≤ maxLen ∧ (∀ i, i < n → (s i).size ≤ maxLen ∧ (Lit.int .i64 (p i)).wf = true ∧ (Lit.int .i64 (k i)).wf = true ∧ (Lit.int .i64 (d i)).wf = true) ∧ TiesRow w a n p k d s b := by
  rcases open_slice ht h with ⟨hcs, _⟩ | ⟨y, len, cap, m, fu, D, Pl, hcs, _, hl, hm, hmm, _, hx⟩
  · simp at hcs
    obtain ⟨rfl, rfl, rfl⟩ := hcs
    exact ⟨fun _ => 0, fun _ => 0, fun _ => 0, fun _ => ByteArray.empty, fun _ => false, Nat.zero_le _, fun i hi => by omega, .inl rfl⟩
  · simp at hcs
    obtain ⟨rfl, rfl, rfl⟩ := hcs
    simp at hmm
    have each : ∀ i, i < n → ∃ q : Int × Int × Int × ByteArray × Bool, w.cell? (y.add (i * 5)) = some (.int .i64 q.1) ∧ w.cell? (y.add (i * 5 + 1)) = some (.int .i64 q.2.1) ∧ w.cell? (y.add (i * 5 + 2)) = some (.int .i64 q.2.2.1) ∧ w.cell? (y.add (i * 5 + 3)) = some (.string q.2.2.2.1) ∧ w.cell? (y.add (i * 5 + 4)) = some (.bool q.2.2.2.2) ∧
        q.2.2.2.1.size ≤ maxLen ∧ (Lit.int .i64 q.1).wf = true ∧ (Lit.int .i64 q.2.1).wf = true ∧ (Lit.int .i64 q.2.2.1).wf = true := by
      intro i hi
      obtain ⟨cs', h1, h2⟩ := hx i (by omega)
      rw [ce] at h1
      obtain ⟨_, hlen, hcell⟩ := World.cells?_some h1
      obtain ⟨xs, k, hk, hxy, _, hxl, hf⟩ := DataW.trod_struct he h2
      match xs, hxl, cs', hlen with
      | [y0, y1, y2, y3, y4], _, [v0, v1, v2, v3, v4], _ =>
        have g0 := hf 0 f0 rfl
        have g1 := hf 1 f1 rfl
        have g2 := hf 2 f2 rfl
        have g3 := hf 3 f3 rfl
        have g4 := hf 4 f4 rfl
        simp [o0, o1, o2, o3, o4, c0, c1, c2, c3, c4] at g0 g1 g2 g3 g4
        have e0 := hcell 0 (by omega)
        have e1 := hcell 1 (by omega)
        have e2 := hcell 2 (by omega)
        have e3 := hcell 3 (by omega)
        have e4 := hcell 4 (by omega)
        rw [add_add] at e0 e1 e2 e3 e4
        obtain ⟨z0, hz0, _, w0⟩ := DataW.trod_int u0 g0
        obtain ⟨z1, hz1, _, w1⟩ := DataW.trod_int u1 g1
        obtain ⟨z2, hz2, _, w2⟩ := DataW.trod_int u2 g2
        obtain ⟨s, hs, _, hsz⟩ := DataW.trod_string u3 g3
        obtain ⟨b, hb, _⟩ := DataW.trod_bool u4 g4
        simp at hz0 hz1 hz2 hs hb
        subst hz0 hz1 hz2 hs hb
        exact ⟨(z0, z1, z2, s, b), by simpa using e0, by simpa using e1, by simpa using e2, by simpa using e3, by simpa using e4, hsz, w0, w1, w2⟩
    obtain ⟨q, hq⟩ := choose_lt each
    refine ⟨fun i => (q i).1, fun i => (q i).2.1, fun i => (q i).2.2.1, fun i => (q i).2.2.2.1, fun i => (q i).2.2.2.2, by omega, fun i hi => (hq i hi).2.2.2.2.2, ?_⟩
    by_cases h0 : n = 0
    · exact .inl h0
    · obtain ⟨bk, o, sp⟩ := y
      have hc := (hq 0 (by omega)).1
      have hsp : sp = none := by simpa [Addr.add] using World.cell?_spot hc
      subst hsp
      refine .inr ⟨bk, o, rfl, fun i hi => ?_⟩
      have := hq i hi
      rw [add_plain, add_plain, add_plain, add_plain, add_plain] at this
      exact ⟨this.1, by simpa [Nat.add_assoc] using this.2.1, by simpa [Nat.add_assoc] using this.2.2.1, by simpa [Nat.add_assoc] using this.2.2.2.1, by simpa [Nat.add_assoc] using this.2.2.2.2.1⟩
end

set_option maxRecDepth 100000 in
theorem open_obj {H : Type} {enc : TypeId × Value → H} {w : World} {base b0 : Nat} {r : Reach} {v : Value} {d : DataW H} {p : List MemPlace} (hv : Value.okWide Tryz.prog w r b0 27 v) (h : DataW.Trod enc Tryz.prog w base (fun _ => true) true 27 v d p) :
    ∃ (v' : ObjV) (o : ObjF), v = .agg (v'.cells o) ∧ ObjAt w v' o ∧ ObjFit o := by
  obtain ⟨c0, c1, c2, c3, y0, y1, y2, y3, fu, rfl, _, _, h0, h1, h2, h3⟩ := open_agg4 Tryz.underlying27 (by kernel_rfl) (by kernel_rfl) hv h
  obtain ⟨aN, nN, cN, rfl⟩ := slice_cell Tryz.underlying22 h0
  obtain ⟨aW, nW, cW, rfl⟩ := slice_cell Tryz.underlying23 h1
  obtain ⟨aS, nS, cS, rfl⟩ := slice_cell Tryz.underlying24 h2
  obtain ⟨aT, nT, cT, rfl⟩ := slice_cell Tryz.underlying25 h3
  have kN := slice_cap Tryz.underlying22 h0
  have kS := slice_cap Tryz.underlying24 h2
  obtain ⟨needs, r0, m0, z0⟩ := open_row_strs Tryz.underlying22 Tryz.underlying9 (by kernel_rfl) h0
  obtain ⟨words, r1, m1, z1⟩ := open_row_ints Tryz.underlying23 Tryz.underlying3 (by kernel_rfl) h1
  obtain ⟨sn, sa, sw, m2, z2, r2⟩ := open_row_syms Tryz.underlying24 Tryz.underlying46 (by kernel_rfl) rfl rfl rfl (by kernel_rfl) (by kernel_rfl) (by kernel_rfl) Tryz.underlying9 Tryz.underlying3 Tryz.underlying4 h2
  obtain ⟨tp, tk, td, tn, tw, m3, z3, r3⟩ := open_row_ties Tryz.underlying25 Tryz.underlying48 (by kernel_rfl) rfl rfl rfl rfl rfl (by kernel_rfl) (by kernel_rfl) (by kernel_rfl) (by kernel_rfl) (by kernel_rfl) Tryz.underlying3 Tryz.underlying3 Tryz.underlying3 Tryz.underlying9 Tryz.underlying4 h3
  exact ⟨⟨aN, cN, aW, cW, aS, cS, aT, cT⟩, ⟨nN, needs, nW, words, nS, sn, sa, sw, nT, tp, tk, td, tn, tw⟩, rfl, ⟨r0, r1, r2, r3, kN, kS⟩, ⟨m0, m1, m2, m3, z0, z1, z2, z3⟩⟩
end Go.Proofs.YtlplncjhggojoaaGreatDoor
