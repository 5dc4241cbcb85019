/-
  Slices that came in, opened: a row of structs of two numbers, of three numbers; a row of rows of numbers: what each place holds.
-/
import Derived.Test.YtnbmnljknfgafabOpenRows
namespace Go.Proofs.Ytnbmnljknfgafab
open Go.RowKit Go.Deep Go.ChangeShapes Go.WideShapes

section
variable {H : Type} {enc : TypeId × Value → H} {P : Program} {w : World} {base : Nat} {held : Bool}

/-- a row of structs of two numbers. -/
theorem open_row_two {t e : TypeId} {f0 f1 : Field} {fuel : Nat} {a : Option Addr} {n c : Nat} {x : DataW H × List MemPlace} (ht : P.underlying t = some (.slice e)) (he : P.underlying e = some (.struct #[f0, f1]))
    (ce : P.cellsOf e = 2) (o0 : f0.offset = 0) (o1 : f1.offset = 1) (c0 : P.cellsOf f0.type = 1) (c1 : P.cellsOf f1.type = 1)
    (u0 : P.underlying f0.type = some (.int .i64)) (u1 : P.underlying f1.type = some (.int .i64))
    (h : DataW.trod enc P w base (fun _ => true) held fuel t [.slice a n c] = some x) :
    ∃ (f m : Nat → Int), n ≤ maxLen ∧ (∀ i, i < n → (Lit.int .i64 (f i)).wf = true ∧ (Lit.int .i64 (m i)).wf = true) ∧
      (n = 0 ∨ ∃ bk o, a = some ⟨bk, o, none⟩ ∧ ∀ i, i < n → w.cell? ⟨bk, o + i * 2, none⟩ = some (.int .i64 (f i)) ∧ w.cell? ⟨bk, o + i * 2 + 1, none⟩ = some (.int .i64 (m i))) := by
  rcases open_slice ht h with ⟨hcs, _⟩ | ⟨y, len, cap, m, fu, D, Pl, hcs, _, hl, hm, hmm, _, hx⟩
  · simp at hcs
    obtain ⟨rfl, rfl, rfl⟩ := hcs
    exact ⟨fun _ => 0, fun _ => 0, Nat.zero_le _, fun i hi => by omega, .inl rfl⟩
  · simp at hcs
    obtain ⟨rfl, rfl, rfl⟩ := hcs
    simp at hmm
    have each : ∀ i, i < n → ∃ q : Int × Int, w.cell? (y.add (i * 2)) = some (.int .i64 q.1) ∧ w.cell? (y.add (i * 2 + 1)) = some (.int .i64 q.2) ∧ (Lit.int .i64 q.1).wf = true ∧ (Lit.int .i64 q.2).wf = true := by
      intro i hi
      obtain ⟨cs', h1, h2⟩ := hx i (by omega)
      rw [ce] at h1
      obtain ⟨_, hlen, hcell⟩ := World.cells?_some h1
      obtain ⟨xs, k, hk, hxy, _, hxl, hf⟩ := DataW.trod_struct he h2
      match xs, hxl, cs', hlen with
      | [y0, y1], _, [v0, v1], _ =>
        have g0 := hf 0 f0 rfl
        have g1 := hf 1 f1 rfl
        simp [o0, o1, c0, c1] at g0 g1
        have e0 := hcell 0 (by omega)
        have e1 := hcell 1 (by omega)
        rw [add_add] at e0 e1
        obtain ⟨z0, hz0, _, wz0⟩ := DataW.trod_int u0 g0
        obtain ⟨z1, hz1, _, wz1⟩ := DataW.trod_int u1 g1
        simp at hz0 hz1
        subst hz0 hz1
        exact ⟨(z0, z1), by simpa using e0, by simpa using e1, wz0, wz1⟩
    obtain ⟨q, hq⟩ := choose_lt each
    refine ⟨fun i => (q i).1, fun i => (q i).2, by omega, fun i hi => ⟨(hq i hi).2.2.1, (hq i hi).2.2.2⟩, ?_⟩
    by_cases h0 : n = 0
    · exact .inl h0
    · obtain ⟨bk, o, sp⟩ := y
      have hc := (hq 0 (by omega)).1
      have hsp : sp = none := by simpa [Addr.add] using World.cell?_spot hc
      subst hsp
      refine .inr ⟨bk, o, rfl, fun i hi => ?_⟩
      have := hq i hi
      rw [add_plain, add_plain] at this
      exact ⟨this.1, by simpa [Nat.add_assoc] using this.2.1⟩

/-- a row of structs of three numbers. -/
theorem open_row_three {t e : TypeId} {f0 f1 f2 : Field} {fuel : Nat} {a : Option Addr} {n c : Nat} {x : DataW H × List MemPlace} (ht : P.underlying t = some (.slice e)) (he : P.underlying e = some (.struct #[f0, f1, f2]))
    (ce : P.cellsOf e = 3) (o0 : f0.offset = 0) (o1 : f1.offset = 1) (o2 : f2.offset = 2) (c0 : P.cellsOf f0.type = 1) (c1 : P.cellsOf f1.type = 1) (c2 : P.cellsOf f2.type = 1)
    (u0 : P.underlying f0.type = some (.int .i64)) (u1 : P.underlying f1.type = some (.int .i64)) (u2 : P.underlying f2.type = some (.int .i64))
    (h : DataW.trod enc P w base (fun _ => true) held fuel t [.slice a n c] = some x) :
    ∃ (p q r : Nat → Int), n ≤ maxLen ∧ (∀ i, i < n → (Lit.int .i64 (p i)).wf = true ∧ (Lit.int .i64 (q i)).wf = true ∧ (Lit.int .i64 (r i)).wf = true) ∧
      (n = 0 ∨ ∃ bk o, a = some ⟨bk, o, none⟩ ∧ ∀ i, i < n → w.cell? ⟨bk, o + i * 3, none⟩ = some (.int .i64 (p i)) ∧ w.cell? ⟨bk, o + i * 3 + 1, none⟩ = some (.int .i64 (q i)) ∧ w.cell? ⟨bk, o + i * 3 + 2, none⟩ = some (.int .i64 (r i))) := by
  rcases open_slice ht h with ⟨hcs, _⟩ | ⟨y, len, cap, m, fu, D, Pl, hcs, _, hl, hm, hmm, _, hx⟩
  · simp at hcs
    obtain ⟨rfl, rfl, rfl⟩ := hcs
    exact ⟨fun _ => 0, fun _ => 0, fun _ => 0, Nat.zero_le _, fun i hi => by omega, .inl rfl⟩
  · simp at hcs
    obtain ⟨rfl, rfl, rfl⟩ := hcs
    simp at hmm
    have each : ∀ i, i < n → ∃ q : Int × Int × Int, w.cell? (y.add (i * 3)) = some (.int .i64 q.1) ∧ w.cell? (y.add (i * 3 + 1)) = some (.int .i64 q.2.1) ∧ w.cell? (y.add (i * 3 + 2)) = some (.int .i64 q.2.2) ∧ (Lit.int .i64 q.1).wf = true ∧ (Lit.int .i64 q.2.1).wf = true ∧ (Lit.int .i64 q.2.2).wf = true := by
      intro i hi
      obtain ⟨cs', h1, h2⟩ := hx i (by omega)
      rw [ce] at h1
      obtain ⟨_, hlen, hcell⟩ := World.cells?_some h1
      obtain ⟨xs, k, hk, hxy, _, hxl, hf⟩ := DataW.trod_struct he h2
      match xs, hxl, cs', hlen with
      | [y0, y1, y2], _, [v0, v1, v2], _ =>
        have g0 := hf 0 f0 rfl
        have g1 := hf 1 f1 rfl
        have g2 := hf 2 f2 rfl
        simp [o0, o1, o2, c0, c1, c2] at g0 g1 g2
        have e0 := hcell 0 (by omega)
        have e1 := hcell 1 (by omega)
        have e2 := hcell 2 (by omega)
        rw [add_add] at e0 e1 e2
        obtain ⟨z0, hz0, _, wz0⟩ := DataW.trod_int u0 g0
        obtain ⟨z1, hz1, _, wz1⟩ := DataW.trod_int u1 g1
        obtain ⟨z2, hz2, _, wz2⟩ := DataW.trod_int u2 g2
        simp at hz0 hz1 hz2
        subst hz0 hz1 hz2
        exact ⟨(z0, z1, z2), by simpa using e0, by simpa using e1, by simpa using e2, wz0, wz1, wz2⟩
    obtain ⟨q, hq⟩ := choose_lt each
    refine ⟨fun i => (q i).1, fun i => (q i).2.1, fun i => (q i).2.2, by omega, fun i hi => (hq i hi).2.2.2, ?_⟩
    by_cases h0 : n = 0
    · exact .inl h0
    · obtain ⟨bk, o, sp⟩ := y
      have hc := (hq 0 (by omega)).1
      have hsp : sp = none := by simpa [Addr.add] using World.cell?_spot hc
      subst hsp
      refine .inr ⟨bk, o, rfl, fun i hi => ?_⟩
      have := hq i hi
      rw [add_plain, add_plain, add_plain] at this
      exact ⟨this.1, by simpa [Nat.add_assoc] using this.2.1, by simpa [Nat.add_assoc] using this.2.2.1⟩

/-- a row of rows of numbers. -/
theorem open_row_rows {t e u : TypeId} {fuel : Nat} {a : Option Addr} {n c : Nat} {x : DataW H × List MemPlace} (ht : P.underlying t = some (.slice e)) (he : P.underlying e = some (.slice u)) (hu : P.underlying u = some (.int .i64)) (ce : P.cellsOf e = 1) (cu : P.cellsOf u = 1)
    (h : DataW.trod enc P w base (fun _ => true) held fuel t [.slice a n c] = some x) :
    ∃ (A : Nat → Option Addr) (M C : Nat → Nat) (X : Nat → Nat → Int), n ≤ maxLen ∧ (∀ i, i < n → M i ≤ maxLen ∧ ∀ j, j < M i → (Lit.int .i64 (X i j)).wf = true) ∧
      (n = 0 ∨ ∃ bk o, a = some ⟨bk, o, none⟩ ∧ ∀ i, i < n → w.cell? ⟨bk, o + i, none⟩ = some (.slice (A i) (M i) (C i)) ∧ RowAt w (A i) (M i) fun j => .int .i64 (X i j)) := by
  rcases open_slice ht h with ⟨hcs, _⟩ | ⟨y, len, cap, m, fu, D, Pl, hcs, _, hl, hm, hmm, _, hx⟩
  · simp at hcs
    obtain ⟨rfl, rfl, rfl⟩ := hcs
    exact ⟨fun _ => none, fun _ => 0, fun _ => 0, fun _ _ => 0, Nat.zero_le _, fun i hi => by omega, .inl rfl⟩
  · simp at hcs
    obtain ⟨rfl, rfl, rfl⟩ := hcs
    simp at hmm
    have each : ∀ i, i < n → ∃ q : Option Addr × Nat × Nat × (Nat → Int), w.cell? (y.add i) = some (.slice q.1 q.2.1 q.2.2.1) ∧ RowAt w q.1 q.2.1 (fun j => .int .i64 (q.2.2.2 j)) ∧ q.2.1 ≤ maxLen ∧ ∀ j, j < q.2.1 → (Lit.int .i64 (q.2.2.2 j)).wf = true := by
      intro i hi
      obtain ⟨cs', h1, h2⟩ := hx i (by omega)
      rw [ce] at h1
      obtain ⟨_, hlen, hcell⟩ := World.cells?_some h1
      match cs', hlen with
      | [v0], _ =>
        have e0 := hcell 0 (by omega)
        rw [add_add] at e0
        obtain ⟨a0, n0, k0, rfl⟩ := slice_cell he h2
        obtain ⟨f, hf, hl0, hwf⟩ := open_row_ints he hu cu h2
        exact ⟨(a0, n0, k0, f), by simpa using e0, hf, hl0, hwf⟩
    obtain ⟨q, hq⟩ := choose_lt each
    refine ⟨fun i => (q i).1, fun i => (q i).2.1, fun i => (q i).2.2.1, fun i => (q i).2.2.2, by omega, fun i hi => (hq i hi).2.2, ?_⟩
    by_cases h0 : n = 0
    · exact .inl h0
    · obtain ⟨bk, o, sp⟩ := y
      have hc := (hq 0 (by omega)).1
      have hsp : sp = none := by simpa [Addr.add] using World.cell?_spot hc
      subst hsp
      refine .inr ⟨bk, o, rfl, fun i hi => ?_⟩
      have := hq i hi
      rw [add_plain] at this
      exact ⟨this.1, this.2.1⟩
end
end Go.Proofs.Ytnbmnljknfgafab
