/-
  Slices that came in, opened: a row of numbers, a row of texts, a row of structs of a text, a number and a bool: what each place holds.
-/
import Derived.Test.YtlcdacldhalnnaaGreatDoorAtAll
import Derived.Deep.Slices
import Derived.Deep.Strs
import Derived.ChangeSlices
namespace Go.Proofs.YtlcdacldhalnnaaGreatDoor
open Go.RowKit Go.Deep Go.ChangeShapes Go.WideShapes

theorem rowAt_of_adds {w : World} {x : Addr} {n : Nat} {f : Nat → Value} (h : ∀ i, i < n → w.cell? (x.add i) = some (f i)) : RowAt w (some x) n f := by
  by_cases h0 : n = 0
  · exact .inl h0
  · obtain ⟨b, o, sp⟩ := x
    have hc := h 0 (by omega)
    have hsp : sp = none := by simpa [Addr.add] using World.cell?_spot hc
    subst hsp
    refine .inr ⟨b, o, rfl, fun i hi => ?_⟩
    have := h i hi
    cases i with
    | zero => simpa [Addr.add] using this
    | succ i => simpa [Addr.add] using this

section
variable {H : Type} {enc : TypeId × Value → H} {P : Program} {w : World} {base : Nat} {held : Bool}

/-- a row of numbers. -/
theorem open_row_ints {t e : TypeId} {k : IntKind} {fuel : Nat} {a : Option Addr} {n c : Nat} {x : DataW H × List MemPlace} (ht : P.underlying t = some (.slice e)) (he : P.underlying e = some (.int k)) (hc : P.cellsOf e = 1)
    (h : DataW.trod enc P w base (fun _ => true) held fuel t [.slice a n c] = some x) :
    ∃ f : Nat → Int, RowAt w a n (fun i => .int k (f i)) ∧ n ≤ maxLen ∧ ∀ i, i < n → (Lit.int k (f i)).wf = true := by
  rcases open_ints ht he hc h with ⟨hcs, _⟩ | ⟨y, l, cc, zs, hcs, _, hl, hm, hz, _, hcell, hwz⟩
  · simp at hcs
    obtain ⟨rfl, rfl, rfl⟩ := hcs
    exact ⟨fun _ => 0, .inl rfl, Nat.zero_le _, fun i hi => by omega⟩
  · simp at hcs
    obtain ⟨rfl, rfl, rfl⟩ := hcs
    simp at hz
    refine ⟨fun i => zs.getD i 0, rowAt_of_adds (fun i hi => hcell i (by omega)), by omega, fun i hi => hwz _ ?_⟩
    show zs.getD i 0 ∈ zs
    rw [List.getD_eq_getElem?_getD, List.getElem?_eq_getElem (by omega : i < zs.length)]
    exact List.getElem_mem _

/-- a slice in a cell: its form. -/
theorem slice_cell {t e : TypeId} {fuel : Nat} {v : Value} {spare : Nat → Bool} {x : DataW H × List MemPlace} (ht : P.underlying t = some (.slice e)) (h : DataW.trod enc P w base spare held fuel t [v] = some x) : ∃ a n c, v = .slice a n c := by
  rcases open_slice ht h with ⟨hcs, _⟩ | ⟨y, len, cap, m, fu, D, Pl, hcs, _⟩
  · simp at hcs; exact ⟨_, _, _, hcs⟩
  · simp at hcs; exact ⟨_, _, _, hcs⟩

/-- a row of texts. -/
theorem open_row_strs {t e : TypeId} {fuel : Nat} {a : Option Addr} {n c : Nat} {x : DataW H × List MemPlace} (ht : P.underlying t = some (.slice e)) (he : P.underlying e = some .string) (hc : P.cellsOf e = 1)
    (h : DataW.trod enc P w base (fun _ => true) held fuel t [.slice a n c] = some x) :
    ∃ f : Nat → ByteArray, RowAt w a n (fun i => .string (f i)) ∧ n ≤ maxLen ∧ ∀ i, i < n → (f i).size ≤ maxLen := by
  rcases open_strs ht he hc h with ⟨hcs, _⟩ | ⟨y, l, cc, m, Sx, hcs, _, hl, hm, hmm, _, hx⟩
  · simp at hcs
    obtain ⟨rfl, rfl, rfl⟩ := hcs
    exact ⟨fun _ => ByteArray.empty, .inl rfl, Nat.zero_le _, fun i hi => by omega⟩
  · simp at hcs
    obtain ⟨rfl, rfl, rfl⟩ := hcs
    simp at hmm
    exact ⟨Sx, rowAt_of_adds (fun i hi => (hx i (by omega)).1), by omega, fun i hi => (hx i (by omega)).2⟩

/-- a row of structs of a text, a number and a bool. -/
theorem open_row_syms {t e : TypeId} {f0 f1 f2 : Field} {fuel : Nat} {a : Option Addr} {n c : Nat} {x : DataW H × List MemPlace} (ht : P.underlying t = some (.slice e)) (he : P.underlying e = some (.struct #[f0, f1, f2]))
    (ce : P.cellsOf e = 3) (o0 : f0.offset = 0) (o1 : f1.offset = 1) (o2 : f2.offset = 2) (c0 : P.cellsOf f0.type = 1) (c1 : P.cellsOf f1.type = 1) (c2 : P.cellsOf f2.type = 1)
    (u0 : P.underlying f0.type = some .string) (u1 : P.underlying f1.type = some (.int .i64)) (u2 : P.underlying f2.type = some .bool)
    (h : DataW.trod enc P w base (fun _ => true) held fuel t [.slice a n c] = some x) :
    ∃ (s : Nat → ByteArray) (v : Nat → Int) (b : Nat → Bool), n ≤ maxLen ∧ (∀ i, i < n → (s i).size ≤ maxLen ∧ (Lit.int .i64 (v i)).wf = true) ∧
      (n = 0 ∨ ∃ bk o, a = some ⟨bk, o, none⟩ ∧ ∀ i, i < n → w.cell? ⟨bk, o + i * 3, none⟩ = some (.string (s i)) ∧ w.cell? ⟨bk, o + i * 3 + 1, none⟩ = some (.int .i64 (v i)) ∧ w.cell? ⟨bk, o + i * 3 + 2, none⟩ = some (.bool (b i))) := by
  rcases open_slice ht h with ⟨hcs, _⟩ | ⟨y, len, cap, m, fu, D, Pl, hcs, _, hl, hm, hmm, _, hx⟩
  · simp at hcs
    obtain ⟨rfl, rfl, rfl⟩ := hcs
    exact ⟨fun _ => ByteArray.empty, fun _ => 0, fun _ => false, Nat.zero_le _, fun i hi => by omega, .inl rfl⟩
  · simp at hcs
    obtain ⟨rfl, rfl, rfl⟩ := hcs
    simp at hmm
    have each : ∀ i, i < n → ∃ q : ByteArray × Int × Bool, w.cell? (y.add (i * 3)) = some (.string q.1) ∧ w.cell? (y.add (i * 3 + 1)) = some (.int .i64 q.2.1) ∧ w.cell? (y.add (i * 3 + 2)) = some (.bool q.2.2) ∧ q.1.size ≤ maxLen ∧ (Lit.int .i64 q.2.1).wf = true := by
      intro i hi
      obtain ⟨cs', h1, h2⟩ := hx i (by omega)
      rw [ce] at h1
      obtain ⟨_, hlen, hcell⟩ := World.cells?_some h1
      obtain ⟨xs, k, hk, hxy, _, hxl, hf⟩ := DataW.trod_struct he h2
      match xs, hxl, cs', hlen with
      | [y0, y1, y2], _, [v0, v1, v2], _ =>
        have g0 := hf 0 f0 rfl
        have g1 := hf 1 f1 rfl
        have g2 := hf 2 f2 rfl
        simp [o0, o1, o2, c0, c1, c2] at g0 g1 g2
        have e0 := hcell 0 (by omega)
        have e1 := hcell 1 (by omega)
        have e2 := hcell 2 (by omega)
        rw [add_add] at e0 e1 e2
        obtain ⟨s, hs, _, hsz⟩ := DataW.trod_string u0 g0
        obtain ⟨z, hz, _, wz⟩ := DataW.trod_int u1 g1
        obtain ⟨b, hb, _⟩ := DataW.trod_bool u2 g2
        simp at hs hz hb
        subst hs hz hb
        exact ⟨(s, z, b), by simpa using e0, by simpa using e1, by simpa using e2, hsz, wz⟩
    obtain ⟨q, hq⟩ := choose_lt each
    refine ⟨fun i => (q i).1, fun i => (q i).2.1, fun i => (q i).2.2, by omega, fun i hi => ⟨(hq i hi).2.2.2.1, (hq i hi).2.2.2.2⟩, ?_⟩
    by_cases h0 : n = 0
    · exact .inl h0
    · obtain ⟨bk, o, sp⟩ := y
      have hc := (hq 0 (by omega)).1
      have hsp : sp = none := by simpa [Addr.add] using World.cell?_spot hc
      subst hsp
      refine .inr ⟨bk, o, rfl, fun i hi => ?_⟩
      have := hq i hi
      rw [add_plain, add_plain, add_plain] at this
      exact ⟨this.1, by simpa [Nat.add_assoc] using this.2.1, by simpa [Nat.add_assoc] using this.2.2.1⟩
end
end Go.Proofs.YtlcdacldhalnnaaGreatDoor
