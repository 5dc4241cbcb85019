/-
  A table that is gone over, chain by chain, and which symbols were seen: what each place holds.
-/
import Derived.Test.YtchccaalinepnaaTablesFact
namespace Go.Proofs.Ytchccaalinepnaa
open Go.RowKit

/-- the table at 'bq', of the rows 'bf' and 'bn'; which were seen at 'bs'. -/
structure SeenT (w wr : World) (bq bf bn bs m n : Nat) (nm : Nat → ByteArray) (S : Nat → Bool) : Prop where
  below : Below w.heap.size w wr
  ls : w.heap.size ≤ bs
  sq : bs ≠ bq
  sf : bs ≠ bf
  sn : 0 < n → bs ≠ bn
  t0 : wr.cell? ⟨bq, 0, none⟩ = some (.slice (some ⟨bf, 0, none⟩) m m)
  t1 : wr.cell? ⟨bq, 0 + 1, none⟩ = some (.slice (some ⟨bn, 0, none⟩) n n)
  ff : ∀ b, b < m → wr.cell? ⟨bf, b, none⟩ = some (.int .i64 (firstRow nm m n 0 b))
  gg : ∀ i, i < n → wr.cell? ⟨bn, i, none⟩ = some (.int .i64 (nextRow nm m n 0 i))
  ss : ∀ i, i < n → wr.cell? ⟨bs, i, none⟩ = some (.bool (S i))
  zs : ∀ i, wr.frozen? ⟨bs, i, none⟩ = false

theorem SeenT.store {w wr : World} {bq bf bn bs m n : Nat} {nm : Nat → ByteArray} {S : Nat → Bool} (h : SeenT w wr bq bf bn bs m n nm S) (k : Nat) (v : Bool) :
    SeenT w (wr.setCell ⟨bs, k, none⟩ (.bool v)) bq bf bn bs m n nm (fun i => if i = k then v else S i) :=
  { h with
    below := h.below.setCell h.ls _
    t0 := by rw [cell_set_other _ _ _ _ _ _ (.inl h.sq)]; exact h.t0
    t1 := by rw [cell_set_other _ _ _ _ _ _ (.inl h.sq)]; exact h.t1
    ff := fun b hb => by rw [cell_set_other _ _ _ _ _ _ (.inl h.sf)]; exact h.ff b hb
    gg := fun i hi => by rw [cell_set_other _ _ _ _ _ _ (.inl (h.sn (by omega)))]; exact h.gg i hi
    ss := fun i hi => by
      by_cases e : i = k
      · subst e; rw [cell_set_same _ _ _ _ _ (h.ss i hi), if_pos rfl]
      · rw [cell_set_other _ _ _ _ _ _ (.inr (fun e' => e e'.symm)), if_neg e]; exact h.ss i hi
    zs := fun i => by rw [World.frozen?_setCell]; exact h.zs i }
theorem SeenT.congr {w wr : World} {bq bf bn bs m n : Nat} {nm : Nat → ByteArray} {S S' : Nat → Bool} (h : SeenT w wr bq bf bn bs m n nm S) (hS : ∀ i, i < n → S i = S' i) : SeenT w wr bq bf bn bs m n nm S' :=
  { h with ss := fun i hi => by rw [h.ss i hi, hS i hi] }
theorem SeenT.rowF {w wr : World} {bq bf bn bs m n : Nat} {nm : Nat → ByteArray} {S : Nat → Bool} (h : SeenT w wr bq bf bn bs m n nm S) : RowAt wr (some ⟨bf, 0, none⟩) m fun i => .int .i64 (firstRow nm m n 0 i) :=
  .inr ⟨bf, 0, rfl, fun i hi => by rw [Nat.zero_add]; exact h.ff i hi⟩
theorem SeenT.rowN {w wr : World} {bq bf bn bs m n : Nat} {nm : Nat → ByteArray} {S : Nat → Bool} (h : SeenT w wr bq bf bn bs m n nm S) : RowAt wr (some ⟨bn, 0, none⟩) n fun i => .int .i64 (nextRow nm m n 0 i) :=
  .inr ⟨bn, 0, rfl, fun i hi => by rw [Nat.zero_add]; exact h.gg i hi⟩

theorem seen_start {w w1 w2 : World} {br bt bf bn bq m n : Nat} {nm : Nat → ByteArray} (hw : Below w.heap.size w w1) (h : Tab w1 w2 br bt bf bn m n (firstRow nm m n 0) (nextRow nm m n 0)) (h1 : 1 ≤ m) (hl : w.heap.size ≤ bq) (hq : bq < w1.heap.size) {x0 x1 : Value}
    (hx0 : w2.cell? ⟨bq, 0, none⟩ = some x0) (hx1 : w2.cell? ⟨bq, 0 + 1, none⟩ = some x1) :
    SeenT w (((w2.setCell ⟨bq, 0, none⟩ (.slice (some ⟨bf, 0, none⟩) m m)).setCell ⟨bq, 1, none⟩ (.slice (some ⟨bn, 0, none⟩) n n)).alloc (.cells (Array.replicate n (Value.bool false)) 4)) bq bf bn w2.heap.size m n nm (fun _ => false) := by
  have hbx : Below w.heap.size w w2 := hw.trans (h.below.mono hw.size)
  have hqf : bq ≠ bf := by have := h.lf; omega
  have hqn : bq ≠ bn := by have := h.ln; omega
  have hs := h.below.size
  have e : ((w2.setCell ⟨bq, 0, none⟩ (.slice (some ⟨bf, 0, none⟩) m m)).setCell ⟨bq, 1, none⟩ (.slice (some ⟨bn, 0, none⟩) n n)).heap.size = w2.heap.size := by simp [World.setCell]
  have hbf : bf < w2.heap.size := World.block_lt_of_cell? _ _ (h.ff 0 (by omega))
  constructor
  case below => exact ((hbx.setCell hl _).setCell hl _).alloc (by rw [e]; exact hbx.size) _
  case ls => exact hbx.size
  case sq => omega
  case sf => omega
  case sn => intro hn; have : bn < w2.heap.size := World.block_lt_of_cell? _ _ (h.gg 0 hn); omega
  case t0 =>
    rw [World.cell?_alloc_lt _ _ _ (by rw [e]; show bq < _; omega), cell_set_other _ _ _ _ _ _ (.inr (by decide))]
    exact cell_set_same _ _ _ _ _ hx0
  case t1 =>
    rw [World.cell?_alloc_lt _ _ _ (by rw [e]; show bq < _; omega)]
    refine cell_set_same _ _ _ _ x1 ?_
    rw [cell_set_other _ _ _ _ _ _ (.inr (by decide))]
    exact hx1
  case ff =>
    intro b hb
    rw [World.cell?_alloc_lt _ _ _ (by rw [e]; exact hbf), cell_set_other _ _ _ _ _ _ (.inl hqf), cell_set_other _ _ _ _ _ _ (.inl hqf)]
    exact h.ff b hb
  case gg =>
    intro i hi
    have hbn : bn < w2.heap.size := World.block_lt_of_cell? _ _ (h.gg i hi)
    rw [World.cell?_alloc_lt _ _ _ (by rw [e]; exact hbn), cell_set_other _ _ _ _ _ _ (.inl hqn), cell_set_other _ _ _ _ _ _ (.inl hqn)]
    exact h.gg i hi
  case ss =>
    intro i hi
    rw [World.cell?_alloc_at _ _ _ _ e.symm]
    simp [hi]
  case zs =>
    intro i
    rw [← e]
    simp [go_sem]

/-- which were seen: those of the buckets ahead of b, and of b those ahead of j. -/
def seenTo (nm : Nat → ByteArray) (m b j : Nat) (i : Nat) : Bool := decide (bkOf nm m i < b) || (decide (bkOf nm m i = b) && decide (i < j))

theorem seenTo_start (nm : Nat → ByteArray) (m i : Nat) : false = seenTo nm m 0 0 i := by simp [seenTo]
theorem seenTo_not (nm : Nat → ByteArray) (m b j i : Nat) (hb : bkOf nm m i = b) (hj : j ≤ i) : seenTo nm m b j i = false := by
  simp only [seenTo, Bool.or_eq_false_iff, Bool.and_eq_false_imp, decide_eq_false_iff_not, decide_eq_true_eq]
  omega
theorem seenTo_step (nm : Nat → ByteArray) (m b j q i : Nat) (hq : bkOf nm m q = b) (hj : j ≤ q) (hno : ∀ k, j ≤ k → k < q → bkOf nm m k ≠ b) : (if i = q then true else seenTo nm m b j i) = seenTo nm m b (q + 1) i := by
  by_cases e : i = q
  · subst e
    rw [if_pos rfl]
    simp [seenTo, hq]
  · rw [if_neg e]
    rw [Bool.eq_iff_iff]
    simp only [seenTo, Bool.or_eq_true, Bool.and_eq_true, decide_eq_true_eq]
    constructor
    · rintro (h | ⟨h1, h2⟩)
      · exact .inl h
      · exact .inr ⟨h1, by omega⟩
    · rintro (h | ⟨h1, h2⟩)
      · exact .inl h
      · refine .inr ⟨h1, ?_⟩
        by_cases hij : i < j
        · exact hij
        · exact absurd h1 (hno i (by omega) (by omega))
theorem seenTo_next (nm : Nat → ByteArray) (m n b j i : Nat) (hi : i < n) (hno : ∀ k, j ≤ k → k < n → bkOf nm m k ≠ b) : seenTo nm m b j i = seenTo nm m (b + 1) 0 i := by
  rw [Bool.eq_iff_iff]
  simp only [seenTo, Bool.or_eq_true, Bool.and_eq_true, decide_eq_true_eq]
  constructor
  · rintro (h | ⟨h1, h2⟩)
    · exact .inl (by omega)
    · exact .inl (by omega)
  · rintro (h | ⟨h1, h2⟩)
    · by_cases e : bkOf nm m i = b
      · refine .inr ⟨e, ?_⟩
        by_cases hij : i < j
        · exact hij
        · exact absurd e (hno i (by omega) hi)
      · exact .inl (by omega)
    · omega
theorem seenTo_all (nm : Nat → ByteArray) (m i : Nat) (h1 : 1 ≤ m) : seenTo nm m m 0 i = true := by
  have : bkOf nm m i < m := Nat.mod_lt _ (by omega)
  simp [seenTo, this]

theorem madeCells_false (n : Nat) : madeCells #[Value.bool false] n = (List.replicate n (Value.bool false)).toArray := by
  unfold madeCells
  apply Array.ext
  · simp
  · intro i h1 h2
    simp [Nat.mod_one]

/-- one name of one letter. -/
def oneName (a : UInt8) (_ : Nat) : ByteArray := ⟨#[a]⟩
theorem oneName_syms (w : World) (a : UInt8) : SymsAt (w.alloc (.cells #[.string ⟨#[a]⟩, .int .i64 0, .bool false] 36)) (some ⟨w.heap.size, 0, none⟩) 1 (oneName a) := by
  refine .inr ⟨w.heap.size, 0, rfl, fun i hi => ?_⟩
  match i, hi with
  | 0, _ => simp [go_sem, oneName]
theorem oneName_size (a : UInt8) (i : Nat) : (oneName a i).size ≤ maxLen := by
  unfold oneName maxLen
  show 1 ≤ _
  decide
end Go.Proofs.Ytchccaalinepnaa
