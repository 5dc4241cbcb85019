/-
  A table in the making: where its two rows lie, and what they hold; what a store into one of them turns.
-/
import Derived.Test.YtchccaalinepnaaTableWalks
import Derived.Test.YtchccaalinepnaaRepeat
namespace Go.Proofs.Ytchccaalinepnaa
open Go.RowKit

/-- the table behind 'bt': the row 'bf' of m numbers, the row 'bn' of n; all of it made since w; 'br': where the answer is to be laid. -/
structure Tab (w wr : World) (br bt bf bn m n : Nat) (F G : Nat → Int) : Prop where
  below : Below w.heap.size w wr
  lr : w.heap.size ≤ br
  lt : w.heap.size ≤ bt
  lf : w.heap.size ≤ bf
  ln : w.heap.size ≤ bn
  rt : br ≠ bt
  rf : br ≠ bf
  rn : br ≠ bn
  tf : bt ≠ bf
  tn : bt ≠ bn
  fn : bf ≠ bn
  r0 : ∃ v, wr.cell? ⟨br, 0, none⟩ = some v
  r1 : ∃ v, wr.cell? ⟨br, 0 + 1, none⟩ = some v
  t0 : wr.cell? ⟨bt, 0, none⟩ = some (.slice (some ⟨bf, 0, none⟩) m m)
  t1 : wr.cell? ⟨bt, 0 + 1, none⟩ = some (.slice (some ⟨bn, 0, none⟩) n n)
  ff : ∀ b, b < m → wr.cell? ⟨bf, b, none⟩ = some (.int .i64 (F b))
  gg : ∀ i, i < n → wr.cell? ⟨bn, i, none⟩ = some (.int .i64 (G i))
  zr : ∀ i, wr.frozen? ⟨br, i, none⟩ = false
  zf : ∀ i, wr.frozen? ⟨bf, i, none⟩ = false
  zn : ∀ i, wr.frozen? ⟨bn, i, none⟩ = false

theorem Tab.drewN {w wr : World} {br bt bf bn m n : Nat} {F G : Nat → Int} (h : Tab w wr br bt bf bn m n F G) (j : Nat) : Tab w (wr.drewN j) br bt bf bn m n F G :=
  { h with below := below_drewN h.below j }

theorem cell_set_other (w : World) (a b : Nat) (i j : Nat) (v : Value) (h : a ≠ b ∨ i ≠ j) : (w.setCell ⟨a, i, none⟩ v).cell? ⟨b, j, none⟩ = w.cell? ⟨b, j, none⟩ := by
  apply World.cell?_setCell_other
  intro e
  injection e with e1 e2
  omega
theorem cell_set_same (w : World) (a i : Nat) (v x : Value) (h : w.cell? ⟨a, i, none⟩ = some x) : (w.setCell ⟨a, i, none⟩ v).cell? ⟨a, i, none⟩ = some v :=
  World.cell?_setCell_same _ _ _ h

/-- a store into the second row. -/
theorem Tab.storeN {w wr : World} {br bt bf bn m n : Nat} {F G : Nat → Int} (h : Tab w wr br bt bf bn m n F G) (k : Nat) (hk : k < n) (v : Int) :
    Tab w (wr.setCell ⟨bn, k, none⟩ (.int .i64 v)) br bt bf bn m n F (fun i => if i = k then v else G i) :=
  { h with
    below := h.below.setCell h.ln _
    r0 := by rw [cell_set_other _ _ _ _ _ _ (.inl h.rn.symm)]; exact h.r0
    r1 := by rw [cell_set_other _ _ _ _ _ _ (.inl h.rn.symm)]; exact h.r1
    t0 := by rw [cell_set_other _ _ _ _ _ _ (.inl h.tn.symm)]; exact h.t0
    t1 := by rw [cell_set_other _ _ _ _ _ _ (.inl h.tn.symm)]; exact h.t1
    ff := fun b hb => by rw [cell_set_other _ _ _ _ _ _ (.inl h.fn.symm)]; exact h.ff b hb
    gg := fun i hi => by
      by_cases e : i = k
      · subst e; rw [cell_set_same _ _ _ _ _ (h.gg i hi), if_pos rfl]
      · rw [cell_set_other _ _ _ _ _ _ (.inr (fun e' => e e'.symm)), if_neg e]; exact h.gg i hi
    zr := fun i => by rw [World.frozen?_setCell]; exact h.zr i
    zf := fun i => by rw [World.frozen?_setCell]; exact h.zf i
    zn := fun i => by rw [World.frozen?_setCell]; exact h.zn i }

/-- a store into the first row. -/
theorem Tab.storeF {w wr : World} {br bt bf bn m n : Nat} {F G : Nat → Int} (h : Tab w wr br bt bf bn m n F G) (k : Nat) (hk : k < m) (v : Int) :
    Tab w (wr.setCell ⟨bf, k, none⟩ (.int .i64 v)) br bt bf bn m n (fun b => if b = k then v else F b) G :=
  { h with
    below := h.below.setCell h.lf _
    r0 := by rw [cell_set_other _ _ _ _ _ _ (.inl h.rf.symm)]; exact h.r0
    r1 := by rw [cell_set_other _ _ _ _ _ _ (.inl h.rf.symm)]; exact h.r1
    t0 := by rw [cell_set_other _ _ _ _ _ _ (.inl h.tf.symm)]; exact h.t0
    t1 := by rw [cell_set_other _ _ _ _ _ _ (.inl h.tf.symm)]; exact h.t1
    ff := fun b hb => by
      by_cases e : b = k
      · subst e; rw [cell_set_same _ _ _ _ _ (h.ff b hb), if_pos rfl]
      · rw [cell_set_other _ _ _ _ _ _ (.inr (fun e' => e e'.symm)), if_neg e]; exact h.ff b hb
    gg := fun i hi => by rw [cell_set_other _ _ _ _ _ _ (.inl h.fn)]; exact h.gg i hi
    zr := fun i => by rw [World.frozen?_setCell]; exact h.zr i
    zf := fun i => by rw [World.frozen?_setCell]; exact h.zf i
    zn := fun i => by rw [World.frozen?_setCell]; exact h.zn i }

/-- a store where the answer is laid. -/
theorem Tab.storeR {w wr : World} {br bt bf bn m n : Nat} {F G : Nat → Int} (h : Tab w wr br bt bf bn m n F G) (k : Nat) (v : Value) :
    Tab w (wr.setCell ⟨br, k, none⟩ v) br bt bf bn m n F G :=
  { h with
    below := h.below.setCell h.lr _
    r0 := by obtain ⟨u, hu⟩ := h.r0; exact cell?_setCell_some hu
    r1 := by obtain ⟨u, hu⟩ := h.r1; exact cell?_setCell_some hu
    t0 := by rw [cell_set_other _ _ _ _ _ _ (.inl h.rt)]; exact h.t0
    t1 := by rw [cell_set_other _ _ _ _ _ _ (.inl h.rt)]; exact h.t1
    ff := fun b hb => by rw [cell_set_other _ _ _ _ _ _ (.inl h.rf)]; exact h.ff b hb
    gg := fun i hi => by rw [cell_set_other _ _ _ _ _ _ (.inl h.rn)]; exact h.gg i hi
    zr := fun i => by rw [World.frozen?_setCell]; exact h.zr i
    zf := fun i => by rw [World.frozen?_setCell]; exact h.zf i
    zn := fun i => by rw [World.frozen?_setCell]; exact h.zn i }

theorem Tab.congr {w wr : World} {br bt bf bn m n : Nat} {F G F' G' : Nat → Int} (h : Tab w wr br bt bf bn m n F G) (hF : ∀ b, b < m → F b = F' b) (hG : ∀ i, i < n → G i = G' i) : Tab w wr br bt bf bn m n F' G' :=
  { h with ff := fun b hb => by rw [h.ff b hb, hF b hb], gg := fun i hi => by rw [h.gg i hi, hG i hi] }

theorem drewN_alloc (w : World) (k : Nat) (o : Obj) : (w.drewN k).alloc o = (w.alloc o).drewN k := rfl
theorem drewN_setCell (w : World) (k : Nat) (a : Addr) (v : Value) : (w.drewN k).setCell a v = (w.setCell a v).drewN k := rfl

theorem madeCells_zero (n : Nat) : madeCells #[Value.int .i64 0] n = (List.replicate n (Value.int .i64 0)).toArray := by
  rw [madeCells_row 0 n]
  simp [rowOf]
end Go.Proofs.Ytchccaalinepnaa
