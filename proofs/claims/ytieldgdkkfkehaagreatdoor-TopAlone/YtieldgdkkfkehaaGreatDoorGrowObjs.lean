/-
  Rows of objects that the call makes: by append of a row of objects, of one object.
-/
import Derived.Test.YtieldgdkkfkehaaGreatDoorAtAll
namespace Go.Proofs.YtieldgdkkfkehaaGreatDoor
open Go.RowKit

/-- an object's four cells. -/
def objC (V : Nat → ObjV) (O : Nat → ObjF) (i : Nat) : List Value := [.slice (V i).aN (O i).nN (V i).cN, .slice (V i).aW (O i).nW (V i).cW, .slice (V i).aS (O i).nS (V i).cS, .slice (V i).aT (O i).nT (V i).cT]
theorem objC_len (V : Nat → ObjV) (O : Nat → ObjF) (i : Nat) : (objC V O i).length = 4 := rfl
/-- a row of the call's own that holds n objects. -/
abbrev OwnObjs (B : Nat) (w : World) (v : Value) (n : Nat) (V : Nat → ObjV) (O : Nat → ObjF) : Prop := w.ownsRow B 27 4 v n (joinC (objC V O) n)

theorem objs_cells {w : World} {a : Option Addr} {n : Nat} {V : Nat → ObjV} {O : Nat → ObjF} (h : ObjsRow w a n V O) : n = 0 ∨ ∃ b o, a = some ⟨b, o, none⟩ ∧ ∀ j u, (joinC (objC V O) n)[j]? = some u → w.cell? ⟨b, o + j, none⟩ = some u := by
  rcases h with h | ⟨b, o, ha, hc⟩
  · exact .inl h
  · refine .inr ⟨b, o, ha, fun j u hj => ?_⟩
    have hlt : j < n * 4 := by
      have := (List.getElem?_eq_some_iff.1 hj).1
      rwa [joinC_len (s := 4) (fun i _ => objC_len V O i)] at this
    obtain ⟨i, k, rfl, hk⟩ : ∃ i k, j = i * 4 + k ∧ k < 4 := ⟨j / 4, j % 4, by omega, by omega⟩
    have hi : i < n := by omega
    rw [joinC_at (s := 4) (fun i _ => objC_len V O i) hi hk] at hj
    have H := hc i hi
    have : k = 0 ∨ k = 1 ∨ k = 2 ∨ k = 3 := by omega
    rcases this with rfl | rfl | rfl | rfl
    · simp [objC] at hj; subst hj; simpa [Nat.add_assoc] using H.c0
    · simp [objC] at hj; subst hj; simpa [Nat.add_assoc] using H.c1
    · simp [objC] at hj; subst hj; simpa [Nat.add_assoc] using H.c2
    · simp [objC] at hj; subst hj; simpa [Nat.add_assoc] using H.c3
theorem objs_one {V : Nat → ObjV} {O : Nat → ObjF} {n : Nat} {u : Value} (h : u ∈ joinC (objC V O) n) : u.oneCell' = true := by
  obtain ⟨i, _, hu⟩ := joinC_mem h
  simp [objC] at hu
  rcases hu with rfl | rfl | rfl | rfl <;> rfl
/-- such a row, read. -/
theorem OwnObjs.row {B : Nat} {w : World} {v : Value} {n : Nat} {V : Nat → ObjV} {O : Nat → ObjF} (h : OwnObjs B w v n V O) (hA : ∀ i, i < n → ObjAt w (V i) (O i)) : ∃ a c, v = .slice a n c ∧ n ≤ c ∧ ObjsRow w a n V O := by
  obtain ⟨a, c, rfl, hc⟩ := owns_shape h
  refine ⟨a, c, rfl, hc, ?_⟩
  by_cases h0 : n = 0
  · exact .inl h0
  · have cell : ∀ i k, i < n → k < 4 → ∀ u, (objC V O i)[k]? = some u → ∃ g, a = some ⟨g, 0, none⟩ ∧ B ≤ g ∧ w.cell? ⟨g, i * 4 + k, none⟩ = some u := fun i k hi hk u hu =>
      owns_cell h (by rw [joinC_at (s := 4) (fun i _ => objC_len V O i) hi hk]; exact hu)
    obtain ⟨g, ha, _, _⟩ := cell 0 0 (by omega) (by omega) _ rfl
    refine .inr ⟨g, 0, ha, fun i hi => ?_⟩
    have get : ∀ k, k < 4 → ∀ u, (objC V O i)[k]? = some u → w.cell? ⟨g, i * 4 + k, none⟩ = some u := fun k hk u hu => by
      obtain ⟨g', ha', _, hc'⟩ := cell i k hi hk u hu
      rw [ha] at ha'
      injection ha' with ha'
      injection ha' with ha'
      subst ha'
      exact hc'
    exact ⟨by simpa using get 0 (by omega) _ rfl, by simpa using get 1 (by omega) _ rfl, by simpa using get 2 (by omega) _ rfl, by simpa using get 3 (by omega) _ rfl, hA i hi⟩

/-- two rows, one behind the other. -/
def catV2 {α : Type} (n : Nat) (f g : Nat → α) : Nat → α := fun i => if i < n then f i else g (i - n)
theorem joinC_cat (n m : Nat) (V V' : Nat → ObjV) (O O' : Nat → ObjF) : joinC (objC V O) n ++ joinC (objC V' O') m = joinC (objC (catV2 n V V') (catV2 n O O')) (n + m) := by
  rw [joinC_add]
  congr 1
  · exact joinC_congr fun i hi => by simp [objC, catV2, hi]
  · exact joinC_congr fun i hi => by
      have h : ¬ n + i < n := by omega
      simp [objC, catV2, h]

theorem append_objs (B : Nat) (w : World) (v : Value) (n : Nat) (V V' : Nat → ObjV) (O O' : Nat → ObjF) (a : Option Addr) (m c : Nat) (hown : OwnObjs B w v n V O) (hsrc : ObjsRow w a m V' O') (hB : B ≤ w.heap.size) (hn : n + m ≤ 1000000) :
    ∃ v' W, (Builtin.append_ #[37, 37] 37 #[v, .slice a m c]).run Tryz.prog w = .ok v' W ∧ (OwnObjs B W v' (n + m) (catV2 n V V') (catV2 n O O') ∧ Below B w W) := by
  obtain ⟨v', W, h, hG⟩ := append_from 37 27 4 96 (.agg #[.slice none 0 0, .slice none 0 0, .slice none 0 0, .slice none 0 0]) (by kernel_rfl) (by kernel_rfl) (by rfl) (by decide) B w v n _ hown a m c (joinC (objC V' O') m) (joinC_len (fun i _ => objC_len V' O' i)) (objs_cells hsrc) (fun u hu => objs_one hu) hB hn (by decide)
  refine ⟨v', W, h, ?_, hG.below⟩
  have := hG.own
  rw [joinC_cat] at this
  exact this
theorem owns_base {w : World} {B B' : Nat} {e : TypeId} {s n : Nat} {v : Value} {xs : List Value} (h : w.ownsRow B e s v n xs) (hB : B' ≤ B) : w.ownsRow B' e s v n xs := by
  refine ⟨h.1, ?_⟩
  rcases h.2 with h | ⟨g, cap, cur, e1, e2, e3⟩
  · exact .inl h
  · exact .inr ⟨g, cap, cur, e1, Nat.le_trans hB e2, e3⟩
theorem ownObjs_nil (B : Nat) (w : World) (V : Nat → ObjV) (O : Nat → ObjF) : OwnObjs B w (.slice none 0 0) 0 V O := World.ownsRow_nil w B 27 4
theorem cat_none {α : Type} (f g : Nat → α) : catV2 0 f g = g := by funext i; simp [catV2]
/-- append of a row of objects onto none: a new row. -/
theorem append_objs_nil (B : Nat) (w : World) (V : Nat → ObjV) (O : Nat → ObjF) (a : Option Addr) (m c : Nat) (hsrc : ObjsRow w a m V O) (hB : B ≤ w.heap.size) (hn : m ≤ 1000000) :
    ∃ v' W, (Builtin.append_ #[37, 37] 37 #[.slice none 0 0, .slice a m c]).run Tryz.prog w = .ok v' W ∧ (OwnObjs B W v' m V O ∧ Below w.heap.size w W) := by
  obtain ⟨v', W, h, h1, h2⟩ := append_objs w.heap.size w (.slice none 0 0) 0 V V O O a m c (ownObjs_nil _ _ V O) hsrc (Nat.le_refl _) (by omega)
  rw [cat_none, cat_none, Nat.zero_add] at h1
  exact ⟨v', W, h, owns_base h1 hB, h2⟩
/-- the same, where a block of four cells was just made. -/
theorem append_objs_beside (B : Nat) (Y X : World) (x0 x1 x2 x3 : Value) (V : Nat → ObjV) (O : Nat → ObjF) (a : Option Addr) (m c : Nat) (hX : Below (Y.alloc (.cells #[x0, x1, x2, x3] 27)).heap.size (Y.alloc (.cells #[x0, x1, x2, x3] 27)) X) (hsrc : ObjsRow Y a m V O) (hB : B ≤ Y.heap.size) (hn : m ≤ 1000000) :
    ∃ v' W, (Builtin.append_ #[37, 37] 37 #[.slice none 0 0, .slice a m c]).run Tryz.prog X = .ok v' W ∧ (OwnObjs B W v' m V O ∧ Below Y.heap.size Y W ∧ W.cell? ⟨Y.heap.size, 0, none⟩ = some x0 ∧ W.cell? ⟨Y.heap.size, 1, none⟩ = some x1 ∧ W.cell? ⟨Y.heap.size, 2, none⟩ = some x2 ∧ W.cell? ⟨Y.heap.size, 3, none⟩ = some x3) := by
  have hY : Below Y.heap.size Y (Y.alloc (.cells #[x0, x1, x2, x3] 27)) := (Below.refl _ _).alloc (Nat.le_refl _) _
  have hYX : Below Y.heap.size Y X := hY.trans (hX.mono hY.size)
  obtain ⟨v', W, h, h1, h2⟩ := append_objs_nil B X V O a m c (hsrc.later hYX) (Nat.le_trans hB hYX.size) hn
  refine ⟨v', W, h, h1, hYX.trans (h2.mono hYX.size), ?_, ?_, ?_, ?_⟩
  all_goals exact cell_later h2 (cell_later hX (by simp [go_sem]))
end Go.Proofs.YtieldgdkkfkehaaGreatDoor
