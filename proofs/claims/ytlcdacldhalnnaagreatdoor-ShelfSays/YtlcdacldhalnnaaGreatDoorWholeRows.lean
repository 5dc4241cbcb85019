/-
  A variable of many cells that is made and filled at once, and read: its cells a list that is never laid open.
-/
import Derived.Test.YtlcdacldhalnnaaGreatDoorErr
import Derived.Test.YtlcdacldhalnnaaGreatDoorAtAll
import Derived.Deep.MidRow
namespace Go.Proofs.YtlcdacldhalnnaaGreatDoor
open Go.RowKit

theorem setCell_new (w : World) (c : Array Value) (t : TypeId) (f : Nat × Nat) (i : Nat) (v : Value) : (w.alloc (.cells c t f)).setCell ⟨w.heap.size, i, none⟩ v = w.alloc (.cells (c.set! i v) t f) := by
  show ({ w.alloc (.cells c t f) with heap := _ } : World) = _
  simp only [World.alloc]
  congr 1
  apply Array.ext_getElem?
  intro k
  rw [Array.getElem?_modify]
  by_cases h : w.heap.size = k
  · subst h
    rw [if_pos rfl, Array.getElem?_push_size, Array.getElem?_push_size]
    rfl
  · rw [if_neg h, Array.getElem?_push, Array.getElem?_push, if_neg (Ne.symm h), if_neg (Ne.symm h)]
theorem setCells_new (w : World) (t : TypeId) (f : Nat × Nat) : ∀ (vs : List Value) (o : Nat) (c : Array Value), o + vs.length ≤ c.size → (w.alloc (.cells c t f)).setCells w.heap.size o vs = w.alloc (.cells (c.toList.take o ++ vs ++ c.toList.drop (o + vs.length)).toArray t f)
  | [], o, c, _ => by simp [World.setCells]
  | v :: r, o, c, h => by
    rw [World.setCells, setCell_new, setCells_new w t f r (o + 1) (c.set! o v) (by simp at h ⊢; omega)]
    congr 2
    apply Array.ext'
    simp only [List.length_cons] at h
    have h1 : (c.set! o v).toList = c.toList.set o v := by simp
    rw [h1]
    have h2 : (c.toList.set o v).take (o + 1) = c.toList.take o ++ [v] := by
      rw [List.take_set, List.take_succ_eq_append_getElem (by simp; omega), List.set_append_right _ _ (by simp; omega)]
      simp [Nat.min_eq_left (show o ≤ c.size by omega)]
    rw [h2, List.drop_set_of_lt (by omega)]
    simp [Nat.add_comm, Nat.add_left_comm]
theorem fill_new (w : World) (t : TypeId) (f : Nat × Nat) (vs : List Value) (c : Array Value) (h : c.size = vs.length) : (w.alloc (.cells c t f)).setCells w.heap.size 0 vs = w.alloc (.cells vs.toArray t f) := by
  rw [setCells_new w t f vs 0 c (by omega), List.drop_of_length_le (by simp; omega)]
  simp
theorem there_new (w : World) (t : TypeId) (c : Array Value) : (w.alloc (.cells c t)).there w.heap.size 0 c.size := fun j hj => by
  refine ⟨?_, ?_⟩
  · rw [Nat.zero_add, World.cell?_alloc_mark]
    simp [hj]
  · simp [go_sem]
/-- a new variable is filled. -/
theorem wpList_fill {P : Program} {ops : Array Oper} {rest : List Oper} {op : Oper} {a : Go.Act} {W : World} {Q : Exit → Go.Act → World → Prop} (hgd : op.guard = none) (ty : TypeId) (x y : Operand) (ho : op.op = .store ty x y)
    (w : World) (Z : Array Value) (hW : W = w.alloc (.cells Z ty)) (cs : List Value) (hx : a.eval x = .pointer (some ⟨w.heap.size, 0, none⟩)) (hy : a.eval y = .agg cs.toArray) (hz : Z.size = cs.length) (hi : (P.info? ty).map (·.size) = some cs.length) (h1 : ∀ v ∈ cs, v.oneCell' = true)
    (h : wpList P ops Q rest (a.put op.dst undef) (w.alloc (.cells cs.toArray ty))) : wpList P ops Q (op :: rest) a W := by
  subst hW
  exact wpList_store_mid hgd ty x y ho w.heap.size 0 cs.toArray hx hy (by have := there_new w ty Z; rw [hz] at this; simpa using this) (by simpa using hi) (all_oneCell_toArray h1) (by
    rw [fill_new w ty (0, 0) _ Z (by simpa using hz)]
    exact h)
/-- what lies in a new variable. -/
theorem range_new (w : World) (t : TypeId) (cs : List Value) (o : Nat) (l : List Value) (h : ∀ j u, l[j]? = some u → cs[o + j]? = some u) : (w.alloc (.cells cs.toArray t)).rangeAt w.heap.size o l := fun j u hj => by
  rw [World.cell?_alloc_mark]
  simpa using h j u hj
/-- a call's one result, that lies in a variable. -/
theorem results_cell {P : Program} {fn : Func} {tmps : Array Value} {w : World} {d : Nat} {ty : TypeId} {b o : Nat} {v : Value} (hr : fn.results = #[.cell d ty]) (hd : tmps[d]? = some (.pointer (some ⟨b, o, none⟩))) (hl : (loadVar ty ⟨b, o, none⟩).run P w = .ok v w) : (results fn tmps).run P w = .ok v w := by
  simp [results, hr, hd, asAddr, hl]
end Go.Proofs.YtlcdacldhalnnaaGreatDoor
