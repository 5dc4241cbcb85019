/-
  What slices.DeleteFunc does of what is late, by the bit of a Write: that bit's is struck, the others stay in their order.
-/
import Derived.Test.YtlcdacldhalnnaaGreatDoorDiskRead
import Derived.Laws.OwnMore
namespace Go.Proofs.YtlcdacldhalnnaaGreatDoor
open Go.RowKit

/-- each of them is whole. -/
def LatesOk (l : List Late) : Prop := ∀ x ∈ l, x.1 < 64 ∧ x.2.length = 64
theorem lateC_len {x : Late} (h : x.2.length = 64) : (lateC x).length = 65 := by simp [lateC, h]
theorem row_range {w : World} {B g m c : Nat} {l : List Late} (h : w.ownsRow B 113 65 (.slice (some ⟨g, 0, none⟩) m c) m (latesC l)) (hl : LatesOk l) {k : Nat} {x : Late} (hx : l[k]? = some x) : w.rangeAt g (k * 65) (lateC x) := fun j u hj => by
  obtain ⟨g', ha', _, hc⟩ := owns_cell h (latesC_at hl hx hj)
  injection ha' with e
  injection e with e
  subst e
  exact hc
/-- a segment of a row of the call's own is written. -/
theorem owns_segment {e : TypeId} {s B g n c : Nat} : ∀ (vs : List Value) (o : Nat) (w : World) (xs : List Value), w.ownsRow B e s (.slice (some ⟨g, 0, none⟩) n c) n xs → o + vs.length ≤ xs.length →
    (w.setCells g o vs).ownsRow B e s (.slice (some ⟨g, 0, none⟩) n c) n (xs.take o ++ vs ++ xs.drop (o + vs.length)) ∧ w.grownBy (w.setCells g o vs) (some g)
  | [], o, w, xs, h, _ => ⟨by simpa [World.setCells] using h, ⟨rfl, rfl, rfl, Nat.le_refl _, fun _ _ _ => rfl⟩⟩
  | v :: r, o, w, xs, h, hl => by
    obtain ⟨h1, g1⟩ := h.stored o v
    have hl' : o + (r.length + 1) ≤ xs.length := by simpa using hl
    obtain ⟨h2, g2⟩ := owns_segment r (o + 1) _ _ h1 (by simp; omega)
    refine ⟨?_, g1.trans g2⟩
    have e1 : (xs.set o v).take (o + 1) = xs.take o ++ [v] := by
      rw [List.take_set, List.take_succ_eq_append_getElem (by omega), List.set_append_right _ _ (by simp; omega)]
      simp [Nat.min_eq_left (show o ≤ xs.length by omega)]
    rw [e1, List.drop_set_of_lt (by omega)] at h2
    rw [World.setCells]
    have e2 : xs.take o ++ v :: r ++ xs.drop (o + (v :: r).length) = xs.take o ++ [v] ++ r ++ xs.drop (o + 1 + r.length) := by
      simp [Nat.add_comm, Nat.add_left_comm]
    rw [e2]
    exact h2
theorem latesC_take : ∀ {l : List Late}, LatesOk l → ∀ i, (latesC l).take (i * 65) = latesC (l.take i)
  | [], _, i => by simp [latesC]
  | a :: l, h, 0 => by simp [latesC]
  | a :: l, h, i + 1 => by
    have h2 := lateC_len (h a (by simp)).2
    simp only [latesC, List.flatMap_cons, List.take_succ_cons]
    rw [show (i + 1) * 65 = (lateC a).length + i * 65 by omega, List.take_length_add_append]
    congr 1
    exact latesC_take (fun x hx => h x (by simp [hx])) i
theorem latesC_drop : ∀ {l : List Late}, LatesOk l → ∀ i, (latesC l).drop (i * 65) = latesC (l.drop i)
  | [], _, i => by simp [latesC]
  | a :: l, h, 0 => by simp [latesC]
  | a :: l, h, i + 1 => by
    have h2 := lateC_len (h a (by simp)).2
    simp only [latesC, List.flatMap_cons, List.drop_succ_cons]
    rw [show (i + 1) * 65 = (lateC a).length + i * 65 by omega, List.drop_length_add_append]
    exact latesC_drop (fun x hx => h x (by simp [hx])) i
theorem latesC_append (a b : List Late) : latesC (a ++ b) = latesC a ++ latesC b := by simp [latesC]
theorem latesC_set {l : List Late} (h : LatesOk l) {i : Nat} (hi : i < l.length) (x : Late) : (latesC l).take (i * 65) ++ lateC x ++ (latesC l).drop (i * 65 + 65) = latesC (l.set i x) := by
  rw [show i * 65 + 65 = (i + 1) * 65 by omega, latesC_take h, latesC_drop h, List.set_eq_take_append_cons_drop, if_pos hi, latesC_append]
  simp [latesC]

set_option maxRecDepth 100000 in
theorem strikes_any (W : World) (x : Late) (b bw : Nat) (hc : W.cell? ⟨bw, 0, none⟩ = some (.int .u64 (b : Int))) :
    Calls Tryz.prog 74 #[.agg (lateC x).toArray, .pointer (some ⟨bw, 0, none⟩)] W fun e w' => e = .returned (.bool (decide (x.1 = b))) ∧ Below W.heap.size W w' := by
  have hlt : bw < W.heap.size := World.block_lt_of_cell? W ⟨bw, 0, none⟩ hc
  have hb : Below W.heap.size W (W.alloc (.cells (lateC x).toArray 113)) := (Below.refl _ _).alloc (Nat.le_refl _) _
  have q0 : (W.alloc (.cells (lateC x).toArray 113)).cell? ⟨W.heap.size, 0, none⟩ = some (.int .u64 (x.1 : Int)) := by rw [World.cell?_alloc_mark]; rfl
  have q1 := cell_later hb hc
  have hbx : (Instr.box 113 (.agg (lateC x).toArray)).run Tryz.prog W = .ok (.pointer (some ⟨W.heap.size, 0, none⟩)) (W.alloc (.cells (lateC x).toArray 113)) := rfl
  clear hc
  generalize lateC x = cs at *
  go_enter Tryz.func74, Tryz.ntmps74
  go_wp2
  go_ret
  refine ⟨ret_bool ?_, hb⟩
  by_cases e : x.1 = b
  · simp [e]
  · simp [e]
    omega

/-- where the first one of a bit is; below 0: nowhere. -/
def idxI (L : List Late) (b : Nat) : Int := match L.findIdx? (fun x => decide (x.1 = b)) with
  | some k => (k : Int)
  | none => -1
theorem idxI_some {L : List Late} {b k : Nat} (h : L.findIdx? (fun x => decide (x.1 = b)) = some k) : idxI L b = k := by unfold idxI; rw [h]
theorem idxI_none {L : List Late} {b : Nat} (h : L.findIdx? (fun x => decide (x.1 = b)) = none) : idxI L b = -1 := by unfold idxI; rw [h]
set_option maxRecDepth 100000 in
set_option maxHeartbeats 1000000 in
theorem index_any (w : World) (B g m c b bw : Nat) (L : List Late) (hR : w.ownsRow B 113 65 (.slice (some ⟨g, 0, none⟩) m c) m (latesC L)) (hL : LatesOk L) (hm : L.length = m) (hfew : m ≤ 64) (hc : w.cell? ⟨bw, 0, none⟩ = some (.int .u64 (b : Int))) :
    Calls Tryz.prog 91 #[.slice (some ⟨g, 0, none⟩) m c, .func (.func 74) #[] #[.pointer (some ⟨bw, 0, none⟩)]] w fun e w' =>
      e = .returned (.int .i64 (idxI L b)) ∧ Below w.heap.size w w' := by
  generalize hF : idxI L b = F
  have HF : Hid (idxI L b = F) := hF
  clear hF
  go_enter Tryz.func91, Tryz.ntmps91
  go_wp2
  go_loopw [8] (fun y wr => ∃ k : Nat, k ≤ m ∧ y = .int .i64 k ∧ Below w.heap.size w wr ∧ Hid (∀ j x, j < k → L[j]? = some x → x.1 ≠ b)) (fun y _ => m - (intOf y).toNat)
  case atStart => exact ⟨0, Nat.zero_le _, rfl, Below.refl _ _, fun j x hj => absurd hj (by omega)⟩
  case round =>
    obtain ⟨k, hk, rfl, hb, HN⟩ := hrel
    by_cases hlt : k < m
    · obtain ⟨x, hx⟩ : ∃ x, L[k]? = some x := ⟨_, List.getElem?_eq_getElem (by omega)⟩
      have hxl := hL x (List.mem_of_getElem? hx)
      have hra := row_range (owns_below hR hb) hL hx
      have HC := strikes_any wr x b bw (cell_later hb hc)
      have HL : Hid ((lateC x).length = 65) := lateC_len hxl.2
      have HX : Hid (L[k]? = some x) := hx
      clear hR hL hx hxl hc
      by_cases he : x.1 = b
      · rw [decide_eq_true he] at HC
        have HE : Hid ((k : Int) = F) := by
          refine (idxI_some ?_).symm.trans HF.out
          rw [List.findIdx?_eq_some_iff_getElem]
          have hk2 : k < L.length := by omega
          have hxk : L[k] = x := by
            have := HX.out
            rw [List.getElem?_eq_getElem hk2] at this
            injection this
          refine ⟨hk2, by rw [hxk]; exact decide_eq_true he, fun j hj => ?_⟩
          have := HN.out j L[j] hj (List.getElem?_eq_getElem (by omega))
          simpa using this
        clear HN he
        go_wp2_with (first
          | (refine wpList_load_mid rfl 113 (.tmp 14) rfl g (k * 65) rfl (lateC x) _ hra Tryz.underlying113 rfl (late_info HL.out) ?_))
        refine HC.mono ?_
        rintro e w2 ⟨rfl, hb2⟩
        clear HC
        have hb3 := hb.trans (hb2.mono hb.size)
        go_wp2
        go_ret
        exact ⟨ret_int HE.out, hb3⟩
      · rw [decide_eq_false he] at HC
        have HE : Hid (∀ j x, j < k + 1 → L[j]? = some x → x.1 ≠ b) := fun j y hj hy => by
          by_cases e : j = k
          · subst e
            rw [HX.out] at hy
            injection hy with hy
            rw [← hy]; exact he
          · exact HN.out j y (by omega) hy
        clear HN he
        go_wp2_with (first
          | (refine wpList_load_mid rfl 113 (.tmp 14) rfl g (k * 65) rfl (lateC x) _ hra Tryz.underlying113 rfl (late_info HL.out) ?_))
        refine HC.mono ?_
        rintro e w2 ⟨rfl, hb2⟩
        clear HC
        have hb3 := hb.trans (hb2.mono hb.size)
        go_wp2
        go_roundw
        case rel => exact ⟨k + 1, by omega, by go_num, hb3, HE⟩
        case measure => simp [intOf]; omega
    · have HE : Hid (-1 = F) := by
        refine (idxI_none ?_).symm.trans HF.out
        refine List.findIdx?_eq_none_iff.2 (fun x hx => ?_)
        obtain ⟨j, hj⟩ := List.getElem?_of_mem hx
        have := HN.out j x (by have := (List.getElem?_eq_some_iff.1 hj).1; omega) hj
        simpa using this
      clear HN
      go_wp2
      go_ret
      exact ⟨ret_int HE.out, hb⟩

/-- the row as it is while one is struck. -/
def shiftL (L : List Late) (k i : Nat) : List Late := L.take k ++ (L.drop (k + 1)).take (i - k) ++ L.drop i
theorem shift_get (L : List Late) {k i : Nat} (hk : k ≤ i) (hi : i < L.length) (q : Nat) : (shiftL L k i)[q]? = if q < k then L[q]? else if q < i then L[q + 1]? else L[q]? := by
  unfold shiftL
  have l1 : (L.take k).length = k := by simp; omega
  have l2 : ((L.drop (k + 1)).take (i - k)).length = i - k := by simp; omega
  by_cases h1 : q < k
  · rw [if_pos h1, List.append_assoc, List.getElem?_append_left (by omega), List.getElem?_take_of_lt h1]
  · rw [if_neg h1]
    by_cases h2 : q < i
    · rw [if_pos h2, List.getElem?_append_left (by rw [List.length_append, l1, l2]; omega), List.getElem?_append_right (by omega), l1, List.getElem?_take_of_lt (by omega), List.getElem?_drop]
      congr 1
      omega
    · rw [if_neg h2, List.getElem?_append_right (by rw [List.length_append, l1, l2]; omega), List.length_append, l1, l2, List.getElem?_drop]
      congr 1
      omega
theorem shift_len (L : List Late) {k i : Nat} (hk : k ≤ i) (hi : i < L.length) : (shiftL L k i).length = L.length := by
  unfold shiftL
  simp
  omega
theorem shift_start (L : List Late) {k : Nat} : shiftL L k k = L := by simp [shiftL]
theorem shift_step (L : List Late) {k i : Nat} (hk : k ≤ i) (hi : i + 1 < L.length) {x : Late} (hx : L[i + 1]? = some x) : (shiftL L k i).set i x = shiftL L k (i + 1) := by
  apply List.ext_getElem?
  intro q
  rw [List.getElem?_set, shift_len L hk (by omega), shift_get L hk (by omega), shift_get L (by omega) hi]
  by_cases e : i = q
  · subst e
    rw [if_pos rfl, if_pos (by omega), if_neg (by omega), if_pos (by omega), hx]
  · rw [if_neg e]
    by_cases h1 : q < k
    · rw [if_pos h1, if_pos h1]
    · rw [if_neg h1, if_neg h1]
      by_cases h2 : q < i
      · rw [if_pos h2, if_pos (by omega)]
      · rw [if_neg h2, if_neg (by omega)]
theorem shift_end (L : List Late) {k : Nat} (hk : k < L.length) : (shiftL L k (L.length - 1)).take (L.length - 1) = L.eraseIdx k := by
  unfold shiftL
  have l1 : (L.take k).length = k := by simp; omega
  have l2 : ((L.drop (k + 1)).take (L.length - 1 - k)).length = L.length - 1 - k := by simp; omega
  rw [List.take_append_of_le_length (by rw [List.length_append, l1, l2]; omega), List.take_of_length_le (by rw [List.length_append, l1, l2]; omega), List.take_of_length_le (l := L.drop (k + 1)) (by rw [List.length_drop]; omega), List.eraseIdx_eq_take_drop_succ]
theorem shift_ok {L : List Late} (h : LatesOk L) (k i : Nat) : LatesOk (shiftL L k i) := fun x hx => by
  unfold shiftL at hx
  simp only [List.mem_append] at hx
  rcases hx with (hx | hx) | hx
  · exact h x (List.mem_of_mem_take hx)
  · exact h x (List.mem_of_mem_drop (List.mem_of_mem_take hx))
  · exact h x (List.mem_of_mem_drop hx)
/-- one struck. -/
def struck (L : List Late) (b : Nat) : List Late := L.filter fun x => decide (x.1 ≠ b)
theorem struck_none {L : List Late} {b : Nat} (h : L.findIdx? (fun x => decide (x.1 = b)) = none) : struck L b = L := by
  refine List.filter_eq_self.2 (fun x hx => ?_)
  have := List.findIdx?_eq_none_iff.1 h x hx
  simpa using this
theorem struck_some {L : List Late} {b k : Nat} (hd : (L.map (·.1)).Nodup) (h : L.findIdx? (fun x => decide (x.1 = b)) = some k) : struck L b = L.eraseIdx k ∧ ∀ j x, k < j → L[j]? = some x → x.1 ≠ b := by
  induction L generalizing k with
  | nil => simp at h
  | cons a l ih =>
    rw [List.findIdx?_cons] at h
    simp only [List.map_cons, List.nodup_cons] at hd
    by_cases e : a.1 = b
    · rw [decide_eq_true e] at h
      simp at h
      subst h
      have hno : ∀ x ∈ l, x.1 ≠ b := fun x hx e2 => hd.1 (by rw [e, ← e2]; exact List.mem_map.2 ⟨x, hx, rfl⟩)
      refine ⟨?_, ?_⟩
      · unfold struck
        rw [List.filter_cons, if_neg (by simp [e])]
        simpa using hno
      · intro j x hj hx
        cases j with
        | zero => omega
        | succ j => exact hno x (List.mem_of_getElem? (by simpa using hx))
    · rw [decide_eq_false e] at h
      simp at h
      obtain ⟨k', hk', rfl⟩ := h
      obtain ⟨h1, h2⟩ := ih hd.2 hk'
      refine ⟨?_, ?_⟩
      · unfold struck at h1 ⊢
        rw [List.filter_cons, if_pos (by simp [e]), h1]
        rfl
      · intro j x hj hx
        cases j with
        | zero => omega
        | succ j => exact h2 j x (by omega) (by simpa using hx)
theorem clear_one (w : World) (ty : TypeId) (Z : Array Value) (hal : ∀ w, Sem.run Tryz.prog (zeroValue 113) w = .ok (.agg Z) w) (hZ : Z.size = 65) (h1 : ∀ v ∈ Z.toList, v.oneCell' = true) (g o c : Nat) (ht : w.there g o 65) :
    (Builtin.clear_ #[114] ty #[.slice (some ⟨g, o, none⟩) 1 c]).run Tryz.prog w = .ok (.tuple #[]) (w.setCells g o Z.toList) := by
  have hz : (Builtin.zeroCells Z 1).toList = Z.toList := by
    unfold Builtin.zeroCells
    apply List.ext_getElem
    · simp
    · intro i h2 h3
      have : i < Z.size := by simpa using h3
      simp [Nat.mod_eq_of_lt this, this]
  have hst := run_storeCells_cells (P := Tryz.prog) g o Z.toList 0 w (fun j hj => by simpa using (ht j (by simpa [hZ] using hj)).1) (fun j hj => by simpa using (ht j (by simpa [hZ] using hj)).2) h1
  simp only [Nat.add_zero] at hst
  simp [Builtin.clear_, run_underlying Tryz.underlying114, hal, Value.cells, hz, hst]
theorem there_row {w : World} {B g m c : Nat} {xs : List Value} (h : w.ownsRow B 113 65 (.slice (some ⟨g, 0, none⟩) m c) m xs) (o k : Nat) (hk : o + k ≤ m * 65) : w.there g o k := fun j hj => by
  refine ⟨?_, h.frozenAt _⟩
  rw [h.cellAt (o + j) (by omega), List.getElem?_eq_getElem (by rw [h.1]; omega)]
  rfl
end Go.Proofs.YtlcdacldhalnnaaGreatDoor
