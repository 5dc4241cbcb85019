/-
  What List, Remove and Write of the document's files do, for every name and text; all other memory stays as it was.
-/
import Derived.Test.YtjamlmklnkckgaaRefFilesAt
import Derived.Test.YtjamlmklnkckgaaFilesAt
namespace Go.Proofs.Ytjamlmklnkckgaa
open Go.RowKit

theorem fileGrow {B : Nat} {w : World} {v : Value} {L : List FileR} (f : FileR) (hB : B ≤ w.heap.size) (h : w.ownsRow B 105 3 v L.length (rowC L)) (hn : L.length + 1 ≤ 1000000) :
    ∃ v' W, (Builtin.append_ #[84, 84] 84 #[v, .slice (some ⟨w.heap.size, 0, none⟩) 1 1]).run Try.prog (w.alloc (.cells #[.string f.nm, .string f.tx, .int .i64 f.st] 105)) = .ok v' W ∧
      W.ownsRow B 105 3 v' (L ++ [f]).length (rowC (L ++ [f])) ∧ Below B (w.alloc (.cells #[.string f.nm, .string f.tx, .int .i64 f.st] 105)) W := by
  obtain ⟨v', W, h1, hG⟩ := append_from 84 105 3 40 (.agg #[.string ⟨#[]⟩, .string ⟨#[]⟩, .int .i64 0]) (by kernel_rfl) (by kernel_rfl) (by rfl) (by decide) B (w.alloc (.cells #[.string f.nm, .string f.tx, .int .i64 f.st] 105)) v L.length (rowC L) (h.alloc _) (some ⟨w.heap.size, 0, none⟩) 1 1 (fileC f) rfl
    (.inr ⟨_, _, rfl, fun j x hj => by
      have : j = 0 ∨ j = 1 ∨ j = 2 := by have := (List.getElem?_eq_some_iff.1 hj).1; simp [fileC] at this; omega
      rcases this with rfl | rfl | rfl
      all_goals
        simp [fileC] at hj
        subst hj
        simp [go_sem]⟩) (fun x hx => rowC_one (L := [f]) (by simpa [rowC] using hx)) (by simp; omega) hn (by decide)
  refine ⟨v', W, h1, ?_, hG.below⟩
  have := hG.own
  rw [List.length_append, rowC_snoc]
  exact this

/-- a call of List that returned. -/
structure ListREnd (w : World) (L : List FileR) (e : Ending) (w' : World) : Prop where
  v : ∃ v, e = .returned v ∧ w'.ownsRow w.heap.size 9 1 v L.length (L.map fun f => .string f.nm)
  below : Below w.heap.size w w'

theorem strGrow3 {B : Nat} {w : World} {v : Value} {n : Nat} {cs : List Value} (u : ByteArray) (hB : B ≤ w.heap.size) (h : w.ownsRow B 9 1 v n cs) (hn : n + 1 ≤ 1000000) :
    ∃ v' W, (Builtin.append_ #[63, 63] 63 #[v, .slice (some ⟨w.heap.size, 0, none⟩) 1 1]).run Try.prog (w.alloc (.cells #[.string u] 9)) = .ok v' W ∧ Grown B 9 1 (w.alloc (.cells #[.string u] 9)) v (n + 1) (cs ++ [.string u]) v' W :=
  append_from 63 9 1 16 (.string ⟨#[]⟩) (by kernel_rfl) (by kernel_rfl) (by rfl) (by decide) B _ v n cs (h.alloc _) (some ⟨w.heap.size, 0, none⟩) 1 1 [.string u] rfl
    (.inr ⟨_, _, rfl, fun j x hj => by
      cases j with
      | zero => simp at hj; subst hj; simp [go_sem]
      | succ j => simp at hj⟩) (fun x hx => by simp at hx; subst hx; rfl) (by simp; omega) hn (by decide)

set_option maxHeartbeats 1000000 in
theorem listR_any (B : Nat) (w : World) (q : Nat) (L : List FileR) (k : Nat) (h : RAt B w q L k) (hL : L.length ≤ 1000) :
    Calls Try.prog 41 #[.pointer (some ⟨q, 0, none⟩)] w fun e w' => ListREnd w L e w' := by
  obtain ⟨a, c, hc, c0, c1, hcell⟩ := h.open
  go_enter Try.func41, Try.ntmps41
  go_wp2
  go_loopw [3, 4] (fun v x wr => ∃ i : Nat, i ≤ L.length ∧ x = .int .i64 i ∧ wr.ownsRow w.heap.size 9 1 v i ((L.take i).map fun f => .string f.nm) ∧ Below w.heap.size w wr) (fun _ x _ => L.length - (intOf x).toNat)
  case atStart => exact ⟨0, Nat.zero_le _, rfl, World.ownsRow_nil _ _ _ _, Below.refl _ _⟩
  case round =>
    obtain ⟨i, hi, rfl, hown, hb⟩ := hrel
    have b0 := cell_later hb c0
    by_cases hlt : i < L.length
    · obtain ⟨f, hf⟩ : ∃ f, L[i]? = some f := ⟨L[i], List.getElem?_eq_getElem hlt⟩
      rcases hcell with h0 | ⟨g, rfl, hcc⟩
      · omega
      have d0 := cell_later hb (hcc i f hf).1
      obtain ⟨v', W, happ, hG⟩ := strGrow3 f.nm hb.size hown (by omega)
      have hown2 : W.ownsRow w.heap.size 9 1 v' (i + 1) ((L.take (i + 1)).map fun f => .string f.nm) := by
        have := hG.own
        rw [List.take_add_one, hf]
        simpa using this
      have hb2 := (hb.alloc hb.size _).trans hG.below
      clear hcc hown hG hf c0 c1
      go_wp2_with (at_builtin; refine list_run rfl _ _ 63 rfl u3 _ _ rfl rfl happ ?_)
      go_roundw
      case rel => exact ⟨i + 1, by omega, by go_num, hown2, hb2⟩
      case measure => simp [intOf]; omega
    · have e : i = L.length := by omega
      subst e
      rw [List.take_length] at hown
      clear c0 c1
      go_wp2
      go_ret
      exact ⟨⟨u3, rfl, hown⟩, hb⟩

/-- the row in block q is set. -/
theorem RAt.set {B q k : Nat} {w wr : World} {L L' : List FileR} {v : Value} (h : RAt B w q L k) (hb : Below w.heap.size w wr) (hown : wr.ownsRow w.heap.size 105 3 v L'.length (rowC L')) (hB : B ≤ w.heap.size) :
    wr.frozen? ⟨q, 0, none⟩ = false ∧ RAt B (wr.setCell ⟨q, 0, none⟩ v) q L' k ∧ Turned q q w (wr.setCell ⟨q, 0, none⟩ v) := by
  obtain ⟨v0, h1, h2⟩ := h.blk
  have hq : q < w.heap.size := (Array.getElem?_eq_some_iff.1 h1).1
  have h1' := (hb.block q hq).trans h1
  refine ⟨by simp [World.frozen?, h1'], ⟨h.lo, v, ?_, ?_⟩, hb.os, hb.tape, hb.output, by simp [World.setCell]; exact hb.size, fun j hj h3 _ => ?_⟩
  · show (wr.heap.modify q _)[q]? = _
    rw [Array.getElem?_modify, if_pos rfl, h1']
    rfl
  · refine ⟨hown.1, ?_⟩
    rcases hown.2 with hn | ⟨g, cap, cur, e1, e2, e3, e4⟩
    · exact .inl hn
    · refine .inr ⟨g, cap, cur, e1, Nat.le_trans hB e2, ?_, e4⟩
      show (wr.heap.modify q _)[g]? = _
      rw [Array.getElem?_modify, if_neg (by omega)]
      exact e3
  · show (wr.heap.modify q _)[j]? = _
    rw [Array.getElem?_modify, if_neg (fun e => h3 e.symm)]
    exact hb.block j hj

/-- a call of Remove that returned. -/
structure RemoveREnd (B : Nat) (w : World) (q : Nat) (L : List FileR) (k : Nat) (s : ByteArray) (e : Ending) (w' : World) : Prop where
  e : e = .returned (.int .i64 (if (delR s L).length = L.length then 5 else 0))
  at' : RAt B w' q (delR s L) k
  turned : Turned q q w w'

theorem delR_take (s : ByteArray) (L : List FileR) (i : Nat) (f : FileR) (h : L[i]? = some f) : delR s (L.take (i + 1)) = delR s (L.take i) ++ (if f.nm = s then [] else [f]) := by
  rw [List.take_add_one, h]
  unfold delR
  rw [List.filter_append]
  congr 1
  by_cases e : f.nm = s <;> simp [e]
theorem delR_le (s : ByteArray) (L : List FileR) : (delR s L).length ≤ L.length := List.length_filter_le _ _
theorem delR_same {s : ByteArray} {L : List FileR} (h : (delR s L).length = L.length) : delR s L = L := List.filter_eq_self.2 (by
  intro a ha
  by_cases e : (!decide (a.nm = s)) = true
  · exact e
  · exfalso
    have := (List.length_filter_lt_length_iff_exists (p := fun f : FileR => !decide (f.nm = s))).2 ⟨a, ha, e⟩
    unfold delR at h
    omega)

set_option maxRecDepth 100000 in
set_option maxHeartbeats 1000000 in
theorem removeR_any (B : Nat) (w : World) (q : Nat) (L : List FileR) (k : Nat) (s : ByteArray) (h : RAt B w q L k) (hL : L.length ≤ 1000) (hB : B ≤ w.heap.size) :
    Calls Try.prog 38 #[.pointer (some ⟨q, 0, none⟩), .string s] w fun e w' => RemoveREnd B w q L k s e w' := by
  obtain ⟨a, c, hc, c0, c1, hcell⟩ := h.open
  have hq : q < w.heap.size := World.block_lt_of_cell? _ _ c0
  go_enter Try.func38, Try.ntmps38
  go_wp2
  go_loopw [5, 6] (fun v x wr => ∃ i : Nat, i ≤ L.length ∧ x = .int .i64 i ∧ wr.ownsRow w.heap.size 105 3 v (delR s (L.take i)).length (rowC (delR s (L.take i))) ∧ Below w.heap.size w wr) (fun _ x _ => L.length - (intOf x).toNat)
  case atStart => exact ⟨0, Nat.zero_le _, rfl, World.ownsRow_nil _ _ _ _, Below.refl _ _⟩
  case round =>
    obtain ⟨i, hi, rfl, hown, hb⟩ := hrel
    have b0 := cell_later hb c0
    by_cases hlt : i < L.length
    · obtain ⟨f, hf⟩ : ∃ f, L[i]? = some f := ⟨L[i], List.getElem?_eq_getElem hlt⟩
      rcases hcell with h0 | ⟨g, rfl, hcc⟩
      · omega
      have d0 := cell_later hb (hcc i f hf).1
      have d1 := cell_later hb (hcc i f hf).2.1
      have d2 := cell_later hb (hcc i f hf).2.2
      have hst := delR_take s L i f hf
      have hle : (delR s (L.take i)).length ≤ i := by have := delR_le s (L.take i); simp at this; omega
      by_cases he : f.nm = s
      · have hqq : (f.nm.toList == s.toList) = true := by rw [toList_beq]; exact decide_eq_true he
        rw [if_pos he, List.append_nil] at hst
        clear hcc hf c0 c1 he
        go_wp2
        go_roundw
        case rel => exact ⟨i + 1, by omega, by go_num, by rw [hst]; exact hown, hb⟩
        case measure => simp [intOf]; omega
      · have hqq : (f.nm.toList == s.toList) = false := by rw [toList_beq]; exact decide_eq_false he
        rw [if_neg he] at hst
        obtain ⟨v', W, happ, hown2, hbG⟩ := fileGrow f hb.size hown (by omega)
        rw [← hst] at hown2
        have hb2 := (hb.alloc hb.size _).trans hbG
        clear hcc hown hbG hf c0 c1 hst he
        go_wp2_with (at_builtin; refine list_run rfl _ _ 84 rfl u5 _ _ rfl rfl happ ?_)
        go_roundw
        case rel => exact ⟨i + 1, by omega, by go_num, hown2, hb2⟩
        case measure => simp [intOf]; omega
    · have e : i = L.length := by omega
      subst e
      rw [List.take_length] at hown
      obtain ⟨a5, c5, rfl, _⟩ := owns_shape hown
      obtain ⟨hfz, hset, hTs⟩ := h.set hb hown hB
      by_cases hs : (delR s L).length = L.length
      · have hsi : (((delR s L).length : Int) == (L.length : Int)) = true := by rw [beq_iff_eq]; omega
        have HS : Hid (delR s L = L) := delR_same hs
        have HV : Hid ((if (delR s L).length = L.length then (5 : Int) else 0) = 5) := if_pos hs
        clear c0 c1 hs
        go_wp2
        go_ret
        exact ⟨by rw [HV.out]; rfl, by rw [HS.out]; exact h.later hb, Turned.of hb⟩
      · have hsi : (((delR s L).length : Int) == (L.length : Int)) = false := by rw [beq_eq_false_iff_ne]; omega
        have HV : Hid ((if (delR s L).length = L.length then (5 : Int) else 0) = 0) := if_neg hs
        clear c0 c1 hs
        go_wp2
        go_ret
        exact ⟨by rw [HV.out]; rfl, hset, hTs⟩
end Go.Proofs.Ytjamlmklnkckgaa
