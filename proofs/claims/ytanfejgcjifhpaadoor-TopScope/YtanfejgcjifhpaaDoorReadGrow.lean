/-
  An object that is being read: what becomes of it, and of memory, when one of its rows grows by one.
-/
import Derived.Test.YtanfejgcjifhpaaDoorReadUse
namespace Go.Proofs.YtanfejgcjifhpaaDoor
open Go.RowKit

theorem grown_kept {B bo i : Nat} {w w2 W : World} {row : Option Nat} {u : Value} {o : Obj} (hb : Kept B bo w w2) (hB : B ≤ w2.heap.size) (hg : (w2.alloc o).grownBy W row) (hr : ∀ k, row = some k → B ≤ k) : Kept B bo w (W.setCell ⟨bo, i, none⟩ u) :=
  (hb.trans (Kept.of (((Below.refl B w2).alloc hB o).grown hg (by simp; omega) hr) (Nat.le_refl _))).trans ⟨rfl, rfl, rfl, by simp [World.setCell], fun k _ hk => Below.heap_setCell _ _ _ _ hk⟩

theorem Reading.needGrow {B bo : Nat} {w w2 : World} {vN vW vS vT : Value} {o : ObjF} (h : Reading B w2 bo vN vW vS vT o) (hb : Kept B bo w w2) (a : ByteArray) (hn : o.nN + 1 ≤ 1000000) :
    ∃ g cap W, (Builtin.append_ #[31, 31] 31 #[vN, .slice (some ⟨w2.heap.size, 0, none⟩) 1 1]).run Tryd.prog (w2.alloc (.cells #[.string a] 9)) = .ok (.slice (some ⟨g, 0, none⟩) (o.nN + 1) cap) W ∧ W.cell? ⟨bo, 0, none⟩ = some vN ∧ W.frozen? ⟨bo, 0, none⟩ = false ∧
      (∃ v0 v1 v2 v3, Reading B (W.setCell ⟨bo, 0, none⟩ (.slice (some ⟨g, 0, none⟩) (o.nN + 1) cap)) bo v0 v1 v2 v3 (addNeed o a)) ∧ Kept B bo w (W.setCell ⟨bo, 0, none⟩ (.slice (some ⟨g, 0, none⟩) (o.nN + 1) cap)) := by
  have hB : B ≤ w2.heap.size := h.lo
  obtain ⟨g, cap, W, happ, hown, hgr⟩ := append_one 31 9 1 16 (.string ⟨#[]⟩) (by kernel_rfl) (by kernel_rfl) (by rfl) (by decide) B w2 vN o.nN (catV (needC o) o.nN) [.string a] h.needs rfl (by simp [Value.oneCell']) hB hn (by decide)
  obtain ⟨hbo, hRn⟩ := (h.below (show Below w2.heap.size w2 (w2.alloc (.cells #[.string a] 9)) from (Below.refl _ _).alloc (Nat.le_refl _) _)).need hgr hown
  exact ⟨g, cap, W, happ, by simp [World.cell?, hbo], by simp [World.frozen?, hbo], ⟨_, _, _, _, hRn⟩, grown_kept hb hB hgr (fun k hk => (h.needs.lt k hk).1)⟩

theorem Reading.wordGrow {B bo : Nat} {w w2 : World} {vN vW vS vT : Value} {o : ObjF} (h : Reading B w2 bo vN vW vS vT o) (hb : Kept B bo w w2) (a : Int) (hn : o.nW + 1 ≤ 1000000) :
    ∃ g cap W, (Builtin.append_ #[22, 22] 22 #[vW, .slice (some ⟨w2.heap.size, 0, none⟩) 1 1]).run Tryd.prog (w2.alloc (.cells #[.int .i64 a] 3)) = .ok (.slice (some ⟨g, 0, none⟩) (o.nW + 1) cap) W ∧ W.cell? ⟨bo, 1, none⟩ = some vW ∧ W.frozen? ⟨bo, 1, none⟩ = false ∧
      (∃ v0 v1 v2 v3, Reading B (W.setCell ⟨bo, 1, none⟩ (.slice (some ⟨g, 0, none⟩) (o.nW + 1) cap)) bo v0 v1 v2 v3 (addWord o a)) ∧ Kept B bo w (W.setCell ⟨bo, 1, none⟩ (.slice (some ⟨g, 0, none⟩) (o.nW + 1) cap)) := by
  have hB : B ≤ w2.heap.size := h.lo
  obtain ⟨g, cap, W, happ, hown, hgr⟩ := append_one 22 3 1 8 (.int .i64 0) (by kernel_rfl) (by kernel_rfl) (by rfl) (by decide) B w2 vW o.nW (catV (wordC o) o.nW) [.int .i64 a] h.words rfl (by simp [Value.oneCell']) hB hn (by decide)
  obtain ⟨hbo, hRn⟩ := (h.below (show Below w2.heap.size w2 (w2.alloc (.cells #[.int .i64 a] 3)) from (Below.refl _ _).alloc (Nat.le_refl _) _)).word hgr hown
  exact ⟨g, cap, W, happ, by simp [World.cell?, hbo], by simp [World.frozen?, hbo], ⟨_, _, _, _, hRn⟩, grown_kept hb hB hgr (fun k hk => (h.words.lt k hk).1)⟩

theorem Reading.symGrow {B bo : Nat} {w w2 : World} {vN vW vS vT : Value} {o : ObjF} (h : Reading B w2 bo vN vW vS vT o) (hb : Kept B bo w w2) (s : ByteArray) (a : Int) (b : Bool) (hn : o.nS + 1 ≤ 1000000) :
    ∃ g cap W, (Builtin.append_ #[32, 32] 32 #[vS, .slice (some ⟨w2.heap.size, 0, none⟩) 1 1]).run Tryd.prog (w2.alloc (.cells #[.string s, .int .i64 a, .bool b] 60)) = .ok (.slice (some ⟨g, 0, none⟩) (o.nS + 1) cap) W ∧ W.cell? ⟨bo, 2, none⟩ = some vS ∧ W.frozen? ⟨bo, 2, none⟩ = false ∧
      (∃ v0 v1 v2 v3, Reading B (W.setCell ⟨bo, 2, none⟩ (.slice (some ⟨g, 0, none⟩) (o.nS + 1) cap)) bo v0 v1 v2 v3 (addSym o s a b)) ∧ Kept B bo w (W.setCell ⟨bo, 2, none⟩ (.slice (some ⟨g, 0, none⟩) (o.nS + 1) cap)) := by
  have hB : B ≤ w2.heap.size := h.lo
  obtain ⟨g, cap, W, happ, hown, hgr⟩ := append_one 32 60 3 32 (.agg #[.string ⟨#[]⟩, .int .i64 0, .bool false]) (by kernel_rfl) (by kernel_rfl) (by rfl) (by decide) B w2 vS o.nS (catV (symC o) o.nS) [.string s, .int .i64 a, .bool b] h.syms rfl (by simp [Value.oneCell']) hB hn (by decide)
  obtain ⟨hbo, hRn⟩ := (h.below (show Below w2.heap.size w2 (w2.alloc (.cells #[.string s, .int .i64 a, .bool b] 60)) from (Below.refl _ _).alloc (Nat.le_refl _) _)).sym hgr hown
  exact ⟨g, cap, W, happ, by simp [World.cell?, hbo], by simp [World.frozen?, hbo], ⟨_, _, _, _, hRn⟩, grown_kept hb hB hgr (fun k hk => (h.syms.lt k hk).1)⟩

theorem Reading.tieGrow {B bo : Nat} {w w2 : World} {vN vW vS vT : Value} {o : ObjF} (h : Reading B w2 bo vN vW vS vT o) (hb : Kept B bo w w2) (x k d : Int) (s : ByteArray) (b : Bool) (hn : o.nT + 1 ≤ 1000000) :
    ∃ g cap W, (Builtin.append_ #[33, 33] 33 #[vT, .slice (some ⟨w2.heap.size, 0, none⟩) 1 1]).run Tryd.prog (w2.alloc (.cells #[.int .i64 x, .int .i64 k, .int .i64 d, .string s, .bool b] 62)) = .ok (.slice (some ⟨g, 0, none⟩) (o.nT + 1) cap) W ∧ W.cell? ⟨bo, 3, none⟩ = some vT ∧ W.frozen? ⟨bo, 3, none⟩ = false ∧
      (∃ v0 v1 v2 v3, Reading B (W.setCell ⟨bo, 3, none⟩ (.slice (some ⟨g, 0, none⟩) (o.nT + 1) cap)) bo v0 v1 v2 v3 (addTie o x k d s b)) ∧ Kept B bo w (W.setCell ⟨bo, 3, none⟩ (.slice (some ⟨g, 0, none⟩) (o.nT + 1) cap)) := by
  have hB : B ≤ w2.heap.size := h.lo
  obtain ⟨g, cap, W, happ, hown, hgr⟩ := append_one 33 62 5 48 (.agg #[.int .i64 0, .int .i64 0, .int .i64 0, .string ⟨#[]⟩, .bool false]) (by kernel_rfl) (by kernel_rfl) (by rfl) (by decide) B w2 vT o.nT (catV (tieC o) o.nT) [.int .i64 x, .int .i64 k, .int .i64 d, .string s, .bool b] h.ties rfl (by simp [Value.oneCell']) hB hn (by decide)
  obtain ⟨hbo, hRn⟩ := (h.below (show Below w2.heap.size w2 (w2.alloc (.cells #[.int .i64 x, .int .i64 k, .int .i64 d, .string s, .bool b] 62)) from (Below.refl _ _).alloc (Nat.le_refl _) _)).tie hgr hown
  exact ⟨g, cap, W, happ, by simp [World.cell?, hbo], by simp [World.frozen?, hbo], ⟨_, _, _, _, hRn⟩, grown_kept hb hB hgr (fun k hk => (h.ties.lt k hk).1)⟩
end Go.Proofs.YtanfejgcjifhpaaDoor
