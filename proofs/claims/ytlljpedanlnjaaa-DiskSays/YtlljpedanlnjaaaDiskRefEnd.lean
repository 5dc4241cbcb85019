/-
  What Flush and Restart of the document's disk do; all else stays as it was.
-/
import Derived.Test.YtlljpedanlnjaaaDiskRefPut
import Derived.BigRegion
namespace Go.Proofs.Ytlljpedanlnjaaa
open Go.RowKit

/-- a copy of a row of texts. -/
theorem copyS {w : World} {B m c : Nat} {a : Option Addr} {f : Nat → List UInt8} (h : w.ownsRow B 9 1 (.slice a m c) m (textsC f m)) (hB : B ≤ w.heap.size) (hm : m ≤ 1000) (h1 : 1 ≤ m) :
    ∃ v' W, (Builtin.append_ #[50, 50] 50 #[.slice none 0 0, .slice a m c]).run Try.prog w = .ok v' W ∧ W.ownsRow B 9 1 v' m (textsC f m) ∧ w.grownBy W none ∧ (v'.ownBlock = none ∨ v'.ownBlock = some w.heap.size) := by
  obtain ⟨x, hx, hp⟩ := Option.map_eq_some_iff.1 (show (Try.prog.info? 9).map (fun i => (i.zero, i.size, i.bytes)) = some (some (.string ⟨#[]⟩), 1, 16) by kernel_rfl)
  simp only [Prod.mk.injEq] at hp
  obtain ⟨g1, g2, g3⟩ := hp
  obtain ⟨g, rfl, _, _⟩ := owns_cell h (textsC_at f (show 0 < m by omega))
  obtain ⟨v', W, hrun, hO, hg, _, hbl⟩ := run_append_own_at (P := Try.prog) w B 50 50 9 x _ 1 16 Try.underlying50 hx g1 g2 g3 rfl (by decide) (.slice none 0 0) 0 [] (World.ownsRow_nil _ _ _ _) ⟨g, 0, none⟩ m c (textsC f m) (by simp)
    (fun j u hj => by
      rw [Addr.add_mid, Nat.zero_add]
      obtain ⟨g', hg', _, hc⟩ := owns_cell h hj
      injection hg' with hg'
      injection hg' with hg'
      subst hg'
      exact hc) (fun u hu => by simp [textsC] at hu; obtain ⟨j, _, rfl⟩ := hu; rfl) (by simp only [maxLen]; omega) (by omega) hB
  rw [Nat.zero_add, List.nil_append] at hO
  exact ⟨v', W, hrun, hO, hg, hbl⟩
/-- the row of what is kept, or of what is now, is a copy. -/
def CopyEnd (X : World) (B q n : Nat) (i : Nat) (old : Value) (r' : RSt) (mk : Value → Value × Value × Value) (v' : Value) (W : World) : Prop :=
  (∃ a m c, v' = .slice a m c) ∧ W.cell? ⟨q, i, none⟩ = some old ∧ W.frozen? ⟨q, i, none⟩ = false ∧ RefAt (W.setCell ⟨q, i, none⟩ v') B q n r' (mk v').1 (mk v').2.1 (mk v').2.2 ∧ RSpun B X (W.setCell ⟨q, i, none⟩ v')
theorem RefAt.keepNow {w : World} {B q n c : Nat} {a : Option Addr} {r : RSt} {vK vW : Value} (h : RefAt w B q n r vK (.slice a n c) vW) (hn : n ≤ 120) (h1 : 1 ≤ n) :
    ∃ v' W, (Builtin.append_ #[50, 50] 50 #[.slice none 0 0, .slice a n c]).run Try.prog w = .ok v' W ∧ CopyEnd w B q n 0 vK { r with kept := r.now } (fun v => (v, .slice a n c, vW)) v' W := by
  have hB : B ≤ w.heap.size := by have := h.bq; have := h.lt; omega
  obtain ⟨v', W, hrun, hO, hg, hbl⟩ := copyS h.now hB (by omega) h1
  have hb : Below w.heap.size w W := ⟨hg.os, hg.tape, hg.output, hg.size, fun k hk => hg.block k hk (by simp)⟩
  obtain ⟨av, cv, hv, _⟩ := owns_shape hO
  have hA := h.later hb
  refine ⟨v', W, hrun, ⟨_, _, _, hv⟩, hA.c0, hA.fz 0, ⟨heap_setC W q 0 _ _ _ v' hA.blk, own_set hO hA.blk (by decide), own_set hA.now hA.blk (by decide), own_set hA.wait hA.blk (by decide), ?_, h.bq⟩, (RSpun.of hB hb).trans (RSpun.set hA.blk h.bq (.inl rfl) v')⟩
  show v'.ownBlock = none ∨ v'.ownBlock ≠ (Value.slice a n c).ownBlock
  rcases hbl with h0 | h0
  · exact .inl h0
  · refine .inr (fun e => ?_)
    have := (h.now.lt _ (e.symm.trans h0)).2
    omega
theorem RefAt.nowKept {w : World} {B q n c : Nat} {a : Option Addr} {r : RSt} {vN vW : Value} (h : RefAt w B q n r (.slice a n c) vN vW) (hn : n ≤ 120) (h1 : 1 ≤ n) :
    ∃ v' W, (Builtin.append_ #[50, 50] 50 #[.slice none 0 0, .slice a n c]).run Try.prog w = .ok v' W ∧ CopyEnd w B q n 1 vN { r with now := r.kept } (fun v => (.slice a n c, v, vW)) v' W := by
  have hB : B ≤ w.heap.size := by have := h.bq; have := h.lt; omega
  obtain ⟨v', W, hrun, hO, hg, hbl⟩ := copyS h.kept hB (by omega) h1
  have hb : Below w.heap.size w W := ⟨hg.os, hg.tape, hg.output, hg.size, fun k hk => hg.block k hk (by simp)⟩
  obtain ⟨av, cv, hv, _⟩ := owns_shape hO
  have hA := h.later hb
  refine ⟨v', W, hrun, ⟨_, _, _, hv⟩, hA.c1, hA.fz 1, ⟨heap_setC W q 1 _ _ _ v' hA.blk, own_set hA.kept hA.blk (by decide), own_set hO hA.blk (by decide), own_set hA.wait hA.blk (by decide), ?_, h.bq⟩, (RSpun.of hB hb).trans (RSpun.set hA.blk h.bq (.inl rfl) v')⟩
  show (Value.slice a n c).ownBlock = none ∨ (Value.slice a n c).ownBlock ≠ v'.ownBlock
  cases hk : (Value.slice a n c).ownBlock with
  | none => exact .inl rfl
  | some k =>
    refine .inr (fun e => ?_)
    have := (h.kept.lt k hk).2
    rcases hbl with h0 | h0
    · rw [h0] at e; cases e
    · rw [h0] at e
      injection e with e
      omega
/-- nothing waits any more. -/
theorem RefAt.idle {w : World} {B q n : Nat} {r : RSt} {vK vN vW : Value} (h : RefAt w B q n r vK vN vW) : RefAt (w.setCell ⟨q, 2, none⟩ (.slice none 0 0)) B q n { r with wait := [] } vK vN (.slice none 0 0) ∧ RSpun B w (w.setCell ⟨q, 2, none⟩ (.slice none 0 0)) :=
  ⟨⟨heap_setC w q 2 _ _ _ _ h.blk, own_set h.kept h.blk (by decide), own_set h.now h.blk (by decide), World.ownsRow_nil _ _ _ _, h.apart, h.bq⟩, RSpun.set h.blk h.bq (.inl rfl) _⟩

def RSt.flushed (r : RSt) : RSt := if r.stepF = 0 then { r.stepped with kept := r.stepped.now, wait := [] } else r.stepped
set_option maxRecDepth 100000 in
set_option maxHeartbeats 2000000 in
theorem refFlush_any (w : World) (B q n : Nat) (r : RSt) (h : Ref w B q n r) (h0 : -1 ≤ r.fuse) (h9 : r.fuse ≤ 9223372036854775807) (hn : n ≤ 120) (h1n : 1 ≤ n) :
    Calls Try.prog 16 #[.pointer (some ⟨q, 0, none⟩)] w fun e w' => e = .returned (.int .i64 r.stepF) ∧ Ref w' B q n r.flushed ∧ RSpun B w w' := by
  obtain ⟨vK, vN, vW, h⟩ := h
  have HS := refStep_any w B q n r vK vN vW h h0 h9
  by_cases hs : r.stepF = 0
  · rw [show r.flushed = { r.stepped with kept := r.stepped.now, wait := [] } by unfold RSt.flushed; rw [if_pos hs], hs]
    rw [hs] at HS
    clear h
    go_enter Try.func16, Try.ntmps16
    go_wp2_with fail
    refine HS.mono ?_
    rintro e w1 ⟨rfl, h1, hS1⟩
    clear HS
    obtain ⟨aN, cN, rfl, _⟩ := owns_shape h1.now
    obtain ⟨aK, cK, rfl, _⟩ := owns_shape h1.kept
    obtain ⟨v', W, happ, ⟨a2, m2, d2, rfl⟩, q1, q2, q3, q4⟩ := h1.keepNow hn h1n
    have hc2 := (show RefAt _ _ _ _ _ _ _ _ from q3).c2
    have fz2 := (show RefAt _ _ _ _ _ _ _ _ from q3).fz 2
    obtain ⟨h5, hS5⟩ := (show RefAt _ _ _ _ _ _ _ _ from q3).idle
    have hR : Ref ((W.setCell ⟨q, 0, none⟩ (.slice a2 m2 d2)).setCell ⟨q, 2, none⟩ (.slice none 0 0)) B q n { r.stepped with kept := r.stepped.now, wait := [] } := ⟨_, _, _, h5⟩
    have hS6 := (hS1.trans q4).trans hS5
    have c1 := h1.c1
    obtain ⟨aW, cW, hvW, _⟩ := owns_shape h1.wait
    rw [hvW] at hc2
    clear q3 q4 h1 hS1 h5 hS5
    go_wp2_with (first | (refine list_run rfl (.const (.slice none 0 0)) (.tmp 13) 50 rfl (.slice none 0 0) (.slice aN n cN) _ rfl rfl happ ?_))
    go_ret
    exact ⟨rfl, hR, hS6⟩
  · rw [show r.flushed = r.stepped by unfold RSt.flushed; rw [if_neg hs]]
    have hp : (0 : Int) < (r.stepF : Int) := by omega
    clear h
    generalize r.stepF = ff at *
    go_enter Try.func16, Try.ntmps16
    go_wp2_with fail
    refine HS.mono ?_
    rintro e w1 ⟨rfl, h1, hS1⟩
    clear HS
    have hR1 : Ref w1 B q n r.stepped := ⟨_, _, _, h1⟩
    clear h1
    go_wp2
    go_ret
    exact ⟨rfl, hR1, hS1⟩
end Go.Proofs.Ytlljpedanlnjaaa
