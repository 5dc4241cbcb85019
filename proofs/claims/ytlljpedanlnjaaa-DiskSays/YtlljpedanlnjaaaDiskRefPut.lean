/-
  What Write, Flush and Restart of the document's disk do; all else stays as it was.
-/
import Derived.Test.YtlljpedanlnjaaaDiskRefNew
import Derived.Deep.RegionHeld3
namespace Go.Proofs.Ytlljpedanlnjaaa
open Go.RowKit

/-- a row of texts is another one. -/
theorem own_apart2 {w : World} {B s s' n n' : Nat} {e e' : TypeId} {v v' : Value} {xs xs' : List Value} (h : w.ownsRow B e s v n xs) (h' : w.ownsRow B e' s' v' n' xs') (hne : e ≠ e') {k : Nat} (hk : v.ownBlock = some k) : some k ≠ v'.ownBlock := fun ee => by
  obtain ⟨c, hc⟩ := own_type h hk
  obtain ⟨c', hc'⟩ := own_type h' ee.symm
  rw [hc] at hc'
  injection hc' with hc'
  injection hc' with _ hc' _
  exact hne hc'
theorem own_grown {w w' : World} {B s n : Nat} {e : TypeId} {v : Value} {xs : List Value} {row : Option Nat} (h : w.ownsRow B e s v n xs) (hg : w.grownBy w' row) (hr : ∀ k, v.ownBlock = some k → some k ≠ row) : w'.ownsRow B e s v n xs :=
  own_kept h (fun k hk => hg.block k (h.lt k hk).2 (hr k hk))

/-- one turn more in a row of turns. -/
theorem growT {w : World} {B m : Nat} {v : Value} {xs : List Value} (h : w.ownsRow B 77 2 v m xs) (i : Nat) (t : ByteArray) (hB : B ≤ w.heap.size) (hm : m ≤ 1000) :
    ∃ v' W, (Builtin.append_ #[51, 51] 51 #[v, .slice (some ⟨w.heap.size, 0, none⟩) 1 1]).run Try.prog (w.alloc (.cells #[.int .i64 (i : Int), .string t] 77)) = .ok v' W ∧ W.ownsRow B 77 2 v' (m + 1) (xs ++ [.int .i64 (i : Int), .string t]) ∧ (w.alloc (.cells #[.int .i64 (i : Int), .string t] 77)).grownBy W v.ownBlock := by
  obtain ⟨x, hx, hp⟩ := Option.map_eq_some_iff.1 (show (Try.prog.info? 77).map (fun i => (i.zero, i.size, i.bytes)) = some (some (.agg #[.int .i64 0, .string ⟨#[]⟩]), 2, 24) by kernel_rfl)
  simp only [Prod.mk.injEq] at hp
  obtain ⟨h1, h2, h3⟩ := hp
  obtain ⟨v', W, hrun, hO, hg, _, hbl⟩ := run_append_own_at (P := Try.prog) (w.alloc (.cells #[.int .i64 (i : Int), .string t] 77)) B 51 51 77 x _ 2 24 Try.underlying51 hx h1 h2 h3 rfl (by decide) v m xs (h.alloc _) ⟨w.heap.size, 0, none⟩ 1 1 [.int .i64 (i : Int), .string t] rfl
    (fun j u hj => by
      rw [Addr.add_mid, Nat.zero_add, World.cell?_alloc_mark]
      match j, hj with
      | 0, hj => simpa using hj
      | 1, hj => simpa using hj
      | j + 2, hj => simp at hj) (fun u hu => by simp at hu; rcases hu with rfl | rfl <;> rfl) (by simp only [maxLen]; omega) (by omega) (by simp; omega)
  exact ⟨v', W, hrun, hO, hg⟩
/-- what is now in a sector is another text. -/
theorem RefAt.setNow {w : World} {B q n : Nat} {r : RSt} {vK vW : Value} {g c : Nat} (h : RefAt w B q n r vK (.slice (some ⟨g, 0, none⟩) n c) vW) {i : Nat} (hi : i < n) (d : List UInt8) :
    RefAt (w.setCell ⟨g, i, none⟩ (textV d)) B q n { r with now := fun j => if j = i then d else r.now j } vK (.slice (some ⟨g, 0, none⟩) n c) vW ∧ RSpun B w (w.setCell ⟨g, i, none⟩ (textV d)) := by
  obtain ⟨c', hc'⟩ := own_type h.now (k := g) rfl
  obtain ⟨hO, hg⟩ := h.now.stored i (textV d)
  rw [textsC_set _ hi] at hO
  have hgB := (h.now.lt g rfl).1
  refine ⟨⟨?_, ?_, hO, ?_, h.apart, h.bq⟩, RSpun.set hc' hgB (.inr (.inl rfl)) _⟩
  · refine (Below.heap_setCell _ _ _ _ (fun e => ?_)).trans h.blk
    have e' : q = g := e
    rw [← e', h.blk] at hc'
    simp at hc'
  · refine own_kept h.kept (fun k hk => Below.heap_setCell _ _ _ _ (fun e => ?_))
    have e' : k = g := e
    rcases h.apart with h0 | h0
    · rw [hk] at h0; cases h0
    · exact h0 (by rw [hk, e']; rfl)
  · exact own_set h.wait hc' (by decide)
/-- a Write waits. -/
def WaitEnd (X : World) (B q n : Nat) (r : RSt) (vK vN vW : Value) (i : Nat) (d : List UInt8) (v' : Value) (W : World) : Prop :=
  (∃ a m c, v' = .slice a m c) ∧ W.cell? ⟨q, 2, none⟩ = some vW ∧ W.frozen? ⟨q, 2, none⟩ = false ∧ RefAt (W.setCell ⟨q, 2, none⟩ v') B q n { r with wait := r.wait ++ [(i, d)] } vK vN v' ∧ RSpun B X (W.setCell ⟨q, 2, none⟩ v')
theorem RefAt.waits {w : World} {B q n : Nat} {r : RSt} {vK vN vW : Value} (h : RefAt w B q n r vK vN vW) (hm : r.wait.length ≤ 1000) (i : Nat) (d : List UInt8) :
    ∃ v' W, (Builtin.append_ #[51, 51] 51 #[vW, .slice (some ⟨w.heap.size, 0, none⟩) 1 1]).run Try.prog (w.alloc (.cells #[.int .i64 (i : Int), .string ⟨d.toArray⟩] 77)) = .ok v' W ∧ WaitEnd w B q n r vK vN vW i d v' W := by
  have hB : B ≤ w.heap.size := by have := h.bq; have := h.lt; omega
  obtain ⟨v', W, hrun, hO, hg⟩ := growT h.wait i ⟨d.toArray⟩ hB hm
  have hbA : Below w.heap.size w (w.alloc (.cells #[.int .i64 (i : Int), .string ⟨d.toArray⟩] 77)) := (Below.refl _ _).alloc (Nat.le_refl _) _
  have hA := h.later hbA
  obtain ⟨av, cv, hv, _⟩ := owns_shape hO
  have hq : some q ≠ vW.ownBlock := fun e => by
    obtain ⟨c', hc'⟩ := own_type h.wait e.symm
    rw [h.blk] at hc'
    simp at hc'
  have hW := (hg.block q hA.lt hq).trans hA.blk
  refine ⟨v', W, hrun, ⟨_, _, _, hv⟩, by simp [World.cell?, hW], by simp [World.frozen?, hW], ⟨heap_setC W q 2 _ _ _ v' hW, ?_, ?_, ?_, h.apart, h.bq⟩, ?_⟩
  · exact own_set (own_grown hA.kept hg (fun k hk => own_apart2 hA.kept hA.wait (by decide) hk)) hW (by decide)
  · exact own_set (own_grown hA.now hg (fun k hk => own_apart2 hA.now hA.wait (by decide) hk)) hW (by decide)
  · rw [show ({ r with wait := r.wait ++ [(i, d)] } : RSt).wait.length = r.wait.length + 1 by simp, show waitC ({ r with wait := r.wait ++ [(i, d)] } : RSt).wait = waitC r.wait ++ [.int .i64 (i : Int), textV d] from waitC_snoc _ _]
    exact own_set hO hW (by decide)
  · refine (RSpun.of hB hbA).trans ((RSpun.grown hg (fun k hk => ⟨(hA.wait.lt k hk).1, ?_⟩) (by simp; omega)).trans (RSpun.set hW h.bq (.inl rfl) v'))
    obtain ⟨c', hc'⟩ := own_type hA.wait hk
    exact ⟨c', _, hc', .inr rfl⟩
/-- what Write of the document's disk answers, and leaves. -/
def RSt.writeF (r : RSt) (n : Nat) (at' : Int) (t : ByteArray) : Nat := if ¬ (0 ≤ at' ∧ at' < n) ∨ 64 < t.size then 1 else r.stepF
def RSt.put (r : RSt) (i : Nat) (d : List UInt8) : RSt := { r with now := fun j => if j = i then d else r.now j, wait := r.wait ++ [(i, d)] }
def RSt.wrote (r : RSt) (n : Nat) (at' : Int) (t : ByteArray) : RSt := if ¬ (0 ≤ at' ∧ at' < n) ∨ 64 < t.size then r else if r.stepF = 0 then r.stepped.put at'.toNat (padB t.data.toList) else r.stepped

set_option maxRecDepth 100000 in
set_option maxHeartbeats 2000000 in
theorem refWrite_any (w : World) (B q n : Nat) (r : RSt) (at' : Int) (t : ByteArray) (h : Ref w B q n r) (h0 : -1 ≤ r.fuse) (h9 : r.fuse ≤ 9223372036854775807) (hw : r.wait.length ≤ 1000) (ht : t.size ≤ maxLen) :
    Calls Try.prog 12 #[.pointer (some ⟨q, 0, none⟩), .int .i64 at', .string t] w fun e w' => e = .returned (.int .i64 (r.writeF n at' t)) ∧ Ref w' B q n (r.wrote n at' t) ∧ RSpun B w w' := by
  obtain ⟨vK, vN, vW, h⟩ := h
  have c1 := h.c1
  unfold maxLen at ht
  obtain ⟨aN, cN, rfl, _⟩ := owns_shape h.now
  have hRef : Ref w B q n r := ⟨_, _, _, h⟩
  by_cases hb : ¬ (0 ≤ at' ∧ at' < n) ∨ 64 < t.size
  · rw [show r.writeF n at' t = 1 by unfold RSt.writeF; rw [if_pos hb], show r.wrote n at' t = r by unfold RSt.wrote; rw [if_pos hb]]
    clear h
    by_cases hx : at' < 0
    · go_enter Try.func12, Try.ntmps12
      go_wp2
      go_ret
      exact ⟨rfl, hRef, RSpun.refl _ _⟩
    · by_cases hy : (n : Int) ≤ at'
      · go_enter Try.func12, Try.ntmps12
        go_wp2
        go_ret
        exact ⟨rfl, hRef, RSpun.refl _ _⟩
      · have hz : (64 : Int) < (t.size : Int) := by omega
        go_enter Try.func12, Try.ntmps12
        go_wp2
        go_ret
        exact ⟨rfl, hRef, RSpun.refl _ _⟩
  · obtain ⟨i, rfl⟩ := Int.eq_ofNat_of_zero_le (show 0 ≤ at' by omega)
    have hi : i < n := by omega
    have hy : ¬ (n : Int) ≤ (i : Int) := by omega
    have hz : ¬ (64 : Int) < (t.size : Int) := by omega
    have HS := refStep_any w B q n r vK _ vW h h0 h9
    rw [show r.writeF n (i : Int) t = r.stepF by unfold RSt.writeF; rw [if_neg hb]]
    by_cases hs : r.stepF = 0
    · rw [show r.wrote n (i : Int) t = r.stepped.put i (padB t.data.toList) by unfold RSt.wrote; rw [if_neg hb, if_pos hs, Int.toNat_natCast], hs]
      rw [hs] at HS
      have HNo := noughts_any
      clear h hb hRef
      go_enter Try.func12, Try.ntmps12
      go_wp2_with fail
      refine HS.mono ?_
      rintro e w1 ⟨rfl, h1, hS1⟩
      clear HS
      have c11 := h1.c1
      have c12 := h1.c2
      have HN := noughts_any w1 (64 - t.size) (by omega)
      rw [show (((64 - t.size : Nat)) : Int) = 64 - (t.size : Int) by omega] at HN
      clear HNo
      go_wp2_with fail
      refine HN.mono ?_
      rintro e w2 ⟨rfl, hb2⟩
      clear HN
      have h2 := h1.later hb2
      have hS2 := hS1.trans (RSpun.of (by have := h1.bq; have := h1.lt; omega) hb2)
      obtain ⟨g, rfl, _, hcg⟩ := owns_cell h2.now (textsC_at r.stepped.now hi)
      have fzg := h2.now.frozenAt i
      obtain ⟨aW, cW, hvW, _⟩ := owns_shape h2.wait
      subst hvW
      obtain ⟨h3, hS3⟩ := h2.setNow hi (padB t.data.toList)
      have hS4 := hS2.trans hS3
      have hwl : r.stepped.wait.length ≤ 1000 := by
        have : r.stepped.wait = r.wait := by unfold RSt.stepped; split; rfl; split <;> rfl
        rw [this]; exact hw
      obtain ⟨v', W', happ, hE⟩ := h3.waits hwl i (padB t.data.toList)
      obtain ⟨⟨a2, m2, d2, rfl⟩, q1, q2, q3, q4⟩ := hE
      have hRe : Ref (W'.setCell ⟨q, 2, none⟩ (.slice a2 m2 d2)) B q n (r.stepped.put i (padB t.data.toList)) := ⟨_, _, _, q3⟩
      have hS5 := hS4.trans q4
      have c21 := h2.c1
      have c32 := h3.c2
      have epad : (⟨(padB t.data.toList).toArray⟩ : ByteArray) = t ++ { data := Array.replicate (64 - t.size) 0 } := by
        apply WideShapes.bytes_inj
        simp [padB, ByteArray.data_append]
      unfold textV at *
      rw [epad] at happ c32
      have hsz : (w2.setCell ⟨g, i, none⟩ (.string (t ++ { data := Array.replicate (64 - t.size) 0 }))).heap.size = w2.heap.size := by simp [World.setCell]
      rw [hsz] at happ
      have c22 := h2.c2
      have hgq : g ≠ q := fun e => by
        obtain ⟨c', hc'⟩ := own_type h2.now (k := g) rfl
        rw [e, h2.blk] at hc'
        simp at hc'
      have hqg := Ne.symm hgq
      have hiZ : (i : Int) < (n : Int) := by omega
      clear q3 q4 h1 h2 h3 hS1 hS2 hS3 hS4 hb2 c11 c12 epad hsz c32 c1
      go_wp2_with (first | (refine list_run rfl (.tmp 46) (.tmp 50) 51 rfl (.slice aW r.stepped.wait.length cW) (.slice (some ⟨w2.heap.size, 0, none⟩) 1 1) _ rfl rfl happ ?_))
      go_ret
      exact ⟨rfl, hRe, hS5⟩
    · rw [show r.wrote n (i : Int) t = r.stepped by unfold RSt.wrote; rw [if_neg hb, if_neg hs]]
      have hp : (0 : Int) < (r.stepF : Int) := by omega
      clear h hb hRef
      generalize r.stepF = ff at *
      go_enter Try.func12, Try.ntmps12
      go_wp2_with fail
      refine HS.mono ?_
      rintro e w1 ⟨rfl, h1, hS1⟩
      clear HS
      have hR1 : Ref w1 B q n r.stepped := ⟨_, _, _, h1⟩
      clear h1
      go_wp2
      go_ret
      exact ⟨rfl, hR1, hS1⟩
end Go.Proofs.Ytlljpedanlnjaaa
