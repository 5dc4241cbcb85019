/-
  What NewDisk, step and Read of the document's disk do; all else stays as it was.
-/
import Derived.Test.YtlljpedanlnjaaaDiskRef
namespace Go.Proofs.Ytlljpedanlnjaaa
open Go.RowKit

/-- the document's disk while it is made. -/
structure RefNew (w : World) (B q nK nN : Nat) (vK vN : Value) : Prop where
  blk : w.heap[q]? = some (.cells #[vK, vN, .slice none 0 0, .int .i64 (-1), .bool false] 53 (0, 0))
  kept : w.ownsRow B 9 1 vK nK (textsC (fun _ => List.replicate 64 0) nK)
  now : w.ownsRow B 9 1 vN nN (textsC (fun _ => List.replicate 64 0) nN)
  apart : vK.ownBlock = none ∨ vK.ownBlock ≠ vN.ownBlock
  bq : B ≤ q
theorem RefNew.lt {w : World} {B q nK nN : Nat} {vK vN : Value} (h : RefNew w B q nK nN vK vN) : q < w.heap.size := (Array.getElem?_eq_some_iff.1 h.blk).1
theorem RefNew.later {w w' : World} {B q nK nN : Nat} {vK vN : Value} (h : RefNew w B q nK nN vK vN) (hb : Below w.heap.size w w') : RefNew w' B q nK nN vK vN :=
  ⟨(hb.block _ h.lt).trans h.blk, owns_below h.kept hb, owns_below h.now hb, h.apart, h.bq⟩
/-- what append leaves of it, and the store behind it. -/
def NewEnd (X : World) (B q : Nat) (i : Nat) (old : Value) (nK nN : Nat) (mk : Value → Value × Value) (v' : Value) (W : World) : Prop :=
  (∃ a m c, v' = .slice a m c) ∧ W.cell? ⟨q, i, none⟩ = some old ∧ W.frozen? ⟨q, i, none⟩ = false ∧ RefNew (W.setCell ⟨q, i, none⟩ v') B q nK nN (mk v').1 (mk v').2 ∧ Below B X (W.setCell ⟨q, i, none⟩ v')
theorem string_ne_ref : (9 : TypeId) ≠ 53 := by decide
theorem RefNew.growK {X : World} {B q nK nN : Nat} {vK vN : Value} (h : RefNew X B q nK nN vK vN) (hm : nK ≤ 120) {a : Nat} (hs : X.cell? ⟨a, 0, none⟩ = some (textV (List.replicate 64 0))) :
    ∃ v' W, (Builtin.append_ #[50, 50] 50 #[vK, .slice (some ⟨a, 0, none⟩) 1 1]).run Try.prog X = .ok v' W ∧ NewEnd X B q 0 vK (nK + 1) nN (fun v => (v, vN)) v' W := by
  have hB : B ≤ X.heap.size := by have := h.bq; have := h.lt; omega
  obtain ⟨v', W, hrun, hO, hg, hbl⟩ := growS h.kept (List.replicate 64 0) a hs hB (by omega)
  obtain ⟨av, cv, hv, _⟩ := owns_shape hO
  have hq : some q ≠ vK.ownBlock := fun e => by
    obtain ⟨c', hc'⟩ := own_type h.kept e.symm
    rw [h.blk] at hc'
    simp at hc'
  have hW : W.heap[q]? = some (.cells #[vK, vN, .slice none 0 0, .int .i64 (-1), .bool false] 53 (0, 0)) := (hg.block q h.lt hq).trans h.blk
  refine ⟨v', W, hrun, ⟨_, _, _, hv⟩, by simp [World.cell?, hW], by simp [World.frozen?, hW], ⟨heap_setC W q 0 _ _ _ v' hW, ?_, ?_, ?_, h.bq⟩, ?_⟩
  · rw [textsC_succ]; exact own_set hO hW string_ne_ref
  · refine own_set (h.now.kept hg ?_) hW string_ne_ref
    rcases h.apart with h0 | h0
    · cases hn : vN.ownBlock with
      | none => exact .inl rfl
      | some k => exact .inr (by rw [h0]; simp)
    · exact .inr (Ne.symm h0)
  · show v'.ownBlock = none ∨ v'.ownBlock ≠ vN.ownBlock
    rcases hbl with h0 | h0
    · rw [h0]; exact h.apart
    · refine .inr (fun e => ?_)
      have := (h.now.lt _ (e.symm.trans h0)).2
      omega
  · exact (below_grown h.kept hB hg).setCell (by exact h.bq) _
theorem RefNew.growN {X : World} {B q nK nN : Nat} {vK vN : Value} (h : RefNew X B q nK nN vK vN) (hm : nN ≤ 120) {a : Nat} (hs : X.cell? ⟨a, 0, none⟩ = some (textV (List.replicate 64 0))) :
    ∃ v' W, (Builtin.append_ #[50, 50] 50 #[vN, .slice (some ⟨a, 0, none⟩) 1 1]).run Try.prog X = .ok v' W ∧ NewEnd X B q 1 vN nK (nN + 1) (fun v => (vK, v)) v' W := by
  have hB : B ≤ X.heap.size := by have := h.bq; have := h.lt; omega
  obtain ⟨v', W, hrun, hO, hg, hbl⟩ := growS h.now (List.replicate 64 0) a hs hB (by omega)
  obtain ⟨av, cv, hv, _⟩ := owns_shape hO
  have hq : some q ≠ vN.ownBlock := fun e => by
    obtain ⟨c', hc'⟩ := own_type h.now e.symm
    rw [h.blk] at hc'
    simp at hc'
  have hW : W.heap[q]? = some (.cells #[vK, vN, .slice none 0 0, .int .i64 (-1), .bool false] 53 (0, 0)) := (hg.block q h.lt hq).trans h.blk
  refine ⟨v', W, hrun, ⟨_, _, _, hv⟩, by simp [World.cell?, hW], by simp [World.frozen?, hW], ⟨heap_setC W q 1 _ _ _ v' hW, ?_, ?_, ?_, h.bq⟩, ?_⟩
  · exact own_set (h.kept.kept hg h.apart) hW string_ne_ref
  · rw [textsC_succ]; exact own_set hO hW string_ne_ref
  · show vK.ownBlock = none ∨ vK.ownBlock ≠ v'.ownBlock
    rcases hbl with h0 | h0
    · rw [h0]; exact h.apart
    · cases hk : vK.ownBlock with
      | none => exact .inl rfl
      | some k =>
        refine .inr (fun e => ?_)
        have := (h.kept.lt k hk).2
        rw [h0] at e
        injection e with e
        omega
  · exact (below_grown h.now hB hg).setCell (by exact h.bq) _

/-- the document's disk, wherever its rows lie. -/
def Ref (w : World) (B q n : Nat) (r : RSt) : Prop := ∃ vK vN vW, RefAt w B q n r vK vN vW
theorem Ref.later {w w' : World} {B q n : Nat} {r : RSt} (h : Ref w B q n r) (hb : Below w.heap.size w w') : Ref w' B q n r := by
  obtain ⟨a, b, c, h⟩ := h
  exact ⟨a, b, c, h.later hb⟩
theorem Ref.spun {w w' : World} {B B' q n : Nat} {r : RSt} (h : Ref w B q n r) (hs : Spun B' w w') : Ref w' B q n r := by
  obtain ⟨a, b, c, h⟩ := h
  exact ⟨a, b, c, h.spun hs⟩
def RSt.fresh : RSt := ⟨fun _ => List.replicate 64 0, fun _ => List.replicate 64 0, [], -1, false⟩

attribute [local go_sem ↓] Go.wp_at_zero Go.wp_at_succ
set_option maxRecDepth 100000 in
set_option maxHeartbeats 4000000 in
theorem refNew_ok (w : World) (n : Nat) (h1 : 1 ≤ n) (h2 : n ≤ 120) :
    Calls Try.prog 8 #[.int .i64 (n : Int)] w fun e w' => ∃ q, e = .returned (.tuple #[.pointer (some ⟨q, 0, none⟩), .int .i64 0]) ∧ Ref w' w.heap.size q n RSt.fresh ∧ Below w.heap.size w w' := by
  have n1 : ¬ (n : Int) < 1 := by omega
  have n2 : ¬ (120 : Int) < (n : Int) := by omega
  have hR0 : RefNew (w.alloc (.cells #[.slice none 0 0, .slice none 0 0, .slice none 0 0, .int .i64 (-1), .bool false] 53)) w.heap.size w.heap.size 0 0 (.slice none 0 0) (.slice none 0 0) :=
    ⟨heap_alloc_new _ _, World.ownsRow_nil _ _ _ _, World.ownsRow_nil _ _ _ _, .inl rfl, Nat.le_refl _⟩
  have hb0 : Below w.heap.size w (w.alloc (.cells #[.slice none 0 0, .slice none 0 0, .slice none 0 0, .int .i64 (-1), .bool false] 53)) := (Below.refl _ _).alloc (Nat.le_refl _) _
  have e64 : (((64 : Nat) : Int)) = 64 := rfl
  obtain ⟨zb, hzb⟩ : ∃ zb : ByteArray, textV (List.replicate 64 0) = .string zb := ⟨_, rfl⟩
  have HNo : ∀ X, Calls Try.prog 22 #[.int .i64 64] X fun e w' => e = .returned (.string zb) ∧ Below X.heap.size X w' := fun X => by rw [← e64, ← hzb]; exact noughts_any X 64 (by decide)
  have HZ : Hid (textV (List.replicate 64 0) = .string zb) := hzb
  clear hzb
  go_enter Try.func8, Try.ntmps8
  go_wp2
  generalize w.alloc (.cells #[.slice none 0 0, .slice none 0 0, .slice none 0 0, .int .i64 (-1), .bool false] 53) = w1 at *
  go_loopw [5] (fun y wr => ∃ (k : Nat) (vK vN : Value), k ≤ n ∧ y = .int .i64 k ∧ RefNew wr w.heap.size w.heap.size k k vK vN ∧ Below w.heap.size w wr) (fun y _ => n - (intOf y).toNat)
  case atStart => exact ⟨0, _, _, Nat.zero_le _, rfl, hR0, hb0⟩
  case round =>
    obtain ⟨k, vK, vN, hk, rfl, hR, hbr⟩ := hrel
    clear hR0 hb0
    by_cases hlt : k < n
    · obtain ⟨aK, cK, rfl, _⟩ := owns_shape hR.kept
      obtain ⟨aN, cN, rfl, _⟩ := owns_shape hR.now
      have c0 : wr.cell? ⟨w.heap.size, 0, none⟩ = some (.slice aK k cK) := by simp [World.cell?, hR.blk]
      have hlq := hR.lt
      go_wp2
      go_region_law (first
        | (refine step_own (R := NewEnd (w2.alloc (.cells #[.string zb] 9)) w.heap.size w.heap.size 0 (.slice aK k cK) (k + 1) k (fun v => (v, .slice aN k cN))) rfl (.tmp 23) (.tmp 25) 50 rfl (.slice aK k cK) (.slice (some ⟨w2.heap.size, 0, none⟩) 1 1) rfl rfl ?hrun ?_; (case hrun => exact (hRX.later ((Below.refl _ _).alloc (Nat.le_refl _) _)).growK (by omega) (by rw [World.cell?_alloc_mark, HZ.out]; rfl)); rintro v' W ⟨⟨a2, m2, d2, rfl⟩, q1, q2, q3, q4⟩)
        | (go_simp; go_at_call 22; refine (HNo _).mono ?_; rintro e w2 ⟨rfl, hb2⟩; have hRX := hR.later (show Below wr.heap.size wr w2 from ((Below.refl _ _).drew).trans hb2); have c02 := cell_later (show Below wr.heap.size wr w2 from ((Below.refl _ _).drew).trans hb2) c0; have c03 := fun ob => cell_later ((Below.refl w2.heap.size w2).alloc (Nat.le_refl _) ob) c02))
      all_goals
        have hb5 : Below w.heap.size w (W.setCell ⟨w.heap.size, 0, none⟩ (.slice a2 m2 d2)) := (hbr.trans ((show Below wr.heap.size wr (w2.alloc (.cells #[.string zb] 9)) from (((Below.refl _ _).drew).trans hb2).alloc (((Below.refl _ _).drew).trans hb2).size _).mono hbr.size)).trans q4
        have hR5 : RefNew (W.setCell ⟨w.heap.size, 0, none⟩ (.slice a2 m2 d2)) w.heap.size w.heap.size (k + 1) k (.slice a2 m2 d2) (.slice aN k cN) := q3
        generalize W.setCell ⟨w.heap.size, 0, none⟩ (.slice a2 m2 d2) = w5 at *
        clear q1 q2 q3 q4 hRX c02 c03 hb2 c0 hbr hR
        have c1 : w5.cell? ⟨w.heap.size, 1, none⟩ = some (.slice aN k cN) := by simp [World.cell?, hR5.blk]
        have hlq5 := hR5.lt
        go_wp2
        go_region_law (first
          | (refine step_own (R := NewEnd (w6.alloc (.cells #[.string zb] 9)) w.heap.size w.heap.size 1 (.slice aN k cN) (k + 1) (k + 1) (fun v => (.slice a2 m2 d2, v))) rfl (.tmp 33) (.tmp 35) 50 rfl (.slice aN k cN) (.slice (some ⟨w6.heap.size, 0, none⟩) 1 1) rfl rfl ?hrun ?_; (case hrun => exact (hRX.later ((Below.refl _ _).alloc (Nat.le_refl _) _)).growN (by omega) (by rw [World.cell?_alloc_mark, HZ.out]; rfl)); rintro v' W' ⟨⟨a3, m3, d3, rfl⟩, q1, q2, q3, q4⟩)
          | (go_simp; go_at_call 22; refine (HNo _).mono ?_; rintro e w6 ⟨rfl, hb6⟩; have hRX := hR5.later (show Below w5.heap.size w5 w6 from ((Below.refl _ _).drew).trans hb6); have c02 := cell_later (show Below w5.heap.size w5 w6 from ((Below.refl _ _).drew).trans hb6) c1; have c03 := fun ob => cell_later ((Below.refl w6.heap.size w6).alloc (Nat.le_refl _) ob) c02))
        all_goals
          have hb7 : Below w.heap.size w (W'.setCell ⟨w.heap.size, 1, none⟩ (.slice a3 m3 d3)) := (hb5.trans ((show Below w5.heap.size w5 (w6.alloc (.cells #[.string zb] 9)) from (((Below.refl _ _).drew).trans hb6).alloc (((Below.refl _ _).drew).trans hb6).size _).mono hb5.size)).trans q4
          have hR7 : RefNew (W'.setCell ⟨w.heap.size, 1, none⟩ (.slice a3 m3 d3)) w.heap.size w.heap.size (k + 1) (k + 1) (.slice a2 m2 d2) (.slice a3 m3 d3) := q3
          clear q1 q2 q3 q4 hRX c02 c03 hb6 c1 hb5 hR5
          go_wp2
          go_roundw
          case rel => exact ⟨k + 1, _, _, by omega, by go_num, hR7, hb7⟩
          case measure => simp [intOf]; omega
    · have e : k = n := by omega
      subst e
      have hRef : Ref wr w.heap.size w.heap.size k RSt.fresh := ⟨vK, vN, .slice none 0 0, hR.blk, hR.kept, hR.now, World.ownsRow_nil _ _ _ _, hR.apart, hR.bq⟩
      clear hR
      go_wp2
      go_ret2
      exact ⟨_, rfl, hRef, hbr⟩
theorem refNew_bad (w : World) (n : Int) (h : n < 1 ∨ 120 < n) :
    Calls Try.prog 8 #[.int .i64 n] w fun e w' => e = .returned (.tuple #[.pointer none, .int .i64 1]) ∧ w' = w := by
  by_cases h1 : n < 1
  · go_enter Try.func8, Try.ntmps8
    go_wp2
    go_ret2
    exact ⟨rfl, rfl⟩
  · have h2 : 120 < n := by omega
    go_enter Try.func8, Try.ntmps8
    go_wp2
    go_ret2
    exact ⟨rfl, rfl⟩

/-- what a step of the document's disk answers, and leaves. -/
def RSt.stepF (r : RSt) : Nat := if r.down = true then 9 else if r.fuse = 0 then 9 else 0
def RSt.stepped (r : RSt) : RSt := if r.down = true then r else if r.fuse = 0 then { r with down := true, fuse := -1 } else { r with fuse := if 0 < r.fuse then r.fuse - 1 else r.fuse }
theorem RefAt.put {w w' : World} {B q n : Nat} {r r' : RSt} {vK vN vW : Value} (h : RefAt w B q n r vK vN vW) (ho : ∀ k, k ≠ q → w'.heap[k]? = w.heap[k]?)
    (hb : w'.heap[q]? = some (.cells #[vK, vN, vW, .int .i64 r'.fuse, .bool r'.down] 53 (0, 0))) (h1 : r'.kept = r.kept) (h2 : r'.now = r.now) (h3 : r'.wait = r.wait) : RefAt w' B q n r' vK vN vW := by
  have key : ∀ {e : TypeId} {s m : Nat} {v : Value} {xs : List Value}, w.ownsRow B e s v m xs → e ≠ 53 → w'.ownsRow B e s v m xs := fun hr hne => own_kept hr (fun k hk => ho k (fun e => by
    obtain ⟨c, hc⟩ := own_type hr hk
    rw [e, h.blk] at hc
    injection hc with hc
    injection hc with _ hc _
    exact hne hc.symm))
  exact ⟨hb, by rw [h1]; exact key h.kept (by decide), by rw [h2]; exact key h.now (by decide), by rw [h3]; exact key h.wait (by decide), h.apart, h.bq⟩
theorem refStep_any (w : World) (B q n : Nat) (r : RSt) (vK vN vW : Value) (h : RefAt w B q n r vK vN vW) (h0 : -1 ≤ r.fuse) (h9 : r.fuse ≤ 9223372036854775807) :
    Calls Try.prog 26 #[.pointer (some ⟨q, 0, none⟩)] w fun e w' => e = .returned (.int .i64 r.stepF) ∧ RefAt w' B q n r.stepped vK vN vW ∧ RSpun B w w' := by
  have c3 := h.c3
  have c4 := h.c4
  have f3 := h.fz 3
  have f4 := h.fz 4
  cases hd : r.down with
  | true =>
    rw [hd] at c4
    rw [show r.stepF = 9 by simp [RSt.stepF, hd], show r.stepped = r by simp [RSt.stepped, hd]]
    go_enter Try.func26, Try.ntmps26
    go_wp2
    go_ret
    exact ⟨rfl, h, RSpun.refl _ _⟩
  | false =>
    rw [hd] at c4
    by_cases hz : r.fuse = 0
    · have e0 : (r.fuse == 0) = true := by simp [hz]
      rw [show r.stepF = 9 by simp [RSt.stepF, hz], show r.stepped = { r with down := true, fuse := -1 } by simp [RSt.stepped, hd, hz]]
      have hD : RefAt ((w.setCell ⟨q, 4, none⟩ (.bool true)).setCell ⟨q, 3, none⟩ (.int .i64 (-1))) B q n { r with down := true, fuse := -1 } vK vN vW :=
        h.put (fun k hk => (Below.heap_setCell _ _ _ _ hk).trans (Below.heap_setCell _ _ _ _ hk)) (heap_set0 _ (heap_set0 _ h.blk)) rfl rfl rfl
      have hS := (RSpun.set (i := 4) h.blk h.bq (.inl rfl) (.bool true)).trans (RSpun.set (i := 3) (heap_set0 _ h.blk) h.bq (.inl rfl) (.int .i64 (-1)))
      clear h hz hd
      generalize r.fuse = fu at *
      go_enter Try.func26, Try.ntmps26
      go_wp2
      go_ret
      exact ⟨rfl, hD, hS⟩
    · have e0 : (r.fuse == 0) = false := by simp [hz]
      rw [show r.stepF = 0 by simp [RSt.stepF, hd, hz]]
      by_cases hp : 0 < r.fuse
      · rw [show r.stepped = { r with fuse := r.fuse - 1 } by simp [RSt.stepped, hd, hz, hp]]
        have hD : RefAt (w.setCell ⟨q, 3, none⟩ (.int .i64 (r.fuse - 1))) B q n { r with fuse := r.fuse - 1 } vK vN vW := h.put (fun k hk => Below.heap_setCell _ _ _ _ hk) (heap_set0 _ h.blk) rfl rfl rfl
        have hS := RSpun.set (i := 3) h.blk h.bq (.inl rfl) (.int .i64 (r.fuse - 1))
        clear h hd
        generalize r.fuse = fu at *
        go_enter Try.func26, Try.ntmps26
        go_wp2
        go_ret
        exact ⟨rfl, hD, hS⟩
      · rw [show r.stepped = r by unfold RSt.stepped; rw [if_neg (by simp [hd]), if_neg hz, if_neg hp]]
        have hD : RefAt w B q n r vK vN vW := h
        clear h hd
        generalize hfu : r.fuse = fu at *
        go_enter Try.func26, Try.ntmps26
        go_wp2
        go_ret
        exact ⟨rfl, hD, RSpun.refl _ _⟩
/-- what Read of the document's disk answers. -/
def RSt.readF (r : RSt) (n : Nat) (at' : Int) : Nat := if r.down = true then 9 else if 0 ≤ at' ∧ at' < n then 0 else 1
def RSt.readT (r : RSt) (n : Nat) (at' : Int) : ByteArray := if r.readF n at' = 0 then ⟨(r.now at'.toNat).toArray⟩ else ⟨#[]⟩
theorem refRead_any (w : World) (B q n : Nat) (r : RSt) (at' : Int) (h : Ref w B q n r) :
    Calls Try.prog 14 #[.pointer (some ⟨q, 0, none⟩), .int .i64 at'] w fun e w' => e = .returned (.tuple #[.string (r.readT n at'), .int .i64 (r.readF n at')]) ∧ w' = w := by
  obtain ⟨vK, vN, vW, h⟩ := h
  have c1 := h.c1
  have c4 := h.c4
  obtain ⟨aN, cN, rfl, _⟩ := owns_shape h.now
  cases hd : r.down with
  | true =>
    rw [hd] at c4
    rw [show r.readT n at' = ⟨#[]⟩ by simp [RSt.readT, RSt.readF, hd], show r.readF n at' = 9 by simp [RSt.readF, hd]]
    clear h
    go_enter Try.func14, Try.ntmps14
    go_wp2
    go_ret2
    exact ⟨rfl, rfl⟩
  | false =>
    rw [hd] at c4
    by_cases h1 : 0 ≤ at' ∧ at' < n
    · obtain ⟨i, rfl⟩ := Int.eq_ofNat_of_zero_le h1.1
      have hF : r.readF n (i : Int) = 0 := by unfold RSt.readF; rw [hd, if_neg (by simp), if_pos h1]
      have hT : r.readT n (i : Int) = ⟨(r.now i).toArray⟩ := by unfold RSt.readT; rw [if_pos hF, Int.toNat_natCast]
      rw [hF, hT]
      obtain ⟨g, rfl, _, hc⟩ := owns_cell h.now (textsC_at r.now (show i < n by omega))
      have h2 : (i : Int) < (n : Int) := h1.2
      unfold textV at hc
      generalize (⟨(r.now i).toArray⟩ : ByteArray) = bb at *
      clear h h1 hF hT
      go_enter Try.func14, Try.ntmps14
      go_wp2
      go_ret2
      exact ⟨rfl, rfl⟩
    · have hF : r.readF n at' = 1 := by unfold RSt.readF; rw [hd, if_neg (by simp), if_neg h1]
      have hT : r.readT n at' = ⟨#[]⟩ := by unfold RSt.readT; rw [if_neg (by rw [hF]; decide)]
      rw [hF, hT]
      clear h
      by_cases h0 : at' < 0
      · go_enter Try.func14, Try.ntmps14
        go_wp2
        go_ret2
        exact ⟨rfl, rfl⟩
      · have h2 : (n : Int) ≤ at' := by omega
        go_enter Try.func14, Try.ntmps14
        go_wp2
        go_ret2
        exact ⟨rfl, rfl⟩
end Go.Proofs.Ytlljpedanlnjaaa
