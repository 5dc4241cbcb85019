/-
  What Drop of the document's shelf does; all else stays as it was.
-/
import Derived.Test.YtlcdacldhalnnaaGreatDoorRefGets
namespace Go.Proofs.YtlcdacldhalnnaaGreatDoor
open Go.RowKit

/-- of the first i entries those whose root is another one. -/
inductive DropIn (wr : World) (B0 B : Nat) (v : Value) (i : Nat) (V : Nat → EntV) (E : Nat → EntF) (root : ByteArray) : Nat → Prop
  | none (hn : ∀ j, j < i → (E j).root ≠ root) (h : EntsOwn wr B0 B v i V E) : DropIn wr B0 B v i V E root i
  | one (j n : Nat) (hj : j < i) (hr : (E j).root = root) (hn : ∀ q, q < j → (E q).root ≠ root) (e : n + 1 = i) (h : EntsOwn wr B0 B v n (cutV V j) (cutV E j)) : DropIn wr B0 B v i V E root n
theorem DropIn.own {wr : World} {B0 B : Nat} {v : Value} {i n : Nat} {V : Nat → EntV} {E : Nat → EntF} {root : ByteArray} (h : DropIn wr B0 B v i V E root n) : ∃ V' E', EntsOwn wr B0 B v n V' E' := by
  cases h with
  | none _ h => exact ⟨_, _, h⟩
  | one _ _ _ _ _ _ h => exact ⟨_, _, h⟩
theorem DropIn.skip {wr : World} {B0 B : Nat} {v : Value} {i n : Nat} {V : Nat → EntV} {E : Nat → EntF} {root : ByteArray} (h : DropIn wr B0 B v i V E root n) (hr : (E i).root = root) (ho : ∀ p q, p < i + 1 → q < i + 1 → (E p).root = (E q).root → p = q) : DropIn wr B0 B v (i + 1) V E root n := by
  cases h with
  | none hn h => exact .one i i (by omega) hr hn rfl (h.congr fun q hq => by unfold cutV; rw [if_pos hq, if_pos hq]; exact ⟨rfl, rfl⟩)
  | one j _ hj hrj _ _ _ => have := ho i j (by omega) (by omega) (hr.trans hrj.symm); omega
theorem DropIn.more {wr w' : World} {B0 B : Nat} {v v' : Value} {i n : Nat} {V : Nat → EntV} {E : Nat → EntF} {root : ByteArray} (h : DropIn wr B0 B v i V E root n) (hr : (E i).root ≠ root) (hk : Keeps B0 wr w') (hi : EntIn w' B0 (V i) (E i))
    (hG : ∀ xs, wr.ownsRow B 43 3 v n xs → w'.ownsRow B 43 3 v' (n + 1) (xs ++ [.string (E i).root, .slice (V i).aP (E i).nP (V i).cP, .slice (V i).aQ (E i).nQ (V i).cQ])) : DropIn w' B0 B v' (i + 1) V E root (n + 1) := by
  cases h with
  | none hn h =>
    refine .none (fun j hj => ?_) ((EntsOwn.added (fun q hq => (h.ins q hq).keeps hk) hi (hG _ h.row)).congr fun q hq => ?_)
    · by_cases e : j = i
      · subst e; exact hr
      · exact hn j (by omega)
    · unfold addV
      split
      · rename_i e; rw [e]; exact ⟨rfl, rfl⟩
      · exact ⟨rfl, rfl⟩
  | one j _ hj hrj hn e h =>
    refine .one j (n + 1) (by omega) hrj hn (by omega) ((EntsOwn.added (fun q hq => (h.ins q hq).keeps hk) hi (hG _ h.row)).congr fun q hq => ?_)
    unfold addV cutV
    by_cases hq' : q = n
    · subst hq'
      rw [if_pos rfl, if_pos rfl, if_neg (by omega), if_neg (by omega), e]
      exact ⟨rfl, rfl⟩
    · rw [if_neg hq', if_neg hq']
      exact ⟨rfl, rfl⟩
theorem DropIn.later {wr w' : World} {B0 B : Nat} {v : Value} {i n : Nat} {V : Nat → EntV} {E : Nat → EntF} {root : ByteArray} (h : DropIn wr B0 B v i V E root n) (hB : B0 ≤ wr.heap.size) (hb : Below wr.heap.size wr w') : DropIn w' B0 B v i V E root n := by
  cases h with
  | none hn h => exact .none hn (h.later hB hb)
  | one j _ hj hrj hn e h => exact .one j n hj hrj hn e (h.later hB hb)
set_option maxRecDepth 100000 in
set_option maxHeartbeats 8000000 in
theorem refDrop_any (w : World) (B0 B m k : Nat) (vl : Value) (V : Nat → EntV) (E : Nat → EntF) (root : ByteArray) (h : RShelf w B0 B m vl k V E) (hB0 : B0 ≤ B) (hBm : B ≤ m) :
    Calls Tryz.prog 13 #[.pointer (some ⟨m, 0, none⟩), .string root] w fun e w' => e = .returned (.int .i64 (((dropE E k root).1 : Nat) : Int)) ∧ (∃ vl' V', RShelf w' B0 B m vl' (dropE E k root).2.2 V' (dropE E k root).2.1) ∧ w.grownBy w' (some m) := by
  have hlt := h.lt
  have hBw : B0 ≤ w.heap.size := by omega
  have gb : ∀ w', Below w.heap.size w w' → w.grownBy w' (some m) := fun w' hb => ⟨hb.os, hb.tape, hb.output, hb.size, fun k hk _ => hb.block k hk⟩
  obtain ⟨a, c, rfl, hRow⟩ := h.own.ents
  have hk3 := h.few
  go_enter Tryz.func13, Tryz.ntmps13
  go_wp2
  go_loopw [5, 6] (fun y5 y6 wr => ∃ (i n : Nat) (v : Value), i ≤ k ∧ y6 = .int .i64 i ∧ y5 = v ∧ DropIn wr B0 w.heap.size v i V E root n ∧ Below w.heap.size w wr) (fun _ y6 _ => k - (intOf y6).toNat)
  case atStart => exact ⟨0, 0, _, Nat.zero_le _, rfl, rfl, .none (fun j hj => absurd hj (Nat.not_lt_zero _)) ⟨World.ownsRow_nil _ _ _ _, fun i hi => absurd hi (Nat.not_lt_zero _)⟩, Below.refl _ _⟩
  case round =>
    obtain ⟨i, n, v, hi, rfl, rfl, hD, hb⟩ := hrel
    have h1 := h.later hBw hb
    have mc := h1.cell
    obtain ⟨V1, E1, hEO1⟩ := hD.own
    obtain ⟨av, cv, rfl, _⟩ := hEO1.ents
    by_cases hlti : i < k
    · rcases hRow.later hb with h0 | ⟨bk, o, rfl, hc⟩
      · omega
      obtain ⟨y0, y1, y2, _⟩ := hc i hlti
      have hi0 : (0 : Int) ≤ (i : Int) := by omega
      have hi1 : (i : Int) < (k : Int) := by omega
      by_cases he : (E i).root = root
      · have hb' : ((E i).root.toList == root.toList) = true := by rw [he]; simp
        have hD2 := hD.skip he (fun p q hp hq hpq => h.once p q (by omega) (by omega) hpq)
        clear he hc
        go_wp2
        go_roundw
        case rel => exact ⟨i + 1, n, _, by omega, by go_num, rfl, hD2, hb⟩
        case measure => simp [intOf]; omega
      · have hb' : ((E i).root.toList == root.toList) = false := by rw [toList_beq]; exact decide_eq_false he
        have hn : n ≤ i := by cases hD with
          | none _ _ => exact Nat.le_refl _
          | one _ _ _ _ _ e _ => omega
        obtain ⟨v', W6, happ, hG6⟩ := growE (.string (E i).root) (.slice (V i).aP (E i).nP (V i).cP) (.slice (V i).aQ (E i).nQ (V i).cQ) rfl rfl rfl hb.size hEO1.row (by omega)
        have hbn : Below wr.heap.size wr (wr.alloc (.cells #[.string (E i).root, .slice (V i).aP (E i).nP (V i).cP, .slice (V i).aQ (E i).nQ (V i).cQ] 43)) := (Below.refl _ wr).alloc (Nat.le_refl _) _
        have hkp : Keeps B0 wr W6 := (Keeps.of_below (w := wr) (Nat.le_trans hBw hb.size) hbn).trans (Keeps.grown (w := wr.alloc (.cells #[.string (E i).root, .slice (V i).aP (E i).nP (V i).cP, .slice (V i).aQ (E i).nQ (V i).cQ] 43)) hBw (by have := hb.size; simp; omega) (hEO1.row.alloc _) (by decide) hG6.grown)
        have hD2 := hD.more (w' := W6) (v' := v') he hkp ((h1.own.ins i hlti).keeps hkp) (fun xs hx => by
          have : xs = joinC (entL V1 E1) n := by
            have q1 := hx
            have q2 := hEO1.row
            rcases q1.2 with ⟨e1, e2⟩ | ⟨g1, c1, cur1, e1, _, f1, _, _, _, t1⟩
            · subst e2
              exact List.length_eq_zero_iff.1 (by rw [q1.1])
            · rcases q2.2 with ⟨e3, e4⟩ | ⟨g2, c2, cur2, e3, _, f2, _, _, _, t2⟩
              · rw [e3] at e1; cases e1
              · rw [e3] at e1
                cases e1
                rw [f2] at f1
                cases f1
                rw [← t1, ← t2]
          rw [this]
          exact hG6.own)
        have hb6 : Below w.heap.size w W6 := (hb.trans (hbn.mono hb.size)).trans hG6.below
        obtain ⟨g', cap', rfl⟩ := ownsRow_succ hG6.own
        clear he hc hG6 hD hEO1
        go_wp2_with (at_builtin; refine list_run rfl (.tmp 26) (.tmp 34) 36 rfl (.slice av n cv) (.slice (some ⟨wr.heap.size, 0, none⟩) 1 1) _ rfl rfl happ ?_)
        go_roundw
        case rel => exact ⟨i + 1, n + 1, _, by omega, by go_num, rfl, hD2, hb6⟩
        case measure => simp [intOf]; omega
    · obtain rfl : i = k := by omega
      have mf : wr.frozen? ⟨m, 0, none⟩ = false := by simp [World.frozen?, h1.blk]
      cases hD with
      | none hn hEO =>
        have HP : Hid (dropE E i root = (5, E, i)) := dropE_none (by rw [findF_no hn]; decide)
        clear hEO1
        go_wp2
        go_ret
        rw [HP.out]
        exact ⟨rfl, ⟨_, _, h1⟩, gb _ hb⟩
      | one j _ hj hr hn e hEO =>
        subst e
        have HP : Hid (dropE E (n + 1) root = (0, cutV E j, n)) := dropE_cut (findF_first hj hr hn)
        have hne : ((n : Int) == (n : Int) + 1) = false := by simp; omega
        have hRS := RShelf.stored (B := B) h1.blk hEO (by omega) (by omega) (Nat.le_trans hBw hb.size) (by omega) (fun p q hp hq hpq => by
          unfold cutV at hpq
          split at hpq
          · split at hpq
            · exact h.once p q (by omega) (by omega) hpq
            · have := h.once p (q + 1) (by omega) (by omega) hpq; omega
          · split at hpq
            · have := h.once (p + 1) q (by omega) (by omega) hpq; omega
            · have := h.once (p + 1) (q + 1) (by omega) (by omega) hpq; omega)
        have hGW := grown_set hb m (.slice av n cv)
        clear hEO1 hEO
        go_wp2
        go_ret
        rw [HP.out]
        exact ⟨rfl, ⟨_, _, hRS⟩, hGW⟩
end Go.Proofs.YtlcdacldhalnnaaGreatDoor

