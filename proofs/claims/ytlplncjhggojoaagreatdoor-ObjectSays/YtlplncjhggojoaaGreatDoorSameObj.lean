/-
  What SameTexts, SameObject (of two that are alike) and LightObject return; memory that was there stays as it was.
-/
import Derived.Test.YtlplncjhggojoaaGreatDoorParseAll
import Derived.Test.YtlplncjhggojoaaGreatDoorSameNumbers
namespace Go.Proofs.YtlplncjhggojoaaGreatDoor
open Go.RowKit

theorem sameTexts_zero (a c : Option Addr) (ca cb : Nat) (w : World) :
    Calls Tryz.prog 32 #[.slice a 0 ca, .slice c 0 cb] w fun e w' => e = .returned (.bool true) ∧ ∃ k, w' = w.drewN k := by
  go_enter Tryz.func32, Tryz.ntmps32
  go_wp2
  refine wp_loop_rounds 1 ?_
  rw [rounds_succ]
  go_wp2
  go_ret
  exact ⟨rfl, 0, rfl⟩

set_option maxHeartbeats 400000 in
theorem sameTexts_some (f : Nat → ByteArray) (n : Nat) (bx ox cx bY oY cy : Nat) (w : World) (hm : n ≤ 1000000000)
    (hx : ∀ i, i < n → w.cell? ⟨bx, ox + i, none⟩ = some (.string (f i)))
    (hy : ∀ i, i < n → w.cell? ⟨bY, oY + i, none⟩ = some (.string (f i))) :
    Calls Tryz.prog 32 #[.slice (some ⟨bx, ox, none⟩) n cx, .slice (some ⟨bY, oY, none⟩) n cy] w fun e w' => e = .returned (.bool true) ∧ ∃ k, w' = w.drewN k := by
  go_enter Tryz.func32, Tryz.ntmps32
  go_wp2
  go_loopw [5] (fun i wr => ∃ k j : Nat, k ≤ n ∧ i = .int .i64 k ∧ wr = w.drewN j) (fun i _ => n - (intOf i).toNat)
  case atStart => exact ⟨0, 0, Nat.zero_le _, rfl, rfl⟩
  case round =>
    obtain ⟨k, j, hk, rfl, rfl⟩ := hrel
    by_cases hlt : k < n
    · have hxk := hx k hlt
      have hyk := hy k hlt
      clear hx hy
      generalize f k = z at *
      go_wp2
      go_quiet (fail)
      go_wp2
      go_roundw
      case rel => exact ⟨k + 1, j + nq, by omega, by go_num, rfl⟩
      case measure => simp [intOf]; omega
    · have hkn : k = n := by omega
      subst hkn
      clear hx hy
      go_wp2
      go_ret
      exact ⟨rfl, j, rfl⟩

theorem sameTexts_true (f g : Nat → ByteArray) (n : Nat) (a c : Option Addr) (ca cb : Nat) (w : World) (hm : n ≤ 1000000000)
    (hx : RowAt w a n fun i => .string (f i)) (hy : RowAt w c n fun i => .string (g i)) (he : ∀ i, i < n → f i = g i) :
    Calls Tryz.prog 32 #[.slice a n ca, .slice c n cb] w fun e w' => e = .returned (.bool true) ∧ ∃ k, w' = w.drewN k := by
  rcases hx with h0 | ⟨b, o, rfl, hx⟩
  · subst h0
    exact sameTexts_zero a c ca cb w
  · rcases hy with h0 | ⟨b', o', rfl, hy⟩
    · subst h0
      exact sameTexts_zero _ c ca cb w
    · exact sameTexts_some f n b o ca b' o' cb w hm hx (fun i hi => by rw [hy i hi, he i hi])

theorem sameNumbers_true (f g : Nat → Int) (n : Nat) (a c : Option Addr) (ca cb : Nat) (w : World) (hm : n ≤ 1000000000)
    (hx : RowAt w a n fun i => .int .i64 (f i)) (hy : RowAt w c n fun i => .int .i64 (g i)) (he : ∀ i, i < n → f i = g i) :
    Calls Tryz.prog 33 #[.slice a n ca, .slice c n cb] w fun e w' => e = .returned (.bool true) ∧ ∃ k, w' = w.drewN k := by
  refine (sameNumbers_any f g n n a c ca cb w hm hx hy).mono ?_
  rintro e w' ⟨rfl, h⟩
  exact ⟨bool_ret (by simp [eqTo_iff.2 he]), h⟩

set_option maxRecDepth 100000 in
set_option maxHeartbeats 1000000 in
theorem sameObject_true (va vb : ObjV) (a b : ObjF) (w : World) (hA : ObjAt w va a) (hB : ObjAt w vb b) (hS : SameO a b) (hn : b.nN ≤ 1000000000 ∧ b.nW ≤ 1000000000 ∧ b.nS ≤ 1000000000 ∧ b.nT ≤ 1000000000) :
    Calls Tryz.prog 13 #[.agg (va.cells a), .agg (vb.cells b)] w fun e w' => e = .returned (.bool true) ∧ Below w.heap.size w w' := by
  obtain ⟨xN, pN, xW, pW, xS, pS, xT, pT⟩ := va
  obtain ⟨aN, cN, aW, cW, aS, cS, aT, cT⟩ := vb
  unfold ObjV.cells
  simp only [hS.nN, hS.nW, hS.nS, hS.nT]
  have h1 : RowAt w xN b.nN fun i => .string (a.needs i) := by have := hA.needs; rw [hS.nN] at this; exact this
  have h2 : RowAt w xW b.nW fun i => .int .i64 (a.words i) := by have := hA.words; rw [hS.nW] at this; exact this
  have h3 : SymsRow w xS b.nS a.sName a.sAt a.sWeak := by have := hA.syms; rw [hS.nS] at this; exact this
  have h4 : TiesRow w xT b.nT a.tAt a.tKind a.tAdd a.tName a.tWeak := by have := hA.ties; rw [hS.nT] at this; exact this
  have h5 : RowAt w aN b.nN fun i => .string (b.needs i) := hB.needs
  have h6 : RowAt w aW b.nW fun i => .int .i64 (b.words i) := hB.words
  have h7 : SymsRow w aS b.nS b.sName b.sAt b.sWeak := hB.syms
  have h8 : TiesRow w aT b.nT b.tAt b.tKind b.tAdd b.tName b.tWeak := hB.ties
  have e3 := hS.syms
  have e4 := hS.ties
  have HT := fun (w' : World) (hb : Below w.heap.size w w') => sameTexts_true a.needs b.needs b.nN xN aN pN cN w' hn.1 (h1.later hb) (h5.later hb) hS.needs
  have HW := fun (w' : World) (hb : Below w.heap.size w w') => sameNumbers_true a.words b.words b.nW xW aW pW cW w' hn.2.1 (h2.later hb) (h6.later hb) hS.words
  have hb2 : ∀ o1 o2 : Obj, Below w.heap.size w ((w.alloc o1).alloc o2) := fun o1 o2 => ((Below.refl _ _).alloc (Nat.le_refl _) o1).alloc (by simp) o2
  have hnS := hn.2.2.1
  have hnT := hn.2.2.2
  clear hA hB hS h1 h2 h5 h6 hn
  go_enter Tryz.func13, Tryz.ntmps13
  go_wp2_with fail
  refine (HT _ (hb2 _ _)).mono ?_
  rintro e w1 ⟨rfl, k1, hw1⟩
  replace hw1 := hw1.symm
  subst hw1
  go_wp2_with fail
  refine (HW _ (below_drewN (hb2 _ _) _)).mono ?_
  rintro e w1 ⟨rfl, k2, hw1⟩
  replace hw1 := hw1.symm
  subst hw1
  clear HT HW
  have hx := below_drewN (below_drewN (hb2 (.cells #[.slice xN b.nN pN, .slice xW b.nW pW, .slice xS b.nS pS, .slice xT b.nT pT] 27) (.cells #[.slice aN b.nN cN, .slice aW b.nW cW, .slice aS b.nS cS, .slice aT b.nT cT] 27)) k1) k2
  have c0 : ((((w.alloc (.cells #[.slice xN b.nN pN, .slice xW b.nW pW, .slice xS b.nS pS, .slice xT b.nT pT] 27)).alloc (.cells #[.slice aN b.nN cN, .slice aW b.nW cW, .slice aS b.nS cS, .slice aT b.nT cT] 27)).drewN k1).drewN k2).cell? ⟨w.heap.size, 2, none⟩ = some (.slice xS b.nS pS) := by simp [go_sem]
  have c1 : ((((w.alloc (.cells #[.slice xN b.nN pN, .slice xW b.nW pW, .slice xS b.nS pS, .slice xT b.nT pT] 27)).alloc (.cells #[.slice aN b.nN cN, .slice aW b.nW cW, .slice aS b.nS cS, .slice aT b.nT cT] 27)).drewN k1).drewN k2).cell? ⟨w.heap.size + 1, 2, none⟩ = some (.slice aS b.nS cS) := by simp [go_sem]
  have c2 : ((((w.alloc (.cells #[.slice xN b.nN pN, .slice xW b.nW pW, .slice xS b.nS pS, .slice xT b.nT pT] 27)).alloc (.cells #[.slice aN b.nN cN, .slice aW b.nW cW, .slice aS b.nS cS, .slice aT b.nT cT] 27)).drewN k1).drewN k2).cell? ⟨w.heap.size, 3, none⟩ = some (.slice xT b.nT pT) := by simp [go_sem]
  have c3 : ((((w.alloc (.cells #[.slice xN b.nN pN, .slice xW b.nW pW, .slice xS b.nS pS, .slice xT b.nT pT] 27)).alloc (.cells #[.slice aN b.nN cN, .slice aW b.nW cW, .slice aS b.nS cS, .slice aT b.nT cT] 27)).drewN k1).drewN k2).cell? ⟨w.heap.size + 1, 3, none⟩ = some (.slice aT b.nT cT) := by simp [go_sem]
  generalize (((w.alloc (.cells #[.slice xN b.nN pN, .slice xW b.nW pW, .slice xS b.nS pS, .slice xT b.nT pT] 27)).alloc (.cells #[.slice aN b.nN cN, .slice aW b.nW cW, .slice aS b.nS cS, .slice aT b.nT cT] 27)).drewN k1).drewN k2 = Y at *
  replace h3 := h3.later hx
  replace h4 := h4.later hx
  replace h7 := h7.later hx
  replace h8 := h8.later hx
  clear hb2
  go_wp2
  go_loopw [7] (fun x wr => ∃ k j : Nat, k ≤ b.nS ∧ x = .int .i64 k ∧ wr = Y.drewN j) (fun x _ => b.nS - (intOf x).toNat)
  case atStart => exact ⟨0, 0, Nat.zero_le _, rfl, rfl⟩
  case round =>
    obtain ⟨k, j, hk, rfl, rfl⟩ := hrel
    by_cases hlt : k < b.nS
    · rcases h3 with h0 | ⟨b1, o1, rfl, h3⟩
      · omega
      rcases h7 with h0 | ⟨b2, o2, rfl, h7⟩
      · omega
      obtain ⟨p0, p1, p2⟩ := h3 k hlt
      obtain ⟨q0, q1, q2⟩ := h7 k hlt
      obtain ⟨r0, r1, r2⟩ := e3 k hlt
      rw [r0] at p0
      rw [r1] at p1
      rw [r2] at p2
      clear h3 h7 h4 h8 e3 e4 r0 r1 r2
      go_wp2
      go_quiet (fail)
      go_wp2
      go_roundw
      case rel => exact ⟨k + 1, j + nq, by omega, by go_num, rfl⟩
      case measure => simp [intOf]; omega
    · have e : k = b.nS := by omega
      subst e
      clear h3 h7 e3
      go_wp2
      go_loopw [8] (fun x wr => ∃ k i : Nat, k ≤ b.nT ∧ x = .int .i64 k ∧ wr = Y.drewN i) (fun x _ => b.nT - (intOf x).toNat)
      case atStart => exact ⟨0, j, Nat.zero_le _, rfl, rfl⟩
      case round =>
        obtain ⟨k, i, hk, rfl, rfl⟩ := hrel
        by_cases hlt : k < b.nT
        · rcases h4 with h0 | ⟨b1, o1, rfl, h4⟩
          · omega
          rcases h8 with h0 | ⟨b2, o2, rfl, h8⟩
          · omega
          obtain ⟨p0, p1, p2, p3, p4⟩ := h4 k hlt
          obtain ⟨q0, q1, q2, q3, q4⟩ := h8 k hlt
          obtain ⟨r0, r1, r2, r3, r4⟩ := e4 k hlt
          rw [r0] at p0
          rw [r1] at p1
          rw [r2] at p2
          rw [r3] at p3
          rw [r4] at p4
          clear h4 h8 e4 r0 r1 r2 r3 r4
          go_wp2
          go_quiet (fail)
          go_wp2
          go_roundw
          case rel => exact ⟨k + 1, i + nq, by omega, by go_num, rfl⟩
          case measure => simp [intOf]; omega
        · have e : k = b.nT := by omega
          subst e
          clear h4 h8 e4
          go_wp2
          go_ret
          exact ⟨rfl, below_drewN hx i⟩
end Go.Proofs.YtlplncjhggojoaaGreatDoor
