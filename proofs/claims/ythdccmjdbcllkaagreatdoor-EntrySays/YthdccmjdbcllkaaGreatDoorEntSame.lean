/-
  What SameEntry returns, of two entries that are alike: true; memory that was there stays as it was.
-/
import Derived.Test.YthdccmjdbcllkaaGreatDoorEntCheck
import Derived.Test.YthdccmjdbcllkaaGreatDoorSamePats
import Derived.Deep.QuietTactic
import Derived.BigQuiet
namespace Go.Proofs.YthdccmjdbcllkaaGreatDoor
open Go.RowKit Go.Maps

set_option maxRecDepth 100000 in
set_option maxHeartbeats 2000000 in
theorem sameEntry_true (root : ByteArray) (n nq : Nat) (s : Nat → ByteArray) (k b : Nat → Int) (p t v : Nat → Int) (a1 a2 q1 q2 : Option Addr) (c1 c2 d1 d2 : Nat) (w : World) (hn : n ≤ 1000) (hnq : nq ≤ 1000000)
    (hx : RowE w a1 n s k b) (hy : RowE w a2 n s k b) (px : PatRow w q1 nq p t v) (py : PatRow w q2 nq p t v) :
    Calls Tryz.prog 14 #[.agg #[.string root, .slice a1 n c1, .slice q1 nq d1], .agg #[.string root, .slice a2 n c2, .slice q2 nq d2]] w fun e w' => e = .returned (.bool true) ∧ Below w.heap.size w w' := by
  have hb0 : Below w.heap.size w ((w.alloc (.cells #[.string root, .slice a1 n c1, .slice q1 nq d1] 26)).alloc (.cells #[.string root, .slice a2 n c2, .slice q2 nq d2] 26)) := ((Below.refl _ _).alloc (Nat.le_refl _) _).alloc (by simp) _
  have e1 : ((w.alloc (.cells #[.string root, .slice a1 n c1, .slice q1 nq d1] 26)).alloc (.cells #[.string root, .slice a2 n c2, .slice q2 nq d2] 26)).cell? ⟨w.heap.size, 1, none⟩ = some (.slice a1 n c1) := by simp [go_sem]
  have e2 : ((w.alloc (.cells #[.string root, .slice a1 n c1, .slice q1 nq d1] 26)).alloc (.cells #[.string root, .slice a2 n c2, .slice q2 nq d2] 26)).cell? ⟨w.heap.size, 2, none⟩ = some (.slice q1 nq d1) := by simp [go_sem]
  have g1 : ((w.alloc (.cells #[.string root, .slice a1 n c1, .slice q1 nq d1] 26)).alloc (.cells #[.string root, .slice a2 n c2, .slice q2 nq d2] 26)).cell? ⟨w.heap.size + 1, 1, none⟩ = some (.slice a2 n c2) := by simp [go_sem]
  have g2 : ((w.alloc (.cells #[.string root, .slice a1 n c1, .slice q1 nq d1] 26)).alloc (.cells #[.string root, .slice a2 n c2, .slice q2 nq d2] 26)).cell? ⟨w.heap.size + 1, 2, none⟩ = some (.slice q2 nq d2) := by simp [go_sem]
  have hx1 := hx.later hb0
  have hy1 := hy.later hb0
  have px1 := px.later hb0
  have py1 := py.later hb0
  have hsr : (root.toList != root.toList) = false := by simp
  have hnn : ((n : Int) != (n : Int)) = false := by simp
  clear hx hy px py
  go_enter Tryz.func14, Tryz.ntmps14
  go_wp2
  generalize (w.alloc (.cells #[.string root, .slice a1 n c1, .slice q1 nq d1] 26)).alloc (.cells #[.string root, .slice a2 n c2, .slice q2 nq d2] 26) = W at *
  clear hsr hnn
  go_loopw [5] (fun y wr => ∃ i j : Nat, i ≤ n ∧ y = .int .i64 i ∧ wr = W.drewN j) (fun y _ => n - (intOf y).toNat)
  case atStart => exact ⟨0, 0, Nat.zero_le _, rfl, rfl⟩
  case round =>
    obtain ⟨i, j, hi, rfl, rfl⟩ := hrel
    by_cases hlt : i < n
    · rcases hx1 with h0 | ⟨bx, ox, rfl, hx⟩
      · omega
      rcases hy1 with h0 | ⟨bY, oY, rfl, hy⟩
      · omega
      obtain ⟨x0, x1, x2⟩ := hx i hlt
      obtain ⟨y0, y1, y2⟩ := hy i hlt
      clear hx hy px1 py1
      have hse : ((s i).toList == (s i).toList) = true := by simp
      have hsn : ((s i).toList != (s i).toList) = false := by simp
      generalize s i = z0 at *
      generalize k i = z1 at *
      generalize b i = z2 at *
      go_wp2
      go_quiet (fail)
      go_wp2
      go_roundw
      case rel => exact ⟨i + 1, _, by omega, by go_num, rfl⟩
      case measure => simp [intOf]; omega
    · have HP := samePats_true p t v nq q1 q2 d1 d2 (W.drewN j) hnq (px1.later (below_drewN (Below.refl _ _) j)) (py1.later (below_drewN (Below.refl _ _) j))
      clear hx1 hy1 px1 py1
      go_wp2_with fail
      refine HP.mono ?_
      rintro e w' ⟨rfl, q, rfl⟩
      clear HP
      go_wp2
      go_ret
      exact ⟨rfl, below_drewN hb0 _⟩
theorem RowE.same {w : World} {a : Option Addr} {n : Nat} {s s' : Nat → ByteArray} {k k' b b' : Nat → Int} (h : RowE w a n s k b) (e : ∀ i, i < n → s i = s' i ∧ k i = k' i ∧ b i = b' i) : RowE w a n s' k' b' :=
  h.imp id fun ⟨bk, o, ha, hc⟩ => ⟨bk, o, ha, fun i hi => by obtain ⟨h1, h2, h3⟩ := e i hi; rw [← h1, ← h2, ← h3]; exact hc i hi⟩
theorem PatRow.same {w : World} {a : Option Addr} {n : Nat} {s s' : Nat → Int} {k k' b b' : Nat → Int} (h : PatRow w a n s k b) (e : ∀ i, i < n → s i = s' i ∧ k i = k' i ∧ b i = b' i) : PatRow w a n s' k' b' :=
  h.imp id fun ⟨bk, o, ha, hc⟩ => ⟨bk, o, ha, fun i hi => by obtain ⟨h1, h2, h3⟩ := e i hi; rw [← h1, ← h2, ← h3]; exact hc i hi⟩
/-- two entries that are alike. -/
theorem sameE_true {x y : EntF} (h : SameE x y) (vx vy : EntV) (w : World) (hn : y.nP ≤ 1000) (hq : y.nQ ≤ 1000000) (hx : EntAt w vx x) (hy : EntAt w vy y) :
    Calls Tryz.prog 14 #[.agg (entCs vx x), .agg (entCs vy y)] w fun e w' => e = .returned (.bool true) ∧ Below w.heap.size w w' := by
  obtain ⟨hx1, hx2⟩ := hx
  rw [h.nP] at hx1
  rw [h.nQ] at hx2
  have := sameEntry_true y.root y.nP y.nQ y.pName y.pStamp y.pBase y.qPart y.qAt y.qWord vx.aP vy.aP vx.aQ vy.aQ vx.cP vy.cP vx.cQ vy.cQ w hn hq (hx1.same h.parts) hy.parts (hx2.same h.pats) hy.pats
  unfold entCs
  rw [h.root, h.nP, h.nQ]
  exact this
end Go.Proofs.YthdccmjdbcllkaaGreatDoor
