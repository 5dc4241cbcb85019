/-
  What SamePatches returns, of two lists of patches that are alike; memory stays as it was.
  What SameEntry returns, of two entries that are alike: true; memory that was there stays as it was.
  What SameEntry and SamePatches return, of any two: true or false; memory that was there stays as it was.
-/
import Derived.Test.YtlcdacldhalnnaaGreatDoorRows
import Derived.Test.YtlcdacldhalnnaaGreatDoorAtAll
import Derived.Deep.QuietTactic
import Derived.BigQuiet
import Derived.Test.YtlcdacldhalnnaaGreatDoorEntCheck
import Derived.Test.YtlcdacldhalnnaaGreatDoorEarly
namespace Go.Proofs.YtlcdacldhalnnaaGreatDoor
open Go.RowKit

theorem samePats_zero (a c : Option Addr) (ca cb : Nat) (w : World) :
    Calls Tryz.prog 30 #[.slice a 0 ca, .slice c 0 cb] w fun e w' => e = .returned (.bool true) ∧ ∃ k, w' = w.drewN k := by
  go_enter Tryz.func30, Tryz.ntmps30
  go_wp2
  refine wp_loop_rounds 1 ?_
  rw [rounds_succ]
  go_wp2
  go_ret
  exact ⟨rfl, 0, rfl⟩

set_option maxHeartbeats 1000000 in
theorem samePats_true (p t v : Nat → Int) (n : Nat) (a c : Option Addr) (ca cb : Nat) (w : World) (hm : n ≤ 1000000) (hx : PatRow w a n p t v) (hy : PatRow w c n p t v) :
    Calls Tryz.prog 30 #[.slice a n ca, .slice c n cb] w fun e w' => e = .returned (.bool true) ∧ ∃ k, w' = w.drewN k := by
  rcases hx with h0 | ⟨bx, ox, rfl, hx⟩
  · subst h0
    exact samePats_zero a c ca cb w
  rcases hy with h0 | ⟨bY, oY, rfl, hy⟩
  · subst h0
    exact samePats_zero _ c ca cb w
  go_enter Tryz.func30, Tryz.ntmps30
  go_wp2
  go_loopw [5] (fun i wr => ∃ k j : Nat, k ≤ n ∧ i = .int .i64 k ∧ wr = w.drewN j) (fun i _ => n - (intOf i).toNat)
  case atStart => exact ⟨0, 0, Nat.zero_le _, rfl, rfl⟩
  case round =>
    obtain ⟨k, j, hk, rfl, rfl⟩ := hrel
    by_cases hlt : k < n
    · obtain ⟨x0, x1, x2⟩ := hx k hlt
      obtain ⟨y0, y1, y2⟩ := hy k hlt
      clear hx hy
      generalize p k = z0 at *
      generalize t k = z1 at *
      generalize v k = z2 at *
      go_wp2
      go_quiet (fail)
      go_wp2
      go_roundw
      case rel => exact ⟨k + 1, j + nq, by omega, by go_num, rfl⟩
      case measure => simp [intOf]; omega
    · clear hx hy
      go_wp2
      go_ret
      exact ⟨rfl, j, rfl⟩
end Go.Proofs.YtlcdacldhalnnaaGreatDoor

namespace Go.Proofs.YtlcdacldhalnnaaGreatDoor
open Go.RowKit Go.Maps

set_option maxRecDepth 100000 in
set_option maxHeartbeats 2000000 in
theorem sameEntry_true (root : ByteArray) (n nq : Nat) (s : Nat → ByteArray) (k b : Nat → Int) (p t v : Nat → Int) (a1 a2 q1 q2 : Option Addr) (c1 c2 d1 d2 : Nat) (w : World) (hn : n ≤ 1000) (hnq : nq ≤ 1000000)
    (hx : RowE w a1 n s k b) (hy : RowE w a2 n s k b) (px : PatRow w q1 nq p t v) (py : PatRow w q2 nq p t v) :
    Calls Tryz.prog 16 #[.agg #[.string root, .slice a1 n c1, .slice q1 nq d1], .agg #[.string root, .slice a2 n c2, .slice q2 nq d2]] w fun e w' => e = .returned (.bool true) ∧ Below w.heap.size w w' := by
  have hb0 : Below w.heap.size w ((w.alloc (.cells #[.string root, .slice a1 n c1, .slice q1 nq d1] 43)).alloc (.cells #[.string root, .slice a2 n c2, .slice q2 nq d2] 43)) := ((Below.refl _ _).alloc (Nat.le_refl _) _).alloc (by simp) _
  have e1 : ((w.alloc (.cells #[.string root, .slice a1 n c1, .slice q1 nq d1] 43)).alloc (.cells #[.string root, .slice a2 n c2, .slice q2 nq d2] 43)).cell? ⟨w.heap.size, 1, none⟩ = some (.slice a1 n c1) := by simp [go_sem]
  have e2 : ((w.alloc (.cells #[.string root, .slice a1 n c1, .slice q1 nq d1] 43)).alloc (.cells #[.string root, .slice a2 n c2, .slice q2 nq d2] 43)).cell? ⟨w.heap.size, 2, none⟩ = some (.slice q1 nq d1) := by simp [go_sem]
  have g1 : ((w.alloc (.cells #[.string root, .slice a1 n c1, .slice q1 nq d1] 43)).alloc (.cells #[.string root, .slice a2 n c2, .slice q2 nq d2] 43)).cell? ⟨w.heap.size + 1, 1, none⟩ = some (.slice a2 n c2) := by simp [go_sem]
  have g2 : ((w.alloc (.cells #[.string root, .slice a1 n c1, .slice q1 nq d1] 43)).alloc (.cells #[.string root, .slice a2 n c2, .slice q2 nq d2] 43)).cell? ⟨w.heap.size + 1, 2, none⟩ = some (.slice q2 nq d2) := by simp [go_sem]
  have hx1 := hx.later hb0
  have hy1 := hy.later hb0
  have px1 := px.later hb0
  have py1 := py.later hb0
  have hsr : (root.toList != root.toList) = false := by simp
  have hnn : ((n : Int) != (n : Int)) = false := by simp
  clear hx hy px py
  go_enter Tryz.func16, Tryz.ntmps16
  go_wp2
  generalize (w.alloc (.cells #[.string root, .slice a1 n c1, .slice q1 nq d1] 43)).alloc (.cells #[.string root, .slice a2 n c2, .slice q2 nq d2] 43) = W at *
  clear hsr hnn
  go_loopw [5] (fun y wr => ∃ i j : Nat, i ≤ n ∧ y = .int .i64 i ∧ wr = W.drewN j) (fun y _ => n - (intOf y).toNat)
  case atStart => exact ⟨0, 0, Nat.zero_le _, rfl, rfl⟩
  case round =>
    obtain ⟨i, j, hi, rfl, rfl⟩ := hrel
    by_cases hlt : i < n
    · rcases hx1 with h0 | ⟨bx, ox, rfl, hx⟩
      · omega
      rcases hy1 with h0 | ⟨bY, oY, rfl, hy⟩
      · omega
      obtain ⟨x0, x1, x2⟩ := hx i hlt
      obtain ⟨y0, y1, y2⟩ := hy i hlt
      clear hx hy px1 py1
      have hse : ((s i).toList == (s i).toList) = true := by simp
      have hsn : ((s i).toList != (s i).toList) = false := by simp
      generalize s i = z0 at *
      generalize k i = z1 at *
      generalize b i = z2 at *
      go_wp2
      go_quiet (fail)
      go_wp2
      go_roundw
      case rel => exact ⟨i + 1, _, by omega, by go_num, rfl⟩
      case measure => simp [intOf]; omega
    · have HP := samePats_true p t v nq q1 q2 d1 d2 (W.drewN j) hnq (px1.later (below_drewN (Below.refl _ _) j)) (py1.later (below_drewN (Below.refl _ _) j))
      clear hx1 hy1 px1 py1
      go_wp2_with fail
      refine HP.mono ?_
      rintro e w' ⟨rfl, q, rfl⟩
      clear HP
      go_wp2
      go_ret
      exact ⟨rfl, below_drewN hb0 _⟩
theorem RowE.same {w : World} {a : Option Addr} {n : Nat} {s s' : Nat → ByteArray} {k k' b b' : Nat → Int} (h : RowE w a n s k b) (e : ∀ i, i < n → s i = s' i ∧ k i = k' i ∧ b i = b' i) : RowE w a n s' k' b' :=
  h.imp id fun ⟨bk, o, ha, hc⟩ => ⟨bk, o, ha, fun i hi => by obtain ⟨h1, h2, h3⟩ := e i hi; rw [← h1, ← h2, ← h3]; exact hc i hi⟩
theorem PatRow.same {w : World} {a : Option Addr} {n : Nat} {s s' : Nat → Int} {k k' b b' : Nat → Int} (h : PatRow w a n s k b) (e : ∀ i, i < n → s i = s' i ∧ k i = k' i ∧ b i = b' i) : PatRow w a n s' k' b' :=
  h.imp id fun ⟨bk, o, ha, hc⟩ => ⟨bk, o, ha, fun i hi => by obtain ⟨h1, h2, h3⟩ := e i hi; rw [← h1, ← h2, ← h3]; exact hc i hi⟩
/-- two entries that are alike. -/
theorem sameE_true {x y : EntF} (h : SameE x y) (vx vy : EntV) (w : World) (hn : y.nP ≤ 1000) (hq : y.nQ ≤ 1000000) (hx : EntAt w vx x) (hy : EntAt w vy y) :
    Calls Tryz.prog 16 #[.agg (entCs vx x), .agg (entCs vy y)] w fun e w' => e = .returned (.bool true) ∧ Below w.heap.size w w' := by
  obtain ⟨hx1, hx2⟩ := hx
  rw [h.nP] at hx1
  rw [h.nQ] at hx2
  have := sameEntry_true y.root y.nP y.nQ y.pName y.pStamp y.pBase y.qPart y.qAt y.qWord vx.aP vy.aP vx.aQ vy.aQ vx.cP vy.cP vx.cQ vy.cQ w hn hq (hx1.same h.parts) hy.parts (hx2.same h.pats) hy.pats
  unfold entCs
  rw [h.root, h.nP, h.nQ]
  exact this
end Go.Proofs.YtlcdacldhalnnaaGreatDoor

namespace Go.Proofs.YtlcdacldhalnnaaGreatDoor
open Go.RowKit

/-- a call that returned true or false. -/
def IsB (e : Ending) : Prop := ∃ b, e = .returned (.bool b)
set_option maxRecDepth 100000 in
set_option maxHeartbeats 4000000 in
theorem samePats_some (n m : Nat) (a b : Option Addr) (ca cb : Nat) (p t v p' t' v' : Nat → Int) (w : World) (hn : n ≤ 1000000) (hx : PatRow w a n p t v) (hy : PatRow w b m p' t' v') :
    Calls Tryz.prog 30 #[.slice a n ca, .slice b m cb] w fun e w' => IsB e ∧ Below w.heap.size w w' := by
  by_cases hnm : n = m
  · subst hnm
    go_enter Tryz.func30, Tryz.ntmps30
    go_wp2
    go_loopw [5] (fun y wr => ∃ i : Nat, i ≤ n ∧ y = .int .i64 i ∧ Below w.heap.size w wr) (fun y _ => n - (intOf y).toNat)
    case atStart => exact ⟨0, Nat.zero_le _, rfl, Below.refl _ _⟩
    case round =>
      obtain ⟨i, hi, rfl, hb⟩ := hrel
      by_cases hlt : i < n
      · rcases hx.later hb with h0 | ⟨bx, ox, rfl, hcx⟩
        · omega
        rcases hy.later hb with h0 | ⟨bY, oY, rfl, hcy⟩
        · omega
        obtain ⟨x0, x1, x2⟩ := hcx i hlt
        obtain ⟨y0, y1, y2⟩ := hcy i hlt
        have hi0 : (0 : Int) ≤ (i : Int) := by omega
        have hi1 : (i : Int) < (n : Int) := by omega
        generalize p i = z0 at *
        generalize t i = z1 at *
        generalize v i = z2 at *
        generalize p' i = r0 at *
        generalize t' i = r1 at *
        generalize v' i = r2 at *
        go_wp2
        have hSS : (fun w' : World => w'.cell? ⟨bx, ox + i * 3, none⟩ = some (.int .i64 z0) ∧ w'.cell? ⟨bx, ox + i * 3 + 1, none⟩ = some (.int .i64 z1) ∧ w'.cell? ⟨bx, ox + i * 3 + 2, none⟩ = some (.int .i64 z2) ∧ w'.cell? ⟨bY, oY + i * 3, none⟩ = some (.int .i64 r0) ∧ w'.cell? ⟨bY, oY + i * 3 + 1, none⟩ = some (.int .i64 r1) ∧ w'.cell? ⟨bY, oY + i * 3 + 2, none⟩ = some (.int .i64 r2)) wr.drew := ⟨x0, x1, x2, y0, y1, y2⟩
        have hbD : Below w.heap.size w wr.drew := hb.drew
        clear hcx hcy x0 x1 x2 y0 y1 y2
        refine wp_region_G (fun w' : World => w'.cell? ⟨bx, ox + i * 3, none⟩ = some (.int .i64 z0) ∧ w'.cell? ⟨bx, ox + i * 3 + 1, none⟩ = some (.int .i64 z1) ∧ w'.cell? ⟨bx, ox + i * 3 + 2, none⟩ = some (.int .i64 z2) ∧ w'.cell? ⟨bY, oY + i * 3, none⟩ = some (.int .i64 r0) ∧ w'.cell? ⟨bY, oY + i * 3 + 1, none⟩ = some (.int .i64 r1) ∧ w'.cell? ⟨bY, oY + i * 3 + 2, none⟩ = some (.int .i64 r2)) 8 9 (by kernel_rfl) rfl ?_
        generalize wr.drew = w1 at *
        refine takeW 0 (v := ?v1) rfl (by kernel_rfl) (by kernel_rfl) (by kernel_rfl) (by kernel_rfl) (fun _ _ _ h => h) (.inr hSS) (.inl ⟨by rfl, fun w => ?hy1⟩) ?rest1
        case hy1 => (go_simp <;> with_reducible rfl)
        simp only [Go.Act.put, List.setIfInBounds_toArray, List.set_cons_zero, List.set_cons_succ]
        refine takeW 1 (v := ?v2) rfl (by kernel_rfl) (by kernel_rfl) (by kernel_rfl) (by kernel_rfl) (fun _ _ _ h => h) (.inr hSS) (.inl ⟨by rfl, fun w => ?hy2⟩) ?rest2
        case hy2 => (go_simp <;> with_reducible rfl)
        simp only [Go.Act.put, List.setIfInBounds_toArray, List.set_cons_zero, List.set_cons_succ]
        refine takeW 2 (v := ?v3) rfl (by kernel_rfl) (by kernel_rfl) (by kernel_rfl) (by kernel_rfl) (fun _ _ _ h => h) (.inr hSS) (.inl ⟨by rfl, fun w => ?hy3⟩) ?rest3
        case hy3 => (go_simp <;> with_reducible rfl)
        simp only [Go.Act.put, List.setIfInBounds_toArray, List.set_cons_zero, List.set_cons_succ]
        refine takeW 4 (v := ?v4) rfl (by kernel_rfl) (by kernel_rfl) (by kernel_rfl) (by kernel_rfl) (fun _ _ _ h => h) (.inr hSS) (.inl ⟨by rfl, fun w => ?hy4⟩) ?rest4
        case hy4 => (go_simp <;> with_reducible rfl)
        simp only [Go.Act.put, List.setIfInBounds_toArray, List.set_cons_zero, List.set_cons_succ]
        refine takeW 5 (v := ?v5) rfl (by kernel_rfl) (by kernel_rfl) (by kernel_rfl) (by kernel_rfl) (fun _ _ _ h => h) (.inr hSS) (.inl ⟨by rfl, fun w => ?hy5⟩) ?rest5
        case hy5 => (go_simp <;> with_reducible rfl)
        simp only [Go.Act.put, List.setIfInBounds_toArray, List.set_cons_zero, List.set_cons_succ]
        refine takeW 6 (v := ?v6) rfl (by kernel_rfl) (by kernel_rfl) (by kernel_rfl) (by kernel_rfl) (fun _ _ _ h => h) (.inr hSS) (.inl ⟨by rfl, fun w => ?hy6⟩) ?rest6
        case hy6 => (go_simp <;> with_reducible rfl)
        simp only [Go.Act.put, List.setIfInBounds_toArray, List.set_cons_zero, List.set_cons_succ]
        refine takeR 3 [] (v := ?v7) rfl (by kernel_rfl) (by kernel_rfl) (by kernel_rfl) (by kernel_rfl) (by kernel_rfl) (fun _ _ _ h => h) hSS (.inl ⟨by rfl, fun w hSw => ?hy7⟩) ?rest7
        case hy7 => ((try dsimp only at hSw); go_simp <;> with_reducible rfl)
        simp only [Go.Act.put, List.setIfInBounds_toArray, List.set_cons_zero, List.set_cons_succ]
        refine takeR 7 [] (v := ?v8) rfl (by kernel_rfl) (by kernel_rfl) (by kernel_rfl) (by kernel_rfl) (by kernel_rfl) (fun _ _ _ h => h) hSS (.inl ⟨by rfl, fun w hSw => ?hy8⟩) ?rest8
        case hy8 => ((try dsimp only at hSw); go_simp <;> with_reducible rfl)
        simp only [Go.Act.put, List.setIfInBounds_toArray, List.set_cons_zero, List.set_cons_succ]
        refine lastG 8 rfl (by kernel_rfl) (by kernel_rfl) (fun K hK => ?_)
        go_wp2
        all_goals
          refine hK _ _ ?_
          clear hK
          refine doneG (by kernel_rfl) ?_ _
          go_wp2
          first
            | (go_ret; exact ⟨⟨_, rfl⟩, hbD⟩)
            | (go_roundw
               case rel => exact ⟨i + 1, by omega, by go_num, hbD⟩
               case measure => simp [intOf]; omega)
      · go_wp2
        go_ret
        exact ⟨⟨_, rfl⟩, hb⟩
  · have hne : ((n : Int) != (m : Int)) = true := by simp; omega
    go_enter Tryz.func30, Tryz.ntmps30
    go_wp2
    go_ret
    exact ⟨⟨_, rfl⟩, Below.refl _ _⟩
set_option maxRecDepth 100000 in
set_option maxHeartbeats 4000000 in
theorem sameEntry_some (x y : EntF) (vx vy : EntV) (w : World) (hn : x.nP ≤ 1000000) (hq : x.nQ ≤ 1000000) (hx : EntAt w vx x) (hy : EntAt w vy y) :
    Calls Tryz.prog 16 #[.agg (entCs vx x), .agg (entCs vy y)] w fun e w' => IsB e ∧ Below w.heap.size w w' := by
  have hb0 : Below w.heap.size w ((w.alloc (.cells (entCs vx x) 43)).alloc (.cells (entCs vy y) 43)) := ((Below.refl _ _).alloc (Nat.le_refl _) _).alloc (by simp) _
  have e0 : ((w.alloc (.cells (entCs vx x) 43)).alloc (.cells (entCs vy y) 43)).cell? ⟨w.heap.size, 0, none⟩ = some (.string x.root) := by simp [go_sem]
  have e1 : ((w.alloc (.cells (entCs vx x) 43)).alloc (.cells (entCs vy y) 43)).cell? ⟨w.heap.size, 1, none⟩ = some (.slice vx.aP x.nP vx.cP) := by simp [go_sem]
  have e2 : ((w.alloc (.cells (entCs vx x) 43)).alloc (.cells (entCs vy y) 43)).cell? ⟨w.heap.size, 2, none⟩ = some (.slice vx.aQ x.nQ vx.cQ) := by simp [go_sem]
  have g0 : ((w.alloc (.cells (entCs vx x) 43)).alloc (.cells (entCs vy y) 43)).cell? ⟨w.heap.size + 1, 0, none⟩ = some (.string y.root) := by simp [go_sem]
  have g1 : ((w.alloc (.cells (entCs vx x) 43)).alloc (.cells (entCs vy y) 43)).cell? ⟨w.heap.size + 1, 1, none⟩ = some (.slice vy.aP y.nP vy.cP) := by simp [go_sem]
  have g2 : ((w.alloc (.cells (entCs vx x) 43)).alloc (.cells (entCs vy y) 43)).cell? ⟨w.heap.size + 1, 2, none⟩ = some (.slice vy.aQ y.nQ vy.cQ) := by simp [go_sem]
  have hx1 := hx.later hb0
  have hy1 := hy.later hb0
  unfold entCs at *
  generalize hW : (w.alloc (.cells #[.string x.root, .slice vx.aP x.nP vx.cP, .slice vx.aQ x.nQ vx.cQ] 43)).alloc (.cells #[.string y.root, .slice vy.aP y.nP vy.cP, .slice vy.aQ y.nQ vy.cQ] 43) = W at *
  by_cases hr : x.root = y.root
  · have hb : (x.root.toList == y.root.toList) = true := by rw [hr]; simp
    clear hr
    by_cases hl : x.nP = y.nP
    · have hl' : ((x.nP : Int) != (y.nP : Int)) = false := by rw [hl]; simp
      have HL : Hid (x.nP = y.nP) := hl
      clear hl
      go_enter Tryz.func16, Tryz.ntmps16
      go_wp2
      go_loopw [5] (fun z wr => ∃ i : Nat, i ≤ x.nP ∧ z = .int .i64 i ∧ Below W.heap.size W wr) (fun z _ => x.nP - (intOf z).toNat)
      case atStart => exact ⟨0, Nat.zero_le _, rfl, Below.refl _ _⟩
      case round =>
        obtain ⟨i, hi, rfl, hbr⟩ := hrel
        have a1 := cell_later hbr e1
        have a2 := cell_later hbr e2
        have b1 := cell_later hbr g1
        have b2 := cell_later hbr g2
        have hbw := hb0.trans (hbr.mono hb0.size)
        by_cases hlt : i < x.nP
        · rcases (hx1.later hbr).parts with h0 | ⟨bx, ox, hax, hcx⟩
          · omega
          rcases (hy1.later hbr).parts with h0 | ⟨bY, oY, hay, hcy⟩
          · have hly := HL.out; omega
          obtain ⟨x0, x1, x2⟩ := hcx i hlt
          have hly := HL.out
          have hlt2 : i < y.nP := by omega
          clear hly
          obtain ⟨y0, y1, y2⟩ := hcy i hlt2
          rw [hax] at a1
          rw [hay] at b1
          clear hax hay
          have hi0 : (0 : Int) ≤ (i : Int) := by omega
          have hi1 : (i : Int) < (x.nP : Int) := by omega
          have hi2 : (i : Int) < (y.nP : Int) := by omega
          generalize x.pName i = z0 at *
          generalize x.pStamp i = z1 at *
          generalize x.pBase i = z2 at *
          generalize y.pName i = r0 at *
          generalize y.pStamp i = r1 at *
          generalize y.pBase i = r2 at *
          clear hcx hcy
          go_wp2
          have hSS : (fun w' : World => w'.cell? ⟨w.heap.size, 1, none⟩ = some (.slice (some ⟨bx, ox, none⟩) x.nP vx.cP) ∧ w'.cell? ⟨w.heap.size + 1, 1, none⟩ = some (.slice (some ⟨bY, oY, none⟩) y.nP vy.cP) ∧ w'.cell? ⟨bx, ox + i * 3, none⟩ = some (.string z0) ∧ w'.cell? ⟨bx, ox + i * 3 + 1, none⟩ = some (.int .i64 z1) ∧ w'.cell? ⟨bx, ox + i * 3 + 2, none⟩ = some (.int .i64 z2) ∧ w'.cell? ⟨bY, oY + i * 3, none⟩ = some (.string r0) ∧ w'.cell? ⟨bY, oY + i * 3 + 1, none⟩ = some (.int .i64 r1) ∧ w'.cell? ⟨bY, oY + i * 3 + 2, none⟩ = some (.int .i64 r2)) wr.drew := ⟨a1, b1, x0, x1, x2, y0, y1, y2⟩
          have hbD : Below W.heap.size W wr.drew := hbr.drew
          have hbE : Below w.heap.size w wr.drew := hbw.drew
          clear x0 x1 x2 y0 y1 y2 a1 b1 a2 b2
          refine wp_region_G (fun w' : World => w'.cell? ⟨w.heap.size, 1, none⟩ = some (.slice (some ⟨bx, ox, none⟩) x.nP vx.cP) ∧ w'.cell? ⟨w.heap.size + 1, 1, none⟩ = some (.slice (some ⟨bY, oY, none⟩) y.nP vy.cP) ∧ w'.cell? ⟨bx, ox + i * 3, none⟩ = some (.string z0) ∧ w'.cell? ⟨bx, ox + i * 3 + 1, none⟩ = some (.int .i64 z1) ∧ w'.cell? ⟨bx, ox + i * 3 + 2, none⟩ = some (.int .i64 z2) ∧ w'.cell? ⟨bY, oY + i * 3, none⟩ = some (.string r0) ∧ w'.cell? ⟨bY, oY + i * 3 + 1, none⟩ = some (.int .i64 r1) ∧ w'.cell? ⟨bY, oY + i * 3 + 2, none⟩ = some (.int .i64 r2)) 10 11 (by kernel_rfl) rfl ?_
          generalize wr.drew = w1 at *
          refine takeW 0 (v := ?v10) rfl (by kernel_rfl) (by kernel_rfl) (by kernel_rfl) (by kernel_rfl) (fun _ _ _ h => h) (.inr hSS) (.inl ⟨by rfl, fun w => ?hy10⟩) ?rest10
          case hy10 => (go_simp <;> with_reducible rfl)
          simp only [Go.Act.put, List.setIfInBounds_toArray, List.set_cons_zero, List.set_cons_succ]
          refine takeW 2 (v := ?v11) rfl (by kernel_rfl) (by kernel_rfl) (by kernel_rfl) (by kernel_rfl) (fun _ _ _ h => h) (.inr hSS) (.inl ⟨by rfl, fun w => ?hy11⟩) ?rest11
          case hy11 => (go_simp <;> with_reducible rfl)
          simp only [Go.Act.put, List.setIfInBounds_toArray, List.set_cons_zero, List.set_cons_succ]
          refine takeW 5 (v := ?v12) rfl (by kernel_rfl) (by kernel_rfl) (by kernel_rfl) (by kernel_rfl) (fun _ _ _ h => h) (.inr hSS) (.inl ⟨by rfl, fun w => ?hy12⟩) ?rest12
          case hy12 => (go_simp <;> with_reducible rfl)
          simp only [Go.Act.put, List.setIfInBounds_toArray, List.set_cons_zero, List.set_cons_succ]
          refine takeW 7 (v := ?v13) rfl (by kernel_rfl) (by kernel_rfl) (by kernel_rfl) (by kernel_rfl) (fun _ _ _ h => h) (.inr hSS) (.inl ⟨by rfl, fun w => ?hy13⟩) ?rest13
          case hy13 => (go_simp <;> with_reducible rfl)
          simp only [Go.Act.put, List.setIfInBounds_toArray, List.set_cons_zero, List.set_cons_succ]
          refine takeR 1 [4, 3] (v := ?v14) rfl (by kernel_rfl) (by kernel_rfl) (by kernel_rfl) (by kernel_rfl) (by kernel_rfl) (fun _ _ _ h => h) hSS (.inl ⟨by rfl, fun w hSw => ?hy14⟩) ?rest14
          case hy14 => ((try dsimp only at hSw); go_simp <;> with_reducible rfl)
          simp only [Go.Act.put, List.setIfInBounds_toArray, List.set_cons_zero, List.set_cons_succ]
          refine takeW 3 (v := ?v15) rfl (by kernel_rfl) (by kernel_rfl) (by kernel_rfl) (by kernel_rfl) (fun _ _ _ h => h) (.inr hSS) (.inl ⟨by rfl, fun w => ?hy15⟩) ?rest15
          case hy15 => (go_simp <;> with_reducible rfl)
          simp only [Go.Act.put, List.setIfInBounds_toArray, List.set_cons_zero, List.set_cons_succ]
          refine takeR 4 [] (v := ?v16) rfl (by kernel_rfl) (by kernel_rfl) (by kernel_rfl) (by kernel_rfl) (by kernel_rfl) (fun _ _ _ h => h) hSS (.inl ⟨by rfl, fun w hSw => ?hy16⟩) ?rest16
          case hy16 => ((try dsimp only at hSw); go_simp <;> with_reducible rfl)
          simp only [Go.Act.put, List.setIfInBounds_toArray, List.set_cons_zero, List.set_cons_succ]
          refine takeR 6 [9, 8] (v := ?v17) rfl (by kernel_rfl) (by kernel_rfl) (by kernel_rfl) (by kernel_rfl) (by kernel_rfl) (fun _ _ _ h => h) hSS (.inl ⟨by rfl, fun w hSw => ?hy17⟩) ?rest17
          case hy17 => ((try dsimp only at hSw); go_simp <;> with_reducible rfl)
          simp only [Go.Act.put, List.setIfInBounds_toArray, List.set_cons_zero, List.set_cons_succ]
          refine takeW 8 (v := ?v18) rfl (by kernel_rfl) (by kernel_rfl) (by kernel_rfl) (by kernel_rfl) (fun _ _ _ h => h) (.inr hSS) (.inl ⟨by rfl, fun w => ?hy18⟩) ?rest18
          case hy18 => (go_simp <;> with_reducible rfl)
          simp only [Go.Act.put, List.setIfInBounds_toArray, List.set_cons_zero, List.set_cons_succ]
          refine takeR 9 [] (v := ?v19) rfl (by kernel_rfl) (by kernel_rfl) (by kernel_rfl) (by kernel_rfl) (by kernel_rfl) (fun _ _ _ h => h) hSS (.inl ⟨by rfl, fun w hSw => ?hy19⟩) ?rest19
          case hy19 => ((try dsimp only at hSw); go_simp <;> with_reducible rfl)
          simp only [Go.Act.put, List.setIfInBounds_toArray, List.set_cons_zero, List.set_cons_succ]
          refine lastG 10 rfl (by kernel_rfl) (by kernel_rfl) (fun K hK => ?_)
          go_wp2
          all_goals
            refine hK _ _ ?_
            clear hK
            refine doneG (by kernel_rfl) ?_ _
            go_wp2
            first
              | (go_ret; exact ⟨⟨_, rfl⟩, hbE⟩)
              | (go_roundw
                 case rel => exact ⟨i + 1, by omega, by go_num, hbD⟩
                 case measure => simp [intOf]; omega)
        · have HP := samePats_some x.nQ y.nQ vx.aQ vy.aQ vx.cQ vy.cQ x.qPart x.qAt x.qWord y.qPart y.qAt y.qWord wr hq (hx1.later hbr).pats (hy1.later hbr).pats
          go_wp2_with fail
          refine (show Calls _ _ _ _ _ from HP).mono ?_
          rintro e w2 ⟨⟨b, rfl⟩, hb2⟩
          clear HP
          go_wp2
          go_ret
          exact ⟨⟨_, rfl⟩, hbw.trans (hb2.mono hbw.size)⟩
    · have hl' : ((x.nP : Int) != (y.nP : Int)) = true := by simp; omega
      go_enter Tryz.func16, Tryz.ntmps16
      go_wp2
      go_ret
      exact ⟨⟨_, rfl⟩, hb0⟩
  · have hb : (x.root.toList == y.root.toList) = false := by rw [toList_beq]; exact decide_eq_false hr
    go_enter Tryz.func16, Tryz.ntmps16
    go_wp2
    go_ret
    exact ⟨⟨_, rfl⟩, hb0⟩
end Go.Proofs.YtlcdacldhalnnaaGreatDoor
