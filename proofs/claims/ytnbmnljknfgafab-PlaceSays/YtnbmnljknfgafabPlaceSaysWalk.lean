/-
  The law PlaceSays returns true, for every list of sizes and every list of ranges; memory that was there stays as it was.
-/
import Derived.Test.YtnbmnljknfgafabRefBases
import Derived.Test.YtnbmnljknfgafabSameNumbers
import Derived.Test.YtnbmnljknfgafabSame
import Derived.Deep.RegionLaw
import Derived.RegionTactic
import Derived.BigRegion
import Derived.Deep.RegionWith
import Derived.Deep.CutRange
import Derived.Deep.QuietTactic
import Derived.BigQuiet
namespace Go.Proofs.Ytnbmnljknfgafab
open Go.RowKit

theorem undrewB {B : Nat} {w w' : World} (h : Below B w.drew w') : Below B w w' := ⟨h.os, h.tape, h.output, h.size, h.block⟩

/-- the closed fact's bases. -/
theorem places_plain {f : Nat} {b : Nat → Int} (h : BasesAre 2 (fun i => if i = 0 then 17 else 3) 1 (fun _ => 20) (fun _ => 5) f b) : f = 0 ∧ b 0 = 32 ∧ b 1 = 0 := by
  have h' : BasesAre 2 (fun i => if i = 0 then 17 else 3) 1 (fun _ => 20) (fun _ => 5) 0 (fun i => if i = 0 then 32 else 0) := by
    refine .ok _ (by decide) fun j hj => ?_
    have : j = 0 ∨ j = 1 := by omega
    rcases this with rfl | rfl
    · exact ⟨2, by decide, by decide, by decide, fun j hj => by
        have : j = 0 ∨ j = 1 := by omega
        rcases this with rfl | rfl <;> decide⟩
    · exact ⟨0, by decide, by decide, by decide, fun j hj => by omega⟩
  obtain ⟨rfl, e⟩ := h.unique h'
  have e' := e rfl
  exact ⟨rfl, by rw [e' 0 (by decide)]; decide, by rw [e' 1 (by decide)]; decide⟩

theorem places_any (w : World) : Calls Try.prog 12 #[] w fun e w' => e = .returned (.bool true) ∧ Below w.heap.size w w' := by
  have hb0 : Below w.heap.size w ((w.alloc (.cells #[.int .i64 17, .int .i64 3] 3)).alloc (.cells #[.int .i64 20, .int .i64 5] 39)) := ((Below.refl _ _).alloc (Nat.le_refl _) _).alloc (by simp) _
  have HB := bases_any (fun i => if i = 0 then 17 else 3) (fun _ => 20) (fun _ => 5) (some ⟨w.heap.size, 0, none⟩) (some ⟨w.heap.size + 1, 0, none⟩) 2 2 1 1 ((w.alloc (.cells #[.int .i64 17, .int .i64 3] 3)).alloc (.cells #[.int .i64 20, .int .i64 5] 39)) (by decide) (by decide)
    (.inr ⟨_, _, rfl, fun i hi => by
      have : i = 0 ∨ i = 1 := by omega
      rcases this with rfl | rfl
      · simp [go_sem]
      · simp [go_sem]⟩) (.inr ⟨_, _, rfl, fun i hi => by
      have : i = 0 := by omega
      subst this
      exact ⟨by simp [go_sem], by simp [go_sem]⟩⟩)
  have HE := fun (w : World) => same_errV 0 0 w
  simp only [errV] at HE
  go_enter Try.func12, Try.ntmps12
  go_wp2_with fail
  refine HB.mono ?_
  rintro e w1 ⟨he, hb1⟩
  replace hb0 := hb0.trans (hb1.mono hb0.size)
  clear HB hb1
  cases he with
  | bad f b hf h => exact absurd (places_plain h).1 hf
  | ok b v h hv =>
    obtain ⟨_, e0, e1⟩ := places_plain h
    obtain ⟨a, c, rfl, _, hr⟩ := rows_int hv
    have HS := fun (w : World) (hb : Below w1.heap.size w1 w) (a2 : Option Addr) (hr2 : RowAt w a2 2 fun i => .int .i64 (b i)) => sameNumbers_any b b 2 2 a a2 c 2 w (by decide) (hr.later hb) hr2
    clear hv h hr
    go_wp2_with fail
    refine (HE _).mono ?_
    rintro e w' ⟨rfl, rfl⟩
    go_wp2_with fail
    refine (HS _ ((Below.refl _ _).alloc (Nat.le_refl _) _) _ ?_).mono ?_
    · refine .inr ⟨_, _, rfl, fun i hi => ?_⟩
      have : i = 0 ∨ i = 1 := by omega
      rcases this with rfl | rfl
      · simp [go_sem, e0]
      · simp [go_sem, e1]
    · rintro e w2 ⟨rfl, kq, rfl⟩
      clear HS HE
      go_wp2
      go_ret
      exact ⟨ret_bool (by simp [eqTo]), below_drewN (hb0.alloc hb0.size _) _⟩

set_option maxRecDepth 100000 in
set_option maxHeartbeats 8000000 in
theorem placeSays_walk (sz tf tm : Nat → Int) (a a' : Option Addr) (n c nt c' : Nat) (w : World) (hn : n ≤ maxLen) (hnt : nt ≤ maxLen) (hr : RowAt w a n fun i => .int .i64 (sz i)) (ht : RngRow w a' nt tf tm) :
    Calls Try.prog 4 #[.slice a n c, .slice a' nt c'] w fun e w' => e = .returned (.bool true) ∧ Below w.heap.size w w' := by
  unfold maxLen at hn hnt
  have HA := places_any w
  go_enter Try.func4, Try.ntmps4
  go_wp2_with fail
  refine HA.mono ?_
  rintro e w1 ⟨rfl, hb⟩
  clear HA
  by_cases h10 : (10 : Int) < (n : Int)
  · go_wp2
    go_ret
    exact ⟨rfl, hb⟩
  by_cases h25 : (25 : Int) < (nt : Int)
  · go_wp2
    go_ret
    exact ⟨rfl, hb⟩
  go_wp2
  go_loopw [6] (fun x wr => ∃ k : Nat, k ≤ nt ∧ x = .int .i64 k ∧ Below w.heap.size w wr) (fun x _ => nt - (intOf x).toNat)
  case atStart => exact ⟨0, Nat.zero_le _, rfl, hb⟩
  case round =>
    clear hb
    obtain ⟨k, hk, rfl, hb⟩ := hrel
    have hx : ∀ o1 o2 : Obj, Below w.heap.size w ((wr.alloc o1).alloc o2) := fun o1 o2 => (hb.alloc hb.size o1).alloc (by simp; have := hb.size; omega) o2
    by_cases hlt : (k : Int) + 1 < (nt : Int)
    case' pos =>
      have ht' := ht
      rcases ht' with h0 | ⟨bk, o, rfl, hc⟩
      · omega
      have p0 := cell_later hb (hc k (by omega)).1
      have p1 := cell_later hb (hc k (by omega)).2
      have q0 := cell_later hb (hc (k + 1) (by omega)).1
      have q1 := cell_later hb (hc (k + 1) (by omega)).2
      have r0 : ∀ ob, (wr.alloc ob).cell? ⟨bk, o + (k + 1) * 2, none⟩ = some (.int .i64 (tf (k + 1))) := fun ob => cell_later ((Below.refl _ _).alloc (Nat.le_refl _) ob) q0
      have r1 : ∀ ob, (wr.alloc ob).cell? ⟨bk, o + (k + 1) * 2 + 1, none⟩ = some (.int .i64 (tm (k + 1))) := fun ob => cell_later ((Below.refl _ _).alloc (Nat.le_refl _) ob) q1
      clear hc q0 q1
      by_cases hin : (-300 ≤ tf k ∧ tf k ≤ 300) ∧ (-300 ≤ tm k ∧ tm k ≤ 300) ∧ (-300 ≤ tf (k + 1) ∧ tf (k + 1) ≤ 300) ∧ (-300 ≤ tm (k + 1) ∧ tm (k + 1) ≤ 300)
      case' pos =>
        have HP := fun (w : World) => apart_any (tf k) (tm k) (tf (k + 1)) (tm (k + 1)) w (by omega) (by omega) (by omega) (by omega)
        have HQ := fun (w : World) => refApart_any (tf k) (tm k) (tf (k + 1)) (tm (k + 1)) w hin.1 hin.2.1 hin.2.2.1 hin.2.2.2
        generalize apartB (tf k) (tm k) (tf (k + 1)) (tm (k + 1)) = AB at HP HQ
        obtain ⟨⟨z1, z2⟩, ⟨z3, z4⟩, ⟨z5, z6⟩, z7, z8⟩ := hin
        go_upto_region 10 with fail
        have hW := hx (.cells #[.int .i64 (tf k), .int .i64 (tm k)] 39) (.cells #[.int .i64 (tf (k + 1)), .int .i64 (tm (k + 1))] 39)
        have d0 : ((wr.alloc (.cells #[.int .i64 (tf k), .int .i64 (tm k)] 39)).alloc (.cells #[.int .i64 (tf (k + 1)), .int .i64 (tm (k + 1))] 39)).cell? ⟨wr.heap.size, 0, none⟩ = some (.int .i64 (tf k)) := by simp [go_sem]
        have d1 : ((wr.alloc (.cells #[.int .i64 (tf k), .int .i64 (tm k)] 39)).alloc (.cells #[.int .i64 (tf (k + 1)), .int .i64 (tm (k + 1))] 39)).cell? ⟨wr.heap.size, 1, none⟩ = some (.int .i64 (tm k)) := by simp [go_sem]
        have d2 : ((wr.alloc (.cells #[.int .i64 (tf k), .int .i64 (tm k)] 39)).alloc (.cells #[.int .i64 (tf (k + 1)), .int .i64 (tm (k + 1))] 39)).cell? ⟨wr.heap.size + 1, 0, none⟩ = some (.int .i64 (tf (k + 1))) := by simp [go_sem]
        have d3 : ((wr.alloc (.cells #[.int .i64 (tf k), .int .i64 (tm k)] 39)).alloc (.cells #[.int .i64 (tf (k + 1)), .int .i64 (tm (k + 1))] 39)).cell? ⟨wr.heap.size + 1, 1, none⟩ = some (.int .i64 (tm (k + 1))) := by simp [go_sem]
        generalize (wr.alloc (.cells #[.int .i64 (tf k), .int .i64 (tm k)] 39)).alloc (.cells #[.int .i64 (tf (k + 1)), .int .i64 (tm (k + 1))] 39) = W at *
        clear p0 p1 r0 r1 hx hb
        go_cut [88] from 82 to 88 (fun x wc => x = .bool false ∧ Below w.heap.size w wc)
        case first =>
          go_region_law
            (go_simp
             first
              | (go_at_call 13
                 refine (HP _).mono ?_
                 rintro e w3 ⟨rfl, hb3⟩
                 repeat (replace hb3 := undrewB hb3)
                 replace d0 := cell_later hb3 d0
                 replace d1 := cell_later hb3 d1
                 replace d2 := cell_later hb3 d2
                 replace d3 := cell_later hb3 d3
                 replace hW := hW.trans (hb3.mono hW.size)
                 clear hb3 HP)
              | (go_at_call 14
                 refine (HQ _).mono ?_
                 rintro e w3 ⟨rfl, hb3⟩
                 repeat (replace hb3 := undrewB hb3)
                 replace d0 := cell_later hb3 d0
                 replace d1 := cell_later hb3 d1
                 replace d2 := cell_later hb3 d2
                 replace d3 := cell_later hb3 d3
                 replace hW := hW.trans (hb3.mono hW.size)
                 clear hb3 HQ))
          all_goals
            go_wp2
            go_meet
            exact ⟨by simp, hW⟩
        case rest =>
          obtain ⟨rfl, hW⟩ := hcut
          go_wp2
          go_roundw
          case rel => exact ⟨k + 1, by omega, by go_num, hW⟩
          case measure => simp [intOf]; omega
      have hz : tf k < -300 ∨ (¬ tf k < -300 ∧ 300 < tf k) ∨ (¬ tf k < -300 ∧ ¬ 300 < tf k ∧ tm k < -300) ∨ (¬ tf k < -300 ∧ ¬ 300 < tf k ∧ ¬ tm k < -300 ∧ 300 < tm k) ∨
          (¬ tf k < -300 ∧ ¬ 300 < tf k ∧ ¬ tm k < -300 ∧ ¬ 300 < tm k ∧ tf (k + 1) < -300) ∨ (¬ tf k < -300 ∧ ¬ 300 < tf k ∧ ¬ tm k < -300 ∧ ¬ 300 < tm k ∧ ¬ tf (k + 1) < -300 ∧ 300 < tf (k + 1)) ∨
          (¬ tf k < -300 ∧ ¬ 300 < tf k ∧ ¬ tm k < -300 ∧ ¬ 300 < tm k ∧ ¬ tf (k + 1) < -300 ∧ ¬ 300 < tf (k + 1) ∧ tm (k + 1) < -300) ∨ (¬ tf k < -300 ∧ ¬ 300 < tf k ∧ ¬ tm k < -300 ∧ ¬ 300 < tm k ∧ ¬ tf (k + 1) < -300 ∧ ¬ 300 < tf (k + 1) ∧ ¬ tm (k + 1) < -300 ∧ 300 < tm (k + 1)) := by omega
      clear hin
      go_upto_region 9 with fail
      go_cut [81] from 44 to 81 (fun v wc => v = .bool true ∧ Below w.heap.size w wc)
      case first =>
        rcases hz with z1 | ⟨z1, z2⟩ | ⟨z1, z2, z3⟩ | ⟨z1, z2, z3, z4⟩ | ⟨z1, z2, z3, z4, z5⟩ | ⟨z1, z2, z3, z4, z5, z6⟩ | ⟨z1, z2, z3, z4, z5, z6, z7⟩ | ⟨z1, z2, z3, z4, z5, z6, z7, z8⟩
        all_goals
          go_wp2
          go_meet
          exact ⟨rfl, hx _ _⟩
      clear hb hz p0 p1 r0 r1
      obtain ⟨rfl, hb⟩ := hcut
      go_wp2
    case' neg => go_wp2
    all_goals
      clear hx hlt
      go_loopw [9] (fun x wr' => ∃ i : Nat, i ≤ n ∧ x = .int .i64 i ∧ Below w.heap.size w wr') (fun x _ => n - (intOf x).toNat)
      case atStart => exact ⟨0, Nat.zero_le _, rfl, hb⟩
      case round =>
        clear hb
        obtain ⟨i, hi, rfl, hb⟩ := hrel
        by_cases hli : i < n
        · have hr' := hr.later hb
          rcases hr' with h0 | ⟨bs, os, rfl, hcs⟩
          · omega
          have s0 := hcs i hli
          clear hcs
          by_cases y0 : 0 ≤ sz i
          · have y0' : decide (0 ≤ sz i) = true := decide_eq_true y0
            by_cases y1 : sz i ≤ 1000
            · have y1' : decide (sz i ≤ 1000) = true := decide_eq_true y1
              have HR := fun (w : World) => (round_any (sz i) w y0 y1).mono (fun e w' (h : _ ∧ w = w') => (⟨h.1, h.2.symm⟩ : _ ∧ w' = w))
              have HP := fun (w : World) => (pages_any (sz i) w y0 y1).mono (fun e w' (h : _ ∧ w = w') => (⟨h.1, h.2.symm⟩ : _ ∧ w' = w))
              go_wp2
              go_quiet ((first | (go_at_call 15; exact Calls.quiet_of_same (HR _)) | (go_at_call 16; exact Calls.quiet_of_same (HP _))))
              go_wp2
              go_roundw
              case rel => exact ⟨i + 1, by omega, by go_num, below_drewN hb _⟩
              case measure => simp [intOf]; omega
            · have y1' : decide (sz i ≤ 1000) = false := decide_eq_false y1
              go_wp2
              go_quiet (fail)
              go_wp2
              go_roundw
              case rel => exact ⟨i + 1, by omega, by go_num, below_drewN hb _⟩
              case measure => simp [intOf]; omega
          · have y0' : decide (0 ≤ sz i) = false := decide_eq_false y0
            go_wp2
            go_quiet (fail)
            go_wp2
            go_roundw
            case rel => exact ⟨i + 1, by omega, by go_num, below_drewN hb _⟩
            case measure => simp [intOf]; omega
        · have HB := bases_any sz tf tm a _ n c nt c' wr (by unfold maxLen; omega) (by unfold maxLen; omega) (hr.later hb) (ht.later hb)
          go_wp2_with fail
          refine HB.mono ?_
          rintro e w3 ⟨he, hb3⟩
          have hb4 := hb.trans (hb3.mono hb.size)
          clear HB hb hb3
          have HQ := refBases_any sz tf tm a _ n c nt c' w3 (by unfold maxLen; omega) (by unfold maxLen; omega) (hr.later hb4) (ht.later hb4)
          cases he with
          | bad f b hf h =>
            go_wp2_with fail
            refine HQ.mono ?_
            rintro e w4 ⟨he2, hb5⟩
            have hb6 := hb4.trans (hb5.mono hb4.size)
            clear HQ hr ht hb4
            cases he2 with
            | bad f2 b2 hf2 h2 =>
              obtain ⟨rfl, _⟩ := h.unique h2
              have HE := fun (w : World) => same_errV f f w
              rw [decide_eq_true (rfl : f = f)] at HE
              have HZ := fun (w : World) => sameNumbers_zero none none 0 0 w
              clear h h2 hf hf2
              go_wp2_with fail
              refine (HE _).mono ?_
              rintro e w' ⟨rfl, rfl⟩
              go_wp2_with fail
              refine (HZ _).mono ?_
              rintro e w' ⟨rfl, kq, rfl⟩
              clear HE HZ
              go_wp2
              go_ret
              exact ⟨rfl, below_drewN hb6 _⟩
            | ok b2 v2 h2 hv2 => exact absurd (h.unique h2).1 hf
          | ok b v h hv =>
            go_wp2_with fail
            refine HQ.mono ?_
            rintro e w4 ⟨he2, hb5⟩
            have hb6 := hb4.trans (hb5.mono hb4.size)
            clear HQ hr ht hb4
            cases he2 with
            | bad f2 b2 hf2 h2 => exact absurd (h2.unique h).1 hf2
            | ok b2 v2 h2 hv2 =>
              have e := (h.unique h2).2 rfl
              obtain ⟨a3, c3, rfl, _, hr3⟩ := rows_int (owns_below hv hb5)
              obtain ⟨a4, c4, rfl, _, hr4⟩ := rows_int hv2
              have HE := fun (w : World) => same_errV 0 0 w
              rw [decide_eq_true (rfl : (0 : Nat) = 0)] at HE
              simp only [errV] at HE
              have HZ := sameNumbers_any b b2 n n a3 a4 c3 c4 w4 (by omega) hr3 hr4
              have ee : (decide (n = n) && eqTo b b2 n) = true := by rw [decide_eq_true rfl, Bool.true_and, eqTo_iff]; exact e
              rw [ee] at HZ
              clear h h2 hv hv2 hr3 hr4 e ee
              go_wp2_with fail
              refine (HE _).mono ?_
              rintro e w' ⟨rfl, rfl⟩
              go_wp2_with fail
              refine HZ.mono ?_
              rintro e w' ⟨rfl, kq, rfl⟩
              clear HE HZ
              go_wp2
              go_ret
              exact ⟨rfl, below_drewN hb6 _⟩
end Go.Proofs.Ytnbmnljknfgafab
