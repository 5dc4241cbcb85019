/-
  What Round, Apart, inWindow and check of package place return, for every argument that is asked of them; memory that was there stays as it was.
-/
import Derived.Test.YtidabcoodolddaaGreatDoorErr
import Derived.Test.YtidabcoodolddaaGreatDoorAtAll
import Derived.Test.YtidabcoodolddaaGreatDoorPlain
namespace Go.Proofs.YtidabcoodolddaaGreatDoor
open Go.RowKit

/-- the n ranges behind 'a'. -/
def RngRow (w : World) (a : Option Addr) (n : Nat) (f m : Nat → Int) : Prop :=
  n = 0 ∨ ∃ bk o, a = some ⟨bk, o, none⟩ ∧ ∀ i, i < n → w.cell? ⟨bk, o + i * 2, none⟩ = some (.int .i64 (f i)) ∧ w.cell? ⟨bk, o + i * 2 + 1, none⟩ = some (.int .i64 (m i))
theorem RngRow.later {w w' : World} {a : Option Addr} {n : Nat} {f m : Nat → Int} (h : RngRow w a n f m) (hb : Below w.heap.size w w') : RngRow w' a n f m := by
  rcases h with h | ⟨bk, o, ha, hc⟩
  · exact .inl h
  · exact .inr ⟨bk, o, ha, fun i hi => ⟨cell_later hb (hc i hi).1, cell_later hb (hc i hi).2⟩⟩

theorem round_any (n : Int) (w : World) (h0 : 0 ≤ n) (h1 : n ≤ 1000) : Calls Tryz.prog 77 #[.int .i64 n] w fun e w' => e = .returned (.int .i64 (roundF n)) ∧ w = w' := by
  go_enter Tryz.func77, Tryz.ntmps77
  go_wp2
  go_ret
  exact ⟨ret_int (by unfold roundF; omega), rfl⟩

set_option maxHeartbeats 1000000 in
theorem apart_any (x m y k : Int) (w : World) (hx : -1000 ≤ x ∧ x ≤ 1000) (hm : -1000 ≤ m ∧ m ≤ 1000) (hy : -1000 ≤ y ∧ y ≤ 1000) (hk : -1000 ≤ k ∧ k ≤ 1000) :
    Calls Tryz.prog 108 #[.agg #[.int .i64 x, .int .i64 m], .agg #[.int .i64 y, .int .i64 k]] w fun e w' => e = .returned (.bool (apartB x m y k)) ∧ Below w.heap.size w w' := by
  obtain ⟨x0, x1⟩ := hx
  obtain ⟨y0, y1⟩ := hy
  obtain ⟨m0, m1⟩ := hm
  obtain ⟨k0, k1⟩ := hk
  have hb : ∀ o1 o2 : Obj, Below w.heap.size w ((w.alloc o1).alloc o2) := fun o1 o2 => ((Below.refl _ _).alloc (Nat.le_refl _) o1).alloc (by simp) o2
  by_cases h1 : m ≤ 0
  · have HE : Hid (true = apartB x m y k) := by unfold Hid apartB; rw [eq_comm, decide_eq_true_eq]; omega
    go_enter Tryz.func108, Tryz.ntmps108
    go_wp2
    go_ret
    exact ⟨ret_bool HE.out, hb _ _⟩
  · by_cases h2 : k ≤ 0
    · have HE : Hid (true = apartB x m y k) := by unfold Hid apartB; rw [eq_comm, decide_eq_true_eq]; omega
      go_enter Tryz.func108, Tryz.ntmps108
      go_wp2
      go_ret
      exact ⟨ret_bool HE.out, hb _ _⟩
    · by_cases h3 : y < x
      · have HE : Hid (decide (k ≤ x - y) = apartB x m y k) := by unfold Hid apartB; rw [Bool.eq_iff_iff]; simp only [decide_eq_true_eq]; omega
        go_enter Tryz.func108, Tryz.ntmps108
        go_wp2
        go_ret
        exact ⟨ret_bool HE.out, hb _ _⟩
      · have HE : Hid (decide (m ≤ y - x) = apartB x m y k) := by unfold Hid apartB; rw [Bool.eq_iff_iff]; simp only [decide_eq_true_eq]; omega
        go_enter Tryz.func108, Tryz.ntmps108
        go_wp2
        go_ret
        exact ⟨ret_bool HE.out, hb _ _⟩

theorem inWindow_any (n : Int) (w : World) : Calls Tryz.prog 106 #[.int .i64 n] w fun e w' => e = .returned (.bool (decide (0 ≤ n) && decide (n ≤ 256))) ∧ w = w' := by
  by_cases h1 : 0 ≤ n
  all_goals by_cases h2 : n ≤ 256
  all_goals
    go_enter Tryz.func106, Tryz.ntmps106
    go_wp2
    go_ret
    exact ⟨ret_bool (by simp <;> omega), rfl⟩

set_option maxHeartbeats 2000000 in
theorem placeCheck_any (sz tf tm : Nat → Int) (a a' : Option Addr) (ns c nt c' : Nat) (w : World) (hn : ns ≤ maxLen) (hn' : nt ≤ maxLen) (hr : RowAt w a ns fun i => .int .i64 (sz i)) (ht : RngRow w a' nt tf tm) :
    Calls Tryz.prog 74 #[.slice a ns c, .slice a' nt c'] w fun e w' => e = .returned (errV (placeF ns sz nt tf tm)) ∧ Below w.heap.size w w' := by
  unfold maxLen at hn hn'
  generalize hF : placeF ns sz nt tf tm = F
  unfold placeF at hF
  by_cases h1 : 6 < ns ∨ 20 < nt
  · rw [if_pos h1] at hF
    subst hF
    by_cases g1 : (6 : Int) < (ns : Int)
    · clear h1
      go_enter Tryz.func74, Tryz.ntmps74
      go_wp2
      go_ret
      exact ⟨rfl, Below.refl _ _⟩
    · have g2 : (20 : Int) < (nt : Int) := by omega
      clear h1
      go_enter Tryz.func74, Tryz.ntmps74
      go_wp2
      go_ret
      exact ⟨rfl, Below.refl _ _⟩
  · rw [if_neg h1] at hF
    have HF : Hid ((if anyTo (fun i => decide (sz i < 1 ∨ 40 < sz i)) ns = true then 1 else if anyTo (fun i => decide (tf i < 0 ∨ 256 < tf i ∨ tm i < 0 ∨ 256 < tm i)) nt = true then 1 else 0) = F) := hF
    have g1 : ¬ (6 : Int) < (ns : Int) := by omega
    have g2 : ¬ (20 : Int) < (nt : Int) := by omega
    clear hF h1
    go_enter Tryz.func74, Tryz.ntmps74
    go_wp2
    go_loopw [20] (fun x wr => ∃ k : Nat, k ≤ ns ∧ x = .int .i64 k ∧ wr = w ∧ Hid (anyTo (fun i => decide (sz i < 1 ∨ 40 < sz i)) k = false)) (fun x _ => ns - (intOf x).toNat)
    case atStart => exact ⟨0, Nat.zero_le _, rfl, rfl, rfl⟩
    case round =>
      obtain ⟨k, hk, rfl, hw, HK⟩ := hrel
      replace hw := hw.symm
      subst hw
      by_cases hlt : k < ns
      · rcases hr with h0 | ⟨b, o, rfl, hc⟩
        · omega
        have hck := hc k hlt
        clear hc
        by_cases hz : sz k < 1 ∨ 40 < sz k
        · have HE : Hid (F = 1) := by
            show F = 1
            rw [← HF.out, if_pos (anyTo_yes hlt (decide_eq_true hz))]
          by_cases hz1 : sz k < 1
          · clear hz
            go_wp2
            go_ret
            rw [HE.out]
            exact ⟨rfl, Below.refl _ _⟩
          · have hz2 : 40 < sz k := by omega
            clear hz
            go_wp2
            go_ret
            rw [HE.out]
            exact ⟨rfl, Below.refl _ _⟩
        · have HE : Hid (anyTo (fun i => decide (sz i < 1 ∨ 40 < sz i)) (k + 1) = false) := anyTo_no HK.out (decide_eq_false hz)
          have hz1 : ¬ sz k < 1 := by omega
          have hz2 : ¬ 40 < sz k := by omega
          clear hz
          go_wp2
          go_roundw
          case rel => exact ⟨k + 1, by omega, by go_num, trivial, HE⟩
          case measure => simp [intOf]; omega
      · have e : k = ns := by omega
        have HG : Hid ((if anyTo (fun i => decide (tf i < 0 ∨ 256 < tf i ∨ tm i < 0 ∨ 256 < tm i)) nt = true then 1 else 0) = F) := by
          have hq : ¬ anyTo (fun i => decide (sz i < 1 ∨ 40 < sz i)) ns = true := by rw [← e, HK.out]; decide
          have := HF.out
          rw [if_neg hq] at this
          exact this
        clear HF HK
        subst e
        go_wp2
        go_loopw [34] (fun x wr => ∃ k : Nat, k ≤ nt ∧ x = .int .i64 k ∧ Below w.heap.size w wr ∧ Hid (anyTo (fun i => decide (tf i < 0 ∨ 256 < tf i ∨ tm i < 0 ∨ 256 < tm i)) k = false)) (fun x _ => nt - (intOf x).toNat)
        case atStart => exact ⟨0, Nat.zero_le _, rfl, Below.refl _ _, rfl⟩
        case round =>
          obtain ⟨j, hj, rfl, hb, HK⟩ := hrel
          by_cases hlt : j < nt
          · rcases ht with h0 | ⟨b, o, rfl, hc⟩
            · omega
            have hc0 := cell_later hb (hc j hlt).1
            have hc1 := cell_later hb (hc j hlt).2
            have hx : ∀ ob : Obj, Below w.heap.size w (wr.alloc ob) := fun ob => hb.alloc hb.size ob
            have HA := fun (w : World) => inWindow_any (tf j) w
            have HB := fun (w : World) => inWindow_any (tm j) w
            clear hc hr
            by_cases hz : tf j < 0 ∨ 256 < tf j ∨ tm j < 0 ∨ 256 < tm j
            · have HE : Hid (F = 1) := by
                show F = 1
                rw [← HG.out, if_pos (anyTo_yes hlt (decide_eq_true hz))]
              by_cases hz1 : tf j < 0 ∨ 256 < tf j
              · have e1 : (decide (0 ≤ tf j) && decide (tf j ≤ 256)) = false := by rw [Bool.and_eq_false_iff]; simp; omega
                rw [e1] at HA
                clear hz hz1 e1
                go_wp2_with fail
                refine (HA _).mono ?_
                rintro e w' ⟨rfl, rfl⟩
                go_wp2
                go_ret
                rw [HE.out]
                exact ⟨rfl, hx _⟩
              · have e1 : (decide (0 ≤ tf j) && decide (tf j ≤ 256)) = true := by simp; omega
                have e2 : (decide (0 ≤ tm j) && decide (tm j ≤ 256)) = false := by rw [Bool.and_eq_false_iff]; simp; omega
                rw [e1] at HA
                rw [e2] at HB
                clear hz hz1 e1 e2
                go_wp2_with fail
                refine (HA _).mono ?_
                rintro e w' ⟨rfl, rfl⟩
                go_wp2_with fail
                refine (HB _).mono ?_
                rintro e w' ⟨rfl, rfl⟩
                go_wp2
                go_ret
                rw [HE.out]
                exact ⟨rfl, hx _⟩
            · have HE : Hid (anyTo (fun i => decide (tf i < 0 ∨ 256 < tf i ∨ tm i < 0 ∨ 256 < tm i)) (j + 1) = false) := anyTo_no HK.out (decide_eq_false hz)
              have e1 : (decide (0 ≤ tf j) && decide (tf j ≤ 256)) = true := by simp; omega
              have e2 : (decide (0 ≤ tm j) && decide (tm j ≤ 256)) = true := by simp; omega
              rw [e1] at HA
              rw [e2] at HB
              clear hz e1 e2
              go_wp2_with fail
              refine (HA _).mono ?_
              rintro e w' ⟨rfl, rfl⟩
              go_wp2_with fail
              refine (HB _).mono ?_
              rintro e w' ⟨rfl, rfl⟩
              go_wp2
              go_roundw
              case rel => exact ⟨j + 1, by omega, by go_num, hx _, HE⟩
              case measure => simp [intOf]; omega
          · have e : j = nt := by omega
            have HE : Hid (F = 0) := by
              show F = 0
              rw [← HG.out, if_neg]
              rw [← e, HK.out]; decide
            go_wp2
            go_ret
            rw [HE.out]
            exact ⟨rfl, hb⟩
end Go.Proofs.YtidabcoodolddaaGreatDoor
