/-
  The law TopPatch returns true, for every list of lists of numbers and every list of patches; memory that was there stays as it was.
-/
import Derived.Test.YtnbmnljknfgafabPutAll
import Derived.Test.YtnbmnljknfgafabSameNumbers
namespace Go.Proofs.Ytnbmnljknfgafab
open Go.RowKit

/-- the world of the closed fact. -/
abbrev patW (w : World) : World :=
  ((w.alloc (.cells #[.int .i64 1, .int .i64 2] 3)).alloc (.cells #[.slice (some ⟨w.heap.size, 0, none⟩) 2 2] 24)).alloc (.cells #[.int .i64 0, .int .i64 1, .int .i64 5] 62)
theorem closed_put (w : World) : Calls Try.prog 26 #[.slice (some ⟨w.heap.size + 1, 0, none⟩) 1 1, .slice (some ⟨w.heap.size + 1 + 1, 0, none⟩) 1 1] (patW w)
    fun e w' => (∃ (g : Nat) (a : Option Addr) (c : Nat), e = .returned (.tuple #[.slice (some ⟨g, 0, none⟩) 1 1, .nilIface]) ∧ w'.cell? ⟨g, 0, none⟩ = some (.slice a 2 c) ∧ RowAt w' a 2 fun i => .int .i64 (if i = 0 then 1 else 5)) ∧ Below w.heap.size w w' := by
  have hb : Below w.heap.size w (patW w) := (((Below.refl _ _).alloc (Nat.le_refl _) _).alloc (by simp) _).alloc (by simp; omega) _
  refine (put_any _ _ 1 1 1 1 (fun _ => some ⟨w.heap.size, 0, none⟩) (fun _ => 2) (fun _ => 2) (fun _ j => if j = 0 then 1 else 2) (fun _ => 0) (fun _ => 1) (fun _ => 5) _ (by decide) (fun _ _ => by decide) (by decide) ?_ ?_).mono ?_
  · refine .inr ⟨_, _, rfl, fun i hi => ⟨?_, .inr ⟨_, _, rfl, fun j hj => ?_⟩⟩⟩
    · have : i = 0 := by omega
      subst this
      simp [go_sem]
    · have hj2 : j < 2 := hj
      have : j = 0 ∨ j = 1 := by omega
      rcases this with rfl | rfl
      · simp [go_sem]
      · simp [go_sem]
  · refine .inr ⟨_, _, rfl, fun i hi => ?_⟩
    have : i = 0 := by omega
    subst this
    simp [go_sem]
  · rintro e w' ⟨he, hb'⟩
    refine ⟨?_, hb.trans (hb'.mono hb.size)⟩
    cases he with
    | bad h =>
      obtain ⟨k, hk, e⟩ := h
      simp [patOk, isPlaceF] at e
    | ok g A C G h ho =>
      have hadr := ho.adr 0 (by decide) (by decide)
      refine ⟨g, A 0, C 0, rfl, ho.top 0 (by decide), .inr ⟨G 0, 0, hadr, fun i hi => ?_⟩⟩
      have hi' : i = 0 ∨ i = 1 := by omega
      have := ho.row 0 (by decide) i hi
      rcases hi' with rfl | rfl
      · simpa [putF] using this
      · simpa [putF] using this

theorem same15 (a1 a2 : Option Addr) (c1 c2 : Nat) (w : World) (hr1 : RowAt w a1 2 fun i => .int .i64 (if i = 0 then 1 else 5)) (hr2 : RowAt w a2 2 fun i => .int .i64 (if i = 0 then 1 else 5)) :
    Calls Try.prog 20 #[.slice a1 2 c1, .slice a2 2 c2] w fun e w' => e = .returned (.bool true) ∧ ∃ k, w' = w.drewN k := by
  refine (sameNumbers_any (fun i => if i = 0 then 1 else 5) (fun i => if i = 0 then 1 else 5) 2 2 a1 a2 c1 c2 w (by decide) hr1 hr2).mono ?_
  rintro e w' ⟨rfl, hw⟩
  exact ⟨bool_ret (by decide), hw⟩

set_option maxRecDepth 100000 in
set_option maxHeartbeats 8000000 in
theorem topPatch_walk (a a' : Option Addr) (n c np c' : Nat) (A : Nat → Option Addr) (M C : Nat → Nat) (X : Nat → Nat → Int) (p t v : Nat → Int) (w : World) (hn : n ≤ maxLen) (hM : ∀ i, i < n → M i ≤ maxLen) (hnp : np ≤ maxLen) (hr : ListsRow w a n A M C X) (hp : PatRow w a' np p t v) :
    Calls Try.prog 8 #[.slice a n c, .slice a' np c'] w fun e w' => e = .returned (.bool true) ∧ Below w.heap.size w w' := by
  unfold maxLen at hn hnp
  have HA := closed_put w
  go_enter Try.func8, Try.ntmps8
  go_wp2_with fail
  refine HA.mono ?_
  rintro e w1 ⟨⟨g1, a1, c1, rfl, hc1, hr1⟩, hb⟩
  have HS := fun (w : World) hr1 (a2 : Option Addr) hr2 => same15 a1 a2 c1 2 w hr1 hr2
  clear HA
  go_wp2_with fail
  refine (HS _ (hr1.later ((Below.refl _ _).alloc (Nat.le_refl _) _)) _ ?_).mono ?_
  · refine .inr ⟨_, _, rfl, fun j hj => ?_⟩
    have : j = 0 ∨ j = 1 := by omega
    rcases this with rfl | rfl
    · simp [go_sem]
    · simp [go_sem]
  rintro e w2 ⟨rfl, kq, hw2⟩
  have hbw : Below w.heap.size w w2 := by rw [hw2]; exact below_drewN (hb.alloc hb.size _) _
  clear HS hc1 hr1 hw2 hb
  by_cases h8 : (8 : Int) < (n : Int)
  · go_wp2
    go_ret
    exact ⟨rfl, hbw⟩
  by_cases h40 : (40 : Int) < (np : Int)
  · go_wp2
    go_ret
    exact ⟨rfl, hbw⟩
  go_wp2
  go_loopw [7] (fun x wr => ∃ k : Nat, k ≤ n ∧ x = .int .i64 k ∧ wr = w2 ∧ Hid (∀ i, i < k → M i ≤ 50)) (fun x _ => n - (intOf x).toNat)
  case atStart => exact ⟨0, Nat.zero_le _, rfl, rfl, fun i hi => by omega⟩
  case round =>
    obtain ⟨k, hk, rfl, hw, HM⟩ := hrel
    replace hw := hw.symm
    subst hw
    by_cases hlt : k < n
    · have hr1 := hr.later hbw
      rcases hr1 with h0 | ⟨bk, o, rfl, hc⟩
      · omega
      have hck := (hc k hlt).1
      have hMk := hM k hlt
      unfold maxLen at hMk
      clear hc
      by_cases h50 : (50 : Int) < (M k : Int)
      · go_wp2
        go_ret
        exact ⟨rfl, hbw⟩
      · have HM2 : Hid (∀ i, i < k + 1 → M i ≤ 50) := fun i hi => by
          by_cases e : i = k
          · subst e; omega
          · exact HM.out i (by omega)
        go_wp2
        go_roundw
        case rel => exact ⟨k + 1, by omega, by go_num, trivial, HM2⟩
        case measure => simp [intOf]; omega
    · have e : k = n := by omega
      subst e
      have hM5 := HM.out
      have HP := put_any a a' k c np c' A M C X p t v w2 (by omega) (fun i hi => by have := hM5 i hi; omega) (by omega) (hr.later hbw) (hp.later hbw)
      clear hM HM
      go_wp2_with fail
      refine HP.mono ?_
      rintro e w3 ⟨he, hb3⟩
      have hbw3 := hbw.trans (hb3.mono hbw.size)
      clear HP hb3 hbw
      cases he with
      | bad h =>
        clear h hr hp
        simp only [errV]
        go_wp2
        go_ret
        exact ⟨rfl, hbw3⟩
      | ok g A2 C2 G2 h ho =>
        have hr3 := hr.later hbw3
        have hp3 := hp.later hbw3
        clear hr hp h
        go_wp2
        go_loopw [8] (fun x wr => ∃ i j : Nat, i ≤ k ∧ x = .int .i64 i ∧ wr = w3.drewN j) (fun x _ => k - (intOf x).toNat)
        case atStart => exact ⟨0, 0, Nat.zero_le _, rfl, rfl⟩
        case round =>
          obtain ⟨i, j0, hi, rfl, rfl⟩ := hrel
          by_cases hlt : i < k
          · have hMi := hM5 i hlt
            go_wp2
            go_loopw [9] (fun x wr => ∃ q j : Nat, q ≤ M i ∧ x = .int .i64 q ∧ wr = w3.drewN j) (fun x _ => M i - (intOf x).toNat)
            case atStart => exact ⟨0, j0, Nat.zero_le _, rfl, rfl⟩
            case round =>
              obtain ⟨q, j1, hq, rfl, rfl⟩ := hrel
              have hr4 := hr3
              rcases hr4 with h0 | ⟨bk, o, rfl, hc⟩
              · omega
              have hck := (hc i hlt).1
              by_cases hlq : q < M i
              · rcases (hc i hlt).2 with h0 | ⟨bk2, o2, ha2, hc2⟩
                · omega
                rw [ha2] at hck
                have hcq := hc2 q hlq
                clear hc hc2
                go_wp2
                go_loopw [10, 11] (fun x y wr => ∃ m j : Nat, m ≤ np ∧ y = .int .i64 m ∧ x = .int .i64 (putF X p t v m i q) ∧ wr = w3.drewN j) (fun _ y _ => np - (intOf y).toNat)
                case atStart => exact ⟨0, j1, Nat.zero_le _, rfl, rfl, rfl⟩
                case round =>
                  clear hcq
                  obtain ⟨m, j2, hm, rfl, rfl, rfl⟩ := hrel
                  by_cases hlm : m < np
                  · have hp4 := hp3
                    rcases hp4 with h0 | ⟨bp, op, rfl, hcp⟩
                    · omega
                    obtain ⟨p0, p1, p2⟩ := hcp m hlm
                    clear hcp
                    by_cases e1 : p m = (i : Int)
                    · have e1' : (p m == (i : Int)) = true := by simp [e1]
                      by_cases e2 : t m = (q : Int)
                      · have e2' : (t m == (q : Int)) = true := by simp [e2]
                        have HF : Hid (putF X p t v (m + 1) i q = v m) := if_pos ⟨e1, e2⟩
                        clear e1 e2
                        go_wp2
                        go_roundw
                        case rel => exact ⟨m + 1, j2, by omega, by go_num, by rw [HF.out], rfl⟩
                        case measure => simp [intOf]; omega
                      · have e2' : (t m == (q : Int)) = false := by rw [beq_eq_false_iff_ne]; exact e2
                        have HF : Hid (putF X p t v (m + 1) i q = putF X p t v m i q) := if_neg (fun h => e2 h.2)
                        clear e1 e2
                        go_wp2
                        go_roundw
                        case rel => exact ⟨m + 1, j2, by omega, by go_num, by rw [HF.out], rfl⟩
                        case measure => simp [intOf]; omega
                    · have e1' : (p m == (i : Int)) = false := by rw [beq_eq_false_iff_ne]; exact e1
                      have HF : Hid (putF X p t v (m + 1) i q = putF X p t v m i q) := if_neg (fun h => e1 h.1)
                      clear e1
                      go_wp2
                      go_roundw
                      case rel => exact ⟨m + 1, j2, by omega, by go_num, by rw [HF.out], rfl⟩
                      case measure => simp [intOf]; omega
                  · have e : m = np := by omega
                    subst e
                    have ht := ho.top i hlt
                    rw [ho.adr i hlt (by omega)] at ht
                    have hrw := ho.row i hlt q hlq
                    generalize putF X p t v m i q = z at *
                    go_wp2
                    go_quiet (fail)
                    go_wp2
                    go_roundw
                    case rel => exact ⟨q + 1, j2 + nq, by omega, by go_num, rfl⟩
                    case measure => simp [intOf]; omega
              · have e : q = M i := by omega
                subst e
                clear hc
                go_wp2
                go_roundw
                case rel => exact ⟨i + 1, j1, by omega, by go_num, rfl⟩
                case measure => simp [intOf]; omega
          · go_wp2
            go_ret
            exact ⟨rfl, below_drewN hbw3 _⟩
end Go.Proofs.Ytnbmnljknfgafab
