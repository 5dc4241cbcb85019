/-
  The law TopOnce returns true, for every row of acts, every root and every place; memory that was there stays as it was.
-/
import Derived.Test.YtanfejgcjifhpabGreatDoorBoundFact
import Derived.Test.YtanfejgcjifhpabGreatDoorPlainOnce
import Derived.Test.YtanfejgcjifhpabGreatDoorImageAt
import Derived.Test.YtanfejgcjifhpabGreatDoorActsAt
import Derived.Deep.QuietTactic
import Derived.BigQuiet
namespace Go.Proofs.YtanfejgcjifhpabGreatDoor
open Go.RowKit Go.Maps

set_option maxRecDepth 100000 in
set_option maxHeartbeats 8000000 in
theorem topOnce_walk (a : Option Addr) (n c : Nat) (X : Nat → ActF) (root : ByteArray) (at' : Int) (w : World) (hE : Env w) (hr : ActsRow w a n X) (hf : ∀ i, i < n → ActFit (X i)) (hlo : -9223372036854775808 ≤ at') (hhi : at' ≤ 9223372036854775807) :
    Calls Tryz.prog 7 #[.slice a n c, .string root, .int .i64 at'] w fun e w' => e = .returned (.bool true) ∧ Below w.heap.size w w' := by
  have HBd := bound_any w hE
  go_enter Tryz.func7, Tryz.ntmps7
  go_wp2_with fail
  refine HBd.mono ?_
  rintro e w4 ⟨rfl, hb4⟩
  clear HBd
  have HL := lightActs_any a n c 30 X w4 (by decide) (hr.later hb4) hf
  clear hf
  go_wp2_with fail
  refine HL.mono ?_
  rintro e w5 ⟨⟨b, rfl, hl⟩, hb5⟩
  have hb6 := hb4.trans (hb5.mono hb4.size)
  clear HL hb5 hb4
  cases b with
  | false =>
    clear hl hr
    go_wp2
    go_ret
    exact ⟨rfl, hb6⟩
  | true =>
    obtain ⟨h30, hsz⟩ := hl rfl
    clear hl
    by_cases hs : (20 : Int) < (root.size : Int)
    · go_wp2
      go_ret
      exact ⟨rfl, hb6⟩
    have hroot : root.size ≤ maxLen := by simp only [maxLen]; omega
    have HN := new_any w5
    go_wp2_with fail
    refine HN.mono ?_
    rintro e w6 ⟨p, bm, rfl, hp, hbm, hF, hb7⟩
    have hb8 := hb6.trans (hb7.mono hb6.size)
    have HD := done_any w6 p bm (.map []) 0 a n c X w.heap.size hF Inv.empty hb8.size (Nat.le_trans hb6.size hp) (Nat.le_trans hb6.size hbm) (by omega) (fun W hW => hr.later (hb8.trans hW)) hsz
    clear HN
    go_wp2_with fail
    refine HD.mono ?_
    rintro e w7 ⟨rfl, hF7, hT7⟩
    have hb9 := hb8.trans (hT7.below hb8.size (Nat.le_trans hb6.size hp) (Nat.le_trans hb6.size hbm))
    have hI7 := doneD_inv (X := X) (q := (.map [], 0)) Inv.empty n
    generalize (doneD (.map [], 0) X n).1 = D at *
    generalize (doneD (.map [], 0) X n).2 = k at *
    obtain ⟨T, hT⟩ := texts_some D
    have HO := load_any w7 p bm D k T root hF7 hI7.1 hT (hE.later hb9) hroot
    have hfew := rd_few (T := T) hI7.1
    clear HD hF hb7 hb8 hb6 hT7 hr hsz hp hbm hF7 hT hI7 hE h30
    go_wp2_with fail
    refine HO.mono ?_
    rintro e w8 ⟨he, hbA⟩
    have hbB := hb9.trans (hbA.mono hb9.size)
    clear HO hb9 hbA
    cases he with
    | bad F h hf =>
      obtain ⟨z, hz⟩ := errV_pos hf
      rw [hz]
      clear hz h hf hfew
      go_wp2
      go_ret
      exact ⟨rfl, hbB⟩
    | ok m B P Q u g A C G h hu =>
      obtain ⟨hS, _, _⟩ := scope_of h.of hfew
      have hm6 := hS.few
      have hbs := h.bases
      obtain ⟨hs1, hs2, _⟩ := bases_apart hbs
      obtain ⟨au, cu, rfl, _, hrow⟩ := parts_row hu
      have hB : ∀ i, i < m → 0 ≤ B i ∧ B i ≤ 256 := fun i hi => by have := hs1 i hi; have := hs2 i hi; omega
      have hM : ∀ i, i < m → (obAt (rdD D T) root i).nW ≤ 1000 := fun i hi => by have : ((obAt (rdD D T) root i).nW : Int) ≤ 40 := (hs1 i hi).2; omega
      have honce : ∀ i j, i < m → j < m → hasB B (fun i => (obAt (rdD D T) root i).nW) at' i = true → hasB B (fun i => (obAt (rdD D T) root i).nW) at' j = true → i = j := fun i j hi hj h1 h2 => has_once hbs hi hj h1 h2
      generalize boundW (rdD D T) root m B P Q = Y at *
      generalize nmAt (rdD D T) root = nm at *
      obtain ⟨M, hMe⟩ : ∃ M : Nat → Nat, M = fun i => (obAt (rdD D T) root i).nW := ⟨_, rfl⟩
      replace hM : ∀ i, i < m → M i ≤ 1000 := fun i hi => by rw [hMe]; exact hM i hi
      rw [← hMe] at honce hrow
      have HA := at_any au m cu nm B A M C Y at' w8 (by omega) hB hM hhi hrow
      clear hS hbs hs1 hs2 hu h hfew hMe
      go_wp2_with fail
      refine HA.mono ?_
      rintro e w9 ⟨he, hbC⟩
      have hbD := hbB.trans (hbC.mono hbB.size)
      have hrow9 := hrow.later hbC
      clear HA hrow hbC hbB
      cases he with
      | yes i0 hi0 hh0 hf0 =>
        have HU : Hid (∀ k, k < m → hasB B M at' k = true → k = i0) := fun k hk hh => honce k i0 hk hi0 hh hh0
        have HT : Hid (cntTo (hasB B M at') m = 1) := (cntTo_one hh0 (fun j hj hh => honce j i0 hj hi0 hh hh0)).trans (if_pos hi0)
        clear honce hf0
        go_wp2
        go_loopw [13, 14] (fun x y wr => ∃ k j : Nat, k ≤ m ∧ y = .int .i64 k ∧ x = .int .i64 ((cntTo (hasB B M at') k : Nat) : Int) ∧ cntTo (hasB B M at') k ≤ k ∧ wr = w9.drewN j) (fun _ y _ => m - (intOf y).toNat)
        case atStart => exact ⟨0, 0, Nat.zero_le _, rfl, rfl, Nat.zero_le _, rfl⟩
        case round =>
          obtain ⟨k, j, hk, rfl, rfl, hck, rfl⟩ := hrel
          by_cases hlt : k < m
          · rcases hrow9 with h0 | ⟨bk, o, rfl, hc⟩
            · omega
            obtain ⟨c0, c1, c2, hrw⟩ := hc k hlt
            have hBk := hB k hlt
            have hMk := hM k hlt
            clear hc
            by_cases h1 : B k ≤ at'
            · obtain ⟨d, hd⟩ : ∃ d : Nat, at' = B k + d := ⟨(at' - B k).toNat, by omega⟩
              have hsub : at' - B k = (d : Int) := by omega
              have hdm : (d : Int) ≤ 9223372036854775807 := by omega
              by_cases h2 : d < M k
              · have hh : hasB B M at' k = true := by unfold hasB; rw [decide_eq_true (by omega), decide_eq_true (by omega)]; rfl
                have HC1 : Hid (cntTo (hasB B M at') (k + 1) = cntTo (hasB B M at') k + 1) := by show _ = _; simp only [cntTo]; rw [if_pos hh]
                obtain rfl := HU.out k hlt hh
                have HY : Hid ((at' - B k).toNat = d) := by show _ = _; omega
                rw [HY.out]
                rcases hrw with h0 | ⟨bw, ow, ha, hcw⟩
                · omega
                rw [ha] at c2
                have hcd := hcw d h2
                have h2' : (d : Int) < (M k : Int) := by omega
                clear hcw hd HU hh hh0
                generalize hcn : cntTo (hasB B M at') k = cn at *
                go_wp2
                go_quiet (fail)
                go_wp2
                go_quiet (fail)
                go_wp2
                go_roundw
                case rel => exact ⟨k + 1, _, by omega, by go_num, by rw [HC1.out]; go_num, by rw [HC1.out]; omega, rfl⟩
                case measure => simp [intOf]; omega
              · have hh : hasB B M at' k = false := by unfold hasB; rw [decide_eq_false (p := at' < B k + M k) (by omega), Bool.and_false]
                have HC1 : Hid (cntTo (hasB B M at') (k + 1) = cntTo (hasB B M at') k) := by show _ = _; simp only [cntTo]; rw [hh]; rfl
                have h2' : ¬ (d : Int) < (M k : Int) := by omega
                clear hd hh
                generalize hcn : cntTo (hasB B M at') k = cn at *
                go_wp2
                go_quiet (fail)
                go_wp2
                go_roundw
                case rel => exact ⟨k + 1, _, by omega, by go_num, by rw [HC1.out], by rw [HC1.out]; omega, rfl⟩
                case measure => simp [intOf]; omega
            · have h1d : decide (B k ≤ at') = false := decide_eq_false h1
              have hh : hasB B M at' k = false := by unfold hasB; rw [h1d, Bool.false_and]
              have HC1 : Hid (cntTo (hasB B M at') (k + 1) = cntTo (hasB B M at') k) := by show _ = _; simp only [cntTo]; rw [hh]; rfl
              clear hh
              generalize hcn : cntTo (hasB B M at') k = cn at *
              go_wp2
              go_quiet (fail)
              go_wp2
              go_roundw
              case rel => exact ⟨k + 1, _, by omega, by go_num, by rw [HC1.out], by rw [HC1.out]; omega, rfl⟩
              case measure => simp [intOf]; omega
          · have e : k = m := by omega
            subst e
            rw [HT.out]
            go_wp2
            go_ret
            exact ⟨rfl, below_drewN hbD _⟩
      | no hno =>
        clear honce
        go_wp2
        go_loopw [13, 14] (fun x y wr => ∃ k j : Nat, k ≤ m ∧ y = .int .i64 k ∧ x = .int .i64 0 ∧ wr = w9.drewN j) (fun _ y _ => m - (intOf y).toNat)
        case atStart => exact ⟨0, 0, Nat.zero_le _, rfl, rfl, rfl⟩
        case round =>
          obtain ⟨k, j, hk, rfl, rfl, rfl⟩ := hrel
          by_cases hlt : k < m
          · rcases hrow9 with h0 | ⟨bk, o, rfl, hc⟩
            · omega
            obtain ⟨c0, c1, c2, hrw⟩ := hc k hlt
            have hBk := hB k hlt
            have hMk := hM k hlt
            have hh := hno k hlt
            clear hc hno hrw
            by_cases h1 : B k ≤ at'
            · obtain ⟨d, hd⟩ : ∃ d : Nat, at' = B k + d := ⟨(at' - B k).toNat, by omega⟩
              have hsub : at' - B k = (d : Int) := by omega
              have hdm : (d : Int) ≤ 9223372036854775807 := by omega
              have h2' : ¬ (d : Int) < (M k : Int) := by
                intro h2
                unfold hasB at hh
                rw [decide_eq_true h1, decide_eq_true (by omega)] at hh
                cases hh
              clear hd hh
              go_wp2
              go_quiet (fail)
              go_wp2
              go_roundw
              case rel => exact ⟨k + 1, _, by omega, by go_num, rfl, rfl⟩
              case measure => simp [intOf]; omega
            · have h1d : decide (B k ≤ at') = false := decide_eq_false h1
              clear hh
              go_wp2
              go_quiet (fail)
              go_wp2
              go_roundw
              case rel => exact ⟨k + 1, _, by omega, by go_num, rfl, rfl⟩
              case measure => simp [intOf]; omega
          · go_wp2
            go_ret
            exact ⟨rfl, below_drewN hbD _⟩
end Go.Proofs.YtanfejgcjifhpabGreatDoor
