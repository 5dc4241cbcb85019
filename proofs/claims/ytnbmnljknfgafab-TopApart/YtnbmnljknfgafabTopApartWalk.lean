/-
  The law TopApart returns true, for every list of sizes and every list of ranges; memory that was there stays as it was.
-/
import Derived.Test.YtnbmnljknfgafabTopFullWalk
namespace Go.Proofs.Ytnbmnljknfgafab
open Go.RowKit

/-- append of ranges that came in onto nothing. -/
theorem rngs_from (w : World) (a : Option Addr) (n c : Nat) (f m : Nat → Int) (hr : RngRow w a n f m) (hn : n ≤ 1000) :
    ∃ v' W, (Builtin.append_ #[36, 36] 36 #[.slice none 0 0, .slice a n c]).run Try.prog w = .ok v' W ∧ W.ownsRow w.heap.size 39 2 v' n (joinC (rngC f m) n) ∧ Below w.heap.size w W := by
  obtain ⟨v', W, happ, hG⟩ := append_from 36 39 2 16 (.agg #[.int .i64 0, .int .i64 0]) (by kernel_rfl) (by kernel_rfl) (by rfl) (by decide) w.heap.size w (.slice none 0 0) 0 []
      (World.ownsRow_nil _ _ _ _) a n c (joinC (rngC f m) n) (joinC_len (fun i _ => rngC_len f m i)) (rng_cells hr) rng_one (Nat.le_refl _) (by omega) (by decide)
  exact ⟨v', W, happ, by simpa using hG.own, hG.below⟩

set_option maxRecDepth 100000 in
set_option maxHeartbeats 8000000 in
theorem topApart_walk (sz tf tm : Nat → Int) (a a' : Option Addr) (n c nt c' : Nat) (w : World) (hn : n ≤ maxLen) (hnt : nt ≤ maxLen) (hr : RowAt w a n fun i => .int .i64 (sz i)) (ht : RngRow w a' nt tf tm) :
    Calls Try.prog 6 #[.slice a n c, .slice a' nt c'] w fun e w' => e = .returned (.bool true) ∧ Below w.heap.size w w' := by
  unfold maxLen at hn hnt
  have HA := closed_two 1 (by decide) (by decide) w
  go_enter Try.func6, Try.ntmps6
  go_wp2_with fail
  refine HA.mono ?_
  rintro e w1 ⟨⟨a1, c1, b1, rfl, e0, e1, hr1⟩, hb⟩
  have HS := fun (w : World) hw => same_two (c := c1) (x := 16) (w := w) w1 hr1 hw e0 e1
  clear HA hr1 e0 e1
  go_wp2_with fail
  refine (HS _ rfl).mono ?_
  rintro e w2 ⟨rfl, hb2⟩
  replace hb := hb.trans (hb2.mono hb.size)
  clear HS hb2
  by_cases h10 : (10 : Int) < (n : Int)
  · go_wp2
    go_ret
    exact ⟨rfl, hb⟩
  by_cases h20 : (20 : Int) < (nt : Int)
  · go_wp2
    go_ret
    exact ⟨rfl, hb⟩
  have HB := bases_any sz tf tm a a' n c nt c' w2 (by unfold maxLen; omega) (by unfold maxLen; omega) (hr.later hb) (ht.later hb)
  go_wp2_with fail
  refine HB.mono ?_
  rintro e w3 ⟨he, hb3⟩
  replace hb := hb.trans (hb3.mono hb.size)
  clear HB hb3
  cases he with
  | bad f b hf h =>
    obtain ⟨z, hz⟩ := errV_pos hf
    rw [hz]
    clear hz h hf hr ht
    go_wp2
    go_ret
    exact ⟨rfl, hb⟩
  | ok b v h hv =>
    obtain ⟨h0, hl⟩ := h.laid rfl
    obtain ⟨_, _, g3, g4⟩ := placeF_zero h0
    obtain ⟨al, cl, rfl, _, hlr⟩ := rows_int hv
    obtain ⟨va, W, happ, hva, hbW⟩ := rngs_from w3 a' nt c' tf tm (ht.later hb) (by omega)
    have hr3 := hr.later hb
    clear hv h h0 ht hr
    go_wp2_with (at_builtin; refine list_run rfl (.const (.slice none 0 0)) (.tmp 50) 36 rfl (.slice none 0 0) (.slice a' nt c') _ rfl rfl happ ?_)
    clear happ
    go_loopw [7, 8] (fun x z wr => ∃ (k : Nat) (va : Value), k ≤ n ∧ z = .int .i64 k ∧ x = va ∧ wr.ownsRow w3.heap.size 39 2 va (nt + k) (joinC (rngC (heldF tf nt b) (heldF tm nt fun j => roundF (sz j))) (nt + k)) ∧ Below w3.heap.size w3 wr) (fun _ z _ => n - (intOf z).toNat)
    case atStart => exact ⟨0, va, Nat.zero_le _, rfl, rfl, by
        rw [Nat.add_zero, joinC_congr (h := rngC tf tm) (fun i hi => by simp [rngC, heldF_old hi])]; exact hva, hbW⟩
    case round =>
      clear hva hbW
      obtain ⟨k, va, hk, rfl, rfl, ho, hbw⟩ := hrel
      by_cases hlt : k < n
      · obtain ⟨ah, ch, rfl, hch, hrow⟩ := rows_rng ho
        have hs := g3 k hlt
        obtain ⟨r1, r2, r3, r4, r5⟩ := roundF_many hs.1 hs.2
        obtain ⟨q, hq, hB⟩ := hl k hlt
        obtain ⟨q1, q2, q3⟩ := hB
        have hr4 := hr3
        have hlr4 := hlr
        rcases hr4 with h0 | ⟨bk, o, rfl, hc⟩
        · omega
        rcases hlr4 with h0 | ⟨bl, ol, rfl, hcl⟩
        · omega
        have hck := cell_later hbw (hc k hlt)
        have hclk : wr.cell? ⟨bl, ol + k, none⟩ = some (.int .i64 (16 * (q : Int))) := by rw [← hq]; exact cell_later hbw (hcl k hlt)
        have HR := fun (w : World) => round_any (sz k) w (by omega) (by omega)
        have hmod : ((16 * (q : Int)) % 16 != 0) = false := by rw [bne_eq_false_iff_eq]; omega
        have hin : ∀ j, j < nt + k → (0 ≤ heldF tf nt b j ∧ heldF tf nt b j ≤ 256) ∧ 0 ≤ heldF tm nt (fun j => roundF (sz j)) j ∧ heldF tm nt (fun j => roundF (sz j)) j ≤ 256 := fun j hj => by
          by_cases e : j < nt
          · rw [heldF_old e, heldF_old e]; have := g4 j e; omega
          · obtain ⟨i, rfl⟩ : ∃ i, j = nt + i := ⟨j - nt, by omega⟩
            rw [heldF_new, heldF_new]
            have h2 := g3 i (by omega)
            have h3 := roundF_many h2.1 h2.2
            obtain ⟨q', e', hB'⟩ := hl i (by omega)
            have := hB'.inside
            omega
        have hclW : ∀ wq, Below w3.heap.size w3 wq → wq.cell? ⟨bl, ol + k, none⟩ = some (.int .i64 (16 * (q : Int))) := fun wq hq' => by rw [← hq]; exact cell_later hq' (hcl k hlt)
        clear hc hcl
        go_wp2_with fail
        refine (HR _).mono ?_
        rintro e w' ⟨rfl, rfl⟩
        generalize hR : roundF (sz k) = R at *
        have HRK : Hid (roundF (sz k) = R) := hR
        clear hR HR
        have rb : ¬ R < sz k := by omega
        have rc : ¬ sz k + 16 ≤ R := by omega
        have rd : ¬ 256 < 16 * (q : Int) + R := by omega
        go_wp2
        clear hck hclk hmod rb rc rd
        go_loopw [10] (fun x wr' => ∃ j : Nat, j ≤ q + 1 ∧ x = .int .i64 (16 * (j : Int)) ∧ wr'.ownsRow w3.heap.size 39 2 (.slice ah (nt + k) ch) (nt + k) (joinC (rngC (heldF tf nt b) (heldF tm nt fun j => roundF (sz j))) (nt + k)) ∧ Below w3.heap.size w3 wr') (fun x _ => 600 - (intOf x).toNat)
        case atStart => exact ⟨0, Nat.zero_le _, rfl, ho, hbw⟩
        case round =>
          clear ho hbw hrow
          obtain ⟨j, hj, rfl, ho, hbw⟩ := hrel
          have hclk := hclW _ hbw
          by_cases hjq : j ≤ q
          · have hjq' : 16 * (j : Int) ≤ 16 * (q : Int) := by omega
            go_wp2
            go_loopw [11, 12] (fun x y wr' => ∃ m : Nat, m ≤ nt + k ∧ y = .int .i64 m ∧ x = .bool (!(anyTo (fun i => !(apartB (16 * (j : Int)) R (heldF tf nt b i) (heldF tm nt (fun j => roundF (sz j)) i))) m)) ∧ wr'.ownsRow w3.heap.size 39 2 (.slice ah (nt + k) ch) (nt + k) (joinC (rngC (heldF tf nt b) (heldF tm nt fun j => roundF (sz j))) (nt + k)) ∧ Below w3.heap.size w3 wr') (fun _ y _ => nt + k - (intOf y).toNat)
            case atStart => exact ⟨0, Nat.zero_le _, rfl, rfl, ho, hbw⟩
            case round =>
              clear ho hbw hclk
              obtain ⟨m, hm, rfl, rfl, ho, hbw⟩ := hrel
              have hclk := hclW _ hbw
              by_cases hml : m < nt + k
              · rcases rows_rng' ho with h0 | ⟨bb, ob, rfl, hcb⟩
                · omega
                have d0 := (hcb m hml).1
                have d1 := (hcb m hml).2
                have hi := hin m hml
                clear hcb
                cases hF : anyTo (fun i => !(apartB (16 * (j : Int)) R (heldF tf nt b i) (heldF tm nt (fun j => roundF (sz j)) i))) m with
                | true =>
                  have HE : Hid (anyTo (fun i => !(apartB (16 * (j : Int)) R (heldF tf nt b i) (heldF tm nt (fun j => roundF (sz j)) i))) (m + 1) = true) := by
                    show _ = true
                    simp only [anyTo, hF, Bool.true_or]
                  clear hF
                  go_wp2
                  go_roundw
                  case rel => exact ⟨m + 1, by omega, by go_num, by rw [HE.out]; rfl, ho, hbw⟩
                  case measure => simp [intOf]; omega
                | false =>
                  have HC := fun (w : World) => apart_any (16 * (j : Int)) R (heldF tf nt b m) (heldF tm nt (fun j => roundF (sz j)) m) w (by omega) (by omega) (by omega) (by omega)
                  have HE : Hid (anyTo (fun i => !(apartB (16 * (j : Int)) R (heldF tf nt b i) (heldF tm nt (fun j => roundF (sz j)) i))) (m + 1) = !(apartB (16 * (j : Int)) R (heldF tf nt b m) (heldF tm nt (fun j => roundF (sz j)) m))) := by
                    show _ = (!_)
                    simp only [anyTo, hF, Bool.false_or]
                  generalize apartB (16 * (j : Int)) R (heldF tf nt b m) (heldF tm nt (fun j => roundF (sz j)) m) = AB at HC HE
                  clear hF
                  go_wp2_with fail
                  refine (HC _).mono ?_
                  rintro e w5 ⟨rfl, hb5⟩
                  have ho5 := owns_below ho hb5
                  have hbw5 := hbw.trans (hb5.mono hbw.size)
                  clear HC ho hbw hb5
                  go_wp2
                  go_roundw
                  case rel => exact ⟨m + 1, by omega, by go_num, by rw [HE.out]; simp, ho5, hbw5⟩
                  case measure => simp [intOf]; omega
              · have e : m = nt + k := by omega
                subst e
                by_cases hjl : j < q
                · have hF := q3 j hjl
                  unfold meetsB at hF
                  rw [hF]
                  have e1 : (16 * (j : Int) == 16 * (q : Int)) = false := by rw [beq_eq_false_iff_ne]; omega
                  clear hF
                  go_wp2
                  go_roundw
                  case rel => exact ⟨j + 1, by omega, by go_num, ho, hbw⟩
                  case measure => simp [intOf]; omega
                · have e : j = q := by omega
                  subst e
                  have hF := q2
                  unfold meetsB at hF
                  rw [hF]
                  have e1 : (16 * (j : Int) == 16 * (j : Int)) = true := by simp
                  clear hF
                  go_wp2
                  go_roundw
                  case rel => exact ⟨j + 1, by omega, by go_num, ho, hbw⟩
                  case measure => simp [intOf]; omega
          · have hjq' : ¬ 16 * (j : Int) ≤ 16 * (q : Int) := by omega
            have hB2 := hbw.size
            obtain ⟨v1, W1, happ1, hG1⟩ := growRng (w := wr) (16 * (q : Int)) R hbw.size ho (by omega)
            have ho3 := hG1.own
            rw [joinRng (f' := heldF tf nt b) (m' := heldF tm nt fun j => roundF (sz j)) (fun i hi => ⟨rfl, rfl⟩) (by rw [heldF_new, hq]) (by rw [heldF_new]; exact HRK.out)] at ho3
            have hb3 : Below w3.heap.size w3 W1 := (hbw.alloc hbw.size _).trans hG1.below
            clear hG1 ho
            go_wp2_with (at_builtin; refine list_run rfl (.tmp 135) (.tmp 142) 36 rfl (.slice ah (nt + k) ch) (.slice (some ⟨wr.heap.size, 0, none⟩) 1 1) _ rfl rfl happ1 ?_)
            go_roundw
            case rel => exact ⟨k + 1, v1, by omega, by go_num, rfl, ho3, hb3⟩
            case measure => simp [intOf]; omega
      · go_wp2
        go_ret
        exact ⟨rfl, hb.trans (hbw.mono hb.size)⟩
end Go.Proofs.Ytnbmnljknfgafab
