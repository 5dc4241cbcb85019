/-
  The law TopShift returns true, for every list of objects, every list of bases and every number; memory that was there stays as it was.
-/
import Derived.Test.YtanfejgcjifhpabGreatDoorBoundFact
import Derived.Test.YtanfejgcjifhpabGreatDoorPlainShift
import Derived.Test.YtanfejgcjifhpabGreatDoorGoodObjs
import Derived.Test.YtanfejgcjifhpabGreatDoorNumber
import Derived.Deep.QuietTactic
import Derived.BigQuiet
namespace Go.Proofs.YtanfejgcjifhpabGreatDoor
open Go.RowKit Go.Maps

theorem hang_small {kind base at' add : Int} {wh : Option Int} (h : (hangF kind base at' add wh).1 = 0) : -2147483648 ≤ (hangF kind base at' add wh).2 ∧ (hangF kind base at' add wh).2 ≤ 2147483647 := by
  cases wh with
  | none => cases h
  | some p =>
    by_cases k3 : kind = 3
    · simp only [hangF, if_pos k3] at h ⊢
      split at h
      · cases h
      · rename_i g
        rw [if_neg g]
        dsimp only
        omega
    · simp only [hangF, if_neg k3] at h ⊢
      split at h
      · rename_i g
        rw [if_pos g]
        unfold isWordF at g
        simp only [Bool.and_eq_true, decide_eq_true_eq] at g
        exact g
      · cases h
theorem allF_ties {n : Nat} {O : Nat → ObjF} {P Q : ByteArray → Int} {B : Nat → Int} (h : ∀ i, i < n → 0 ≤ B i ∧ B i ≤ 256) : allF n O P Q n B = tiesF O P Q B n := by
  unfold allF
  rw [if_neg (by simp), if_neg]
  intro he
  unfold outB at he
  obtain ⟨i, hi, e⟩ := anyTo_iff.1 he
  have := of_decide_eq_true e
  have := h i hi
  omega
theorem pats_get {l : List (Nat × Int × Int)} {k i : Nat} {x y : Int} (h : l[k]? = some (i, x, y)) : pP l k = (i : Int) ∧ pT l k = x ∧ pV l k = y ∧ k < l.length := by
  have hd : l.getD k (0, 0, 0) = (i, x, y) := by rw [List.getD_eq_getElem?_getD, h]; rfl
  unfold pP pT pV
  rw [hd]
  exact ⟨rfl, rfl, rfl, (List.getElem?_eq_some_iff.1 h).1⟩
theorem tiesTo_le {O : Nat → ObjF} {n : Nat} (h : ∀ j, j < n → (O j).nT ≤ 6) : ∀ i, i ≤ n → tiesTo O i ≤ 6 * i
  | 0, _ => Nat.le_refl _
  | i + 1, hi => by
    have h1 := tiesTo_le h i (by omega)
    have h2 := h i (by omega)
    simp only [tiesTo]
    omega

set_option maxRecDepth 100000 in
set_option maxHeartbeats 8000000 in
theorem topShift_walk (al ab : Option Addr) (n cl nb cb : Nat) (V : Nat → ObjV) (O : Nat → ObjF) (B : Nat → Int) (by' : Int) (w : World) (hE : Env w) (hr : ObjsRow w al n V O) (hf : ∀ i, i < n → ObjFit (O i)) (hrb : RowAt w ab nb fun i => .int .i64 (B i)) (hnb : nb ≤ maxLen)
    (hBw : ∀ i, i < nb → -9223372036854775808 ≤ B i ∧ B i ≤ 9223372036854775807) :
    Calls Tryz.prog 5 #[.slice al n cl, .slice ab nb cb, .int .i64 by'] w fun e w' => e = .returned (.bool true) ∧ Below w.heap.size w w' := by
  unfold maxLen at hnb
  have HBd := bound_any w hE
  go_enter Tryz.func5, Tryz.ntmps5
  go_wp2_with fail
  refine HBd.mono ?_
  rintro e w1 ⟨rfl, hb1⟩
  clear HBd
  have HG := good_any al n cl V O w1 (hr.later hb1) hf
  clear hf hE
  go_wp2_with fail
  refine HG.mono ?_
  rintro e w2 ⟨hg, hb2⟩
  have hb3 := hb1.trans (hb2.mono hb1.size)
  clear HG hb1 hb2
  obtain ⟨b, rfl, hgood⟩ := hg
  cases b with
  | false =>
    clear hgood hr hrb
    go_wp2
    go_ret
    exact ⟨rfl, hb3⟩
  | true =>
    obtain ⟨hn, hobj⟩ := hgood rfl
    clear hgood
    have hok : ∀ i, i < n → ObjOk (O i) := fun i hi => objOk (hobj i hi)
    clear hobj
    by_cases hnn : nb = n
    · subst hnn
      have hne : ((nb : Int) != (nb : Int)) = false := by simp
      by_cases hb0 : by' < 0
      · clear hr hrb
        go_wp2
        go_ret
        exact ⟨rfl, hb3⟩
      by_cases hb256 : 256 < by'
      · clear hr hrb
        go_wp2
        go_ret
        exact ⟨rfl, hb3⟩
      have hr2 := hr.later hb3
      have hrb2 := hrb.later hb3
      clear hr hrb
      go_wp2
      clear hne
      go_loopw [8, 9] (fun x y wr => ∃ (i : Nat) (v : Value), i ≤ nb ∧ y = .int .i64 i ∧ x = v ∧ wr.ownsRow w2.heap.size 3 1 v i (joinC (intC fun j => B j + by') i) ∧ Hid (∀ j, j < i → 0 ≤ B j ∧ B j ≤ 256 ∧ B j + by' ≤ 256) ∧ Below w2.heap.size w2 wr) (fun _ y _ => nb - (intOf y).toNat)
      case atStart => exact ⟨0, .slice none 0 0, Nat.zero_le _, rfl, rfl, World.ownsRow_nil _ _ _ _, fun j hj => by omega, Below.refl _ _⟩
      case round =>
        obtain ⟨i, v, hi, rfl, rfl, ho, HK, hb⟩ := hrel
        have hb4 := hb3.trans (hb.mono hb3.size)
        by_cases hlt : i < nb
        · have hrb3 := hrb2.later hb
          rcases hrb3 with h0 | ⟨bb, ob, rfl, hcb⟩
          · omega
          have hci := hcb i hlt
          have hBi := hBw i hlt
          clear hcb hrb2
          by_cases g1 : B i < 0
          · go_wp2
            go_ret
            exact ⟨rfl, hb4⟩
          by_cases g2 : 256 < B i
          · by_cases g3 : B i + by' ≤ 9223372036854775807
            · have g4 : 256 < B i + by' := by omega
              go_wp2
              go_ret
              exact ⟨rfl, hb4⟩
            · go_wp2
              all_goals
                go_ret
                exact ⟨rfl, hb4⟩
          by_cases g3 : 256 < B i + by'
          · go_wp2
            go_ret
            exact ⟨rfl, hb4⟩
          have HK2 : Hid (∀ j, j < i + 1 → 0 ≤ B j ∧ B j ≤ 256 ∧ B j + by' ≤ 256) := fun j hj => by
            by_cases e : j = i
            · subst e; omega
            · exact HK.out j (by omega)
          have hB := hb.size
          obtain ⟨v1, W1, happ1, hG1⟩ := growInt (w := wr) (B i + by') hB ho (by omega)
          have ho1 := hG1.own
          rw [joinInt (b' := fun j => B j + by') (fun i _ => rfl) rfl] at ho1
          have hb5 : Below w2.heap.size w2 W1 := (hb.alloc hB _).trans hG1.below
          clear hG1 ho hb HK
          go_wp2_with (at_builtin; refine list_run rfl (.tmp 69) (.tmp 76) 41 rfl u8 (.slice (some ⟨wr.heap.size, 0, none⟩) 1 1) _ rfl rfl happ1 ?_)
          go_roundw
          case rel => exact ⟨i + 1, v1, by omega, by go_num, rfl, ho1, HK2, hb5⟩
          case measure => simp [intOf]; omega
        · have e : i = nb := by omega
          subst e
          obtain ⟨P, Q, hP⟩ := finds_some (symsF i O)
          obtain ⟨a8, c8, rfl, _, hr8⟩ := rows_int ho
          have hr3 := hr2.later hb
          have hrb3 := hrb2.later hb
          have hK := HK.out
          have HA1 := all_any al ab i cl i cb V O B P Q wr hn (by unfold maxLen; omega) hr3 hrb3 hok hP
          rw [allF_ties fun j hj => ⟨(hK j hj).1, (hK j hj).2.1⟩] at HA1
          clear ho hr2 hrb2 HK hb hBw
          go_wp2_with fail
          refine HA1.mono ?_
          rintro e1 w5 ⟨he1, hb5⟩
          have hb6 := hb4.trans (hb5.mono hb4.size)
          have HA2 := all_any al a8 i cl i c8 V O (fun j => B j + by') P Q w5 hn (by unfold maxLen; omega) (hr3.later hb5) (hr8.later hb5) hok hP
          rw [allF_ties fun j hj => (by have := hK j hj; omega)] at HA2
          have hr5 := hr3.later hb5
          have hsf := shift_fault (O := O) (P := P) (Q := Q) B (fun j => B j + by') i
          clear HA1 hr3 hr8 hrb3 hb4
          cases he1 with
          | bad hf1 =>
            generalize tiesF O P Q B i = F1 at hf1 hsf ⊢
            obtain ⟨z1, hz1⟩ := errV_pos hf1
            have HN1 := numberErr_any F1
            rw [hz1] at HN1 ⊢
            go_wp2_with fail
            refine HA2.mono ?_
            rintro e2 w7 ⟨he2, hb7⟩
            have hb8 := hb6.trans (hb7.mono hb6.size)
            generalize tiesF O P Q (fun j => B j + by') i = F2 at he2 hsf
            clear HA2 hb7 hb6 hb5 hr5 hok hP hK
            cases he2 with
            | bad hf2 =>
              by_cases e12 : F1 = F2
              · subst e12
                rw [hz1]
                have hd : ((F1 : Int) == (F1 : Int)) = true := by simp
                clear hsf hf1 hf2 hz1
                go_wp2_with (go_at_call 28; refine (HN1 _).mono ?_; rintro e w' ⟨rfl, rfl⟩)
                go_ret
                exact ⟨rfl, hb8⟩
              · obtain ⟨z2, hz2⟩ := errV_pos hf2
                have HN2 := numberErr_any F2
                have hzz : z1 ≠ z2 := fun e => by
                  subst e
                  have h12 := hz1.trans hz2.symm
                  cases F1 with
                  | zero => exact hf1 rfl
                  | succ f1 =>
                    cases F2 with
                    | zero => exact hf2 rfl
                    | succ f2 =>
                      simp only [errV] at h12
                      injection h12 with _ h12
                      injection h12 with _ h12
                      omega
                rw [hz2] at HN2 ⊢
                have hd : ((F1 : Int) == (F2 : Int)) = false := by rw [beq_eq_false_iff_ne]; omega
                clear hf1 hf2 hz1 hz2
                by_cases e7 : F1 = 7
                · have hd1 : ((F1 : Int) == 7) = true := by rw [e7]; rfl
                  clear hsf e7 e12
                  go_wp2_with (first | (go_at_call_of 28 (Value.iface 109 (.int .i64 z1)); refine (HN1 _).mono ?_; rintro e w' ⟨rfl, rfl⟩) | (go_at_call_of 28 (Value.iface 109 (.int .i64 z2)); refine (HN2 _).mono ?_; rintro e w' ⟨rfl, rfl⟩))
                  go_ret
                  exact ⟨rfl, hb8⟩
                · have hd1 : ((F1 : Int) == 7) = false := by rw [beq_eq_false_iff_ne]; omega
                  have hd2 : ((F2 : Int) == 7) = true := by rw [show F2 = 7 by omega]; rfl
                  clear hsf e7 e12
                  go_wp2_with (first | (go_at_call_of 28 (Value.iface 109 (.int .i64 z1)); refine (HN1 _).mono ?_; rintro e w' ⟨rfl, rfl⟩) | (go_at_call_of 28 (Value.iface 109 (.int .i64 z2)); refine (HN2 _).mono ?_; rintro e w' ⟨rfl, rfl⟩))
                  go_ret
                  exact ⟨rfl, hb8⟩
            | ok hf2 v2 hv2 =>
              have HN2 := number_nil
              have hd : ((F1 : Int) == 0) = false := by rw [beq_eq_false_iff_ne]; omega
              have hd1 : ((F1 : Int) == 7) = true := by rw [show F1 = 7 by omega]; rfl
              clear hsf hf1 hf2 hz1 hv2
              go_wp2_with (first | (go_at_call_of 28 (Value.iface 109 (.int .i64 z1)); refine (HN1 _).mono ?_; rintro e w' ⟨rfl, rfl⟩) | (go_at_call_of 28 Value.nilIface; refine (HN2 _).mono ?_; rintro e w' ⟨rfl, rfl⟩))
              go_ret
              exact ⟨rfl, hb8⟩
          | ok hf1 v1 hv1 =>
            go_wp2_with fail
            refine HA2.mono ?_
            rintro e2 w7 ⟨he2, hb7⟩
            have hb8 := hb6.trans (hb7.mono hb6.size)
            cases he2 with
            | bad hf2 =>
              rw [hf1] at hsf
              generalize tiesF O P Q (fun j => B j + by') i = F2 at hf2 hsf ⊢
              obtain ⟨z2, hz2⟩ := errV_pos hf2
              have HN1 := number_nil
              have HN2 := numberErr_any F2
              rw [hz2] at HN2 ⊢
              have hd : ((0 : Int) == (F2 : Int)) = false := by rw [beq_eq_false_iff_ne]; omega
              have hd2 : ((F2 : Int) == 7) = true := by rw [show F2 = 7 by omega]; rfl
              clear HA2 hb7 hb6 hb5 hr5 hok hP hK hsf hf1 hf2 hz2 hv1
              go_wp2_with (first | (go_at_call_of 28 (Value.iface 109 (.int .i64 z2)); refine (HN2 _).mono ?_; rintro e w' ⟨rfl, rfl⟩) | (go_at_call_of 28 Value.nilIface; refine (HN1 _).mono ?_; rintro e w' ⟨rfl, rfl⟩))
              go_ret
              exact ⟨rfl, hb8⟩
            | ok hf2 v2 hv2 =>
              obtain ⟨pa, pc, rfl, _, hpr⟩ := rows_pat (owns_below hv1 hb7)
              obtain ⟨qa, qc, rfl, _, hqr⟩ := rows_pat hv2
              have hr7 := hr5.later hb7
              have hl1 := patsTo_len O P Q B i
              have hl2 := patsTo_len O P Q (fun j => B j + by') i
              rw [hl1] at hpr ⊢
              rw [hl2] at hqr ⊢
              have hcell : ∀ j q, j < i → q < (O j).nT → ∃ bp op bq oq, pa = some ⟨bp, op, none⟩ ∧ qa = some ⟨bq, oq, none⟩ ∧ tiesTo O j + q < tiesTo O i ∧
                  w7.cell? ⟨bp, op + (tiesTo O j + q) * 3, none⟩ = some (.int .i64 (j : Int)) ∧ w7.cell? ⟨bp, op + (tiesTo O j + q) * 3 + 1, none⟩ = some (.int .i64 ((O j).tAt q)) ∧ w7.cell? ⟨bp, op + (tiesTo O j + q) * 3 + 2, none⟩ = some (.int .i64 (tieW O P Q B j q).2) ∧
                  w7.cell? ⟨bq, oq + (tiesTo O j + q) * 3, none⟩ = some (.int .i64 (j : Int)) ∧ w7.cell? ⟨bq, oq + (tiesTo O j + q) * 3 + 1, none⟩ = some (.int .i64 ((O j).tAt q)) ∧ w7.cell? ⟨bq, oq + (tiesTo O j + q) * 3 + 2, none⟩ = some (.int .i64 ((tieW O P Q B j q).2 + wantF O P by' j q)) := fun j q hj hq => by
                obtain ⟨a1, a2, a3, a4⟩ := pats_get (patsTo_at O P Q B i hj hq)
                obtain ⟨b1, b2, b3, b4⟩ := pats_get (patsTo_at O P Q (fun j => B j + by') i hj hq)
                rw [hl1] at a4
                rcases hpr with h0 | ⟨bp, op, hpa, hpc⟩
                · omega
                rcases hqr with h0 | ⟨bq, oq, hqa, hqc⟩
                · omega
                have hp3 := hpc _ a4
                have hq3 := hqc _ a4
                rw [a1, a2, a3] at hp3
                rw [b1, b2, b3, shift_word B by' j q (ties_none hf1 hj hq) (ties_none hf2 hj hq)] at hq3
                exact ⟨bp, op, bq, oq, hpa, hqa, a4, hp3.1, hp3.2.1, hp3.2.2, hq3.1, hq3.2.1, hq3.2.2⟩
              have hword : ∀ j q, j < i → q < (O j).nT → -2147483648 ≤ (tieW O P Q B j q).2 ∧ (tieW O P Q B j q).2 ≤ 2147483647 := fun j q hj hq => hang_small (ties_none hf1 hj hq)
              have hN : tiesTo O i ≤ 6 * i := tiesTo_le (fun j hj => (hok j hj).nT) i (Nat.le_refl _)
              have hne : ((tiesTo O i : Int) != (tiesTo O i : Int)) = false := by simp
              have hF7 := fun (s : ByteArray) (W : World) (hW : Below w7.heap.size w7 W) => find_any al i cl V O s W (by omega) (fun j hj => by have := (hok j hj).nS; omega) (hr7.later hW)
              clear HA2 hb7 hb6 hb5 hr5 hsf hf1 hf2 hv1 hv2 hpr hqr hl1 hl2
              go_wp2
              clear hne
              go_loopw [14, 15] (fun x y wr => ∃ j : Nat, j ≤ i ∧ y = .int .i64 j ∧ x = .int .i64 ((tiesTo O j : Nat) : Int) ∧ Below w7.heap.size w7 wr) (fun _ y _ => i - (intOf y).toNat)
              case atStart => exact ⟨0, Nat.zero_le _, rfl, rfl, Below.refl _ _⟩
              case round =>
                obtain ⟨j, hj, rfl, rfl, hb⟩ := hrel
                by_cases hlt2 : j < i
                · go_wp2
                  go_loopw [14, 16] (fun x y wr => ∃ q : Nat, q ≤ (O j).nT ∧ y = .int .i64 q ∧ x = .int .i64 (((tiesTo O j + q : Nat)) : Int) ∧ Below w7.heap.size w7 wr) (fun _ y _ => (O j).nT - (intOf y).toNat)
                  case atStart => exact ⟨0, Nat.zero_le _, rfl, rfl, hb⟩
                  case round =>
                    clear hb
                    obtain ⟨q, hq, rfl, rfl, hb⟩ := hrel
                    have hro := hr7.later hb
                    rcases hro with h0 | ⟨bk, o, rfl, hc⟩
                    · omega
                    have H := hc j hlt2
                    have c3 := H.c3
                    have htr := H.here.ties
                    have hnT := (hok j hlt2).nT
                    clear H hc
                    by_cases hlq : q < (O j).nT
                    · rcases htr with h0 | ⟨bt, ot, hta, hct⟩
                      · omega
                      rw [hta] at c3
                      obtain ⟨t0, t1, t2, t3, t4⟩ := hct q hlq
                      obtain ⟨bp, op, bq, oq, rfl, rfl, hat, p0, p1, p2, q0, q1, q2⟩ := hcell j q hlt2 hlq
                      obtain ⟨hw1, hw2⟩ := hword j q hlt2 hlq
                      have hkind := ((hok j hlt2).ties q hlq).2.2.2.2
                      replace p0 := cell_later hb p0
                      replace p1 := cell_later hb p1
                      replace p2 := cell_later hb p2
                      replace q0 := cell_later hb q0
                      replace q1 := cell_later hb q1
                      replace q2 := cell_later hb q2
                      have hfd := hP.is ((O j).tName q)
                      have hwant : wantF O P by' j q = (if (O j).tKind q = 3 then 0 else by') - (if (O j).tKind q ≠ 1 ∧ P ((O j).tName q) < 0 then by' else 0) := rfl
                      generalize (tieW O P Q B j q).2 = x1 at *
                      generalize wantF O P by' j q = wa at *
                      generalize hkE : (O j).tKind q = kd at *
                      generalize (O j).tAt q = ta at *
                      generalize (O j).tAdd q = td at *
                      generalize (O j).tName q = tn at *
                      generalize (O j).tWeak q = tw at *
                      have HF := hF7 tn (wr.alloc (.cells #[.int .i64 ta, .int .i64 kd, .int .i64 td, .string tn, .bool tw] 72)) (hb.alloc hb.size _)
                      have hal : Below wr.heap.size wr (wr.alloc (.cells #[.int .i64 ta, .int .i64 kd, .int .i64 td, .string tn, .bool tw] 72)) := (Below.refl _ _).alloc (Nat.le_refl _) _
                      have s0 : (wr.alloc (.cells #[.int .i64 ta, .int .i64 kd, .int .i64 td, .string tn, .bool tw] 72)).cell? ⟨wr.heap.size, 0, none⟩ = some (.int .i64 ta) := by simp [go_sem]
                      have s1 : (wr.alloc (.cells #[.int .i64 ta, .int .i64 kd, .int .i64 td, .string tn, .bool tw] 72)).cell? ⟨wr.heap.size, 1, none⟩ = some (.int .i64 kd) := by simp [go_sem]
                      clear hct hcell hword hkE
                      go_wp2_with fail
                      refine HF.mono ?_
                      rintro e w9 ⟨⟨pf, qf, rfl, hpf⟩, hb9⟩
                      obtain ⟨hpe, _⟩ := hpf.unique hfd
                      have hb10 := hal.trans (hb9.mono hal.size)
                      have hb11 := hb.trans (hb10.mono hb.size)
                      replace s0 := cell_later hb9 s0
                      replace s1 := cell_later hb9 s1
                      replace p0 := cell_later hb10 p0
                      replace p1 := cell_later hb10 p1
                      replace p2 := cell_later hb10 p2
                      replace q0 := cell_later hb10 q0
                      replace q1 := cell_later hb10 q1
                      replace q2 := cell_later hb10 q2
                      rw [← hpe] at hwant
                      generalize wr.heap.size = bs at *
                      clear HF hb9 hb10 hal t0 t1 t2 t3 t4 c3 hpf hfd hb hpe hta
                      have hjj : ((j : Int) != (j : Int)) = false := by simp
                      have htt : (ta != ta) = false := by simp
                      have hk3 : kd = 1 ∨ kd = 2 ∨ kd = 3 := by
                        rcases hkind with ⟨h, _⟩ | ⟨h | h, _⟩
                        · exact .inl h
                        · exact .inr (.inl h)
                        · exact .inr (.inr h)
                      have hatN : ((tiesTo O j + q : Nat) : Int) < (tiesTo O i : Int) := by omega
                      clear hkind
                      rcases hk3 with rfl | rfl | rfl
                      · have hx : x1 + wa = x1 + by' := by rw [hwant]; simp
                        rw [hx] at q2
                        have hxx : ((x1 + by') != (x1 + by')) = false := by simp
                        clear hwant hx
                        go_wp2
                        go_quiet (fail)
                        go_wp2
                        go_roundw
                        case rel => exact ⟨q + 1, by omega, by go_num, by go_num, below_drewN hb11 _⟩
                        case measure => simp [intOf]; omega
                      · by_cases hpn : pf < 0
                        · have hx : x1 + wa = x1 := by rw [hwant]; simp [hpn]
                          rw [hx] at q2
                          have hxx : (x1 != x1) = false := by simp
                          clear hwant hx
                          go_wp2
                          go_quiet (fail)
                          go_wp2
                          go_roundw
                          case rel => exact ⟨q + 1, by omega, by go_num, by go_num, below_drewN hb11 _⟩
                          case measure => simp [intOf]; omega
                        · have hx : x1 + wa = x1 + by' := by rw [hwant]; simp [hpn]
                          rw [hx] at q2
                          have hxx : ((x1 + by') != (x1 + by')) = false := by simp
                          clear hwant hx
                          go_wp2
                          go_quiet (fail)
                          go_wp2
                          go_roundw
                          case rel => exact ⟨q + 1, by omega, by go_num, by go_num, below_drewN hb11 _⟩
                          case measure => simp [intOf]; omega
                      · by_cases hpn : pf < 0
                        · have hx : x1 + wa = x1 + -by' := by rw [hwant]; simp [hpn]
                          rw [hx] at q2
                          have hxx : ((x1 + -by') != (x1 + -by')) = false := by simp
                          clear hwant hx
                          go_wp2
                          go_quiet (fail)
                          go_wp2
                          go_roundw
                          case rel => exact ⟨q + 1, by omega, by go_num, by go_num, below_drewN hb11 _⟩
                          case measure => simp [intOf]; omega
                        · have hx : x1 + wa = x1 := by rw [hwant]; simp [hpn]
                          rw [hx] at q2
                          have hxx : (x1 != x1) = false := by simp
                          clear hwant hx
                          go_wp2
                          go_quiet (fail)
                          go_wp2
                          go_roundw
                          case rel => exact ⟨q + 1, by omega, by go_num, by go_num, below_drewN hb11 _⟩
                          case measure => simp [intOf]; omega
                    · have e : q = (O j).nT := by omega
                      subst e
                      go_wp2
                      go_roundw
                      case rel => exact ⟨j + 1, by omega, by go_num, rfl, hb⟩
                      case measure => simp [intOf]; omega
                · have e : j = i := by omega
                  subst e
                  have hee : ((tiesTo O j : Int) == (tiesTo O j : Int)) = true := by simp
                  go_wp2
                  go_ret
                  exact ⟨rfl, hb8.trans (hb.mono hb8.size)⟩
    · have hne : ((nb : Int) != (n : Int)) = true := by
        simp only [bne_iff_ne, ne_eq]
        omega
      clear hr hrb
      go_wp2
      go_ret
      exact ⟨rfl, hb3⟩
end Go.Proofs.YtanfejgcjifhpabGreatDoor
