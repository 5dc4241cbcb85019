/-
  The law TopTable where Make makes a table: it returns true; memory that was there stays as it was.
-/
import Derived.Test.YtchccaalinepnaaTopTableErr
namespace Go.Proofs.Ytchccaalinepnaa
open Go.RowKit

/-- how far a chain may still lead. -/
def chainLeft (n : Nat) (v : Int) : Nat := if v < 0 then 0 else n + 1 - v.toNat
theorem chainLeft_lt (n q : Nat) (v : Int) (hq : q < n) (h : v = -1 ∨ ((q + 1 : Nat) : Int) ≤ v ∧ v < n) : chainLeft n v < chainLeft n (q : Int) := by
  unfold chainLeft
  rw [if_neg (show ¬ (q : Int) < 0 by omega)]
  rcases h with rfl | ⟨h1, h2⟩
  · simp; omega
  · rw [if_neg (by omega)]; simp; omega

set_option maxRecDepth 100000 in
set_option maxHeartbeats 4000000 in
theorem top_ok (al : Option Addr) (n cap : Nat) (nm : Nat → ByteArray) (m : Nat) (s : ByteArray) (w : World) (hl : SymsAt w al n nm) (hsz : ∀ i, i < n → (nm i).size ≤ maxLen) (hs : s.size ≤ maxLen) (h1 : n ≤ 8) (h2 : s.size ≤ 30) (hm1 : 1 ≤ m) (hm2 : m ≤ 16) :
    Calls Try.prog 6 #[.slice al n cap, .int .i64 (m : Int), .string s] w fun e w' => e = .returned (.bool true) ∧ Below w.heap.size w w' := by
  have hmk := fun (w : World) => run_make_row' (P := Try.prog) 43 4 (.bool false) 1 Try.underlying43 (by kernel_rfl) rfl .i64 .i64 n (by omega) (by omega) w
  simp only [madeCells_false] at hmk
  have hq1 : findF (firstRow (oneName 120) 1 1 0) 1 (nextRow (oneName 120) 1 1 0) 1 1 (oneName 120) ⟨#[120]⟩ = 0 := by
    rw [find_made _ _ _ _ (by decide)]
    simp only [ByteArray.toList_eq]
    decide
  have HQ1 := (show Hid _ from hq1)
  clear hq1
  have hb1 : ∀ o : Obj, Below w.heap.size w (w.alloc o) := fun o => (Below.refl _ _).alloc (Nat.le_refl _) _
  go_enter Try.func6, Try.ntmps6
  go_wp2_with fail
  refine (make_ok _ 1 _ 1 (oneName 120) _ (by decide) (by decide) (by decide) (oneName_syms w 120) (fun i _ => oneName_size 120 i)).mono ?_
  rintro e w0 ⟨br, bt, bf0, bn0, rfl, hT⟩
  have hrF := hT.rowF
  have hrN := hT.rowN
  have hb0 : Below w.heap.size w w0 := (hb1 _).trans (hT.below.mono (by simp))
  clear hT hb1
  have hb2 : ∀ o1 o2 : Obj, Below w0.heap.size w0 ((w0.alloc o1).alloc o2) := fun o1 o2 => ((Below.refl _ _).alloc (Nat.le_refl _) _).alloc (by simp) _
  go_wp2_with fail
  refine (find_any _ _ _ _ _ 1 1 1 1 1 1 (oneName 120) ⟨#[120]⟩ _ (by decide) (by decide) (by decide) (by decide) (hrF.later (hb2 _ _)) (hrN.later (hb2 _ _)) (by have := oneName_syms (w0.alloc (.cells #[.slice (some ⟨bf0, 0, none⟩) 1 1, .slice (some ⟨bn0, 0, none⟩) 1 1] 34)) 120; simpa using this)).mono ?_
  rw [HQ1.out]
  rintro e w1 ⟨rfl, hbf⟩
  have hbw : Below w.heap.size w w1 := hb0.trans (((hb2 _ _).mono hb0.size).trans (hbf.mono (Nat.le_trans hb0.size (hb2 _ _).size)))
  have hq0 : w1.cell? ⟨w0.heap.size, 0, none⟩ = some (.slice (some ⟨bf0, 0, none⟩) 1 1) := cell_later hbf (by simp [go_sem])
  have hq1 : w1.cell? ⟨w0.heap.size, 0 + 1, none⟩ = some (.slice (some ⟨bn0, 0, none⟩) 1 1) := cell_later hbf (by simp [go_sem])
  have hqz : ∀ i, w1.frozen? ⟨w0.heap.size, i, none⟩ = false := fun i => (hbf.frozen (p := ⟨w0.heap.size, i, none⟩) (by simp <;> omega)).trans (by simp [go_sem])
  have hql : w.heap.size ≤ w0.heap.size := hb0.size
  have hqs : w0.heap.size < w1.heap.size := by have := hbf.size; simp at this; omega
  clear hbf hb2 hrF hrN hb0 HQ1
  have d1 : ¬ (8 : Int) < (n : Int) := by omega
  have d2 : ¬ (30 : Int) < (s.size : Int) := by omega
  have hsy := hl.later hbw
  go_wp2
  go_loop [9] (fun i => ∃ k : Nat, k ≤ n ∧ i = .int .i64 k) (fun i => n - (intOf i).toNat)
  case atStart => exact ⟨0, Nat.zero_le _, rfl⟩
  case round =>
    obtain ⟨k, hk, rfl⟩ := hrel
    by_cases hlt : k < n
    · rcases hsy with h0 | ⟨b, o, rfl, hc⟩
      · omega
      · have hck := hc k hlt
        clear hc
        by_cases hz : (30 : Int) < ((nm k).size : Int)
        · go_wp2
          go_ret
          exact ⟨rfl, hbw⟩
        · go_wp2
          go_round
          case rel => exact ⟨k + 1, by omega, by go_num⟩
          case measure => simp [intOf]; omega
    · go_wp2_with fail
      refine (make_ok al n cap m nm _ hm1 hm2 h1 hsy hsz).mono ?_
      rintro e w2 ⟨br1, bt1, bf, bn, rfl, hT⟩
      have hb2 := hT.below
      have hx0 := cell_later hb2 hq0
      have hx1 := cell_later hb2 hq1
      have hz0 := (hb2.frozen (p := ⟨w0.heap.size, 0, none⟩) hqs).trans (hqz 0)
      have hz1 := (hb2.frozen (p := ⟨w0.heap.size, 0 + 1, none⟩) hqs).trans (hqz (0 + 1))
      have hS := seen_start hbw hT hm1 hql hqs hx0 hx1
      clear hq0 hq1 hqz hT hb2 hsy
      go_wp2
      go_loopw [11] (fun x wr => ∃ kb : Nat, kb ≤ m ∧ x = .int .i64 kb ∧ SeenT w wr w0.heap.size bf bn w2.heap.size m n nm (seenTo nm m kb 0)) (fun x _ => m - (intOf x).toNat)
      case atStart => exact ⟨0, Nat.zero_le _, rfl, hS.congr (fun i _ => seenTo_start nm m i)⟩
      case round =>
        clear hS hx0 hx1 hz0 hz1 hmk
        obtain ⟨kb, hkb, rfl, hS⟩ := hrel
        have ht0 := hS.t0
        by_cases hltb : kb < m
        · have hfb := hS.ff kb hltb
          go_wp2
          go_loopw [12] (fun x wr => ∃ (j : Nat) (v : Int), x = .int .i64 v ∧ Hid (v = firstRow nm m n j kb) ∧ j ≤ n ∧ SeenT w wr w0.heap.size bf bn w2.heap.size m n nm (seenTo nm m kb j)) (fun x _ => chainLeft n (intOf x))
          case atStart => exact ⟨0, _, rfl, rfl, Nat.zero_le _, hS⟩
          case round =>
            clear hS hfb ht0
            obtain ⟨j, v, rfl, HV, hj, hS⟩ := hrel
            by_cases hneg : v < 0
            · go_wp2
              go_roundw
              case rel =>
                refine ⟨kb + 1, by omega, by go_num, hS.congr (fun i hi => seenTo_next nm m n kb j i hi (fun k hk1 hk2 => ?_))⟩
                have h3 := firstFrom_none (fun q => decide (bkOf nm m q = kb)) n j (by have h := HV.out; unfold firstRow at h; omega) k hk1 hk2
                simpa using h3
              case measure => simp [intOf]; omega
            · obtain ⟨q, rfl⟩ := Int.eq_ofNat_of_zero_le (show 0 ≤ v by omega)
              obtain ⟨a1, a2, a3, a4⟩ := firstFrom_found (fun q => decide (bkOf nm m q = kb)) n j q HV.out.symm
              have hbk : bkOf nm m q = kb := by simpa using a3
              rcases hl.later hS.below with h0 | ⟨b, o, rfl, hc⟩
              · omega
              · have hcq := hc q a2
                have hsq := hS.ss q a2
                rw [seenTo_not nm m kb j q hbk a1] at hsq
                have hzq := hS.zs q
                have HR := fun (w : World) => hash_any (nm q) w (hsz q a2)
                have HB : Hid (bkOf nm m q = hashL (nm q).data.toList % m) := rfl
                have hx := hashL_lt (nm q).data.toList
                generalize hashL (nm q).data.toList = x at *
                have hxm : (x : Int) % (m : Int) = ((x % m : Nat) : Int) := (Int.natCast_emod x m).symm
                have dq : ((x : Int) % (m : Int) != (kb : Int)) = false := by
                  rw [hxm, ← HB.out, hbk]; simp
                have HN : Hid (nextRow nm m n 0 q = firstRow nm m n (q + 1) kb) := by
                  show nextRow nm m n 0 q = _
                  unfold nextRow firstRow
                  rw [if_pos (Nat.zero_le _), hbk]
                have hSn := (hS.store q true).congr (fun i _ => seenTo_step nm m kb j q i hbk a1 (fun k hk1 hk2 => by simpa using a4 k hk1 hk2))
                have ht1 := hSn.t1
                have hgq := hSn.gg q a2
                clear hc hxm hbk a3 a4 hS
                go_wp2_with fail
                refine (HR _).mono ?_
                rintro e w' ⟨rfl, rfl⟩
                clear HR
                go_wp2
                go_roundw
                case rel => exact ⟨q + 1, _, rfl, HN, by omega, hSn⟩
                case measure =>
                  refine chainLeft_lt n q _ a2 ?_
                  have hr := firstFrom_range (fun i => decide (bkOf nm m i = kb)) n (q + 1)
                  have hn := HN.out
                  unfold firstRow at hn
                  show nextRow nm m n 0 q = -1 ∨ _ ≤ nextRow nm m n 0 q ∧ nextRow nm m n 0 q < n
                  rw [hn]
                  exact hr
        · have hkm : kb = m := by omega
          subst hkm
          replace hS := hS.congr (fun i _ => seenTo_all nm kb i hm1)
          go_wp2
          go_loop [13] (fun x => ∃ q : Nat, q ≤ n ∧ x = .int .i64 q) (fun x => n - (intOf x).toNat)
          case atStart => exact ⟨0, Nat.zero_le _, rfl⟩
          case round =>
            obtain ⟨q, hq, rfl⟩ := hrel
            by_cases hlq : q < n
            · have hsq := hS.ss q hlq
              go_wp2
              go_round
              case rel => exact ⟨q + 1, by omega, by go_num⟩
              case measure => simp [intOf]; omega
            · have ht1 := hS.t1
              go_wp2_with fail
              refine (find_any _ _ _ _ al kb kb n n n cap nm s _ hs (by omega) (by omega) (by omega) hS.rowF hS.rowN (hl.later hS.below)).mono ?_
              rw [find_made nm kb n s hm1]
              rintro e w4 ⟨rfl, hb5⟩
              have hbx : Below w.heap.size w w4 := hS.below.trans (hb5.mono hS.below.size)
              clear hb5 hS ht0 ht1
              generalize hv : firstFrom (fun i => (nm i).toList == s.toList) n 0 = v at *
              have HV : Hid (firstFrom (fun i => (nm i).toList == s.toList) n 0 = v) := hv
              clear hv
              go_wp2
              go_loop [15] (fun x => ∃ j : Nat, j ≤ n ∧ x = .int .i64 j ∧ Hid (∀ i, i < j → ((nm i).toList == s.toList) = false)) (fun x => n - (intOf x).toNat)
              case atStart => exact ⟨0, Nat.zero_le _, rfl, fun i hi => by omega⟩
              case round =>
                obtain ⟨j, hj, rfl, HJ⟩ := hrel
                by_cases hlj : j < n
                · rcases hl.later hbx with h0 | ⟨b, o, rfl, hc⟩
                  · omega
                  · have hcj := hc j hlj
                    clear hc
                    cases hi : ((nm j).toList == s.toList) with
                    | true =>
                      have dv : (v == (j : Int)) = true := by
                        rw [beq_iff_eq, ← HV.out]
                        exact firstFrom_of_first _ n 0 j (by omega) hlj hi (fun k _ hk => HJ.out k hk)
                      go_wp2
                      go_ret
                      exact ⟨rfl, hbx⟩
                    | false =>
                      have HN : Hid (∀ i, i < j + 1 → ((nm i).toList == s.toList) = false) := by
                        intro i hi'
                        by_cases e : i = j
                        · subst e; exact hi
                        · exact HJ.out i (by omega)
                      go_wp2
                      go_round
                      case rel => exact ⟨j + 1, by omega, by go_num, HN⟩
                      case measure => simp [intOf]; omega
                · have dv : v < 0 := by
                    rw [← HV.out, firstFrom_of_none _ n 0 (fun k _ hk => HJ.out k (by omega))]
                    decide
                  go_wp2
                  go_ret
                  exact ⟨rfl, hbx⟩
end Go.Proofs.Ytchccaalinepnaa
