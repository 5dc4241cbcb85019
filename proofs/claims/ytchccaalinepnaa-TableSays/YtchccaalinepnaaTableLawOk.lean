/-
  The law TableSays where Make makes a table: it returns true; memory that was there stays as it was.
-/
import Derived.Test.YtchccaalinepnaaTableLawErr
namespace Go.Proofs.Ytchccaalinepnaa
open Go.RowKit

set_option maxRecDepth 100000 in
set_option maxHeartbeats 4000000 in
theorem table_ok (al : Option Addr) (n cap : Nat) (nm : Nat → ByteArray) (m : Nat) (s : ByteArray) (af an : Option Addr) (nf cf nn cn : Nat) (f g : Nat → Int) (w : World)
    (hA : TableArgs w al n nm s af nf f an nn g) (h1 : n ≤ 12) (h2 : s.size ≤ 30) (h3 : nf ≤ 40) (h4 : nn ≤ 40) (hm1 : 1 ≤ m) (hm2 : m ≤ 16) (hn8 : n ≤ 8) :
    Calls Try.prog 4 #[.slice al n cap, .int .i64 (m : Int), .string s, .agg #[.slice af nf cf, .slice an nn cn]] w fun e w' => e = .returned (.bool true) ∧ Below w.heap.size w w' := by
  have hb1 : ∀ o : Obj, Below w.heap.size w (w.alloc o) := fun o => (Below.refl _ _).alloc (Nat.le_refl _) _
  have d1 : ¬ (12 : Int) < (n : Int) := by omega
  have d2 : ¬ (30 : Int) < (s.size : Int) := by omega
  have d3 : ¬ (40 : Int) < (nf : Int) := by omega
  have d4 : ¬ (40 : Int) < (nn : Int) := by omega
  go_enter Try.func4, Try.ntmps4
  go_wp2_with fail
  refine (tables_any _).mono ?_
  rintro e w1 ⟨rfl, hb⟩
  have hc0 : w1.cell? ⟨w.heap.size, 0, none⟩ = some (.slice af nf cf) := cell_later hb (by simp [go_sem])
  have hc1 : w1.cell? ⟨w.heap.size, 0 + 1, none⟩ = some (.slice an nn cn) := cell_later hb (by simp [go_sem])
  have hbw : Below w.heap.size w w1 := (hb1 _).trans (hb.mono (by simp))
  clear hb hb1
  have hsy := hA.syms.later hbw
  go_wp2
  go_loop [10] (fun i => ∃ k : Nat, k ≤ n ∧ i = .int .i64 k) (fun i => n - (intOf i).toNat)
  case atStart => exact ⟨0, Nat.zero_le _, rfl⟩
  case round =>
    obtain ⟨k, hk, rfl⟩ := hrel
    by_cases hlt : k < n
    · rcases hsy with h0 | ⟨b, o, rfl, hc⟩
      · omega
      · have hck := hc k hlt
        clear hc
        by_cases hz : (30 : Int) < ((nm k).size : Int)
        · go_wp2
          go_ret
          exact ⟨rfl, hbw⟩
        · go_wp2
          go_round
          case rel => exact ⟨k + 1, by omega, by go_num⟩
          case measure => simp [intOf]; omega
    · go_wp2_with fail
      refine (make_ok al n cap m nm _ hm1 hm2 hn8 hsy hA.sizes).mono ?_
      rintro e w2 ⟨br, bt, bf, bn, rfl, hT⟩
      have hb2 := hT.below
      have hbx : ∀ ob : Obj, Below w.heap.size w (w2.alloc ob) := fun ob => (hbw.trans (hb2.mono hbw.size)).alloc (Nat.le_trans hbw.size hb2.size) ob
      have hby : ∀ ob : Obj, Below w2.heap.size w2 (w2.alloc ob) := fun ob => (Below.refl _ _).alloc (Nat.le_refl _) ob
      have hcc0 : ∀ ob : Obj, (w2.alloc ob).cell? ⟨w.heap.size, 0, none⟩ = some (.slice af nf cf) := fun ob => cell_later (hb2.alloc hb2.size ob) hc0
      have hcc1 : ∀ ob : Obj, (w2.alloc ob).cell? ⟨w.heap.size, 0 + 1, none⟩ = some (.slice an nn cn) := fun ob => cell_later (hb2.alloc hb2.size ob) hc1
      have hff : ∀ (ob : Obj) b, b < m → (w2.alloc ob).cell? ⟨bf, b, none⟩ = some (.int .i64 (firstRow nm m n 0 b)) := fun ob b hb => cell_later (hby ob) (hT.ff b hb)
      have hgg : ∀ (ob : Obj) i, i < n → (w2.alloc ob).cell? ⟨bn, i, none⟩ = some (.int .i64 (nextRow nm m n 0 i)) := fun ob i hi => cell_later (hby ob) (hT.gg i hi)
      have hrF := hT.rowF
      have hrN := hT.rowN
      clear hc0 hc1 hsy hT hb2
      have d5 : ((m : Int) != (m : Int)) = false := by simp
      have d6 : ((n : Int) != (n : Int)) = false := by simp
      obtain ⟨W3, hW3⟩ : ∃ W3, W3 = w2.alloc (.cells #[.slice (some ⟨bf, 0, none⟩) m m, .slice (some ⟨bn, 0, none⟩) n n] 34) := ⟨_, rfl⟩
      have HW3 : Hid (W3 = w2.alloc (.cells #[.slice (some ⟨bf, 0, none⟩) m m, .slice (some ⟨bn, 0, none⟩) n n] 34)) := hW3
      have ht0 : W3.cell? ⟨w2.heap.size, 0, none⟩ = some (.slice (some ⟨bf, 0, none⟩) m m) := by rw [hW3]; simp [go_sem]
      have ht1 : W3.cell? ⟨w2.heap.size, 0 + 1, none⟩ = some (.slice (some ⟨bn, 0, none⟩) n n) := by rw [hW3]; simp [go_sem]
      have hfW : ∀ b, b < m → W3.cell? ⟨bf, b, none⟩ = some (.int .i64 (firstRow nm m n 0 b)) := fun b hb => by rw [hW3]; exact hff _ b hb
      have hgW : ∀ i, i < n → W3.cell? ⟨bn, i, none⟩ = some (.int .i64 (nextRow nm m n 0 i)) := fun i hi => by rw [hW3]; exact hgg _ i hi
      have hbW : Below w.heap.size w W3 := by rw [hW3]; exact hbx _
      have hrFW : RowAt W3 (some ⟨bf, 0, none⟩) m fun i => .int .i64 (firstRow nm m n 0 i) := by rw [hW3]; exact hrF.later (hby _)
      have hrNW : RowAt W3 (some ⟨bn, 0, none⟩) n fun i => .int .i64 (nextRow nm m n 0 i) := by rw [hW3]; exact hrN.later (hby _)
      have hcW0 : W3.cell? ⟨w.heap.size, 0, none⟩ = some (.slice af nf cf) := by rw [hW3]; exact hcc0 _
      have hcW1 : W3.cell? ⟨w.heap.size, 0 + 1, none⟩ = some (.slice an nn cn) := by rw [hW3]; exact hcc1 _
      clear hW3 hff hgg hrF hrN hcc0 hcc1 hby hbx
      go_wp2
      go_loopw [13] (fun x wr => ∃ kb : Nat, kb ≤ m ∧ x = .int .i64 kb ∧ W3 = wr) (fun x _ => m - (intOf x).toNat)
      case atStart => exact ⟨0, Nat.zero_le _, rfl, HW3.out⟩
      case round =>
        obtain ⟨kb, hkb, rfl, rfl⟩ := hrel
        by_cases hltb : kb < m
        · have hfb := hfW kb hltb
          go_wp2
          go_loopw [14, 15] (fun x y wr => ∃ (q : Nat) (v : Int), q ≤ n ∧ y = .int .i64 q ∧ x = .int .i64 v ∧ Hid (v = firstRow nm m n q kb) ∧ W3 = wr) (fun _ y _ => n - (intOf y).toNat)
          case atStart => exact ⟨0, _, Nat.zero_le _, rfl, rfl, rfl, rfl⟩
          case round =>
            obtain ⟨q, v, hq, rfl, rfl, HV, rfl⟩ := hrel
            by_cases hlq : q < n
            · rcases hA.syms.later hbW with h0 | ⟨b, o, rfl, hc⟩
              · omega
              · have hcq := hc q hlq
                have hgq := hgW q hlq
                have HR := fun (w : World) => refHash_any (nm q) w (hA.sizes q hlq)
                have HB : Hid (bkOf nm m q = hashL (nm q).data.toList % m) := rfl
                have hx := hashL_lt (nm q).data.toList
                generalize hashL (nm q).data.toList = x at *
                have hxm : (x : Int) % (m : Int) = ((x % m : Nat) : Int) := (Int.natCast_emod x m).symm
                clear hc
                by_cases hbk : bkOf nm m q = kb
                · have dq : ((x : Int) % (m : Int) != (kb : Int)) = false := by
                    rw [hxm, ← HB.out, hbk]; simp
                  have HQ : Hid (v = (q : Int)) := by
                    show v = (q : Int)
                    rw [HV.out]
                    exact firstFrom_yes _ _ _ hlq (by simp [hbk])
                  have dv : (v != (q : Int)) = false := by rw [HQ.out]; simp
                  have HN : Hid (nextRow nm m n 0 q = firstRow nm m n (q + 1) kb) := by
                    show nextRow nm m n 0 q = _
                    unfold nextRow firstRow
                    rw [if_pos (Nat.zero_le _), hbk]
                  clear hxm hbk
                  go_wp2_with fail
                  refine (HR _).mono ?_
                  rintro e w' ⟨rfl, rfl⟩
                  clear HR
                  go_wp2
                  go_roundw
                  case rel => exact ⟨q + 1, _, by omega, by go_num, rfl, HN, trivial⟩
                  case measure => simp [intOf]; omega
                · have dq : ((x : Int) % (m : Int) != (kb : Int)) = true := by
                    rw [hxm, ← HB.out, bne_iff_ne]; omega
                  have HN : Hid (v = firstRow nm m n (q + 1) kb) := by
                    show v = _
                    rw [HV.out]
                    exact firstFrom_no _ _ _ hlq (by simp [hbk])
                  clear hxm hbk
                  go_wp2_with fail
                  refine (HR _).mono ?_
                  rintro e w' ⟨rfl, rfl⟩
                  clear HR
                  go_wp2
                  go_roundw
                  case rel => exact ⟨q + 1, _, by omega, by go_num, rfl, HN, trivial⟩
                  case measure => simp [intOf]; omega
            · have hv : v = -1 := by
                rw [HV.out]
                exact firstFrom_end _ _ _ (by omega)
              subst hv
              go_wp2
              go_roundw
              case rel => exact ⟨kb + 1, by omega, by go_num, trivial⟩
              case measure => simp [intOf]; omega
        · go_wp2
          go_loopw [16, 17] (fun x y wr => ∃ (q : Nat) (i v : Int), q ≤ n ∧ y = .int .i64 i ∧ Hid (i + 1 = (q : Int)) ∧ x = .int .i64 v ∧ Hid (v = firstFrom (fun j => (nm j).toList == s.toList) n q) ∧ W3 = wr) (fun _ y _ => (intOf y + 1).toNat)
          case atStart => exact ⟨n, (n : Int) - 1, -1, Nat.le_refl _, rfl, by show (n : Int) - 1 + 1 = n; omega, rfl, (firstFrom_end _ _ _ (Nat.le_refl _)).symm, rfl⟩
          case round =>
            obtain ⟨q, i, v, hq, rfl, HI, rfl, HV, rfl⟩ := hrel
            by_cases hneg : i < 0
            · have hq0 : q = 0 := by
                have := HI.out
                omega
              subst hq0
              have HM : Hid (findF (firstRow nm m n 0) m (nextRow nm m n 0) n n nm s = v) := by
                show _ = v
                rw [find_made nm m n s hm1, HV.out]
              go_wp2_with fail
              refine (find_any _ _ _ _ al m m n n n cap nm s _ hA.size (by omega) (by omega) (by omega) hrFW hrNW (hA.syms.later hbW)).mono ?_
              rw [HM.out]
              rintro e w4 ⟨rfl, hb5⟩
              have hbx : Below w.heap.size w w4 := hbW.trans (hb5.mono hbW.size)
              have hcX0 := cell_later hb5 hcW0
              have hcX1 := cell_later hb5 hcW1
              have dv : (v != v) = false := by simp
              clear hcW0 hcW1 hfW hgW ht0 ht1 hb5 HV HM hrFW hrNW
              go_wp2_with fail
              refine (find_any f g af an al nf cf nn cn n cap nm s _ hA.size (by omega) (by omega) (by omega) (hA.first.later hbx) (hA.next.later hbx) (hA.syms.later hbx)).mono ?_
              rintro e w3 ⟨rfl, hb3⟩
              have hb4 : Below w.heap.size w w3 := hbx.trans (hb3.mono hbx.size)
              rcases findF_is f nf g nn n nm s with hr | ⟨q, hr, hq, hi⟩
              · generalize findF f nf g nn n nm s = r at *
                clear hA hb3 hbx
                go_wp2
                go_ret
                exact ⟨rfl, hb4⟩
              · rw [hr]
                rcases hA.syms.later hb4 with h0 | ⟨b, o, rfl, hc⟩
                · omega
                · have hcq := hc q hq
                  clear hA hc hr hb3 hbx
                  go_wp2
                  go_ret
                  exact ⟨rfl, hb4⟩
            · obtain ⟨j, rfl⟩ := Int.eq_ofNat_of_zero_le (show 0 ≤ i by omega)
              have hqj : q = j + 1 := by
                have := HI.out
                omega
              subst hqj
              rcases hA.syms.later hbW with h0 | ⟨b, o, rfl, hc⟩
              · omega
              · have hcj := hc j (by omega)
                clear hc
                cases hi : ((nm j).toList == s.toList) with
                | true =>
                  have HN : Hid ((j : Int) = firstFrom (fun j => (nm j).toList == s.toList) n j) := (firstFrom_yes _ _ _ (by omega) hi).symm
                  go_wp2
                  go_roundw
                  case rel => exact ⟨j, (j : Int) - 1, j, by omega, rfl, by show (j : Int) - 1 + 1 = j; omega, rfl, HN, trivial⟩
                  case measure => simp [intOf]
                | false =>
                  have HN : Hid (v = firstFrom (fun j => (nm j).toList == s.toList) n j) := HV.out.trans (firstFrom_no _ _ _ (by omega) hi).symm
                  go_wp2
                  go_roundw
                  case rel => exact ⟨j, (j : Int) - 1, v, by omega, rfl, by show (j : Int) - 1 + 1 = j; omega, rfl, HN, trivial⟩
                  case measure => simp [intOf]
end Go.Proofs.Ytchccaalinepnaa
