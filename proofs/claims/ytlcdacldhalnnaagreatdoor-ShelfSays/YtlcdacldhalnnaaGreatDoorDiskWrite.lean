/-
  What add and Write of package disk do, of any disk; all else stays as it was.
-/
import Derived.Test.YtlcdacldhalnnaaGreatDoorDiskDel
import Derived.Deep.RegionLaw
import Derived.Deep.RegionWith
namespace Go.Proofs.YtlcdacldhalnnaaGreatDoor
open Go.RowKit

theorem index_nil (w : World) (f : Value) :
    Calls Tryz.prog 91 #[.slice none 0 0, f] w fun e w' => e = .returned (.int .i64 (-1)) ∧ w' = w := by
  go_enter Tryz.func91, Tryz.ntmps91
  go_wp2
  go_loop [8] (fun y => y = .int .i64 0) (fun _ => 0)
  case atStart => rfl
  case round =>
    subst hrel
    go_wp2
    go_ret
    exact ⟨rfl, rfl⟩
theorem grownBy_of {w w' : World} {row : Option Nat} (h : Below w.heap.size w w') : w.grownBy w' row := ⟨h.os, h.tape, h.output, h.size, fun k hk _ => h.block k hk⟩

theorem late_zeros : ∃ Z : Array Value, (∀ w, Sem.run Tryz.prog (zeroValue 113) w = .ok (.agg Z) w) ∧ Z.size = 65 ∧ ∀ v ∈ Z.toList, v.oneCell' = true :=
  ⟨#[.int .u64 0] ++ Array.replicate 64 (.int .u8 0), fun w => by kernel_rfl, by simp, fun v hv => by
    simp at hv
    rcases hv with rfl | rfl <;> rfl⟩
/-- a call of DeleteFunc that returned. -/
def DelEnd (w w' : World) (B : Nat) (v : Value) (L : List Late) (b : Nat) (e : Ending) : Prop := ∃ v', e = .returned v' ∧ w'.ownsRow B 113 65 v' (struck L b).length (latesC (struck L b)) ∧ v'.ownBlock = v.ownBlock ∧ w.grownBy w' v.ownBlock

set_option maxRecDepth 100000 in
set_option maxHeartbeats 2000000 in
theorem delete_any (w : World) (B m b bw : Nat) (v : Value) (L : List Late) (hR : w.ownsRow B 113 65 v m (latesC L)) (hL : LatesOk L) (hd : (L.map (·.1)).Nodup) (hm : L.length = m) (hfew : m ≤ 64) (hc : w.cell? ⟨bw, 0, none⟩ = some (.int .u64 (b : Int))) (hbw : v.ownBlock ≠ some bw) :
    Calls Tryz.prog 73 #[v, .func (.func 74) #[] #[.pointer (some ⟨bw, 0, none⟩)]] w fun e w' => DelEnd w w' B v L b e := by
  rcases hR.2 with ⟨rfl, h0⟩ | ⟨g, cap, cur, rfl, hBg, hg, hle, hcm, _, _⟩
  · have HI := index_nil w (.func (.func 74) #[] #[.pointer (some ⟨bw, 0, none⟩)])
    have hLe : L = [] := List.eq_nil_of_length_eq_zero (by omega)
    subst hLe
    go_enter Tryz.func73, Tryz.ntmps73
    go_wp2_with fail
    refine HI.mono ?_
    rintro e w2 ⟨rfl, rfl⟩
    clear HI
    go_wp2
    go_ret
    exact ⟨_, rfl, World.ownsRow_nil _ _ _ _, rfl, ⟨rfl, rfl, rfl, Nat.le_refl _, fun _ _ _ => rfl⟩⟩
  · have HI := index_any w B g m cap b bw L hR hL hm hfew hc
    cases hF : L.findIdx? (fun x => decide (x.1 = b)) with
    | none =>
      rw [idxI_none hF] at HI
      have HE : Hid (struck L b = L) := struck_none hF
      have HR : Hid (w.ownsRow B 113 65 (.slice (some ⟨g, 0, none⟩) m cap) m (latesC L)) := hR
      clear hF hR hL hd hc hbw hg
      go_enter Tryz.func73, Tryz.ntmps73
      go_wp2_with fail
      refine HI.mono ?_
      rintro e w2 ⟨rfl, hb2⟩
      clear HI
      go_wp2
      go_ret
      refine ⟨_, rfl, ?_, rfl, grownBy_of hb2⟩
      rw [HE.out, hm]
      exact owns_below HR.out hb2
    | some k0 =>
      rw [idxI_some hF] at HI
      obtain ⟨hst, hno⟩ := struck_some hd hF
      have hk0 : k0 < m := by
        obtain ⟨h1, _⟩ := List.findIdx?_eq_some_iff_getElem.1 hF
        omega
      obtain ⟨Z, hal, hZ, hZ1⟩ := late_zeros
      have hne1 : ((k0 : Int) == -1) = false := beq_eq_false_iff_ne.2 (by omega)
      have HST : Hid (struck L b = L.eraseIdx k0) := hst
      have HNO : Hid (∀ j x, k0 < j → L[j]? = some x → x.1 ≠ b) := hno
      have HSR : Hid (w.ownsRow B 113 65 (.slice (some ⟨g, 0, none⟩) m cap) m (latesC (shiftL L k0 k0))) := by rw [shift_start]; exact hR
      have hgw : g ≠ bw := fun e => hbw (by rw [e]; rfl)
      have hL0 : Hid (LatesOk L) := hL
      clear hF hst hno hR hd
      go_enter Tryz.func73, Tryz.ntmps73
      go_wp2_with fail
      refine HI.mono ?_
      rintro e w1 ⟨rfl, hb1⟩
      clear HI
      go_wp2
      go_loopw [5, 6] (fun y z wr => ∃ i : Nat, k0 ≤ i ∧ i < m ∧ y = .int .i64 i ∧ z = .int .i64 (i + 1) ∧ w.grownBy wr (some g) ∧ Hid (wr.ownsRow B 113 65 (.slice (some ⟨g, 0, none⟩) m cap) m (latesC (shiftL L k0 i)))) (fun y _ _ => m - (intOf y).toNat)
      case atStart => exact ⟨k0, Nat.le_refl _, hk0, rfl, rfl, grownBy_of hb1, owns_below HSR.out hb1⟩
      case round =>
        obtain ⟨i, hki, him, rfl, rfl, hgr, HO⟩ := hrel
        clear HSR
        have hwc := hgr.cell hc (show some bw ≠ some g by simpa using Ne.symm hgw)
        by_cases hlt : i + 1 < m
        · obtain ⟨x, hx⟩ : ∃ x, L[i + 1]? = some x := ⟨_, List.getElem?_eq_getElem (by omega)⟩
          have hxl := hL x (List.mem_of_getElem? hx)
          have hra := row_range HO.out (shift_ok hL k0 i) (k := i + 1) (x := x) (by rw [shift_get L hki (by omega), if_neg (by omega), if_neg (by omega)]; exact hx)
          have hbA : Below wr.heap.size wr (wr.alloc (.cells (lateC x).toArray 113)) := (Below.refl _ _).alloc (Nat.le_refl _) _
          have hnr : (wr.alloc (.cells (lateC x).toArray 113)).rangeAt wr.heap.size 0 (lateC x) := range_new wr _ _ 0 _ (fun j u hj => by rw [Nat.zero_add]; exact hj)
          have HC := strikes_any (wr.alloc (.cells (lateC x).toArray 113)) x b bw (cell_later hbA hwc)
          rw [decide_eq_false (HNO.out (i + 1) x (by omega) hx)] at HC
          have HL : Hid ((lateC x).length = 65) := lateC_len hxl.2
          have HX : Hid (L[i + 1]? = some x) := hx
          clear hx hxl hL
          have hltz : (i : Int) + 1 < (m : Int) := by omega
          go_wp2_with (first
            | (refine wpList_load_mid rfl 113 (.tmp 24) rfl g ((i + 1) * 65) rfl (lateC x) _ hra Tryz.underlying113 rfl (late_info HL.out) ?_)
            | (refine wpList_fill rfl 113 (.tmp 7) (.tmp 25) rfl wr Z rfl (lateC x) rfl rfl (hZ.trans HL.out.symm) (late_info HL.out) (lateC_one x) ?_)
            | (refine wpList_load_mid rfl 113 (.tmp 7) rfl wr.heap.size 0 rfl (lateC x) _ hnr Tryz.underlying113 rfl (late_info HL.out) ?_))
          refine HC.mono ?_
          rintro e w2 ⟨rfl, hb2⟩
          clear HC
          have hb3 := hbA.trans (hb2.mono hbA.size)
          have hnr2 : w2.rangeAt wr.heap.size 0 (lateC x) := fun j u hj => (hb2.cell (p := ⟨wr.heap.size, 0 + j, none⟩) (by simp)).trans (hnr j u hj)
          have hO2 := owns_below HO.out hb3
          have hsl := shift_len L hki (show i < L.length by omega)
          have hth : w2.there g (i * 65) (lateC x).toArray.size := by
            have := there_row hO2 (i * 65) 65 (by omega)
            simpa [HL.out] using this
          obtain ⟨hO3, hg3⟩ := owns_segment (lateC x) (i * 65) w2 _ hO2 (by rw [HL.out, latesC_length (shift_ok hL0.out k0 i), hsl]; omega)
          rw [HL.out, latesC_set (shift_ok hL0.out k0 i) (by omega) x, shift_step L hki (by omega) HX.out] at hO3
          have HO3 : Hid ((w2.setCells g (i * 65) (lateC x)).ownsRow B 113 65 (.slice (some ⟨g, 0, none⟩) m cap) m (latesC (shiftL L k0 (i + 1)))) := hO3
          have hg4 := (hgr.trans (grownBy_of hb3)).trans hg3
          clear hO3 hO2 hg3 HO hnr hra hwc
          go_wp2_with (first
            | (refine wpList_load_mid rfl 113 (.tmp 7) rfl wr.heap.size 0 rfl (lateC x) _ hnr2 Tryz.underlying113 rfl (late_info HL.out) ?_)
            | (refine wpList_store_mid rfl 113 (.tmp 33) (.tmp 32) rfl g (i * 65) (lateC x).toArray rfl rfl hth (by simpa using late_info HL.out) (all_oneCell_toArray (lateC_one x)) ?_))
          go_roundw
          case rel => exact ⟨i + 1, by omega, hlt, by go_num, by go_num, hg4, HO3⟩
          case measure => simp [intOf]; omega
        · obtain rfl : m = i + 1 := by omega
          have hth : wr.there g (i * 65) 65 := there_row HO.out (i * 65) 65 (by omega)
          have hcl := fun ty => clear_one wr ty Z hal hZ hZ1 g (i * 65) (cap - i) hth
          obtain ⟨hO3, hg3⟩ := owns_segment Z.toList (i * 65) wr _ HO.out (by rw [latesC_length (shift_ok hL0.out k0 i), shift_len L hki (by omega)]; simp [hZ]; omega)
          have hlen : (L.eraseIdx k0).length = i := by rw [List.length_eraseIdx, if_pos (by omega)]; omega
          have hO4 : (wr.setCells g (i * 65) Z.toList).ownsRow B 113 65 (.slice (some ⟨g, 0, none⟩) i cap) i (latesC (L.eraseIdx k0)) := by
            rcases hO3.2 with ⟨h', _⟩ | ⟨g', cap', cur', h', hb', hg', hnc', hcm', hcs', htake⟩
            · simp at h'
            · injection h' with e1 _ e2
              injection e1 with e1
              injection e1 with e1
              subst e1
              subst e2
              refine ⟨?_, .inr ⟨g, cap, cur', rfl, hb', hg', by omega, hcm', hcs', ?_⟩⟩
              · rw [latesC_length (fun x hx => hL0.out x (List.mem_of_mem_eraseIdx hx)), hlen]
              · have : cur'.toList.take (i * 65) = (cur'.toList.take ((i + 1) * 65)).take (i * 65) := by rw [List.take_take, Nat.min_eq_left (by omega)]
                have hse := shift_end L (k := k0) (by omega)
                rw [show L.length - 1 = i by omega] at hse
                rw [this, htake, List.append_assoc, List.take_append_of_le_length (by rw [List.length_take, latesC_length (shift_ok hL0.out k0 i), shift_len L hki (by omega)]; omega), List.take_take, Nat.min_self, latesC_take (shift_ok hL0.out k0 i), hse]
          have HO4 : Hid ((wr.setCells g (i * 65) Z.toList).ownsRow B 113 65 (.slice (some ⟨g, 0, none⟩) i cap) i (latesC (L.eraseIdx k0))) := hO4
          have hg4 := hgr.trans hg3
          have HLE : Hid ((L.eraseIdx k0).length = i) := hlen
          have b1 : (i : Int) ≤ (cap : Int) := by omega
          clear hO3 hO4 HO hth hg3 hlen
          go_wp2
          go_ret
          refine ⟨_, rfl, ?_, rfl, hg4⟩
          rw [HST.out, HLE.out]
          exact HO4.out
end Go.Proofs.YtlcdacldhalnnaaGreatDoor
