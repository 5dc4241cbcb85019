/-
  What Drop of package shelf does, on a disk on which a shelf stands.
-/
import Derived.Test.YtlcdacldhalnnaaGreatDoorFaceNone
namespace Go.Proofs.YtlcdacldhalnnaaGreatDoor
open Go.RowKit

set_option maxRecDepth 100000 in
set_option maxHeartbeats 8000000 in
theorem drop_any (w : World) (B p n g : Nat) (s : DSt) (E : Nat → EntF) (k : Nat) (root : ByteArray) (h : Disk w B p n s) (hS : Stands s n E k) (hg : ShelfAt w g p) (hE : Env w) :
    Calls Tryz.prog 12 #[.pointer (some ⟨g, 0, none⟩), .string root] w fun e w' => ∃ s', PutEnd s n E k (dropE E k root) s' e ∧ Disk w' B p n s' ∧ Spun B w w' := by
  have hB := h.base
  have HE := entries_any w B p n g s E k h hS hg hE
  go_enter Tryz.func12, Tryz.ntmps12
  go_wp2_with fail
  refine (show Calls _ _ _ _ _ from HE).mono ?_
  rintro e w1 ⟨vl, V, E', rfl, hEO, hSm, hb1⟩
  clear HE
  obtain ⟨a, c, rfl, hRow⟩ := hEO.ents
  have hk3 := hS.good.few
  have HF := find_any a k c V E' root w1 (by omega) hRow
  have efind : findF E' root k 0 = findF E root k 0 := findF_congr (fun i hi => (hSm i hi).root) _ 0 rfl
  rw [efind] at HF
  have hGood : ShelfOk E' k := hS.good.same fun i hi => (hSm i hi).symm
  clear efind
  go_wp2_with fail
  refine (show Calls _ _ _ _ _ from HF).mono ?_
  rintro e w2 ⟨rfl, hb2⟩
  clear HF
  have hbB := hb1.trans (hb2.mono hb1.size)
  have hEO2 := hEO.later (Nat.zero_le _) hb2
  clear hEO hRow
  by_cases hneg : findF E root k 0 < 0
  · have HEND : PutEnd s n E k (dropE E k root) s (.returned (errV 5)) := by
      have e := dropE_none hneg
      have := PutEnd.bad (s := s) (n := n) (E := E) (k := k) (r := dropE E k root) (s' := s) (by rw [e]; exact (by decide : (5 : Nat) ≠ 0)) rfl
      rw [e] at this ⊢
      exact this
    generalize findF E root k 0 = f at *
    go_wp2
    go_ret
    exact ⟨s, HEND, h.later hbB, Spun.of hB hbB⟩
  · obtain ⟨j, _, hj, _, hfj⟩ := findF_some _ 0 rfl (show 0 ≤ findF E root k 0 by omega)
    have HP : Hid (dropE E k root = (0, cutV E j, k - 1)) := dropE_cut hfj
    rw [hfj]
    obtain ⟨m, rfl⟩ : ∃ m, k = m + 1 := ⟨k - 1, by omega⟩
    obtain ⟨ga, ca, hv⟩ := ownsRow_succ hEO2.row
    cases hv
    have HDel := entDelete_any w2 w.heap.size ga m c j V E' hEO2 (by omega) (by omega)
    have hG2 : ShelfOk (cutV E' j) m := by
      have := cut_ok hGood hj
      rw [Nat.add_sub_cancel] at this
      exact this
    rw [Nat.add_sub_cancel] at HP
    have hsame : ∀ i, i < m → SameE (cutV E' j i) (cutV E j i) := fun i hi => by
      unfold cutV
      split
      · exact hSm i (by omega)
      · exact hSm (i + 1) (by omega)
    clear hneg hfj hEO2
    go_wp2_with fail
    refine (show Calls _ _ _ _ _ from HDel).mono ?_
    rintro e w3 ⟨rfl, hEO3, hb3⟩
    clear HDel
    have hb4 := hbB.trans hb3
    obtain ⟨a3, c3, hv3, hRow3⟩ := hEO3.ents
    cases hv3
    have HKE := keep_any w3 B p n g s E (m + 1) (some ⟨ga, 0, none⟩) c _ _ m (h.later hb4) hS (hg.later hb4) (hE.later hb4) hRow3 hG2
    clear hEO3 hRow3
    go_wp2_with fail
    refine (show Calls _ _ _ _ _ from HKE).mono ?_
    rintro e w6 ⟨s', hKE, hD6, hS6⟩
    have HEND : PutEnd s n E (m + 1) (dropE E (m + 1) root) s' e := by rw [HP.out]; exact .keep e rfl (hKE.same hsame)
    clear HKE
    cases hKE with
    | ok _ _ =>
      go_wp2
      go_ret
      exact ⟨s', HEND, hD6, (Spun.of hB hb4).trans hS6⟩
    | fell _ _ =>
      go_wp2
      go_ret
      exact ⟨s', HEND, hD6, (Spun.of hB hb4).trans hS6⟩
end Go.Proofs.YtlcdacldhalnnaaGreatDoor

