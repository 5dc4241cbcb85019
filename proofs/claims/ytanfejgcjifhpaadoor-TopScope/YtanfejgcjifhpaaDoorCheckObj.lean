/-
  What Check returns, for every object: the number of its fault; memory that was there stays as it was.
-/
import Derived.Test.YtanfejgcjifhpaaDoorCheckTies
namespace Go.Proofs.YtanfejgcjifhpaaDoor
open Go.RowKit

set_option maxHeartbeats 2000000 in
theorem checkObj_any (v : ObjV) (o : ObjF) (w : World) (hA : ObjAt w v o) (hf : ObjFit o) :
    Calls Tryd.prog 22 #[.agg (v.cells o)] w fun e w' => e = .returned (errV (objF o)) ∧ Below w.heap.size w w' := by
  have hb0 : ∀ ob : Obj, Below w.heap.size w (w.alloc ob) := fun ob => (Below.refl _ _).alloc (Nat.le_refl _) ob
  have HC := fun (w : World) => checkCounts_any v o w hf
  unfold ObjV.cells at HC
  unfold ObjV.cells
  by_cases c0 : countsF o = 0
  · have hsm : o.nN ≤ 4 ∧ o.nW ≤ 40 ∧ o.nS ≤ 8 ∧ o.nT ≤ 6 := by
      unfold countsF at c0
      split at c0
      · omega
      · omega
    simp only [errV_nil c0] at HC
    by_cases c1 : faultTo (needF o.needs) o.nN = 0
    · by_cases c2 : faultTo (wordF o.words) o.nW = 0
      · by_cases c3 : faultTo (symF o.nW o.sName o.sAt) o.nS = 0
        · have HE : Hid (objF o = faultTo (tieF o) o.nT) := by
            show objF o = _
            unfold objF
            rw [c0, c1, c2, c3]
            rfl
          go_enter Tryd.func22, Tryd.ntmps22
          go_wp2_with fail
          refine (HC _).mono ?_
          rintro e w1 ⟨rfl, hb1⟩
          clear HC
          have hx : Below w.heap.size w w1 := (hb0 _).trans (hb1.mono (hb0 _).size)
          have hc0 : w1.cell? ⟨w.heap.size, 0, none⟩ = some (.slice v.aN o.nN v.cN) := cell_later hb1 (by simp [go_sem])
          have hc1 : w1.cell? ⟨w.heap.size, 0 + 1, none⟩ = some (.slice v.aW o.nW v.cW) := cell_later hb1 (by simp [go_sem])
          have hc2 : w1.cell? ⟨w.heap.size, 0 + 2, none⟩ = some (.slice v.aS o.nS v.cS) := cell_later hb1 (by simp [go_sem])
          have hc3 : w1.cell? ⟨w.heap.size, 0 + 3, none⟩ = some (.slice v.aT o.nT v.cT) := cell_later hb1 (by simp [go_sem])
          go_wp2_with fail
          refine (checkNeeds_any o.needs v.aN o.nN v.cN _ (by omega) hA.capN (hA.needs.later hx) hf.needs).mono ?_
          rw [errV_nil c1]
          rintro e w' ⟨rfl, rfl⟩
          go_wp2_with fail
          refine (checkWords_any o.words v.aW o.nW v.cW _ (by omega) (hA.words.later hx)).mono ?_
          rw [errV_nil c2]
          rintro e w' ⟨rfl, rfl⟩
          go_wp2_with fail
          refine (checkSymbols_any o.sName o.sAt o.sWeak v.aS o.nS v.cS o.nW _ (by omega) hA.capS (hA.syms.later hx) (fun i hi => (hf.syms i hi).1)).mono ?_
          rw [errV_nil c3]
          rintro e w2 ⟨rfl, hb2⟩
          have hy : Below w.heap.size w w2 := hx.trans (hb2.mono hx.size)
          have hd1 := cell_later hb2 hc1
          have hd3 := cell_later hb2 hc3
          clear hc0 hc1 hc2 hc3
          go_wp2_with fail
          refine (checkTies_any o v.aT v.cT _ (by omega) (hA.ties.later hy) (fun i hi => (hf.ties i hi).1)).mono ?_
          rintro e w3 ⟨rfl, hb3⟩
          go_wp2
          go_ret
          rw [HE.out]
          exact ⟨rfl, hy.trans (hb3.mono hy.size)⟩
        · have HE : Hid (objF o = faultTo (symF o.nW o.sName o.sAt) o.nS) := by
            show objF o = _
            unfold objF
            rw [c0, c1, c2, seqF_some _ c3]
            rfl
          go_enter Tryd.func22, Tryd.ntmps22
          go_wp2_with fail
          refine (HC _).mono ?_
          rintro e w1 ⟨rfl, hb1⟩
          clear HC
          have hx : Below w.heap.size w w1 := (hb0 _).trans (hb1.mono (hb0 _).size)
          have hc0 : w1.cell? ⟨w.heap.size, 0, none⟩ = some (.slice v.aN o.nN v.cN) := cell_later hb1 (by simp [go_sem])
          have hc1 : w1.cell? ⟨w.heap.size, 0 + 1, none⟩ = some (.slice v.aW o.nW v.cW) := cell_later hb1 (by simp [go_sem])
          have hc2 : w1.cell? ⟨w.heap.size, 0 + 2, none⟩ = some (.slice v.aS o.nS v.cS) := cell_later hb1 (by simp [go_sem])
          go_wp2_with fail
          refine (checkNeeds_any o.needs v.aN o.nN v.cN _ (by omega) hA.capN (hA.needs.later hx) hf.needs).mono ?_
          rw [errV_nil c1]
          rintro e w' ⟨rfl, rfl⟩
          go_wp2_with fail
          refine (checkWords_any o.words v.aW o.nW v.cW _ (by omega) (hA.words.later hx)).mono ?_
          rw [errV_nil c2]
          rintro e w' ⟨rfl, rfl⟩
          go_wp2_with fail
          refine (checkSymbols_any o.sName o.sAt o.sWeak v.aS o.nS v.cS o.nW _ (by omega) hA.capS (hA.syms.later hx) (fun i hi => (hf.syms i hi).1)).mono ?_
          rw [errV_some c3]
          rintro e w2 ⟨rfl, hb2⟩
          go_wp2
          go_ret
          rw [HE.out, errV_some c3]
          exact ⟨rfl, hx.trans (hb2.mono hx.size)⟩
      · have HE : Hid (objF o = faultTo (wordF o.words) o.nW) := by
          show objF o = _
          unfold objF
          rw [c0, c1, seqF_some _ c2]
          rfl
        go_enter Tryd.func22, Tryd.ntmps22
        go_wp2_with fail
        refine (HC _).mono ?_
        rintro e w1 ⟨rfl, hb1⟩
        clear HC
        have hx : Below w.heap.size w w1 := (hb0 _).trans (hb1.mono (hb0 _).size)
        have hc0 : w1.cell? ⟨w.heap.size, 0, none⟩ = some (.slice v.aN o.nN v.cN) := cell_later hb1 (by simp [go_sem])
        have hc1 : w1.cell? ⟨w.heap.size, 0 + 1, none⟩ = some (.slice v.aW o.nW v.cW) := cell_later hb1 (by simp [go_sem])
        go_wp2_with fail
        refine (checkNeeds_any o.needs v.aN o.nN v.cN _ (by omega) hA.capN (hA.needs.later hx) hf.needs).mono ?_
        rw [errV_nil c1]
        rintro e w' ⟨rfl, rfl⟩
        go_wp2_with fail
        refine (checkWords_any o.words v.aW o.nW v.cW _ (by omega) (hA.words.later hx)).mono ?_
        rw [errV_some c2]
        rintro e w' ⟨rfl, rfl⟩
        go_wp2
        go_ret
        rw [HE.out, errV_some c2]
        exact ⟨rfl, hx⟩
    · have HE : Hid (objF o = faultTo (needF o.needs) o.nN) := by
        show objF o = _
        unfold objF
        rw [c0, seqF_some _ c1]
        rfl
      go_enter Tryd.func22, Tryd.ntmps22
      go_wp2_with fail
      refine (HC _).mono ?_
      rintro e w1 ⟨rfl, hb1⟩
      clear HC
      have hx : Below w.heap.size w w1 := (hb0 _).trans (hb1.mono (hb0 _).size)
      have hc0 : w1.cell? ⟨w.heap.size, 0, none⟩ = some (.slice v.aN o.nN v.cN) := cell_later hb1 (by simp [go_sem])
      go_wp2_with fail
      refine (checkNeeds_any o.needs v.aN o.nN v.cN _ (by omega) hA.capN (hA.needs.later hx) hf.needs).mono ?_
      rw [errV_some c1]
      rintro e w' ⟨rfl, rfl⟩
      go_wp2
      go_ret
      rw [HE.out, errV_some c1]
      exact ⟨rfl, hx⟩
  · have HE : Hid (objF o = countsF o) := by
      show objF o = _
      unfold objF
      rw [seqF_some _ c0]
    simp only [errV_some c0] at HC
    go_enter Tryd.func22, Tryd.ntmps22
    go_wp2_with fail
    refine (HC _).mono ?_
    rintro e w1 ⟨rfl, hb1⟩
    clear HC
    go_wp2
    go_ret
    rw [HE.out, errV_some c0]
    exact ⟨rfl, (hb0 _).trans (hb1.mono (hb0 _).size)⟩
end Go.Proofs.YtanfejgcjifhpaaDoor
