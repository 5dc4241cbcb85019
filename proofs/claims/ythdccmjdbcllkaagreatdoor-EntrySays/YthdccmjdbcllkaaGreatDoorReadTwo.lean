/-
  What readLine does with a line of each kind, for every line; memory that was there stays as it was.
-/
import Derived.Test.YthdccmjdbcllkaaGreatDoorReadBeg
import Derived.Deep.QuietTactic
import Derived.BigQuiet
import Derived.Deep.RegionWith
import Derived.Deep.RegionLaw
import Derived.Lib.SplitLaws
namespace Go.Proofs.YthdccmjdbcllkaaGreatDoor
open Go.RowKit
/-- the words of a line. -/
def wordsOf (l : ByteArray) : List ByteArray := Lib.splitB ⟨#[32]⟩ 0 (Lib.countB l ⟨#[32]⟩) l

set_option maxRecDepth 100000 in
set_option maxHeartbeats 2000000 in
theorem readLine_need (B bo : Nat) (vN vW vS vT : Value) (o : ObjF) (l : ByteArray) (wk : Bool) (l' a : ByteArray) (w : World) (hE : Env w) (hR : Reading B w bo vN vW vS vT o)
    (hl' : l'.size ≤ 1000000) (hcut : Lib.hasPrefix l.data.toList [119, 101, 97, 107, 32] = wk) (htrim : (ByteArray.mk (Lib.trimPrefix l.data.toList [119, 101, 97, 107, 32]).toArray) = l')
    (hws : wordsOf l' = [⟨#[110, 101, 101, 100]⟩, a]) (ha : a.size ≤ 1000000) (hn : o.nN + 1 ≤ 1000000) :
    Calls Tryz.prog 99 #[.pointer (some ⟨bo, 0, none⟩), .string l] w fun e w' => e = .returned (.tuple #[]) ∧ (∃ v0 v1 v2 v3, Reading B w' bo v0 v1 v2 v3 (addNeed o a)) ∧ Kept B bo w w' := by
  have HC := Tryz.strings_CutPrefix l ⟨#[119, 101, 97, 107, 32]⟩ w
  have e0 : (ByteArray.mk #[119, 101, 97, 107, 32]).data.toList = [119, 101, 97, 107, 32] := rfl
  rw [e0, hcut, htrim] at HC
  obtain ⟨m, hm⟩ := hE.maxLen
  have HS := Tryz.strings_Split l' ⟨#[32]⟩ m w (by omega) hm (by decide)
  have HWS : Lib.splitB ⟨#[32]⟩ 0 (Lib.countB l' ⟨#[32]⟩) l' = [⟨#[110, 101, 101, 100]⟩, a] := hws
  have hcnt : Lib.countB l' ⟨#[32]⟩ = 1 := by
    have h := Lib.splitB_all ⟨#[32]⟩ (by decide) 0 _ l' rfl
    rw [HWS] at h
    simp only [List.length_cons, List.length_nil] at h
    omega
  rw [HWS, hcnt] at HS
  simp only [List.map_cons, List.map_nil] at HS
  have hBw : B ≤ w.heap.size := hR.lo
  have hX : Below w.heap.size w (w.alloc (.cells #[.string ⟨#[110, 101, 101, 100]⟩, .string a] 9)) := (Below.refl _ _).alloc (Nat.le_refl _) _
  have hY := fun nq : Nat => below_drewN hX nq
  have x0 := fun nq : Nat => (show ((w.alloc (.cells #[.string ⟨#[110, 101, 101, 100]⟩, .string a] 9)).drewN nq).cell? ⟨w.heap.size, 1, none⟩ = some (.string a) by simp [go_sem])
  clear e0 hcut htrim hcnt HWS hws hm hX
  go_enter Tryz.func99, Tryz.ntmps99
  go_wp2_with fail
  refine HC.mono ?_
  rintro e w' ⟨rfl, hw'⟩
  replace hw' := hw'.symm
  subst hw'
  go_wp2_with fail
  refine HS.mono ?_
  rintro e w' ⟨rfl, hw'⟩
  replace hw' := hw'.symm
  subst hw'
  clear HC HS
  go_wp2
  go_quiet (fail)
  go_wp2
  replace hY := hY nq
  replace x0 := x0 nq
  generalize (w.alloc (.cells #[.string ⟨#[110, 101, 101, 100]⟩, .string a] 9)).drewN nq = Y at *
  replace hR := hR.below hY
  replace hE := hE.later hY
  replace hY : Kept B bo w Y := Kept.of hY hBw
  have hC := hR.c0
  go_region_law (first | (refine step_run_append rfl _ _ 72 rfl _ _ _ rfl rfl happ ?_) | (go_simp; go_at_call 50; refine (clone_any _ _ (by assumption)).mono ?_; rintro e w2 ⟨rfl, hb⟩; (try replace hb := below_undrew hb); replace hY := hY.trans (Kept.of hb hR.lo); replace hR := hR.below hb; replace hE := hE.later hb; replace x0 := cell_later hb x0; replace hC := hR.c0; clear hb; obtain ⟨g, cap, W, happ, g0, gz, hRn, hBn⟩ := hR.needGrow hY a hn; have qs : bo < w2.heap.size := hR.lt))
  all_goals
    go_wp2
    go_end0
    exact ⟨rfl, hRn, hBn⟩

set_option maxRecDepth 100000 in
set_option maxHeartbeats 2000000 in
theorem readLine_word (B bo : Nat) (vN vW vS vT : Value) (o : ObjF) (l : ByteArray) (wk : Bool) (l' a : ByteArray) (w : World) (hE : Env w) (hR : Reading B w bo vN vW vS vT o)
    (hl' : l'.size ≤ 1000000) (hcut : Lib.hasPrefix l.data.toList [119, 101, 97, 107, 32] = wk) (htrim : (ByteArray.mk (Lib.trimPrefix l.data.toList [119, 101, 97, 107, 32]).toArray) = l')
    (hws : wordsOf l' = [⟨#[119, 111, 114, 100]⟩, a]) (ha : a.size ≤ 1000000) (hn : o.nW + 1 ≤ 1000000) :
    Calls Tryz.prog 99 #[.pointer (some ⟨bo, 0, none⟩), .string l] w fun e w' => e = .returned (.tuple #[]) ∧ (∃ v0 v1 v2 v3, Reading B w' bo v0 v1 v2 v3 (addWord o (numF a.data.toList))) ∧ Kept B bo w w' := by
  have HC := Tryz.strings_CutPrefix l ⟨#[119, 101, 97, 107, 32]⟩ w
  have e0 : (ByteArray.mk #[119, 101, 97, 107, 32]).data.toList = [119, 101, 97, 107, 32] := rfl
  rw [e0, hcut, htrim] at HC
  obtain ⟨m, hm⟩ := hE.maxLen
  have HS := Tryz.strings_Split l' ⟨#[32]⟩ m w (by omega) hm (by decide)
  have HWS : Lib.splitB ⟨#[32]⟩ 0 (Lib.countB l' ⟨#[32]⟩) l' = [⟨#[119, 111, 114, 100]⟩, a] := hws
  have hcnt : Lib.countB l' ⟨#[32]⟩ = 1 := by
    have h := Lib.splitB_all ⟨#[32]⟩ (by decide) 0 _ l' rfl
    rw [HWS] at h
    simp only [List.length_cons, List.length_nil] at h
    omega
  rw [HWS, hcnt] at HS
  simp only [List.map_cons, List.map_nil] at HS
  have hBw : B ≤ w.heap.size := hR.lo
  have hX : Below w.heap.size w (w.alloc (.cells #[.string ⟨#[119, 111, 114, 100]⟩, .string a] 9)) := (Below.refl _ _).alloc (Nat.le_refl _) _
  have hY := fun nq : Nat => below_drewN hX nq
  have x0 := fun nq : Nat => (show ((w.alloc (.cells #[.string ⟨#[119, 111, 114, 100]⟩, .string a] 9)).drewN nq).cell? ⟨w.heap.size, 1, none⟩ = some (.string a) by simp [go_sem])
  clear e0 hcut htrim hcnt HWS hws hm hX
  go_enter Tryz.func99, Tryz.ntmps99
  go_wp2_with fail
  refine HC.mono ?_
  rintro e w' ⟨rfl, hw'⟩
  replace hw' := hw'.symm
  subst hw'
  go_wp2_with fail
  refine HS.mono ?_
  rintro e w' ⟨rfl, hw'⟩
  replace hw' := hw'.symm
  subst hw'
  clear HC HS
  go_wp2
  go_quiet (fail)
  go_wp2
  replace hY := hY nq
  replace x0 := x0 nq
  generalize (w.alloc (.cells #[.string ⟨#[119, 111, 114, 100]⟩, .string a] 9)).drewN nq = Y at *
  replace hR := hR.below hY
  replace hE := hE.later hY
  replace hY : Kept B bo w Y := Kept.of hY hBw
  have hC := hR.c1
  go_region_law (first | (refine step_run_append rfl _ _ 97 rfl _ _ _ rfl rfl happ ?_) | (go_simp; go_at_call 136; refine (number_any _ _ (by first | exact hE | exact hE.drew) (by assumption)).mono ?_; rintro e w2 ⟨rfl, hb⟩; (try replace hb := below_undrew hb); replace hY := hY.trans (Kept.of hb hR.lo); replace hR := hR.below hb; replace hE := hE.later hb; replace x0 := cell_later hb x0; replace hC := hR.c1; clear hb; obtain ⟨g, cap, W, happ, g0, gz, hRn, hBn⟩ := hR.wordGrow hY (numF a.data.toList) hn; have qs : bo < w2.heap.size := hR.lt))
  all_goals
    go_wp2
    go_end0
    exact ⟨rfl, hRn, hBn⟩
end Go.Proofs.YthdccmjdbcllkaaGreatDoor
