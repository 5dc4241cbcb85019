/- What readLine does with a line of each kind, for every line; memory that was there stays as it was. What namedTie returns, for every three words; memory that was there stays as it was. -/
import Derived.Test.YtagfngiaogckpaaGreatDoorRefMay
import Derived.Deep.QuietTactic
import Derived.BigQuiet
namespace Go.Proofs.YtagfngiaogckpaaGreatDoor
open Go.RowKit
def wordsOf (l : ByteArray) : List ByteArray := Lib.splitB ⟨#[32]⟩ 0 (Lib.countB l ⟨#[32]⟩) l
set_option maxRecDepth 100000 in
set_option maxHeartbeats 2000000 in
theorem readLine_need (B bo : Nat) (vN vW vS vT : Value) (o : ObjF) (l : ByteArray) (wk : Bool) (l' a : ByteArray) (w : World) (hE : Env w) (hR : Reading B w bo vN vW vS vT o)
  (hl' : l'.size <= 1000000) (hcut : Lib.hasPrefix l.data.toList [119,101,97,107,32] = wk) (htrim : (ByteArray.mk (Lib.trimPrefix l.data.toList [119,101,97,107,32]).toArray) = l')
  (hws : wordsOf l' = [⟨#[110,101,101,100]⟩,a]) (ha : a.size <= 1000000) (hn : o.nN + 1 <= 1000000) :
  Calls Tryz.prog 114 #[.pointer (some ⟨bo,0,none⟩),.string l] w fun e w' => e = .returned (.tuple #[]) /\ (∃ v0 v1 v2 v3,Reading B w' bo v0 v1 v2 v3 (addNeed o a)) /\ Kept B bo w w' := by
 have HC := Tryz.strings_CutPrefix l ⟨#[119,101,97,107,32]⟩ w
 have e0 : (ByteArray.mk #[119,101,97,107,32]).data.toList = [119,101,97,107,32] := rfl
 rw [e0,hcut,htrim] at HC
 obtain ⟨m,hm⟩ := hE.maxLen
 have HS := Tryz.strings_Split l' ⟨#[32]⟩ m w (by omega) hm (by decide)
 have HWS : Lib.splitB ⟨#[32]⟩ 0 (Lib.countB l' ⟨#[32]⟩) l' = [⟨#[110,101,101,100]⟩,a] := hws
 have hcnt : Lib.countB l' ⟨#[32]⟩ = 1 := by
  have h := Lib.splitB_all ⟨#[32]⟩ (by decide) 0 _ l' rfl
  rw [HWS] at h
  simp only [List.length_cons,List.length_nil] at h
  omega
 rw [HWS,hcnt] at HS
 simp only [List.map_cons,List.map_nil] at HS
 have hBw : B <= w.heap.size := hR.lo
 have hX : Below w.heap.size w (w.alloc (.cells #[.string ⟨#[110,101,101,100]⟩,.string a] 9)) := (Below.refl _ _).alloc (Nat.le_refl _) _
 have hY := fun nq : Nat => below_drewN hX nq
 have x0 := fun nq : Nat => (show ((w.alloc (.cells #[.string ⟨#[110,101,101,100]⟩,.string a] 9)).drewN nq).cell? ⟨w.heap.size,1,none⟩ = some (.string a) by simp [go_sem])
 clear e0 hcut htrim hcnt HWS hws hm hX
 go_enter Tryz.func114,Tryz.ntmps114
 go_wp2_with fail
 refine HC.mono ?_
 rintro e w' ⟨rfl,hw'⟩
 replace hw' := hw'.symm
 subst hw'
 go_wp2_with fail
 refine HS.mono ?_
 rintro e w' ⟨rfl,hw'⟩
 replace hw' := hw'.symm
 subst hw'
 clear HC HS
 go_wp2
 go_quiet (fail)
 go_wp2
 replace hY := hY nq
 replace x0 := x0 nq
 generalize (w.alloc (.cells #[.string ⟨#[110,101,101,100]⟩,.string a] 9)).drewN nq = Y at *
 replace hR := hR.below hY
 replace hE := hE.later hY
 replace hY : Kept B bo w Y := Kept.of hY hBw
 have hC := hR.c0
 go_region_law (first | (refine step_run_append rfl _ _ 64 rfl _ _ _ rfl rfl happ ?_) | (go_simp; go_at_call 31; refine (clone_any _ _ (by assumption)).mono ?_; rintro e w2 ⟨rfl,hb⟩; (try replace hb := below_undrew hb); replace hY := hY.trans (Kept.of hb hR.lo); replace hR := hR.below hb; replace hE := hE.later hb; replace x0 := cell_later hb x0; replace hC := hR.c0; clear hb; obtain ⟨g,cap,W,happ,g0,gz,hRn,hBn⟩ := hR.needGrow hY a hn; have qs : bo < w2.heap.size := hR.lt))
 all_goals
  go_wp2
  go_end0
  exact ⟨rfl,hRn,hBn⟩
set_option maxRecDepth 100000 in
set_option maxHeartbeats 2000000 in
theorem readLine_word (B bo : Nat) (vN vW vS vT : Value) (o : ObjF) (l : ByteArray) (wk : Bool) (l' a : ByteArray) (w : World) (hE : Env w) (hR : Reading B w bo vN vW vS vT o)
  (hl' : l'.size <= 1000000) (hcut : Lib.hasPrefix l.data.toList [119,101,97,107,32] = wk) (htrim : (ByteArray.mk (Lib.trimPrefix l.data.toList [119,101,97,107,32]).toArray) = l')
  (hws : wordsOf l' = [⟨#[119,111,114,100]⟩,a]) (ha : a.size <= 1000000) (hn : o.nW + 1 <= 1000000) :
  Calls Tryz.prog 114 #[.pointer (some ⟨bo,0,none⟩),.string l] w fun e w' => e = .returned (.tuple #[]) /\ (∃ v0 v1 v2 v3,Reading B w' bo v0 v1 v2 v3 (addWord o (numF a.data.toList))) /\ Kept B bo w w' := by
 have HC := Tryz.strings_CutPrefix l ⟨#[119,101,97,107,32]⟩ w
 have e0 : (ByteArray.mk #[119,101,97,107,32]).data.toList = [119,101,97,107,32] := rfl
 rw [e0,hcut,htrim] at HC
 obtain ⟨m,hm⟩ := hE.maxLen
 have HS := Tryz.strings_Split l' ⟨#[32]⟩ m w (by omega) hm (by decide)
 have HWS : Lib.splitB ⟨#[32]⟩ 0 (Lib.countB l' ⟨#[32]⟩) l' = [⟨#[119,111,114,100]⟩,a] := hws
 have hcnt : Lib.countB l' ⟨#[32]⟩ = 1 := by
  have h := Lib.splitB_all ⟨#[32]⟩ (by decide) 0 _ l' rfl
  rw [HWS] at h
  simp only [List.length_cons,List.length_nil] at h
  omega
 rw [HWS,hcnt] at HS
 simp only [List.map_cons,List.map_nil] at HS
 have hBw : B <= w.heap.size := hR.lo
 have hX : Below w.heap.size w (w.alloc (.cells #[.string ⟨#[119,111,114,100]⟩,.string a] 9)) := (Below.refl _ _).alloc (Nat.le_refl _) _
 have hY := fun nq : Nat => below_drewN hX nq
 have x0 := fun nq : Nat => (show ((w.alloc (.cells #[.string ⟨#[119,111,114,100]⟩,.string a] 9)).drewN nq).cell? ⟨w.heap.size,1,none⟩ = some (.string a) by simp [go_sem])
 clear e0 hcut htrim hcnt HWS hws hm hX
 go_enter Tryz.func114,Tryz.ntmps114
 go_wp2_with fail
 refine HC.mono ?_
 rintro e w' ⟨rfl,hw'⟩
 replace hw' := hw'.symm
 subst hw'
 go_wp2_with fail
 refine HS.mono ?_
 rintro e w' ⟨rfl,hw'⟩
 replace hw' := hw'.symm
 subst hw'
 clear HC HS
 go_wp2
 go_quiet (fail)
 go_wp2
 replace hY := hY nq
 replace x0 := x0 nq
 generalize (w.alloc (.cells #[.string ⟨#[119,111,114,100]⟩,.string a] 9)).drewN nq = Y at *
 replace hR := hR.below hY
 replace hE := hE.later hY
 replace hY : Kept B bo w Y := Kept.of hY hBw
 have hC := hR.c1
 go_region_law (first | (refine step_run_append rfl _ _ 68 rfl _ _ _ rfl rfl happ ?_) | (go_simp; go_at_call 151; refine (number_any _ _ (by first | exact hE | exact hE.drew) (by assumption)).mono ?_; rintro e w2 ⟨rfl,hb⟩; (try replace hb := below_undrew hb); replace hY := hY.trans (Kept.of hb hR.lo); replace hR := hR.below hb; replace hE := hE.later hb; replace x0 := cell_later hb x0; replace hC := hR.c1; clear hb; obtain ⟨g,cap,W,happ,g0,gz,hRn,hBn⟩ := hR.wordGrow hY (numF a.data.toList) hn; have qs : bo < w2.heap.size := hR.lt))
 all_goals
  go_wp2
  go_end0
  exact ⟨rfl,hRn,hBn⟩
theorem lt_of_block {w : World} {R : Nat} {o : Obj} (h : w.heap[R]? = some o) : R < w.heap.size := (Array.getElem?_eq_some_iff.1 h).1
set_option maxRecDepth 100000 in
set_option maxHeartbeats 2000000 in
theorem namedTie_any (kd : Int) (wk : Bool) (bk of : Nat) (a b c : ByteArray) (w : World) (hE : Env w) (ha : a.size <= 1000000) (hb : b.size <= 1000000) (hc : c.size <= 1000000)
  (c0 : w.cell? ⟨bk,of,none⟩ = some (.string a)) (c1 : w.cell? ⟨bk,of + 1,none⟩ = some (.string b)) (c2 : w.cell? ⟨bk,of + 2,none⟩ = some (.string c)) :
  Calls Tryz.prog 152 #[.int .i64 kd,.slice (some ⟨bk,of,none⟩) 3 3,.bool wk] w fun e w' => e = .returned (.agg #[.int .i64 (numF a.data.toList),.int .i64 kd,.int .i64 (numF b.data.toList),.string c,.bool wk]) /\ Below w.heap.size w w' := by
 have hB : Below w.heap.size w (w.alloc (.cells #[.int .i64 0,.int .i64 0,.int .i64 0,.string ⟨#[]⟩,.bool false] 183)) := (Below.refl _ _).alloc (Nat.le_refl _) _
 have hR : (w.alloc (.cells #[.int .i64 0,.int .i64 0,.int .i64 0,.string ⟨#[]⟩,.bool false] 183)).heap[w.heap.size]? = some (.cells #[.int .i64 0,.int .i64 0,.int .i64 0,.string ⟨#[]⟩,.bool false] 183 (0,0)) := by show (w.heap.push _)[w.heap.size]? = _; rw [Array.getElem?_push_size]
 replace hE := hE.later hB
 replace c0 := cell_later hB c0
 replace c1 := cell_later hB c1
 replace c2 := cell_later hB c2
 go_enter Tryz.func152,Tryz.ntmps152
 go_wp2
 generalize w.alloc (.cells #[.int .i64 0,.int .i64 0,.int .i64 0,.string ⟨#[]⟩,.bool false] 183) = Y at *
 generalize hRw : w.heap.size = R at *
 have HR : Hid (w.heap.size = R) := hRw
 clear hRw
 have q0 : Y.cell? ⟨R,0,none⟩ = some (.int .i64 0) := by simp [World.cell?,hR]
 have f0 : Y.frozen? ⟨R,0,none⟩ = false := by simp [World.frozen?,hR]
 have q1 : Y.cell? ⟨R,1,none⟩ = some (.int .i64 0) := by simp [World.cell?,hR]
 have f1 : Y.frozen? ⟨R,1,none⟩ = false := by simp [World.frozen?,hR]
 have q2 : Y.cell? ⟨R,2,none⟩ = some (.int .i64 0) := by simp [World.cell?,hR]
 have f2 : Y.frozen? ⟨R,2,none⟩ = false := by simp [World.frozen?,hR]
 have q3 : Y.cell? ⟨R,3,none⟩ = some (.string ⟨#[]⟩) := by simp [World.cell?,hR]
 have f3 : Y.frozen? ⟨R,3,none⟩ = false := by simp [World.frozen?,hR]
 have q4 : Y.cell? ⟨R,4,none⟩ = some (.bool false) := by simp [World.cell?,hR]
 have f4 : Y.frozen? ⟨R,4,none⟩ = false := by simp [World.frozen?,hR]
 go_region_law (first | (go_simp; go_at_call 151; refine (number_any _ _ (by first | exact hE | exact hE.drew) (by assumption)).mono ?_; rintro e w2 ⟨rfl,hx⟩; (try replace hx := below_undrew hx); have hl := lt_of_block hR; replace hE := hE.later hx; replace c0 := cell_later hx c0; replace c1 := cell_later hx c1; replace c2 := cell_later hx c2; replace hR := (hx.block R hl).trans hR; replace q0 := cell_later hx q0; replace q1 := cell_later hx q1; replace q2 := cell_later hx q2; replace q3 := cell_later hx q3; replace q4 := cell_later hx q4; replace f0 := (hx.frozen (p := ⟨R,0,none⟩) hl).trans f0; replace f1 := (hx.frozen (p := ⟨R,1,none⟩) hl).trans f1; replace f2 := (hx.frozen (p := ⟨R,2,none⟩) hl).trans f2; replace f3 := (hx.frozen (p := ⟨R,3,none⟩) hl).trans f3; replace f4 := (hx.frozen (p := ⟨R,4,none⟩) hl).trans f4; replace hB := hB.trans (hx.mono (Nat.le_of_lt hl)); clear hx) | (go_simp; go_at_call 31; refine (clone_any _ _ (by assumption)).mono ?_; rintro e w2 ⟨rfl,hx⟩; (try replace hx := below_undrew hx); have hl := lt_of_block hR; replace hE := hE.later hx; replace c0 := cell_later hx c0; replace c1 := cell_later hx c1; replace c2 := cell_later hx c2; replace hR := (hx.block R hl).trans hR; replace q0 := cell_later hx q0; replace q1 := cell_later hx q1; replace q2 := cell_later hx q2; replace q3 := cell_later hx q3; replace q4 := cell_later hx q4; replace f0 := (hx.frozen (p := ⟨R,0,none⟩) hl).trans f0; replace f1 := (hx.frozen (p := ⟨R,1,none⟩) hl).trans f1; replace f2 := (hx.frozen (p := ⟨R,2,none⟩) hl).trans f2; replace f3 := (hx.frozen (p := ⟨R,3,none⟩) hl).trans f3; replace f4 := (hx.frozen (p := ⟨R,4,none⟩) hl).trans f4; replace hB := hB.trans (hx.mono (Nat.le_of_lt hl)); clear hx))
 all_goals
  go_wp2
  refine bodyPost_ret (v := .agg #[.int .i64 (numF a.data.toList),.int .i64 kd,.int .i64 (numF b.data.toList),.string c,.bool wk]) (by simp [results,Tryz.results152,go_sem,q0,q1,q2,q3,q4]) rfl ⟨rfl,?_⟩
  rw [HR.out]
  exact ((((hB.setCell (p := ⟨R,0,none⟩) (Nat.le_refl _) _).setCell (p := ⟨R,1,none⟩) (Nat.le_refl _) _).setCell (p := ⟨R,2,none⟩) (Nat.le_refl _) _).setCell (p := ⟨R,3,none⟩) (Nat.le_refl _) _).setCell (p := ⟨R,4,none⟩) (Nat.le_refl _) _
end Go.Proofs.YtagfngiaogckpaaGreatDoor
