/-
  What namedTie returns, for every three words; memory that was there stays as it was.
-/
import Derived.Test.YthdccmjdbcllkaaGreatDoorReadTwo
import Derived.Deep.QuietTactic
import Derived.BigQuiet
import Derived.Deep.RegionWith
import Derived.Deep.RegionLaw
import Derived.Lib.SplitLaws
namespace Go.Proofs.YthdccmjdbcllkaaGreatDoor
open Go.RowKit
theorem lt_of_block {w : World} {R : Nat} {o : Obj} (h : w.heap[R]? = some o) : R < w.heap.size := (Array.getElem?_eq_some_iff.1 h).1

set_option maxRecDepth 100000 in
set_option maxHeartbeats 2000000 in
theorem namedTie_any (kd : Int) (wk : Bool) (bk of : Nat) (a b c : ByteArray) (w : World) (hE : Env w) (ha : a.size ≤ 1000000) (hb : b.size ≤ 1000000) (hc : c.size ≤ 1000000)
    (c0 : w.cell? ⟨bk, of, none⟩ = some (.string a)) (c1 : w.cell? ⟨bk, of + 1, none⟩ = some (.string b)) (c2 : w.cell? ⟨bk, of + 2, none⟩ = some (.string c)) :
    Calls Tryz.prog 137 #[.int .i64 kd, .slice (some ⟨bk, of, none⟩) 3 3, .bool wk] w fun e w' => e = .returned (.agg #[.int .i64 (numF a.data.toList), .int .i64 kd, .int .i64 (numF b.data.toList), .string c, .bool wk]) ∧ Below w.heap.size w w' := by
  have hB : Below w.heap.size w (w.alloc (.cells #[.int .i64 0, .int .i64 0, .int .i64 0, .string ⟨#[]⟩, .bool false] 157)) := (Below.refl _ _).alloc (Nat.le_refl _) _
  have hR : (w.alloc (.cells #[.int .i64 0, .int .i64 0, .int .i64 0, .string ⟨#[]⟩, .bool false] 157)).heap[w.heap.size]? = some (.cells #[.int .i64 0, .int .i64 0, .int .i64 0, .string ⟨#[]⟩, .bool false] 157 (0, 0)) := by show (w.heap.push _)[w.heap.size]? = _; rw [Array.getElem?_push_size]
  replace hE := hE.later hB
  replace c0 := cell_later hB c0
  replace c1 := cell_later hB c1
  replace c2 := cell_later hB c2
  go_enter Tryz.func137, Tryz.ntmps137
  go_wp2
  generalize w.alloc (.cells #[.int .i64 0, .int .i64 0, .int .i64 0, .string ⟨#[]⟩, .bool false] 157) = Y at *
  generalize hRw : w.heap.size = R at *
  have HR : Hid (w.heap.size = R) := hRw
  clear hRw
  have q0 : Y.cell? ⟨R, 0, none⟩ = some (.int .i64 0) := by simp [World.cell?, hR]
  have f0 : Y.frozen? ⟨R, 0, none⟩ = false := by simp [World.frozen?, hR]
  have q1 : Y.cell? ⟨R, 1, none⟩ = some (.int .i64 0) := by simp [World.cell?, hR]
  have f1 : Y.frozen? ⟨R, 1, none⟩ = false := by simp [World.frozen?, hR]
  have q2 : Y.cell? ⟨R, 2, none⟩ = some (.int .i64 0) := by simp [World.cell?, hR]
  have f2 : Y.frozen? ⟨R, 2, none⟩ = false := by simp [World.frozen?, hR]
  have q3 : Y.cell? ⟨R, 3, none⟩ = some (.string ⟨#[]⟩) := by simp [World.cell?, hR]
  have f3 : Y.frozen? ⟨R, 3, none⟩ = false := by simp [World.frozen?, hR]
  have q4 : Y.cell? ⟨R, 4, none⟩ = some (.bool false) := by simp [World.cell?, hR]
  have f4 : Y.frozen? ⟨R, 4, none⟩ = false := by simp [World.frozen?, hR]

  go_region_law (first | (go_simp; go_at_call 136; refine (number_any _ _ (by first | exact hE | exact hE.drew) (by assumption)).mono ?_; rintro e w2 ⟨rfl, hx⟩; (try replace hx := below_undrew hx); have hl := lt_of_block hR; replace hE := hE.later hx; replace c0 := cell_later hx c0; replace c1 := cell_later hx c1; replace c2 := cell_later hx c2; replace hR := (hx.block R hl).trans hR; replace q0 := cell_later hx q0; replace q1 := cell_later hx q1; replace q2 := cell_later hx q2; replace q3 := cell_later hx q3; replace q4 := cell_later hx q4; replace f0 := (hx.frozen (p := ⟨R, 0, none⟩) hl).trans f0; replace f1 := (hx.frozen (p := ⟨R, 1, none⟩) hl).trans f1; replace f2 := (hx.frozen (p := ⟨R, 2, none⟩) hl).trans f2; replace f3 := (hx.frozen (p := ⟨R, 3, none⟩) hl).trans f3; replace f4 := (hx.frozen (p := ⟨R, 4, none⟩) hl).trans f4; replace hB := hB.trans (hx.mono (Nat.le_of_lt hl)); clear hx) | (go_simp; go_at_call 50; refine (clone_any _ _ (by assumption)).mono ?_; rintro e w2 ⟨rfl, hx⟩; (try replace hx := below_undrew hx); have hl := lt_of_block hR; replace hE := hE.later hx; replace c0 := cell_later hx c0; replace c1 := cell_later hx c1; replace c2 := cell_later hx c2; replace hR := (hx.block R hl).trans hR; replace q0 := cell_later hx q0; replace q1 := cell_later hx q1; replace q2 := cell_later hx q2; replace q3 := cell_later hx q3; replace q4 := cell_later hx q4; replace f0 := (hx.frozen (p := ⟨R, 0, none⟩) hl).trans f0; replace f1 := (hx.frozen (p := ⟨R, 1, none⟩) hl).trans f1; replace f2 := (hx.frozen (p := ⟨R, 2, none⟩) hl).trans f2; replace f3 := (hx.frozen (p := ⟨R, 3, none⟩) hl).trans f3; replace f4 := (hx.frozen (p := ⟨R, 4, none⟩) hl).trans f4; replace hB := hB.trans (hx.mono (Nat.le_of_lt hl)); clear hx))
  all_goals
    go_wp2
    refine bodyPost_ret (v := .agg #[.int .i64 (numF a.data.toList), .int .i64 kd, .int .i64 (numF b.data.toList), .string c, .bool wk]) (by simp [results, Tryz.results137, go_sem, q0, q1, q2, q3, q4]) rfl ⟨rfl, ?_⟩
    rw [HR.out]
    exact ((((hB.setCell (p := ⟨R, 0, none⟩) (Nat.le_refl _) _).setCell (p := ⟨R, 1, none⟩) (Nat.le_refl _) _).setCell (p := ⟨R, 2, none⟩) (Nat.le_refl _) _).setCell (p := ⟨R, 3, none⟩) (Nat.le_refl _) _).setCell (p := ⟨R, 4, none⟩) (Nat.le_refl _) _
end Go.Proofs.YthdccmjdbcllkaaGreatDoor
