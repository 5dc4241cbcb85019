/-
  The law TopTable where the list or the name is too long, or the number of buckets is out of bounds: it returns true; memory that was there stays as it was.
-/
import Derived.Test.YtchccaalinepnaaSeenStruct
namespace Go.Proofs.Ytchccaalinepnaa
open Go.RowKit

set_option maxRecDepth 100000 in
set_option maxHeartbeats 1000000 in
theorem top_early (al : Option Addr) (n cap : Nat) (many : Int) (s : ByteArray) (w : World) (h : 8 < n ∨ 30 < s.size) :
    Calls Try.prog 6 #[.slice al n cap, .int .i64 many, .string s] w fun e w' => e = .returned (.bool true) ∧ Below w.heap.size w w' := by
  have hq1 : findF (firstRow (oneName 120) 1 1 0) 1 (nextRow (oneName 120) 1 1 0) 1 1 (oneName 120) ⟨#[120]⟩ = 0 := by
    rw [find_made _ _ _ _ (by decide)]
    simp only [ByteArray.toList_eq]
    decide
  have HQ1 := (show Hid _ from hq1)
  clear hq1
  have hb1 : ∀ o : Obj, Below w.heap.size w (w.alloc o) := fun o => (Below.refl _ _).alloc (Nat.le_refl _) _
  go_enter Try.func6, Try.ntmps6
  go_wp2_with fail
  refine (make_ok _ 1 _ 1 (oneName 120) _ (by decide) (by decide) (by decide) (oneName_syms w 120) (fun i _ => oneName_size 120 i)).mono ?_
  rintro e w0 ⟨br, bt, bf0, bn0, rfl, hT⟩
  have hrF := hT.rowF
  have hrN := hT.rowN
  have hb0 : Below w.heap.size w w0 := (hb1 _).trans (hT.below.mono (by simp))
  clear hT hb1
  have hb2 : ∀ o1 o2 : Obj, Below w0.heap.size w0 ((w0.alloc o1).alloc o2) := fun o1 o2 => ((Below.refl _ _).alloc (Nat.le_refl _) _).alloc (by simp) _
  go_wp2_with fail
  refine (find_any _ _ _ _ _ 1 1 1 1 1 1 (oneName 120) ⟨#[120]⟩ _ (by decide) (by decide) (by decide) (by decide) (hrF.later (hb2 _ _)) (hrN.later (hb2 _ _)) (by have := oneName_syms (w0.alloc (.cells #[.slice (some ⟨bf0, 0, none⟩) 1 1, .slice (some ⟨bn0, 0, none⟩) 1 1] 34)) 120; simpa using this)).mono ?_
  rw [HQ1.out]
  rintro e w1 ⟨rfl, hbf⟩
  have hbw : Below w.heap.size w w1 := hb0.trans (((hb2 _ _).mono hb0.size).trans (hbf.mono (Nat.le_trans hb0.size (hb2 _ _).size)))
  have hq0 : w1.cell? ⟨w0.heap.size, 0, none⟩ = some (.slice (some ⟨bf0, 0, none⟩) 1 1) := cell_later hbf (by simp [go_sem])
  have hq1 : w1.cell? ⟨w0.heap.size, 0 + 1, none⟩ = some (.slice (some ⟨bn0, 0, none⟩) 1 1) := cell_later hbf (by simp [go_sem])
  have hqz : ∀ i, w1.frozen? ⟨w0.heap.size, i, none⟩ = false := fun i => (hbf.frozen (p := ⟨w0.heap.size, i, none⟩) (by simp <;> omega)).trans (by simp [go_sem])
  have hql : w.heap.size ≤ w0.heap.size := hb0.size
  have hqs : w0.heap.size < w1.heap.size := by have := hbf.size; simp at this; omega
  clear hbf hb2 hrF hrN hb0 HQ1
  by_cases h1 : 8 < n
  · have d1 : (8 : Int) < (n : Int) := by omega
    clear h h1
    go_wp2
    go_ret
    exact ⟨rfl, hbw⟩
  · have d1 : ¬ (8 : Int) < (n : Int) := by omega
    have d2 : (30 : Int) < (s.size : Int) := by omega
    clear h h1
    go_wp2
    go_ret
    exact ⟨rfl, hbw⟩

set_option maxRecDepth 100000 in
set_option maxHeartbeats 2000000 in
theorem top_bound (al : Option Addr) (n cap : Nat) (nm : Nat → ByteArray) (many : Int) (s : ByteArray) (w : World) (hl : SymsAt w al n nm) (h1 : n ≤ 8) (h2 : s.size ≤ 30) (hm : many < 1 ∨ 16 < many) :
    Calls Try.prog 6 #[.slice al n cap, .int .i64 many, .string s] w fun e w' => e = .returned (.bool true) ∧ Below w.heap.size w w' := by
  have hq1 : findF (firstRow (oneName 120) 1 1 0) 1 (nextRow (oneName 120) 1 1 0) 1 1 (oneName 120) ⟨#[120]⟩ = 0 := by
    rw [find_made _ _ _ _ (by decide)]
    simp only [ByteArray.toList_eq]
    decide
  have HQ1 := (show Hid _ from hq1)
  clear hq1
  have hb1 : ∀ o : Obj, Below w.heap.size w (w.alloc o) := fun o => (Below.refl _ _).alloc (Nat.le_refl _) _
  go_enter Try.func6, Try.ntmps6
  go_wp2_with fail
  refine (make_ok _ 1 _ 1 (oneName 120) _ (by decide) (by decide) (by decide) (oneName_syms w 120) (fun i _ => oneName_size 120 i)).mono ?_
  rintro e w0 ⟨br, bt, bf0, bn0, rfl, hT⟩
  have hrF := hT.rowF
  have hrN := hT.rowN
  have hb0 : Below w.heap.size w w0 := (hb1 _).trans (hT.below.mono (by simp))
  clear hT hb1
  have hb2 : ∀ o1 o2 : Obj, Below w0.heap.size w0 ((w0.alloc o1).alloc o2) := fun o1 o2 => ((Below.refl _ _).alloc (Nat.le_refl _) _).alloc (by simp) _
  go_wp2_with fail
  refine (find_any _ _ _ _ _ 1 1 1 1 1 1 (oneName 120) ⟨#[120]⟩ _ (by decide) (by decide) (by decide) (by decide) (hrF.later (hb2 _ _)) (hrN.later (hb2 _ _)) (by have := oneName_syms (w0.alloc (.cells #[.slice (some ⟨bf0, 0, none⟩) 1 1, .slice (some ⟨bn0, 0, none⟩) 1 1] 34)) 120; simpa using this)).mono ?_
  rw [HQ1.out]
  rintro e w1 ⟨rfl, hbf⟩
  have hbw : Below w.heap.size w w1 := hb0.trans (((hb2 _ _).mono hb0.size).trans (hbf.mono (Nat.le_trans hb0.size (hb2 _ _).size)))
  have hq0 : w1.cell? ⟨w0.heap.size, 0, none⟩ = some (.slice (some ⟨bf0, 0, none⟩) 1 1) := cell_later hbf (by simp [go_sem])
  have hq1 : w1.cell? ⟨w0.heap.size, 0 + 1, none⟩ = some (.slice (some ⟨bn0, 0, none⟩) 1 1) := cell_later hbf (by simp [go_sem])
  have hqz : ∀ i, w1.frozen? ⟨w0.heap.size, i, none⟩ = false := fun i => (hbf.frozen (p := ⟨w0.heap.size, i, none⟩) (by simp <;> omega)).trans (by simp [go_sem])
  have hql : w.heap.size ≤ w0.heap.size := hb0.size
  have hqs : w0.heap.size < w1.heap.size := by have := hbf.size; simp at this; omega
  clear hbf hb2 hrF hrN hb0 HQ1
  have d1 : ¬ (8 : Int) < (n : Int) := by omega
  have d2 : ¬ (30 : Int) < (s.size : Int) := by omega
  have hsy := hl.later hbw
  go_wp2
  go_loop [9] (fun i => ∃ k : Nat, k ≤ n ∧ i = .int .i64 k) (fun i => n - (intOf i).toNat)
  case atStart => exact ⟨0, Nat.zero_le _, rfl⟩
  case round =>
    obtain ⟨k, hk, rfl⟩ := hrel
    by_cases hlt : k < n
    · rcases hsy with h0 | ⟨b, o, rfl, hc⟩
      · omega
      · have hck := hc k hlt
        clear hc
        by_cases hz : (30 : Int) < ((nm k).size : Int)
        · go_wp2
          go_ret
          exact ⟨rfl, hbw⟩
        · go_wp2
          go_round
          case rel => exact ⟨k + 1, by omega, by go_num⟩
          case measure => simp [intOf]; omega
    · go_wp2_with fail
      refine (make_bound al n cap many _ hm).mono ?_
      rintro e w2 ⟨rfl, hb2⟩
      have e1 : errV 1 = .iface 45 (.int .i64 1) := rfl
      rw [e1]
      clear e1
      have hx0 := cell_later hb2 hq0
      have hx1 := cell_later hb2 hq1
      have hz0 := (hb2.frozen (p := ⟨w0.heap.size, 0, none⟩) hqs).trans (hqz 0)
      have hz1 := (hb2.frozen (p := ⟨w0.heap.size, 0 + 1, none⟩) hqs).trans (hqz (0 + 1))
      have hbx : Below w.heap.size w w2 := hbw.trans (hb2.mono hbw.size)
      have hmd : decide (many < 1) = true ∨ (decide (many < 1) = false ∧ decide (16 < many) = true) := by
        rcases hm with hm | hm
        · exact .inl (by simpa using hm)
        · exact .inr ⟨by simp; omega, by simpa using hm⟩
      clear hq0 hq1 hqz hb2 hsy hl
      rcases hmd with hm1 | ⟨hm1, hm2⟩
      all_goals
        clear hm
        go_wp2
        go_ret
        exact ⟨rfl, (hbx.setCell hql _).setCell hql _⟩
end Go.Proofs.Ytchccaalinepnaa
