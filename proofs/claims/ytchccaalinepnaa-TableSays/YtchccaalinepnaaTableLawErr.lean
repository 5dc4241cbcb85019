/-
  The law TableSays where the list is too long, or the number of buckets is out of bounds: it returns true; memory that was there stays as it was.
-/
import Derived.Test.YtchccaalinepnaaTablesFact
namespace Go.Proofs.Ytchccaalinepnaa
open Go.RowKit

/-- what the law is told of its arguments. -/
structure TableArgs (w : World) (al : Option Addr) (n : Nat) (nm : Nat → ByteArray) (s : ByteArray) (af : Option Addr) (nf : Nat) (f : Nat → Int) (an : Option Addr) (nn : Nat) (g : Nat → Int) : Prop where
  syms : SymsAt w al n nm
  sizes : ∀ i, i < n → (nm i).size ≤ maxLen
  size : s.size ≤ maxLen
  first : RowAt w af nf fun i => .int .i64 (f i)
  next : RowAt w an nn fun i => .int .i64 (g i)

/-- what Find finds is it. -/
theorem findF_is (f : Nat → Int) (nf : Nat) (g : Nat → Int) (nn n : Nat) (nm : Nat → ByteArray) (s : ByteArray) :
    findF f nf g nn n nm s < 0 ∨ ∃ q : Nat, findF f nf g nn n nm s = (q : Int) ∧ q < n ∧ ((nm q).toList == s.toList) = true := by
  unfold findF
  split
  · left; decide
  · rcases alongF_is g nn n (fun i => (nm i).toList == s.toList) n (f (hashL s.data.toList % nf)) with h | ⟨h1, h2, h3⟩
    · exact .inl h
    · obtain ⟨q, hq⟩ := Int.eq_ofNat_of_zero_le h1
      rw [hq] at h2 h3
      exact .inr ⟨q, hq, by omega, h3⟩

set_option maxRecDepth 100000 in
set_option maxHeartbeats 1000000 in
theorem table_early (al : Option Addr) (n cap : Nat) (many : Int) (s : ByteArray) (af an : Option Addr) (nf cf nn cn : Nat) (w : World)
    (h : 12 < n ∨ 30 < s.size ∨ 40 < nf ∨ 40 < nn) :
    Calls Try.prog 4 #[.slice al n cap, .int .i64 many, .string s, .agg #[.slice af nf cf, .slice an nn cn]] w fun e w' => e = .returned (.bool true) ∧ Below w.heap.size w w' := by
  have hb1 : ∀ o : Obj, Below w.heap.size w (w.alloc o) := fun o => (Below.refl _ _).alloc (Nat.le_refl _) _
  by_cases h1 : 12 < n
  · have d1 : (12 : Int) < (n : Int) := by omega
    clear h h1
    go_enter Try.func4, Try.ntmps4
    go_wp2_with fail
    refine (tables_any _).mono ?_
    rintro e w1 ⟨rfl, hb⟩
    go_wp2
    go_ret
    exact ⟨rfl, (hb1 _).trans (hb.mono (by simp))⟩
  · by_cases h2 : 30 < s.size
    · have d1 : ¬ (12 : Int) < (n : Int) := by omega
      have d2 : (30 : Int) < (s.size : Int) := by omega
      clear h h1 h2
      go_enter Try.func4, Try.ntmps4
      go_wp2_with fail
      refine (tables_any _).mono ?_
      rintro e w1 ⟨rfl, hb⟩
      go_wp2
      go_ret
      exact ⟨rfl, (hb1 _).trans (hb.mono (by simp))⟩
    · by_cases h3 : 40 < nf
      · have d1 : ¬ (12 : Int) < (n : Int) := by omega
        have d2 : ¬ (30 : Int) < (s.size : Int) := by omega
        have d3 : (40 : Int) < (nf : Int) := by omega
        clear h h1 h2 h3
        go_enter Try.func4, Try.ntmps4
        go_wp2_with fail
        refine (tables_any _).mono ?_
        rintro e w1 ⟨rfl, hb⟩
        have hc0 : w1.cell? ⟨w.heap.size, 0, none⟩ = some (.slice af nf cf) := cell_later hb (by simp [go_sem])
        go_wp2
        go_ret
        exact ⟨rfl, (hb1 _).trans (hb.mono (by simp))⟩
      · have d1 : ¬ (12 : Int) < (n : Int) := by omega
        have d2 : ¬ (30 : Int) < (s.size : Int) := by omega
        have d3 : ¬ (40 : Int) < (nf : Int) := by omega
        have d4 : (40 : Int) < (nn : Int) := by omega
        clear h h1 h2 h3
        go_enter Try.func4, Try.ntmps4
        go_wp2_with fail
        refine (tables_any _).mono ?_
        rintro e w1 ⟨rfl, hb⟩
        have hc0 : w1.cell? ⟨w.heap.size, 0, none⟩ = some (.slice af nf cf) := cell_later hb (by simp [go_sem])
        have hc1 : w1.cell? ⟨w.heap.size, 0 + 1, none⟩ = some (.slice an nn cn) := cell_later hb (by simp [go_sem])
        go_wp2
        go_ret
        exact ⟨rfl, (hb1 _).trans (hb.mono (by simp))⟩

set_option maxRecDepth 100000 in
set_option maxHeartbeats 2000000 in
theorem table_bound (al : Option Addr) (n cap : Nat) (nm : Nat → ByteArray) (many : Int) (s : ByteArray) (af an : Option Addr) (nf cf nn cn : Nat) (f g : Nat → Int) (w : World)
    (hA : TableArgs w al n nm s af nf f an nn g) (h1 : n ≤ 12) (h2 : s.size ≤ 30) (h3 : nf ≤ 40) (h4 : nn ≤ 40) (hm : many < 1 ∨ 16 < many) :
    Calls Try.prog 4 #[.slice al n cap, .int .i64 many, .string s, .agg #[.slice af nf cf, .slice an nn cn]] w fun e w' => e = .returned (.bool true) ∧ Below w.heap.size w w' := by
  have hb1 : ∀ o : Obj, Below w.heap.size w (w.alloc o) := fun o => (Below.refl _ _).alloc (Nat.le_refl _) _
  have d1 : ¬ (12 : Int) < (n : Int) := by omega
  have d2 : ¬ (30 : Int) < (s.size : Int) := by omega
  have d3 : ¬ (40 : Int) < (nf : Int) := by omega
  have d4 : ¬ (40 : Int) < (nn : Int) := by omega
  go_enter Try.func4, Try.ntmps4
  go_wp2_with fail
  refine (tables_any _).mono ?_
  rintro e w1 ⟨rfl, hb⟩
  have hc0 : w1.cell? ⟨w.heap.size, 0, none⟩ = some (.slice af nf cf) := cell_later hb (by simp [go_sem])
  have hc1 : w1.cell? ⟨w.heap.size, 0 + 1, none⟩ = some (.slice an nn cn) := cell_later hb (by simp [go_sem])
  have hbw : Below w.heap.size w w1 := (hb1 _).trans (hb.mono (by simp))
  clear hb hb1
  have hsy := hA.syms.later hbw
  go_wp2
  go_loop [10] (fun i => ∃ k : Nat, k ≤ n ∧ i = .int .i64 k) (fun i => n - (intOf i).toNat)
  case atStart => exact ⟨0, Nat.zero_le _, rfl⟩
  case round =>
    obtain ⟨k, hk, rfl⟩ := hrel
    by_cases hlt : k < n
    · rcases hsy with h0 | ⟨b, o, rfl, hc⟩
      · omega
      · have hck := hc k hlt
        clear hc
        by_cases hz : (30 : Int) < ((nm k).size : Int)
        · go_wp2
          go_ret
          exact ⟨rfl, hbw⟩
        · go_wp2
          go_round
          case rel => exact ⟨k + 1, by omega, by go_num⟩
          case measure => simp [intOf]; omega
    · go_wp2_with fail
      refine (make_bound al n cap many _ hm).mono ?_
      rintro e w2 ⟨rfl, hb2⟩
      have hk2 : Below w1.heap.size w1 w2 := hb2
      have hbx : ∀ o : Obj, Below w.heap.size w (w2.alloc o) := fun o => (hbw.trans (hb2.mono hbw.size)).alloc (Nat.le_trans hbw.size hb2.size) o
      have hcc0 : ∀ ob : Obj, (w2.alloc ob).cell? ⟨w.heap.size, 0, none⟩ = some (.slice af nf cf) := fun ob => cell_later (hb2.alloc hb2.size ob) hc0
      have hcc1 : ∀ ob : Obj, (w2.alloc ob).cell? ⟨w.heap.size, 0 + 1, none⟩ = some (.slice an nn cn) := fun ob => cell_later (hb2.alloc hb2.size ob) hc1
      clear hb2 hc0 hc1 hsy
      have e1 : errV 1 = .iface 45 (.int .i64 1) := rfl
      rw [e1]
      clear e1
      have hmd : decide (many < 1) = true ∨ (decide (many < 1) = false ∧ decide (16 < many) = true) := by
        rcases hm with hm | hm
        · exact .inl (by simpa using hm)
        · exact .inr ⟨by simp; omega, by simpa using hm⟩
      rcases hmd with hm1 | ⟨hm1, hm2⟩
      all_goals
        clear hm
        go_wp2_with fail
        refine (same_errno 1 1 _).mono ?_
        rintro e w' ⟨rfl, rfl⟩
        go_wp2_with fail
        refine (find_any f g af an al nf cf nn cn n cap nm s _ hA.size (by omega) (by omega) (by omega) (hA.first.later (hbx _)) (hA.next.later (hbx _)) (hA.syms.later (hbx _))).mono ?_
        rintro e w3 ⟨rfl, hb3⟩
        have hb4 : Below w.heap.size w w3 := (hbx _).trans (hb3.mono (hbx _).size)
        rcases findF_is f nf g nn n nm s with hr | ⟨q, hr, hq, hi⟩
        · generalize findF f nf g nn n nm s = r at *
          clear hA hb3 hbx hk2
          go_wp2
          go_ret
          exact ⟨rfl, hb4⟩
        · rw [hr]
          rcases hA.syms.later hb4 with h0 | ⟨b, o, rfl, hc⟩
          · omega
          · have hcq := hc q hq
            clear hA hc hr hb3 hbx hk2
            go_wp2
            go_ret
            exact ⟨rfl, hb4⟩

set_option maxRecDepth 100000 in
set_option maxHeartbeats 2000000 in
theorem table_many (al : Option Addr) (n cap : Nat) (nm : Nat → ByteArray) (many : Int) (s : ByteArray) (af an : Option Addr) (nf cf nn cn : Nat) (f g : Nat → Int) (w : World)
    (hA : TableArgs w al n nm s af nf f an nn g) (h1 : n ≤ 12) (h2 : s.size ≤ 30) (h3 : nf ≤ 40) (h4 : nn ≤ 40) (hm1 : 1 ≤ many) (hm2 : many ≤ 16) (hn8 : 8 < n) :
    Calls Try.prog 4 #[.slice al n cap, .int .i64 many, .string s, .agg #[.slice af nf cf, .slice an nn cn]] w fun e w' => e = .returned (.bool true) ∧ Below w.heap.size w w' := by
  have hb1 : ∀ o : Obj, Below w.heap.size w (w.alloc o) := fun o => (Below.refl _ _).alloc (Nat.le_refl _) _
  have d1 : ¬ (12 : Int) < (n : Int) := by omega
  have d2 : ¬ (30 : Int) < (s.size : Int) := by omega
  have d3 : ¬ (40 : Int) < (nf : Int) := by omega
  have d4 : ¬ (40 : Int) < (nn : Int) := by omega
  go_enter Try.func4, Try.ntmps4
  go_wp2_with fail
  refine (tables_any _).mono ?_
  rintro e w1 ⟨rfl, hb⟩
  have hc0 : w1.cell? ⟨w.heap.size, 0, none⟩ = some (.slice af nf cf) := cell_later hb (by simp [go_sem])
  have hc1 : w1.cell? ⟨w.heap.size, 0 + 1, none⟩ = some (.slice an nn cn) := cell_later hb (by simp [go_sem])
  have hbw : Below w.heap.size w w1 := (hb1 _).trans (hb.mono (by simp))
  clear hb hb1
  have hsy := hA.syms.later hbw
  go_wp2
  go_loop [10] (fun i => ∃ k : Nat, k ≤ n ∧ i = .int .i64 k) (fun i => n - (intOf i).toNat)
  case atStart => exact ⟨0, Nat.zero_le _, rfl⟩
  case round =>
    obtain ⟨k, hk, rfl⟩ := hrel
    by_cases hlt : k < n
    · rcases hsy with h0 | ⟨b, o, rfl, hc⟩
      · omega
      · have hck := hc k hlt
        clear hc
        by_cases hz : (30 : Int) < ((nm k).size : Int)
        · go_wp2
          go_ret
          exact ⟨rfl, hbw⟩
        · go_wp2
          go_round
          case rel => exact ⟨k + 1, by omega, by go_num⟩
          case measure => simp [intOf]; omega
    · go_wp2_with fail
      refine (make_many al n cap many _ hm1 hm2 hn8).mono ?_
      rintro e w2 ⟨rfl, hb2⟩
      have hk2 : Below w1.heap.size w1 w2 := hb2
      have hbx : ∀ o : Obj, Below w.heap.size w (w2.alloc o) := fun o => (hbw.trans (hb2.mono hbw.size)).alloc (Nat.le_trans hbw.size hb2.size) o
      have hcc0 : ∀ ob : Obj, (w2.alloc ob).cell? ⟨w.heap.size, 0, none⟩ = some (.slice af nf cf) := fun ob => cell_later (hb2.alloc hb2.size ob) hc0
      have hcc1 : ∀ ob : Obj, (w2.alloc ob).cell? ⟨w.heap.size, 0 + 1, none⟩ = some (.slice an nn cn) := fun ob => cell_later (hb2.alloc hb2.size ob) hc1
      clear hb2 hc0 hc1 hsy
      have e1 : errV 2 = .iface 45 (.int .i64 2) := rfl
      rw [e1]
      clear e1
      have hn8' : (8 : Int) < (n : Int) := by omega
      go_wp2_with fail
      refine (same_errno 2 2 _).mono ?_
      rintro e w' ⟨rfl, rfl⟩
      go_wp2_with fail
      refine (find_any f g af an al nf cf nn cn n cap nm s _ hA.size (by omega) (by omega) (by omega) (hA.first.later (hbx _)) (hA.next.later (hbx _)) (hA.syms.later (hbx _))).mono ?_
      rintro e w3 ⟨rfl, hb3⟩
      have hb4 : Below w.heap.size w w3 := (hbx _).trans (hb3.mono (hbx _).size)
      rcases findF_is f nf g nn n nm s with hr | ⟨q, hr, hq, hi⟩
      · generalize findF f nf g nn n nm s = r at *
        clear hA hb3 hbx hk2
        go_wp2
        go_ret
        exact ⟨rfl, hb4⟩
      · rw [hr]
        rcases hA.syms.later hb4 with h0 | ⟨b, o, rfl, hc⟩
        · omega
        · have hcq := hc q hq
          clear hA hc hr hb3 hbx hk2
          go_wp2
          go_ret
          exact ⟨rfl, hb4⟩
end Go.Proofs.Ytchccaalinepnaa
