/-
  What Write of package disk does, of any disk; all else stays as it was.
-/
import Derived.Test.YtlcdacldhalnnaaGreatDoorDiskAdd
namespace Go.Proofs.YtlcdacldhalnnaaGreatDoor
open Go.RowKit

/-- a text as a sector's bytes: noughts behind it. -/
def padB (t : List UInt8) : List UInt8 := t ++ List.replicate (64 - t.length) 0
theorem padB_len {t : List UInt8} (h : t.length ≤ 64) : (padB t).length = 64 := by simp [padB]; omega
/-- a Write that goes through. -/
def DSt.put (s : DSt) (i : Nat) (d : List UInt8) : DSt := { s.at i ⟨(s.K i).kept, struck (s.K i).late s.next ++ [(s.next, d)]⟩ with next := (s.next + 1) % 64 }
theorem write_bound (w : World) (B p bs n : Nat) (s : DSt) (v : Nat → Value) (at' : Int) (t : ByteArray) (h : DiskAt w B p bs n s v) (hf : ¬ (0 ≤ at' ∧ at' < n) ∨ 64 < t.size) (ht : t.size ≤ maxLen) :
    Calls Tryz.prog 34 #[.pointer (some ⟨p, 0, none⟩), .int .i64 at', .string t] w fun e w' => e = .returned (errV 1) ∧ w' = w := by
  have HH := has_any w B p bs n s v at' h
  unfold maxLen at ht
  clear h
  by_cases h1 : 0 ≤ at' ∧ at' < n
  · have hdec : (decide (0 ≤ at') && decide (at' < n)) = true := by simp; exact h1
    rw [hdec] at HH
    have h2 : 64 < t.size := by
      rcases hf with hf | hf
      · exact absurd h1 hf
      · exact hf
    have h3 : (64 : Int) < (t.size : Int) := by omega
    clear hdec h1 hf h2
    go_enter Tryz.func34, Tryz.ntmps34
    go_wp2_with fail
    refine HH.mono ?_
    rintro e w1 ⟨rfl, rfl⟩
    clear HH
    go_wp2
    go_ret
    exact ⟨rfl, rfl⟩
  · have hdec : (decide (0 ≤ at') && decide (at' < n)) = false := by simp; omega
    rw [hdec] at HH
    clear hdec h1 hf
    go_enter Tryz.func34, Tryz.ntmps34
    go_wp2_with fail
    refine HH.mono ?_
    rintro e w1 ⟨rfl, rfl⟩
    clear HH
    go_wp2
    go_ret
    exact ⟨rfl, rfl⟩
theorem write_falls (w : World) (B p bs n : Nat) (s : DSt) (v : Nat → Value) (i : Nat) (t : ByteArray) (h : DiskAt w B p bs n s v) (hi : i < n) (ht : t.size ≤ 64) (hf : s.falls = true) :
    Calls Tryz.prog 34 #[.pointer (some ⟨p, 0, none⟩), .int .i64 (i : Int), .string t] w fun e w' => e = .returned (errV 9) ∧ DiskAt w' B p bs n s.fell v ∧ Spun B w w' := by
  have HH := has_any w B p bs n s v (i : Int) h
  have HS := step_falls w B p bs n s v h hf
  have hdec : (decide (0 ≤ (i : Int)) && decide ((i : Int) < (n : Int))) = true := by simp; exact hi
  rw [hdec] at HH
  have h3 : ¬ (64 : Int) < (t.size : Int) := by omega
  have q9 : errV 9 = .iface 62 (.int .i64 9) := rfl
  clear h hdec
  rw [q9] at HS
  go_enter Tryz.func34, Tryz.ntmps34
  go_wp2_with fail
  refine HH.mono ?_
  rintro e w1 ⟨rfl, rfl⟩
  clear HH
  go_wp2_with fail
  refine HS.mono ?_
  rintro e w2 ⟨rfl, hD, hS⟩
  clear HS
  go_wp2
  go_ret
  exact ⟨rfl, hD, hS⟩
def noughts : List UInt8 := List.replicate 64 0
theorem noughts_len : noughts.length = 64 := by simp [noughts]
/-- one that is late, made of its bit. -/
theorem build_late (w : World) (b : Int) : (Instr.build 113 #[(0, .int .u64 b)]).run Tryz.prog w = .ok (.agg (.int .u64 b :: bytesV (noughts)).toArray) w := by kernel_rfl
def bdLate (l : Array (Nat × Value)) : Sem Value := Instr.build 113 l
theorem bdLate_eq (l : Array (Nat × Value)) : Instr.build 113 l = bdLate l := rfl
theorem pad_filled (w : World) (b : Nat) (t : ByteArray) (ht : t.size ≤ 64) : (w.alloc (.cells (lateC (b, noughts)).toArray 113)).setCells w.heap.size 1 (bytesV t.data.toList) = w.alloc (.cells (lateC (b, padB t.data.toList)).toArray 113) := by
  have hl : t.data.toList.length = t.size := by simp
  rw [setCells_new w _ _ _ 1 _ (by simp [lateC, noughts_len]; omega)]
  congr 3
  have e1 : (lateC (b, noughts)).toArray.toList = .int .u64 (b : Int) :: bytesV (noughts) := rfl
  rw [e1]
  have e2 : lateC (b, padB t.data.toList) = .int .u64 (b : Int) :: (bytesV t.data.toList ++ bytesV (List.replicate (64 - t.data.toList.length) 0)) := by
    simp [lateC, padB, bytesV]
  rw [e2]
  simp only [List.take_succ_cons, List.take_zero, bytesV_length, List.cons_append, List.nil_append]
  rw [Nat.add_comm 1, List.drop_succ_cons]
  congr 2
  unfold bytesV noughts
  rw [← List.map_drop, List.drop_replicate]

attribute [local go_sem ↓] ldLate_eq bdLate_eq
attribute [local go_sem ↓] Go.wp_at_zero Go.wp_at_succ
set_option maxRecDepth 100000 in
set_option maxHeartbeats 4000000 in
theorem write_goes (w : World) (B p bs n : Nat) (s : DSt) (v : Nat → Value) (i : Nat) (t : ByteArray) (h : DiskAt w B p bs n s v) (hi : i < n) (ht : t.size ≤ 64) (hf : s.falls = false) (hl : s.left ≤ 9223372036854775807) :
    Calls Tryz.prog 34 #[.pointer (some ⟨p, 0, none⟩), .int .i64 (i : Int), .string t] w fun e w' => e = .returned .nilIface ∧ (∃ v', DiskAt w' B p bs n (s.stepped.put i (padB t.data.toList)) v') ∧ Spun B w w' := by
  have HH := has_any w B p bs n s v (i : Int) h
  have HS := step_goes w B p bs n s v h hf hl
  have hdec : (decide (0 ≤ (i : Int)) && decide ((i : Int) < (n : Int))) = true := by simp; exact hi
  rw [hdec] at HH
  have h3 : ¬ (64 : Int) < (t.size : Int) := by omega
  have hfew := h.few
  obtain ⟨Z, hal, hZ⟩ := late_zero
  have hbl : ∀ (W : World) (b : Nat), (bdLate #[(0, .int .u64 (b : Int))]).run Tryz.prog W = .ok (.agg (lateC (b, noughts)).toArray) W := fun W b => build_late W b
  clear h hdec
  go_enter Tryz.func34, Tryz.ntmps34
  go_wp2_with fail
  refine HH.mono ?_
  rintro e w1 ⟨rfl, rfl⟩
  clear HH
  go_wp2_with fail
  refine HS.mono ?_
  rintro e w2 ⟨rfl, hD, hS⟩
  clear HS
  have c0 := hD.c0
  have c1 := hD.c1
  have HL : Hid ((lateC (s.stepped.next, noughts)).length = 65) := by show (lateC (s.stepped.next, noughts)).length = 65; simp [lateC, noughts_len]
  have hcp : ∀ ty, (Builtin.copy_ #[99, 9] ty #[.slice (some ⟨w2.heap.size, 1, none⟩) 64 64, .string t]).run Tryz.prog (w2.alloc (.cells (lateC (s.stepped.next, noughts)).toArray 113)) = .ok (goInt t.size) (w2.alloc (.cells (lateC (s.stepped.next, padB t.data.toList)).toArray 113)) := fun ty => by
    rw [← pad_filled w2 s.stepped.next t ht]
    have hth := there_new w2 113 (lateC (s.stepped.next, noughts)).toArray
    refine Go.run_copy_string _ _ _ _ 5 _ _ _ _ t Tryz.underlying99 (fun w => by kernel_rfl) ht (fun j hj => ?_) (fun j hj => ?_)
    · have := (hth (1 + j) (by simp [lateC, noughts_len]; omega)).1
      rwa [Nat.zero_add] at this
    · have := (hth (1 + j) (by simp [lateC, noughts_len]; omega)).2
      rwa [Nat.zero_add] at this
  generalize hN : s.stepped.next = nx at *
  go_wp2_with (first
    | (refine wpList_fill rfl 113 (.tmp 8) (.tmp 28) rfl w2 Z rfl (lateC (nx, noughts)) rfl rfl (hZ.trans HL.out.symm) (late_info HL.out) (lateC_one _) ?_))
  have hpl := padB_len (t := t.data.toList) (by simpa using ht)
  have hnx : nx < 64 := by rw [← hN]; exact hD.nx
  have hb3 : Below w2.heap.size w2 (w2.alloc (.cells (lateC (nx, padB t.data.toList)).toArray 113)) := (Below.refl _ _).alloc (Nat.le_refl _) _
  have hD3 : DiskAt (w2.alloc (.cells (lateC (nx, padB t.data.toList)).toArray 113)).drew B p bs n s.stepped v := (hD.later hb3).later (Below.refl _ _).drew
  have hS3 : Spun B w1 (w2.alloc (.cells (lateC (nx, padB t.data.toList)).toArray 113)).drew := hS.trans (Spun.of (by have := hD.bp; have := hD.lt; omega) ((hb3.trans ((Below.refl _ _).drew))))
  have c03 := cell_later hb3 c0
  have HA := add_any _ B p bs n s.stepped v i nx (padB t.data.toList) hD3 hi hnx hpl
  have hnr : (w2.alloc (.cells (lateC (nx, padB t.data.toList)).toArray 113)).rangeAt w2.heap.size 0 (lateC (nx, padB t.data.toList)) := range_new w2 _ _ 0 _ (fun j u hj => by rw [Nat.zero_add]; exact hj)
  have l1 : (ldLate (.pointer (some ⟨w2.heap.size, 0, none⟩))).run Tryz.prog (w2.alloc (.cells (lateC (nx, padB t.data.toList)).toArray 113)).drew = .ok (.agg (lateC (nx, padB t.data.toList)).toArray) (w2.alloc (.cells (lateC (nx, padB t.data.toList)).toArray 113)).drew :=
    run_loadAt_mid _ _ _ _ _ _ (by simpa using hnr) Tryz.underlying113 rfl (late_info (lateC_len hpl))
  have HN : Hid (s.stepped.next = nx) := hN
  generalize hcs : (lateC (nx, padB t.data.toList)) = cs at *
  generalize hW : w2.alloc (.cells cs.toArray 113) = W at *
  have hi0 : (0 : Int) ≤ (i : Int) := by omega
  have hi1 : (i : Int) < (n : Int) := by omega
  clear hcp hbl HL hD hD3 hnr hb3 c0 c1 hS hN hZ hal hcs hW h3
  go_region_law (first
    | (go_simp; go_at_call 57; refine HA.mono ?_; rintro e w4 ⟨rfl, ⟨v4, hD4⟩, hS4⟩))
  all_goals
    have c1 := hD4.c1
    have fz := hD4.fz 1
    have hnn : (s.stepped.at i ⟨(s.stepped.K i).kept, struck (s.stepped.K i).late nx ++ [(nx, padB t.data.toList)]⟩).next = nx := HN.out
    rw [hnn] at c1
    have hD5 : DiskAt (w4.setCell ⟨p, 1, none⟩ (.int .u64 (((nx + 1) % 64 : Nat) : Int))) B p bs n (s.stepped.put i (padB t.data.toList)) v4 := by
      refine hD4.put (fun k hk => Below.heap_setCell _ _ _ _ hk) ?_ ?_ ?_ hD4.lo
      · rw [heap_set0 _ hD4.blk]
        simp only [DSt.put, HN.out]
        rfl
      · simp only [DSt.put, HN.out]
      · simp only [DSt.put]
        omega
    have hS5 := (hS3.trans hS4).trans (Spun.set (i := 1) hD4.blk hD4.bp (.inl rfl) (.int .u64 (((nx + 1) % 64 : Nat) : Int)))
    have en : ((((nx + 1) % 64 : Nat) : Int)) = ((nx : Int) + 1) % 64 := by omega
    rw [en] at hD5 hS5
    clear hD4 HA hnn en
    go_wp2
    go_ret
    exact ⟨rfl, ⟨_, hD5⟩, hS5⟩
end Go.Proofs.YtlcdacldhalnnaaGreatDoor
