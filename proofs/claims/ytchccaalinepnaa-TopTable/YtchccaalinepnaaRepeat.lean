/-
  What slices.Repeat returns of a list of one number, at 1 to 16 times: a new row of it; memory that was there stays as it was.
-/
import Derived.Test.YtchccaalinepnaaRows
import Derived.WalkKit
import Derived.ProofKit
import Derived.WalkLawsBesides
import Derived.Below
import Derived.Laws.BitsAllLaws
import Derived.Deep.OwnRows
import Derived.Laws.CopyOwn
import Derived.Deep.RegionLaw
import Derived.RegionTactic
import Derived.BigRegion
namespace Go.Proofs.Ytchccaalinepnaa
open Go.RowKit

/-- a row of m cells, the first k of them v, the others 0. -/
def rowOf (v : Int) (m k : Nat) : List Value := List.replicate k (Value.int .i64 v) ++ List.replicate (m - k) (Value.int .i64 0)
theorem setRow_new (w : World) (c d : Array Value) (t : TypeId) : (w.alloc (.cells c t)).setRow w.heap.size d = w.alloc (.cells d t) := by
  have h : ∀ (f : Obj → Obj) (x : Obj), (w.heap.push x).modify w.heap.size f = w.heap.push (f x) := by
    intro f x
    apply Array.ext
    · simp
    · intro i h1 h2
      simp only [Array.getElem_modify, Array.getElem_push]
      by_cases e : w.heap.size = i
      · subst e; simp
      · simp only [if_neg e]
        split
        · rfl
        · simp at h1; omega
  show ({ (w.alloc (.cells c t)) with heap := (w.heap.push (.cells c t)).modify w.heap.size _ } : World) = w.alloc (.cells d t)
  rw [h]
  rfl
theorem setRow_drewN (w : World) (g : Nat) (d : Array Value) (j : Nat) : (w.drewN j).setRow g d = (w.setRow g d).drewN j := by
  rfl
theorem rowOf_copy (v : Int) (m k c : Nat) : (rowOf v m k).take k ++ List.replicate c (Value.int .i64 v) ++ (rowOf v m k).drop (k + c) = rowOf v m (k + c) := by
  unfold rowOf
  rw [List.take_left' (by simp), List.drop_append]
  simp
  omega
theorem madeCells_row (v : Int) (m : Nat) : madeCells #[Value.int .i64 0] m = (rowOf v m 0).toArray := by
  unfold madeCells rowOf
  apply Array.ext
  · simp
  · intro i h1 h2
    simp at h1
    simp [Nat.mod_one]

set_option maxHeartbeats 400000 in
theorem mul_one (m : Nat) (hm : m ≤ 16) (w : World) : Calls Try.prog 21 #[.int .u64 1, .int .u64 (m : Int)] w fun e w' => e = .returned (.tuple #[.int .u64 0, .int .u64 (m : Int)]) ∧ w = w' := by
  have h1 : bits .and .u64 (m : Int) 4294967295 = (m : Int) := by
    have := u64_and_nat m 4294967295 (by omega) (by omega)
    rw [Nat.and_two_pow_sub_one_eq_mod m 32] at this
    simpa using this.trans (by omega)
  have h2 : bits .and .u64 1 4294967295 = 1 := by decide
  have h3 : (m : Int) / 4294967296 = 0 := by omega
  have h4 : bits .and .u64 0 4294967295 = 0 := by decide
  go_enter Try.func21, Try.ntmps21
  go_wp2
  go_ret2
  exact ⟨rfl, rfl⟩


theorem rowOf_len (v : Int) (m k : Nat) (h : k ≤ m) : (rowOf v m k).length = m := by simp [rowOf]; omega
theorem rowOf_at (v : Int) (m k j : Nat) (h : j < k) : (rowOf v m k)[j]? = some (.int .i64 v) := by
  unfold rowOf
  rw [List.getElem?_append_left (by simpa using h)]
  simp [h]
theorem rowOf_full (v : Int) (m : Nat) : rowOf v m m = List.replicate m (.int .i64 v) := by simp [rowOf]

theorem heap_new (w : World) (o : Obj) : (w.alloc o).heap[w.heap.size]? = some o := by
  show (w.heap.push o)[w.heap.size]? = some o
  simp
theorem addr_add (g i : Nat) : (⟨g, 0, none⟩ : Addr).add i = ⟨g, i, none⟩ := by
  cases i with
  | zero => rfl
  | succ i => simp [Addr.add]

/-- copy within the row: the first k of it behind themselves. -/
theorem copy_row (v : Int) (m k c : Nat) (hc : c = Nat.min k (m - k)) (hk : k ≤ m) (w : World) (j : Nat) :
    (Builtin.copy_ #[32, 32] 3 #[.slice (some ⟨w.heap.size, k, none⟩) (m - k) (m - k), .slice (some ⟨w.heap.size, 0, none⟩) k m]).run Try.prog ((w.alloc (.cells (rowOf v m k).toArray 3)).drewN j) =
      .ok (.int .i64 (c : Int)) ((w.alloc (.cells (rowOf v m (k + c)).toArray 3)).drewN j) := by
  have hck : k + c ≤ m := by
    rw [hc]
    have := Nat.min_le_right k (m - k)
    show k + min k (m - k) ≤ m
    omega
  have hck' : c ≤ k := by
    rw [hc]
    exact Nat.min_le_left k (m - k)
  have h := run_copy_row (P := Try.prog) ((w.alloc (.cells (rowOf v m k).toArray 3)).drewN j) 32 32 3 3 w.heap.size k (m - k) (m - k) ⟨w.heap.size, 0, none⟩ k m (rowOf v m k).toArray 3 (List.replicate c (.int .i64 v))
    Try.underlying32 (by kernel_rfl) (heap_new w _) (by simpa using hc)
    (by
      intro i u hi
      have hi' : i < c := by
        have := (List.getElem?_eq_some_iff.1 hi).1
        simpa using this
      simp [hi'] at hi
      subst hi
      have := rowOf_at v m k i (by omega)
      rw [addr_add]
      simp [go_sem, this])
    (by simp [rowOf_len v m k hk]; omega) (by intro u hu; rw [List.eq_of_mem_replicate hu]; rfl)
  rw [h, setRow_drewN, setRow_new]
  simp only [List.length_replicate]
  rw [rowOf_copy]
  rfl

theorem copy_first (v : Int) (m b : Nat) (h1 : 1 ≤ m) (w : World) (hb : b < w.heap.size) (hc : w.cell? ⟨b, 0, none⟩ = some (.int .i64 v)) :
    (Builtin.copy_ #[32, 32] 3 #[.slice (some ⟨w.heap.size, 0, none⟩) m m, .slice (some ⟨b, 0, none⟩) 1 1]).run Try.prog (w.alloc (.cells (rowOf v m 0).toArray 3)) =
      .ok (.int .i64 1) (w.alloc (.cells (rowOf v m 1).toArray 3)) := by
  have h := run_copy_row (P := Try.prog) (w.alloc (.cells (rowOf v m 0).toArray 3)) 32 32 3 3 w.heap.size 0 m m ⟨b, 0, none⟩ 1 1 (rowOf v m 0).toArray 3 (List.replicate 1 (.int .i64 v))
    Try.underlying32 (by kernel_rfl) (heap_new w _) (by show 1 = min 1 m; omega)
    (by
      intro i u hi
      match i, hi with
      | 0, hi =>
        simp at hi
        subst hi
        simp [Addr.add, go_sem, hb, hc])
    (by simp [rowOf_len v m 0 (by omega)]; omega) (by intro u hu; rw [List.eq_of_mem_replicate hu]; rfl)
  rw [h, setRow_new]
  simp only [List.length_replicate]
  rw [rowOf_copy]
  rfl

set_option maxHeartbeats 400000 in
theorem repeat_any (m : Nat) (h1 : 1 ≤ m) (hm : m ≤ 16) (b : Nat) (v : Int) (w : World) (hb : b < w.heap.size) (hc : w.cell? ⟨b, 0, none⟩ = some (.int .i64 v)) :
    Calls Try.prog 17 #[.slice (some ⟨b, 0, none⟩) 1 1, .int .i64 (m : Int)] w fun e w' => e = .returned (.slice (some ⟨w.heap.size, 0, none⟩) m m) ∧ ∃ j, w' = (w.alloc (.cells (List.replicate m (Value.int .i64 v)).toArray 3)).drewN j := by
  have hmk := fun (w : World) => run_make_row' (P := Try.prog) 32 3 (.int .i64 0) 8 Try.underlying32 (by kernel_rfl) rfl .i64 .i64 m (by omega) (by omega) w
  simp only [madeCells_row v m] at hmk
  have hcp := copy_first v m b h1 w hb hc
  go_enter Try.func17, Try.ntmps17
  go_wp2_with fail
  refine (mul_one m hm _).mono ?_
  rintro e w' ⟨rfl, rfl⟩
  go_wp2
  clear hcp hmk hc
  go_loopw [8] (fun i wr => ∃ k j : Nat, 1 ≤ k ∧ k ≤ m ∧ i = .int .i64 k ∧ wr = (w.alloc (.cells (rowOf v m k).toArray 3)).drewN j) (fun i _ => m - (intOf i).toNat)
  case atStart => exact ⟨1, 0, Nat.le_refl _, h1, rfl, rfl⟩
  case round =>
    obtain ⟨k, j, hk1, hk, rfl, rfl⟩ := hrel
    by_cases hlt : k < m
    · obtain ⟨c, hcd⟩ : ∃ c, c = Nat.min k (m - k) := ⟨_, rfl⟩
      have hcp := copy_row v m k c hcd hk w
      have hc1 : 1 ≤ c := by rw [hcd]; show 1 ≤ min k (m - k); omega
      have hc2 : k + c ≤ m := by
        rw [hcd]
        show k + min k (m - k) ≤ m
        omega
      clear hcd
      go_wp2
      go_region
      go_wp2
      go_roundw
      case rel => exact ⟨k + c, j + 1, by omega, hc2, by go_num, rfl⟩
      case measure => simp [intOf]; omega
    · have hkm : k = m := by omega
      subst hkm
      rw [rowOf_full] at *
      go_wp2
      go_ret
      exact ⟨rfl, j, rfl⟩
end Go.Proofs.Ytchccaalinepnaa
