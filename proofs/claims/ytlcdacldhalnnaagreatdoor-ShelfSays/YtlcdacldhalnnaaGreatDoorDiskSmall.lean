/-
  What the small functions of package disk do: has, step, Arm, Down, Sectors, of any disk; all else stays as it was.
-/
import Derived.Test.YtlcdacldhalnnaaGreatDoorDiskAt
namespace Go.Proofs.YtlcdacldhalnnaaGreatDoor
open Go.RowKit

theorem DiskAt.c0 {w : World} {B p bs n : Nat} {s : DSt} {v : Nat → Value} (h : DiskAt w B p bs n s v) : w.cell? ⟨p, 0, none⟩ = some (.slice (some ⟨bs, 0, none⟩) n n) := by simp [World.cell?, h.blk]
theorem DiskAt.c1 {w : World} {B p bs n : Nat} {s : DSt} {v : Nat → Value} (h : DiskAt w B p bs n s v) : w.cell? ⟨p, 1, none⟩ = some (.int .u64 (s.next : Int)) := by simp [World.cell?, h.blk]
theorem DiskAt.c2 {w : World} {B p bs n : Nat} {s : DSt} {v : Nat → Value} (h : DiskAt w B p bs n s v) : w.cell? ⟨p, 2, none⟩ = some (.int .i64 s.left) := by simp [World.cell?, h.blk]
theorem DiskAt.c3 {w : World} {B p bs n : Nat} {s : DSt} {v : Nat → Value} (h : DiskAt w B p bs n s v) : w.cell? ⟨p, 3, none⟩ = some (.bool s.down) := by simp [World.cell?, h.blk]
theorem DiskAt.fz {w : World} {B p bs n : Nat} {s : DSt} {v : Nat → Value} (h : DiskAt w B p bs n s v) (i : Nat) : w.frozen? ⟨p, i, none⟩ = false := by simp [World.frozen?, h.blk]
/-- one of a disk's own four cells is written. -/
theorem DiskAt.put {w w' : World} {B p bs n : Nat} {s s' : DSt} {v : Nat → Value} (h : DiskAt w B p bs n s v) (ho : ∀ k, k ≠ p → w'.heap[k]? = w.heap[k]?)
    (hb : w'.heap[p]? = some (.cells #[.slice (some ⟨bs, 0, none⟩) n n, .int .u64 (s'.next : Int), .int .i64 s'.left, .bool s'.down] 66 (0, 0))) (hK : s'.K = s.K) (hn : s'.next < 64) (hl : -1 ≤ s'.left) : DiskAt w' B p bs n s' v := by
  have hne := h.ne
  refine ⟨hb, ?_, ?_, ?_, ?_, h.apart, h.bp, h.bb, hn, hl, h.few⟩
  · obtain ⟨C, hC⟩ := h.sec
    exact ⟨C, (ho bs (Ne.symm hne)).trans hC⟩
  · rw [hK]
    intro i hi j u hj
    exact (World.cell?_of_block (a := ⟨bs, i * 65 + j, none⟩) (ho bs (Ne.symm hne))).trans (h.cells i hi j u hj)
  · rw [hK]; exact h.ok
  · rw [hK]
    exact fun i hi => own_kept (h.rows i hi) (fun k hk => ho k (fun e => by
      obtain ⟨c, hc⟩ := own_type (h.rows i hi) hk
      subst e
      rw [h.blk] at hc
      simp at hc))

theorem has_any (w : World) (B p bs n : Nat) (s : DSt) (v : Nat → Value) (at' : Int) (h : DiskAt w B p bs n s v) :
    Calls Tryz.prog 55 #[.pointer (some ⟨p, 0, none⟩), .int .i64 at'] w fun e w' => e = .returned (.bool (decide (0 ≤ at') && decide (at' < n))) ∧ w' = w := by
  have c0 := h.c0
  clear h
  by_cases h0 : 0 ≤ at'
  · go_enter Tryz.func55, Tryz.ntmps55
    go_wp2
    go_ret
    exact ⟨ret_bool (by simp [h0]), rfl⟩
  · go_enter Tryz.func55, Tryz.ntmps55
    go_wp2
    go_ret
    exact ⟨ret_bool (by simp; omega), rfl⟩

/-- a step. -/
def DSt.falls (s : DSt) : Bool := s.down || decide (s.left = 0)
def DSt.fell (s : DSt) : DSt := { s with down := true }
def DSt.stepped (s : DSt) : DSt := { s with left := if 0 < s.left then s.left - 1 else s.left }

theorem heap_set0 {w : World} {p i : Nat} {c : Array Value} {t : TypeId} (u : Value) (h : w.heap[p]? = some (.cells c t (0, 0))) : (w.setCell ⟨p, i, none⟩ u).heap[p]? = some (.cells (c.set! i u) t (0, 0)) := heap_setC w p i c t (0, 0) u h
theorem step_falls (w : World) (B p bs n : Nat) (s : DSt) (v : Nat → Value) (h : DiskAt w B p bs n s v) (hf : s.falls = true) :
    Calls Tryz.prog 56 #[.pointer (some ⟨p, 0, none⟩)] w fun e w' => e = .returned (errV 9) ∧ DiskAt w' B p bs n s.fell v ∧ Spun B w w' := by
  have c2 := h.c2
  have c3 := h.c3
  have fz := h.fz 3
  by_cases h0 : s.left = 0
  · have hD : DiskAt (w.setCell ⟨p, 3, none⟩ (.bool true)) B p bs n s.fell v := h.put (fun k hk => Below.heap_setCell _ _ _ _ hk) (heap_set0 _ h.blk) rfl h.nx h.lo
    have hS : Spun B w (w.setCell ⟨p, 3, none⟩ (.bool true)) := Spun.set h.blk h.bp (.inl rfl) _
    have e0 : (s.left == 0) = true := by simp [h0]
    clear h hf
    generalize s.left = l at *
    go_enter Tryz.func56, Tryz.ntmps56
    go_wp2
    go_ret
    exact ⟨rfl, hD, hS⟩
  · have hd : s.down = true := by simpa [DSt.falls, h0] using hf
    have hD : DiskAt w B p bs n s.fell v := h.put (fun _ _ => rfl) (by rw [h.blk, hd]; rfl) rfl h.nx h.lo
    have e0 : (s.left == 0) = false := by simp [h0]
    rw [hd] at c3
    clear h hf
    generalize s.left = l at *
    go_enter Tryz.func56, Tryz.ntmps56
    go_wp2
    go_ret
    exact ⟨rfl, hD, Spun.refl _ _⟩
theorem step_goes (w : World) (B p bs n : Nat) (s : DSt) (v : Nat → Value) (h : DiskAt w B p bs n s v) (hf : s.falls = false) (hl : s.left ≤ 9223372036854775807) :
    Calls Tryz.prog 56 #[.pointer (some ⟨p, 0, none⟩)] w fun e w' => e = .returned .nilIface ∧ DiskAt w' B p bs n s.stepped v ∧ Spun B w w' := by
  have c2 := h.c2
  have c3 := h.c3
  have fz := h.fz 2
  obtain ⟨hd, h0⟩ : s.down = false ∧ s.left ≠ 0 := by simpa [DSt.falls] using hf
  have e0 : (s.left == 0) = false := by simp [h0]
  rw [hd] at c3
  by_cases hp : 0 < s.left
  · have hD : DiskAt (w.setCell ⟨p, 2, none⟩ (.int .i64 (s.left - 1))) B p bs n s.stepped v := h.put (fun k hk => Below.heap_setCell _ _ _ _ hk) (by
      rw [heap_set0 _ h.blk]
      simp [DSt.stepped, hp]) rfl h.nx (by simp [DSt.stepped, hp]; omega)
    have hS : Spun B w (w.setCell ⟨p, 2, none⟩ (.int .i64 (s.left - 1))) := Spun.set h.blk h.bp (.inl rfl) _
    clear h hf
    generalize s.left = l at *
    go_enter Tryz.func56, Tryz.ntmps56
    go_wp2
    go_ret
    exact ⟨rfl, hD, hS⟩
  · have hD : DiskAt w B p bs n s.stepped v := h.put (fun _ _ => rfl) (by rw [h.blk]; simp [DSt.stepped, hp]) rfl h.nx (by simp [DSt.stepped, hp]; exact h.lo)
    clear h hf
    generalize s.left = l at *
    go_enter Tryz.func56, Tryz.ntmps56
    go_wp2
    go_ret
    exact ⟨rfl, hD, Spun.refl _ _⟩
theorem sectors_any (w : World) (B p bs n : Nat) (s : DSt) (v : Nat → Value) (h : DiskAt w B p bs n s v) :
    Calls Tryz.prog 23 #[.pointer (some ⟨p, 0, none⟩)] w fun e w' => e = .returned (.int .i64 n) ∧ w' = w := by
  have c0 := h.c0
  clear h
  go_enter Tryz.func23, Tryz.ntmps23
  go_wp2
  go_ret
  exact ⟨rfl, rfl⟩
end Go.Proofs.YtlcdacldhalnnaaGreatDoor
