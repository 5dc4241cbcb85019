/-
  What the functions of package disk do, of any disk: said once for all that they answer.
-/
import Derived.Test.YtlcdacldhalnnaaGreatDoorDiskPut
namespace Go.Proofs.YtlcdacldhalnnaaGreatDoor
open Go.RowKit

/-- a disk, and how many steps are left to it. -/
def Disk (w : World) (B p n : Nat) (s : DSt) : Prop := IsDisk w B p n s ∧ s.left ≤ 9223372036854775807
theorem Disk.later {w w' : World} {B p n : Nat} {s : DSt} (h : Disk w B p n s) (hb : Below w.heap.size w w') : Disk w' B p n s := ⟨h.1.later hb, h.2⟩
theorem Disk.ok {w : World} {B p n : Nat} {s : DSt} (h : Disk w B p n s) {i : Nat} (hi : i < n) : SecOk (s.K i) := by
  obtain ⟨⟨bs, v, h⟩, _⟩ := h
  exact h.ok i hi
theorem Disk.base {w : World} {B p n : Nat} {s : DSt} (h : Disk w B p n s) : B ≤ w.heap.size := by
  obtain ⟨⟨bs, v, h⟩, _⟩ := h
  have := h.bp
  have := h.lt
  omega
/-- another block's cells turn. -/
theorem Disk.other {w w' : World} {B p n : Nat} {s : DSt} (h : Disk w B p n s) (hk : ∀ (k : Nat) (o : Obj), w.heap[k]? = some o → DiskTy o → w'.heap[k]? = some o) : Disk w' B p n s := by
  obtain ⟨⟨bs, v, h⟩, hl⟩ := h
  obtain ⟨C, hC⟩ := h.sec
  have hb := hk bs _ hC ⟨_, _, _, rfl, .inr (.inl rfl)⟩
  refine ⟨⟨bs, v, hk p _ h.blk ⟨_, _, _, rfl, .inl rfl⟩, ⟨C, hb⟩, ?_, h.ok, ?_, h.apart, h.bp, h.bb, h.nx, h.lo, h.few⟩, hl⟩
  · intro i hi j u hj
    exact (World.cell?_of_block (a := ⟨bs, i * 65 + j, none⟩) (hb.trans hC.symm)).trans (h.cells i hi j u hj)
  · intro i hi
    refine own_kept (h.rows i hi) (fun k e => ?_)
    obtain ⟨c, hc⟩ := own_type (h.rows i hi) e
    exact (hk k _ hc ⟨_, _, _, rfl, .inr (.inr rfl)⟩).trans hc.symm
/-- what Write answers, and leaves. -/
def DSt.writeF (s : DSt) (n : Nat) (at' : Int) (t : ByteArray) : Nat := if ¬ (0 ≤ at' ∧ at' < n) ∨ 64 < t.size then 1 else if s.falls = true then 9 else 0
def DSt.wrote (s : DSt) (n : Nat) (at' : Int) (t : ByteArray) : DSt := if ¬ (0 ≤ at' ∧ at' < n) ∨ 64 < t.size then s else if s.falls = true then s.fell else s.stepped.put at'.toNat (padB t.data.toList)
theorem stepped_left {s : DSt} (h : s.left ≤ 9223372036854775807) : s.stepped.left ≤ 9223372036854775807 := by
  unfold DSt.stepped
  split <;> simp <;> omega
theorem diskWrite_any (w : World) (B p n : Nat) (s : DSt) (at' : Int) (t : ByteArray) (h : Disk w B p n s) (ht : t.size ≤ maxLen) :
    Calls Tryz.prog 34 #[.pointer (some ⟨p, 0, none⟩), .int .i64 at', .string t] w fun e w' => e = .returned (errV (s.writeF n at' t)) ∧ Disk w' B p n (s.wrote n at' t) ∧ Spun B w w' := by
  obtain ⟨⟨bs, v, h⟩, hl⟩ := h
  unfold DSt.writeF DSt.wrote
  by_cases h1 : ¬ (0 ≤ at' ∧ at' < n) ∨ 64 < t.size
  · rw [if_pos h1, if_pos h1]
    exact (write_bound w B p bs n s v at' t h h1 ht).mono fun e w' ⟨he, hw⟩ => ⟨he, by rw [hw]; exact ⟨⟨bs, v, h⟩, hl⟩, by rw [hw]; exact Spun.refl _ _⟩
  · rw [if_neg h1, if_neg h1]
    obtain ⟨i, rfl⟩ := Int.eq_ofNat_of_zero_le (show 0 ≤ at' by omega)
    by_cases h2 : s.falls = true
    · rw [if_pos h2, if_pos h2]
      exact (write_falls w B p bs n s v i t h (by omega) (by omega) h2).mono fun e w' ⟨he, hd, hs⟩ => ⟨he, ⟨⟨bs, v, hd⟩, hl⟩, hs⟩
    · rw [if_neg h2, if_neg h2]
      exact (write_goes w B p bs n s v i t h (by omega) (by omega) (by simpa using h2) hl).mono fun e w' ⟨he, ⟨v', hd⟩, hs⟩ => ⟨he, ⟨⟨bs, v', by rw [Int.toNat_natCast]; exact hd⟩, stepped_left hl⟩, hs⟩
/-- what Flush answers, and leaves. -/
def DSt.flushF (s : DSt) : Nat := if s.falls = true then 9 else 0
def DSt.flushed (s : DSt) : DSt := if s.falls = true then s.fell else s.stepped.settled 18446744073709551615
theorem diskFlush_any (w : World) (B p n : Nat) (s : DSt) (h : Disk w B p n s) :
    Calls Tryz.prog 36 #[.pointer (some ⟨p, 0, none⟩)] w fun e w' => e = .returned (errV s.flushF) ∧ Disk w' B p n s.flushed ∧ Spun B w w' := by
  obtain ⟨⟨bs, v, h⟩, hl⟩ := h
  unfold DSt.flushF DSt.flushed
  by_cases h2 : s.falls = true
  · rw [if_pos h2, if_pos h2]
    exact (flush_falls w B p bs n s v h h2).mono fun e w' ⟨he, hd, hs⟩ => ⟨he, ⟨⟨bs, v, hd⟩, hl⟩, hs⟩
  · rw [if_neg h2, if_neg h2]
    exact (flush_goes w B p bs n s v h (by simpa using h2) hl).mono fun e w' ⟨he, ⟨v', hd⟩, hs⟩ => ⟨he, ⟨⟨bs, v', hd⟩, stepped_left hl⟩, hs⟩
/-- what Read answers. -/
def DSt.readT (s : DSt) (n : Nat) (at' : Int) : ByteArray := if s.readF n at' = 0 then ⟨(s.K at'.toNat).now.toArray⟩ else ⟨#[]⟩
theorem diskRead_any (w : World) (B p n : Nat) (s : DSt) (at' : Int) (h : Disk w B p n s) :
    Calls Tryz.prog 48 #[.pointer (some ⟨p, 0, none⟩), .int .i64 at'] w fun e w' => e = .returned (.tuple #[.string (s.readT n at'), errV (s.readF n at')]) ∧ Below w.heap.size w w' := by
  obtain ⟨⟨bs, v, h⟩, _⟩ := h
  unfold DSt.readT
  by_cases h0 : s.readF n at' = 0
  · rw [if_pos h0, h0]
    unfold DSt.readF at h0
    by_cases hd : s.down = true
    · rw [if_pos hd] at h0; cases h0
    · rw [if_neg hd] at h0
      by_cases h1 : 0 ≤ at' ∧ at' < n
      · obtain ⟨i, rfl⟩ := Int.eq_ofNat_of_zero_le h1.1
        rw [Int.toNat_natCast]
        exact read_ok w B p bs n s v i h (by simpa using hd) (by omega)
      · rw [if_neg h1] at h0; cases h0
  · rw [if_neg h0]
    exact (read_bad w B p bs n s v at' h h0).mono fun e w' ⟨he, hw⟩ => ⟨he, by rw [hw]; exact Below.refl _ _⟩
/-- behind Restart. -/
def DSt.again (s : DSt) (keep : Int) : DSt := { s.settled keep with down := false, left := -1 }
theorem diskNew_any (w : World) (n : Nat) (h1 : 1 ≤ n) (h2 : n ≤ 120) :
    Calls Tryz.prog 6 #[.int .i64 (n : Int)] w fun e w' => ∃ p, e = .returned (.tuple #[.pointer (some ⟨p, 0, none⟩), .nilIface]) ∧ Disk w' w.heap.size p n DSt.fresh ∧ Below w.heap.size w w' :=
  (newDisk_ok w n h1 h2).mono fun e w' ⟨p, he, hd, hb⟩ => ⟨p, he, ⟨hd, by decide⟩, hb⟩
theorem diskSectors_any (w : World) (B p n : Nat) (s : DSt) (h : Disk w B p n s) :
    Calls Tryz.prog 23 #[.pointer (some ⟨p, 0, none⟩)] w fun e w' => e = .returned (.int .i64 n) ∧ w' = w := by
  obtain ⟨⟨bs, v, h⟩, _⟩ := h
  exact sectors_any w B p bs n s v h
end Go.Proofs.YtlcdacldhalnnaaGreatDoor
