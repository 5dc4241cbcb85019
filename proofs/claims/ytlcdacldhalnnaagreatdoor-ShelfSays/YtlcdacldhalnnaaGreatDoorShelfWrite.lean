/-
  What writeHead of package shelf does, of any disk.
-/
import Derived.Test.YtlcdacldhalnnaaGreatDoorShelfRead
namespace Go.Proofs.YtlcdacldhalnnaaGreatDoor
open Go.RowKit

/-- a head's text. -/
def headB (b q : UInt8) : ByteArray := ⟨(headT b q).toArray⟩
theorem headB_size (b q : UInt8) : (headB b q).size = 64 := by
  show (headT b q).toArray.size = 64
  simp [headT]
/-- what writeHead answers, and what the disk is behind it. -/
def DSt.headF (s : DSt) (n : Nat) (b q : UInt8) : Nat := if s.writeF n 0 (headB b q) = 0 then (s.wrote n 0 (headB b q)).flushF else s.writeF n 0 (headB b q)
def DSt.headed (s : DSt) (n : Nat) (b q : UInt8) : DSt := if s.writeF n 0 (headB b q) = 0 then (s.wrote n 0 (headB b q)).flushed else s.wrote n 0 (headB b q)

set_option maxRecDepth 100000 in
set_option maxHeartbeats 2000000 in
theorem writeHead_any (w : World) (B p n : Nat) (s : DSt) (b q : UInt8) (h : Disk w B p n s) :
    Calls Tryz.prog 24 #[.pointer (some ⟨p, 0, none⟩), .agg #[.int .i64 (b.toNat : Int), .int .i64 (q.toNat : Int)]] w fun e w' => e = .returned (errV (s.headF n b q)) ∧ Disk w' B p n (s.headed n b q) ∧ Spun B w w' := by
  have hb0 : Below w.heap.size w (w.alloc (.cells #[.int .i64 (b.toNat : Int), .int .i64 (q.toNat : Int)] 75)) := (Below.refl _ _).alloc (Nat.le_refl _) _
  have HT := headText_any b.toNat q.toNat (w.alloc (.cells #[.int .i64 (b.toNat : Int), .int .i64 (q.toNat : Int)] 75)) b.toNat_lt q.toNat_lt
  have u8 : b.toNat.toUInt8 = b := by simp
  have u9 : q.toNat.toUInt8 = q := by simp
  rw [u8, u9] at HT
  have eT : (⟨(headT b q).toArray⟩ : ByteArray) = headB b q := rfl
  rw [eT] at HT
  have hS := headB_size b q
  unfold DSt.headF DSt.headed
  generalize headB b q = T at *
  have h1 := h.later hb0
  have hB := h.base
  clear u8 u9 eT
  by_cases hF : s.writeF n 0 T = 0
  · rw [if_pos hF, if_pos hF]
    go_enter Tryz.func24, Tryz.ntmps24
    go_wp2_with fail
    refine (show Calls _ _ _ _ _ from HT).mono ?_
    rintro e w2 ⟨rfl, hb2⟩
    clear HT
    have hb3 := hb0.trans (hb2.mono hb0.size)
    have HW := diskWrite_any w2 B p n s 0 T (h.later hb3) (by rw [hS]; decide)
    clear hb0 hb2 h1
    rw [hF] at HW
    have q0 : errV 0 = .nilIface := rfl
    rw [q0] at HW
    clear hF
    go_wp2_with fail
    refine (show Calls _ _ _ _ _ from HW).mono ?_
    rintro e w4 ⟨rfl, hD, hSp⟩
    clear HW
    have hSp2 := (Spun.of hB hb3).trans hSp
    have HFl := diskFlush_any w4 B p n _ hD
    go_wp2_with fail
    refine (show Calls _ _ _ _ _ from HFl).mono ?_
    rintro e w5 ⟨rfl, hD5, hS5⟩
    clear HFl
    go_wp2
    go_ret
    exact ⟨rfl, hD5, hSp2.trans hS5⟩
  · rw [if_neg hF, if_neg hF]
    obtain ⟨z, hz⟩ := errV_some hF
    rw [hz]
    go_enter Tryz.func24, Tryz.ntmps24
    go_wp2_with fail
    refine (show Calls _ _ _ _ _ from HT).mono ?_
    rintro e w2 ⟨rfl, hb2⟩
    clear HT
    have hb3 := hb0.trans (hb2.mono hb0.size)
    have HW := diskWrite_any w2 B p n s 0 T (h.later hb3) (by rw [hS]; decide)
    clear hb0 hb2 h1
    rw [hz] at HW
    clear hF hz
    go_wp2_with fail
    refine (show Calls _ _ _ _ _ from HW).mono ?_
    rintro e w4 ⟨rfl, hD, hSp⟩
    clear HW
    have hSp2 := (Spun.of hB hb3).trans hSp
    go_wp2
    go_ret
    exact ⟨rfl, hD, hSp2⟩
end Go.Proofs.YtlcdacldhalnnaaGreatDoor
