/-
  What textOf of package shelf returns, of entries that may be: their lines; what readBody returns, of a disk that isn't down: what stands in a body, but for the noughts at its end.
-/
import Derived.Test.YtlcdacldhalnnaaGreatDoorShelfSmall
import Derived.Test.YtlcdacldhalnnaaGreatDoorPlainLine
import Derived.Test.YtlcdacldhalnnaaGreatDoorDiskAll
import Derived.Test.YtlcdacldhalnnaaGreatDoorEntText
import Derived.Test.YtlcdacldhalnnaaGreatDoorBuildUse
import Derived.Lib.TrimByte
namespace Go.Proofs.YtlcdacldhalnnaaGreatDoor
open Go.RowKit

theorem EntOk.fit {e : EntF} (h : EntOk e) : EntFit e := by
  have hm : (1000 : Nat) ≤ maxLen := by decide
  have h1 := h.nP
  have h2 := h.nQ
  refine ⟨?_, by omega, by omega, fun i hi => ?_⟩
  · have := nameF_len h.root
    have e1 : e.root.size = e.root.data.toList.length := by simp
    omega
  · have := nameF_len (h.parts i hi).1
    have e1 : (e.pName i).size = (e.pName i).data.toList.length := by simp
    omega
set_option maxRecDepth 100000 in
set_option maxHeartbeats 4000000 in
theorem textOf_any (a : Option Addr) (k c : Nat) (V : Nat → EntV) (E : Nat → EntF) (w : World) (hE : Env w) (hk : k ≤ 3) (hok : ∀ i, i < k → entF (E i) = 0) (hr : EntsRow w a k V E) :
    Calls Tryz.prog 43 #[.slice a k c] w fun e w' => e = .returned (.tuple #[.string ⟨(linesE E k).toArray⟩, .nilIface]) ∧ Below w.heap.size w w' := by
  have hS := built_start w
  have q0 : errV 0 = .nilIface := rfl
  go_enter Tryz.func43, Tryz.ntmps43
  go_wp2
  go_loopw [11] (fun y wr => ∃ i : Nat, i ≤ k ∧ y = .int .i64 i ∧ Built w wr (linesE E i)) (fun y _ => k - (intOf y).toNat)
  case atStart => exact ⟨0, Nat.zero_le _, rfl, hS⟩
  case round =>
    clear hS
    obtain ⟨i, hi, rfl, hS⟩ := hrel
    by_cases hlt : i < k
    · rcases hr with h0 | ⟨bk, o, rfl, hc⟩
      · omega
      obtain ⟨c0, c1, c2, hA⟩ := (hc i hlt).later hS.below
      have hOk := entOk (hok i hlt)
      have hl1 := lineE_len hOk
      have hl2 : (linesE E i).length ≤ 2256 := linesE_len (by omega) (fun j hj => entOk (hok j (by omega)))
      have hb0 : Below wr.heap.size wr (wr.alloc (.cells (entCs (V i) (E i)) 43)) := (Below.refl _ _).alloc (Nat.le_refl _) _
      have HT := entText_any (V i) (E i) _ (hA.later hb0) hOk.fit ((hE.later hS.below).later hb0)
      rw [textE_ok (hok i hlt), q0] at HT
      have d0 : (wr.alloc (.cells (entCs (V i) (E i)) 43)).cell? ⟨wr.heap.size, 0, none⟩ = some (.string (E i).root) := by simp [go_sem]
      have d1 : (wr.alloc (.cells (entCs (V i) (E i)) 43)).cell? ⟨wr.heap.size, 1, none⟩ = some (.slice (V i).aP (E i).nP (V i).cP) := by simp [go_sem]
      have d2 : (wr.alloc (.cells (entCs (V i) (E i)) 43)).cell? ⟨wr.heap.size, 2, none⟩ = some (.slice (V i).aQ (E i).nQ (V i).cQ) := by simp [go_sem]
      have hi0 : (0 : Int) ≤ (i : Int) := by omega
      have hi1 : (i : Int) < (k : Int) := by omega
      have HL : Hid (linesE E (i + 1) = linesE E i ++ lineE (E i)) := rfl
      have hsz := ba_size (lineE (E i))
      have HD : Hid ((⟨(lineE (E i)).toArray⟩ : ByteArray).data.toList = lineE (E i)) := ba_mk _
      unfold entCs at HT hb0 d0 d1 d2
      generalize lineE (E i) = ln at *
      generalize (⟨ln.toArray⟩ : ByteArray) = T at *
      clear hc hOk
      go_wp2_with fail
      refine (show Calls _ _ _ _ _ from HT).mono ?_
      rintro e w2 ⟨rfl, hb2⟩
      clear HT d0 d1 d2 c0 c1 c2
      have hb3 := hb0.trans (hb2.mono hb0.size)
      have HWS := writeString_any w.heap.size w.heap.size (linesE E i) T w2 (isBuilder_later hS.is hb3) (by omega) (by omega) (Nat.le_trans hS.below.size hb3.size)
      go_wp2_with fail
      refine (show Calls _ _ _ _ _ from HWS).mono ?_
      rintro e w3 ⟨rfl, hb4⟩
      have hN : Built w w3 (linesE E (i + 1)) := by
        have := hS.more hb3 hb4
        rw [HD.out] at this
        rw [HL.out]
        exact this
      clear HWS hb2 hb3 hb4 hS
      go_wp2
      go_roundw
      case rel => exact ⟨i + 1, by omega, by go_num, hN⟩
      case measure => simp [intOf]; omega
    · have e : i = k := by omega
      subst e
      have HG := Tryz.Builder_String_any w.heap.size w.heap.size (linesE E i) wr hS.is hS.below.size
      go_wp2_with fail
      refine (show Calls _ _ _ _ _ from HG).mono ?_
      rintro e w6 ⟨rfl, hb6⟩
      clear HG
      go_wp2
      go_ret2
      exact ⟨rfl, hS.below.trans hb6⟩

/-- the bytes of q sectors of a body, as they are read. -/
def bodyN (s : DSt) (b q : Nat) : List UInt8 := catTo (fun i => (s.K (1 + b * 55 + i)).now) q
set_option maxRecDepth 100000 in
set_option maxHeartbeats 4000000 in
theorem readBody_any (w : World) (B p n : Nat) (s : DSt) (b q : Nat) (h : Disk w B p n s) (hup : s.down = false) (hn : 112 ≤ n) (hb : b ≤ 1) (hq : q ≤ 55) (hnow : ∀ i, i < n → (s.K i).now.length = 64) :
    Calls Tryz.prog 32 #[.pointer (some ⟨p, 0, none⟩), .agg #[.int .i64 (b : Int), .int .i64 (q : Int)]] w fun e w' => e = .returned (.tuple #[.string ⟨(Lib.trimRightB (bodyN s b q) 0).toArray⟩, .nilIface]) ∧ Below w.heap.size w w' := by
  have hb0 : Below w.heap.size w (w.alloc (.cells #[.int .i64 (b : Int), .int .i64 (q : Int)] 75)) := (Below.refl _ _).alloc (Nat.le_refl _) _
  have d0 : (w.alloc (.cells #[.int .i64 (b : Int), .int .i64 (q : Int)] 75)).cell? ⟨w.heap.size, 0, none⟩ = some (.int .i64 (b : Int)) := by simp [go_sem]
  have d1 : (w.alloc (.cells #[.int .i64 (b : Int), .int .i64 (q : Int)] 75)).cell? ⟨w.heap.size, 1, none⟩ = some (.int .i64 (q : Int)) := by simp [go_sem]
  have q0 : errV 0 = .nilIface := rfl
  have hbi : (b : Int) ≤ 1 := by omega
  have hbi0 : (0 : Int) ≤ (b : Int) := by omega
  have hb55 : b * 55 ≤ 55 := by omega
  have hlen : ∀ i, i ≤ q → (bodyN s b i).length ≤ 3520 := fun i hi => by
    have := catTo_le (fun i => (s.K (1 + b * 55 + i)).now) 64 q i hi (fun j hj => by rw [hnow _ (by omega)]; exact Nat.le_refl _)
    unfold bodyN
    omega
  generalize hW : w.alloc (.cells #[.int .i64 (b : Int), .int .i64 (q : Int)] 75) = W at *
  have hS := built_start W
  have d1' := cell_later hS.below d1
  go_enter Tryz.func32, Tryz.ntmps32
  go_wp2
  go_loopw [12] (fun y wr => ∃ i : Nat, i ≤ q ∧ y = .int .i64 i ∧ Built W wr (bodyN s b i)) (fun y _ => q - (intOf y).toNat)
  case atStart => exact ⟨0, Nat.zero_le _, rfl, hS⟩
  case round =>
    clear hS d1'
    obtain ⟨i, hi, rfl, hS⟩ := hrel
    have hbr := hb0.trans (hS.below.mono hb0.size)
    by_cases hlt : i < q
    · have f0 := cell_later hS.below d0
      have hl := hlen i hi
      have hi0 : (0 : Int) ≤ (i : Int) := by omega
      have hi1 : (i : Int) < (q : Int) := by omega
      have hi2 : (i : Int) < 55 := by omega
      have hin : 1 + b * 55 + i < n := by omega
      have HA := start_any (b : Int) wr hbi0 hbi
      have HR := diskRead_any wr B p n s (1 + (b : Int) * 55 + (i : Int)) (h.later hbr)
      have eF : s.readF n (1 + (b : Int) * 55 + (i : Int)) = 0 := by unfold DSt.readF; rw [hup, if_neg (by decide), if_pos (by omega)]
      have eT : s.readT n (1 + (b : Int) * 55 + (i : Int)) = ⟨(s.K (1 + b * 55 + i)).now.toArray⟩ := by
        unfold DSt.readT
        rw [if_pos eF, show (1 + (b : Int) * 55 + (i : Int)).toNat = 1 + b * 55 + i by omega]
      rw [eF, eT, q0] at HR
      clear eF eT
      have HL : Hid (bodyN s b (i + 1) = bodyN s b i ++ (s.K (1 + b * 55 + i)).now) := rfl
      have hsz := ba_size (s.K (1 + b * 55 + i)).now
      rw [hnow _ hin] at hsz
      have HD : Hid ((⟨(s.K (1 + b * 55 + i)).now.toArray⟩ : ByteArray).data.toList = (s.K (1 + b * 55 + i)).now) := ba_mk _
      generalize (s.K (1 + b * 55 + i)).now = ln at *
      generalize (⟨ln.toArray⟩ : ByteArray) = T at *
      go_wp2_with fail
      refine (show Calls _ _ _ _ _ from HA).mono ?_
      rintro e w2 ⟨rfl, hw2⟩
      subst hw2
      clear HA
      go_wp2_with fail
      refine (show Calls _ _ _ _ _ from HR).mono ?_
      rintro e w2 ⟨rfl, hb2⟩
      clear HR f0
      have HWS := writeString_any W.heap.size W.heap.size (bodyN s b i) T w2 (isBuilder_later hS.is hb2) (by omega) (by omega) (Nat.le_trans hS.below.size hb2.size)
      go_wp2_with fail
      refine (show Calls _ _ _ _ _ from HWS).mono ?_
      rintro e w3 ⟨rfl, hb4⟩
      have hN : Built W w3 (bodyN s b (i + 1)) := by
        have := hS.more hb2 hb4
        rw [HD.out] at this
        rw [HL.out]
        exact this
      clear HWS hb2 hb4 hS
      go_wp2
      go_roundw
      case rel => exact ⟨i + 1, by omega, by go_num, hN⟩
      case measure => simp [intOf]; omega
    · have e : i = q := by omega
      subst e
      have HG := Tryz.Builder_String_any W.heap.size W.heap.size (bodyN s b i) wr hS.is hS.below.size
      have hl := hlen i (Nat.le_refl _)
      have hsz := ba_size (bodyN s b i)
      have HTR := fun w' => Tryz.strings_TrimRight_one ⟨(bodyN s b i).toArray⟩ 0 (by decide) w' (by omega)
      rw [ba_mk] at HTR
      generalize (⟨(bodyN s b i).toArray⟩ : ByteArray) = T at *
      go_wp2_with fail
      refine (show Calls _ _ _ _ _ from HG).mono ?_
      rintro e w6 ⟨rfl, hb6⟩
      clear HG
      have HT6 := HTR w6
      clear HTR
      go_wp2_with fail
      refine (show Calls _ _ _ _ _ from HT6).mono ?_
      rintro e w7 ⟨rfl, hw7⟩
      subst hw7
      go_wp2
      go_ret2
      exact ⟨rfl, hb0.trans ((hS.below.trans hb6).mono hb0.size)⟩
end Go.Proofs.YtlcdacldhalnnaaGreatDoor
