/-
  What SameNumbers returns, for every two lists of numbers: whether they are alike; memory stays as it was.
  Plain words on the closed fact bound: two files, of which the first one needs the second one; what is reckoned for the first one.
  The closed fact bound returns true; memory that was there stays as it was.
  Plain words on the closed fact ready: one file of one word, that is its own base and three; what is reckoned of it.
-/
import Derived.Test.YtidabcoodolddaaGreatDoorRows
import Derived.Test.YtidabcoodolddaaGreatDoorAtAll
import Derived.Deep.QuietTactic
import Derived.BigQuiet
import Derived.Test.YtidabcoodolddaaGreatDoorImageLoad
import Derived.Test.YtidabcoodolddaaGreatDoorPlainTop
import Derived.Test.YtidabcoodolddaaGreatDoorFilesInv
import Derived.Test.YtidabcoodolddaaGreatDoorFilesOps
import Derived.Deep.RegionLaw
import Derived.RegionTactic
import Derived.BigRegion
import Derived.Test.YtidabcoodolddaaGreatDoorPlainBM
namespace Go.Proofs.YtidabcoodolddaaGreatDoor
open Go.RowKit

theorem bool_ret {a b : Bool} (h : a = b) : Ending.returned (.bool a) = .returned (.bool b) := by rw [h]

theorem sameNumbers_zero (a c : Option Addr) (ca cb : Nat) (w : World) :
    Calls Tryz.prog 36 #[.slice a 0 ca, .slice c 0 cb] w fun e w' => e = .returned (.bool true) ∧ ∃ k, w' = w.drewN k := by
  go_enter Tryz.func36, Tryz.ntmps36
  go_wp2
  refine wp_loop_rounds 1 ?_
  rw [rounds_succ]
  go_wp2
  go_ret
  exact ⟨rfl, 0, rfl⟩

set_option maxHeartbeats 400000 in
theorem sameNumbers_some (f g : Nat → Int) (n : Nat) (bx ox cx bY oY cy : Nat) (w : World) (hm : n ≤ 1000000000)
    (hx : ∀ i, i < n → w.cell? ⟨bx, ox + i, none⟩ = some (.int .i64 (f i)))
    (hy : ∀ i, i < n → w.cell? ⟨bY, oY + i, none⟩ = some (.int .i64 (g i))) :
    Calls Tryz.prog 36 #[.slice (some ⟨bx, ox, none⟩) n cx, .slice (some ⟨bY, oY, none⟩) n cy] w fun e w' => e = .returned (.bool (eqTo f g n)) ∧ ∃ k, w' = w.drewN k := by
  go_enter Tryz.func36, Tryz.ntmps36
  go_wp2
  go_loopw [5] (fun i wr => ∃ k j : Nat, k ≤ n ∧ i = .int .i64 k ∧ wr = w.drewN j ∧ Hid (eqTo f g k = true)) (fun i _ => n - (intOf i).toNat)
  case atStart => exact ⟨0, 0, Nat.zero_le _, rfl, rfl, rfl⟩
  case round =>
    obtain ⟨k, j, hk, rfl, rfl, HK⟩ := hrel
    by_cases hlt : k < n
    · have hxk := hx k hlt
      have hyk := hy k hlt
      by_cases he : f k = g k
      · have hne : (f k != g k) = false := bne_eq_false_iff_eq.2 he
        have HE : Hid (f k = g k) := he
        clear he hx hy
        go_wp2
        go_quiet (fail)
        go_wp2
        go_roundw
        case rel => exact ⟨k + 1, j + nq, by omega, by go_num, rfl, eqTo_succ HK.out HE.out⟩
        case measure => simp [intOf]; omega
      · have hne : (f k != g k) = true := bne_iff_ne.2 he
        have HE : Hid (eqTo f g n = false) := eqTo_stop he hlt
        clear he hx hy
        go_wp2
        go_quiet (fail)
        go_wp2
        go_ret
        exact ⟨bool_ret HE.out.symm, j + nq, by rw [World.drewN_drewN]⟩
    · have hkn : k = n := by omega
      subst hkn
      clear hx hy
      go_wp2
      go_ret
      exact ⟨bool_ret HK.out.symm, j, rfl⟩

set_option maxHeartbeats 400000 in
theorem sameNumbers_other (a c : Option Addr) (n m ca cb : Nat) (w : World) (hm : n ≠ m) :
    Calls Tryz.prog 36 #[.slice a n ca, .slice c m cb] w fun e w' => e = .returned (.bool false) ∧ ∃ k, w' = w.drewN k := by
  have hne : ((n : Int) != (m : Int)) = true := bne_iff_ne.2 (by omega)
  clear hm
  go_enter Tryz.func36, Tryz.ntmps36
  go_wp2
  go_ret
  exact ⟨rfl, 0, rfl⟩

theorem sameNumbers_any (f g : Nat → Int) (n m : Nat) (a c : Option Addr) (ca cb : Nat) (w : World) (hm : n ≤ 1000000000)
    (hx : RowAt w a n fun i => .int .i64 (f i)) (hy : RowAt w c m fun i => .int .i64 (g i)) :
    Calls Tryz.prog 36 #[.slice a n ca, .slice c m cb] w fun e w' => e = .returned (.bool (decide (n = m) && eqTo f g n)) ∧ ∃ k, w' = w.drewN k := by
  by_cases h : n = m
  · subst h
    rcases hx with h0 | ⟨b, o, rfl, hx⟩
    · subst h0
      refine (sameNumbers_zero a c ca cb w).mono ?_
      rintro e w' ⟨rfl, hw⟩
      exact ⟨rfl, hw⟩
    · rcases hy with h0 | ⟨b', o', rfl, hy⟩
      · subst h0
        refine (sameNumbers_zero _ c ca cb w).mono ?_
        rintro e w' ⟨rfl, hw⟩
        exact ⟨rfl, hw⟩
      · refine (sameNumbers_some f g n b o ca b' o' cb w hm hx hy).mono ?_
        rintro e w' ⟨rfl, hw⟩
        exact ⟨bool_ret (by simp), hw⟩
  · refine (sameNumbers_other a c n m ca cb w h).mono ?_
    rintro e w' ⟨rfl, hw⟩
    exact ⟨bool_ret (by simp [h]), hw⟩
end Go.Proofs.YtidabcoodolddaaGreatDoor

namespace Go.Proofs.YtidabcoodolddaaGreatDoor
open Go.RowKit Go.Maps

theorem itoa_zero : Lib.itoa 0 = [48] := by
  unfold Lib.itoa
  rw [if_neg (by decide), Lib.decDigits_one (by decide)]
  rfl
theorem parse_is {o : ObjF} {t : ByteArray} (ho : objF o = 0) (hl : textL o = t.data.toList) (hn : ¬ 1200 < t.data.toList.length) : (parseF t).1 = 0 ∧ SameO (parseF t).2 o := by
  have he : textF o = (0, t.data.toList) := by
    unfold textF
    rw [if_pos ho, hl, if_neg hn]
  exact parse_text (by rw [he]) (by rw [he])
theorem BasesAre.sizes {m : Nat} {sz sz' tf tm b : Nat → Int} {nt : Nat} (h : BasesAre m sz nt tf tm 0 b) (e : ∀ i, i < m → sz i = sz' i) : BasesAre m sz' nt tf tm 0 b := by
  obtain ⟨h0, hl⟩ := h.laid rfl
  have h0' : placeF m sz' nt tf tm = 0 := by
    rw [← h0]
    unfold placeF
    rw [anyTo_congr (p := fun i => decide (sz' i < 1 ∨ 40 < sz' i)) (q := fun i => decide (sz i < 1 ∨ 40 < sz i)) fun i hi => by rw [e i hi]]
  refine .ok _ h0' fun j hj => ?_
  obtain ⟨k, hk, hb⟩ := hl j hj
  refine ⟨k, hk, ?_⟩
  rw [← e j hj]
  exact hb.congr fun i hi => ⟨rfl, by
    unfold heldF
    split
    · rfl
    · show roundF (sz (i - nt)) = roundF (sz' (i - nt))
      rw [e _ (by omega)]⟩
end Go.Proofs.YtidabcoodolddaaGreatDoor

namespace Go.Proofs.YtidabcoodolddaaGreatDoor
open Go.RowKit Go.Maps

end Go.Proofs.YtidabcoodolddaaGreatDoor

namespace Go.Proofs.YtidabcoodolddaaGreatDoor
open Go.RowKit Go.Maps

abbrev zzN : ByteArray := ⟨#[122, 122]⟩
abbrev zzT : ByteArray := ⟨#[119, 111, 114, 100, 32, 53, 10, 98, 97, 115, 101, 32, 48, 32, 51, 10]⟩
abbrev zzO : ObjF := addTie (addWord emptyO 5) 0 1 3 ⟨#[]⟩ false
theorem itoa_five : Lib.itoa 5 = [53] := by
  unfold Lib.itoa
  rw [if_neg (by decide), Lib.decDigits_one (by decide)]
  rfl
theorem itoa_three : Lib.itoa 3 = [51] := by
  unfold Lib.itoa
  rw [if_neg (by decide), Lib.decDigits_one (by decide)]
  rfl
theorem parse_zz : (parseF zzT).1 = 0 ∧ SameO (parseF zzT).2 zzO := by
  refine parse_is (by decide) ?_ (by decide)
  show (([] : List UInt8) ++ ([] ++ lineL false [[119, 111, 114, 100], Lib.itoa 5]) ++ [] ++ ([] ++ lineL false [[98, 97, 115, 101], Lib.itoa 0, Lib.itoa 3])) = _
  rw [itoa_zero, itoa_five, itoa_three]
  rfl
theorem write_zz : writeF (.map []) 0 zzN zzT = 0 := by decide
abbrev fzz : DataW Unit := DataW.put (.map []) (keyB zzN) (fileD zzT.data.toList (((0 : Nat) : Int) + 1))
theorem inv_zz : Inv fzz 1 := Inv.put Inv.empty write_zz
theorem has_zz : Maps.has fzz (keyB zzN) = true := has_put_same ⟨[], rfl⟩ (keyB_key zzN) _
theorem rd_zz {T : ByteArray → ByteArray} (hT : Texts fzz T) : rdD fzz T zzN = parseF zzT := by
  have h2 : fzz.atKey (keyB zzN) (fileD [] 0) = fileD zzT.data.toList (((0 : Nat) : Int) + 1) := atKey_put_same ⟨[], rfl⟩ (keyB_key zzN) _ _
  have h3 := hT.is zzN zzT _ has_zz h2
  unfold rdD
  rw [if_pos has_zz, ← h3]
theorem of_zz {rd : ByteArray → Nat × ObjF} (hA : rd zzN = parseF zzT) : OfIs rd zzN 0 1 ∧ nmAt rd zzN 0 = zzN := by
  have e0 : nmAt rd zzN 0 = zzN := rfl
  have hn1 : namesAt rd zzN 1 = [zzN] := by
    show joinL [zzN] (needsTo (rd zzN).2 (rd zzN).2.nN) = _
    rw [hA, parse_zz.2.nN]
    rfl
  refine ⟨.ok 1 (fun j hj => ?_) (by rw [hn1]; rfl), e0⟩
  obtain rfl : j = 0 := by omega
  exact ⟨by simp [namesAt], by rw [e0, hA]; exact parse_zz.1⟩
theorem bases_zz : BasesAre 1 (fun _ => 1) 0 (fun _ => 0) (fun _ => 0) 0 (fun _ => 0) := by
  refine .ok _ (by decide) fun j hj => ?_
  obtain rfl : j = 0 := by omega
  exact ⟨0, by decide, by decide, by decide, fun j hj => by omega⟩
theorem reck_zz {rd : ByteArray → Nat × ObjF} (hA : rd zzN = parseF zzT) : ∃ P Q, Reckoned rd zzN 1 (fun _ => 0) P Q := by
  obtain ⟨hO, e0⟩ := of_zz hA
  have o0 : obAt rd zzN 0 = (parseF zzT).2 := by show (rd (nmAt rd zzN 0)).2 = _; rw [e0, hA]
  have sA := parse_zz.2
  obtain ⟨P, Q, hP⟩ := finds_some (symsF 1 (obAt rd zzN))
  have t0 := sA.ties 0 (by decide)
  have hw : whereF (obAt rd zzN) P Q (fun _ => 0) 0 0 = some 0 := by
    unfold whereF
    rw [o0, t0.2.1]
    rw [if_pos (by decide)]
  have ht : tieW (obAt rd zzN) P Q (fun _ => 0) 0 0 = (0, 3) := by
    unfold tieW
    rw [hw, o0, t0.2.1, t0.1, t0.2.2.1]
    decide
  have n0 : (obAt rd zzN 0).nT = 1 := by rw [o0, sA.nT]; rfl
  refine ⟨P, Q, hO, bases_zz.sizes fun i hi => ?_, fun _ _ => rfl, hP, ?_⟩
  · obtain rfl : i = 0 := by omega
    show (1 : Int) = ((obAt rd zzN 0).nW : Int)
    rw [o0, sA.nW]; rfl
  · unfold allF
    rw [if_neg (by decide), if_neg (by decide)]
    show seqF 0 (faultTo (fun k => (tieW (obAt rd zzN) P Q (fun _ => 0) 0 k).1) (obAt rd zzN 0).nT) = 0
    rw [n0]
    show seqF 0 (seqF 0 (tieW (obAt rd zzN) P Q (fun _ => 0) 0 0).1) = 0
    rw [ht]
    decide
end Go.Proofs.YtidabcoodolddaaGreatDoor
