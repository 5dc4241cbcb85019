/-
  What SameNumbers returns, for every two lists of numbers: whether they are alike; memory stays as it was.
  Plain words on the closed fact bound: two files, of which the first one needs the second one; what is reckoned for the first one.
  The closed fact bound returns true; memory that was there stays as it was.
  Plain words on the closed fact ready: one file of one word, that is its own base and three; what is reckoned of it.
-/
import Derived.Test.YtidabcoodolddaaGreatDoorRows
import Derived.Test.YtidabcoodolddaaGreatDoorAtAll
import Derived.Deep.QuietTactic
import Derived.BigQuiet
import Derived.Test.YtidabcoodolddaaGreatDoorImageLoad
import Derived.Test.YtidabcoodolddaaGreatDoorPlainTop
import Derived.Test.YtidabcoodolddaaGreatDoorFilesInv
import Derived.Test.YtidabcoodolddaaGreatDoorFilesOps
import Derived.Deep.RegionLaw
import Derived.RegionTactic
import Derived.BigRegion
import Derived.Test.YtidabcoodolddaaGreatDoorPlainBM
namespace Go.Proofs.YtidabcoodolddaaGreatDoor
open Go.RowKit

end Go.Proofs.YtidabcoodolddaaGreatDoor

namespace Go.Proofs.YtidabcoodolddaaGreatDoor
open Go.RowKit Go.Maps

theorem itoa_zero : Lib.itoa 0 = [48] := by
  unfold Lib.itoa
  rw [if_neg (by decide), Lib.decDigits_one (by decide)]
  rfl
theorem parse_is {o : ObjF} {t : ByteArray} (ho : objF o = 0) (hl : textL o = t.data.toList) (hn : ¬ 1200 < t.data.toList.length) : (parseF t).1 = 0 ∧ SameO (parseF t).2 o := by
  have he : textF o = (0, t.data.toList) := by
    unfold textF
    rw [if_pos ho, hl, if_neg hn]
  exact parse_text (by rw [he]) (by rw [he])
theorem BasesAre.sizes {m : Nat} {sz sz' tf tm b : Nat → Int} {nt : Nat} (h : BasesAre m sz nt tf tm 0 b) (e : ∀ i, i < m → sz i = sz' i) : BasesAre m sz' nt tf tm 0 b := by
  obtain ⟨h0, hl⟩ := h.laid rfl
  have h0' : placeF m sz' nt tf tm = 0 := by
    rw [← h0]
    unfold placeF
    rw [anyTo_congr (p := fun i => decide (sz' i < 1 ∨ 40 < sz' i)) (q := fun i => decide (sz i < 1 ∨ 40 < sz i)) fun i hi => by rw [e i hi]]
  refine .ok _ h0' fun j hj => ?_
  obtain ⟨k, hk, hb⟩ := hl j hj
  refine ⟨k, hk, ?_⟩
  rw [← e j hj]
  exact hb.congr fun i hi => ⟨rfl, by
    unfold heldF
    split
    · rfl
    · show roundF (sz (i - nt)) = roundF (sz' (i - nt))
      rw [e _ (by omega)]⟩
end Go.Proofs.YtidabcoodolddaaGreatDoor

namespace Go.Proofs.YtidabcoodolddaaGreatDoor
open Go.RowKit Go.Maps

end Go.Proofs.YtidabcoodolddaaGreatDoor

namespace Go.Proofs.YtidabcoodolddaaGreatDoor
open Go.RowKit Go.Maps

abbrev zzN : ByteArray := ⟨#[122, 122]⟩
abbrev zzT : ByteArray := ⟨#[119, 111, 114, 100, 32, 53, 10, 98, 97, 115, 101, 32, 48, 32, 51, 10]⟩
abbrev zzO : ObjF := addTie (addWord emptyO 5) 0 1 3 ⟨#[]⟩ false
theorem itoa_five : Lib.itoa 5 = [53] := by
  unfold Lib.itoa
  rw [if_neg (by decide), Lib.decDigits_one (by decide)]
  rfl
theorem itoa_three : Lib.itoa 3 = [51] := by
  unfold Lib.itoa
  rw [if_neg (by decide), Lib.decDigits_one (by decide)]
  rfl
theorem parse_zz : (parseF zzT).1 = 0 ∧ SameO (parseF zzT).2 zzO := by
  refine parse_is (by decide) ?_ (by decide)
  show (([] : List UInt8) ++ ([] ++ lineL false [[119, 111, 114, 100], Lib.itoa 5]) ++ [] ++ ([] ++ lineL false [[98, 97, 115, 101], Lib.itoa 0, Lib.itoa 3])) = _
  rw [itoa_zero, itoa_five, itoa_three]
  rfl
theorem write_zz : writeF (.map []) 0 zzN zzT = 0 := by decide
abbrev fzz : DataW Unit := DataW.put (.map []) (keyB zzN) (fileD zzT.data.toList (((0 : Nat) : Int) + 1))
theorem inv_zz : Inv fzz 1 := Inv.put Inv.empty write_zz
theorem has_zz : Maps.has fzz (keyB zzN) = true := has_put_same ⟨[], rfl⟩ (keyB_key zzN) _
theorem rd_zz {T : ByteArray → ByteArray} (hT : Texts fzz T) : rdD fzz T zzN = parseF zzT := by
  have h2 : fzz.atKey (keyB zzN) (fileD [] 0) = fileD zzT.data.toList (((0 : Nat) : Int) + 1) := atKey_put_same ⟨[], rfl⟩ (keyB_key zzN) _ _
  have h3 := hT.is zzN zzT _ has_zz h2
  unfold rdD
  rw [if_pos has_zz, ← h3]
theorem of_zz {rd : ByteArray → Nat × ObjF} (hA : rd zzN = parseF zzT) : OfIs rd zzN 0 1 ∧ nmAt rd zzN 0 = zzN := by
  have e0 : nmAt rd zzN 0 = zzN := rfl
  have hn1 : namesAt rd zzN 1 = [zzN] := by
    show joinL [zzN] (needsTo (rd zzN).2 (rd zzN).2.nN) = _
    rw [hA, parse_zz.2.nN]
    rfl
  refine ⟨.ok 1 (fun j hj => ?_) (by rw [hn1]; rfl), e0⟩
  obtain rfl : j = 0 := by omega
  exact ⟨by simp [namesAt], by rw [e0, hA]; exact parse_zz.1⟩
theorem bases_zz : BasesAre 1 (fun _ => 1) 0 (fun _ => 0) (fun _ => 0) 0 (fun _ => 0) := by
  refine .ok _ (by decide) fun j hj => ?_
  obtain rfl : j = 0 := by omega
  exact ⟨0, by decide, by decide, by decide, fun j hj => by omega⟩
theorem reck_zz {rd : ByteArray → Nat × ObjF} (hA : rd zzN = parseF zzT) : ∃ P Q, Reckoned rd zzN 1 (fun _ => 0) P Q := by
  obtain ⟨hO, e0⟩ := of_zz hA
  have o0 : obAt rd zzN 0 = (parseF zzT).2 := by show (rd (nmAt rd zzN 0)).2 = _; rw [e0, hA]
  have sA := parse_zz.2
  obtain ⟨P, Q, hP⟩ := finds_some (symsF 1 (obAt rd zzN))
  have t0 := sA.ties 0 (by decide)
  have hw : whereF (obAt rd zzN) P Q (fun _ => 0) 0 0 = some 0 := by
    unfold whereF
    rw [o0, t0.2.1]
    rw [if_pos (by decide)]
  have ht : tieW (obAt rd zzN) P Q (fun _ => 0) 0 0 = (0, 3) := by
    unfold tieW
    rw [hw, o0, t0.2.1, t0.1, t0.2.2.1]
    decide
  have n0 : (obAt rd zzN 0).nT = 1 := by rw [o0, sA.nT]; rfl
  refine ⟨P, Q, hO, bases_zz.sizes fun i hi => ?_, fun _ _ => rfl, hP, ?_⟩
  · obtain rfl : i = 0 := by omega
    show (1 : Int) = ((obAt rd zzN 0).nW : Int)
    rw [o0, sA.nW]; rfl
  · unfold allF
    rw [if_neg (by decide), if_neg (by decide)]
    show seqF 0 (faultTo (fun k => (tieW (obAt rd zzN) P Q (fun _ => 0) 0 k).1) (obAt rd zzN 0).nT) = 0
    rw [n0]
    show seqF 0 (seqF 0 (tieW (obAt rd zzN) P Q (fun _ => 0) 0 0).1) = 0
    rw [ht]
    decide
end Go.Proofs.YtidabcoodolddaaGreatDoor
