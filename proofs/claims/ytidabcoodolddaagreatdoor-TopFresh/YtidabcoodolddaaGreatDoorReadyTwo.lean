/-
  What SamePatches returns, of two lists of patches that are alike; memory stays as it was.
  What SameEntry returns, of two entries that are alike: true; memory that was there stays as it was.
  What SameEntry and SamePatches return, of any two: true or false; memory that was there stays as it was.
  What all and sameShelf of the statements do, and the closed fact of a shelf.
  ready returns files, a loader and a disk, with nothing in them; memory that was there stays as it was.
-/
import Derived.Test.YtidabcoodolddaaGreatDoorRows
import Derived.Test.YtidabcoodolddaaGreatDoorAtAll
import Derived.Deep.QuietTactic
import Derived.BigQuiet
import Derived.Test.YtidabcoodolddaaGreatDoorEntCheck
import Derived.Test.YtidabcoodolddaaGreatDoorShelfLow
import Derived.Test.YtidabcoodolddaaGreatDoorShelfTop
import Derived.Test.YtidabcoodolddaaGreatDoorLoadAll
import Derived.Test.YtidabcoodolddaaGreatDoorReadyOne
namespace Go.Proofs.YtidabcoodolddaaGreatDoor
open Go.RowKit

end Go.Proofs.YtidabcoodolddaaGreatDoor

namespace Go.Proofs.YtidabcoodolddaaGreatDoor
open Go.RowKit Go.Maps

theorem RowE.same {w : World} {a : Option Addr} {n : Nat} {s s' : Nat → ByteArray} {k k' b b' : Nat → Int} (h : RowE w a n s k b) (e : ∀ i, i < n → s i = s' i ∧ k i = k' i ∧ b i = b' i) : RowE w a n s' k' b' :=
  h.imp id fun ⟨bk, o, ha, hc⟩ => ⟨bk, o, ha, fun i hi => by obtain ⟨h1, h2, h3⟩ := e i hi; rw [← h1, ← h2, ← h3]; exact hc i hi⟩
theorem PatRow.same {w : World} {a : Option Addr} {n : Nat} {s s' : Nat → Int} {k k' b b' : Nat → Int} (h : PatRow w a n s k b) (e : ∀ i, i < n → s i = s' i ∧ k i = k' i ∧ b i = b' i) : PatRow w a n s' k' b' :=
  h.imp id fun ⟨bk, o, ha, hc⟩ => ⟨bk, o, ha, fun i hi => by obtain ⟨h1, h2, h3⟩ := e i hi; rw [← h1, ← h2, ← h3]; exact hc i hi⟩
end Go.Proofs.YtidabcoodolddaaGreatDoor

namespace Go.Proofs.YtidabcoodolddaaGreatDoor
open Go.RowKit

end Go.Proofs.YtidabcoodolddaaGreatDoor

namespace Go.Proofs.YtidabcoodolddaaGreatDoor
open Go.RowKit

set_option maxRecDepth 100000 in
set_option maxHeartbeats 4000000 in
theorem lawShelved_any (w : World) (E : Nat → EntF) (hE : Env w) :
    Calls Tryz.prog 26 #[] w fun e w' => ∃ p g, e = .returned (.tuple #[.pointer (some ⟨p, 0, none⟩), .pointer (some ⟨g, 0, none⟩), .bool true]) ∧ w.heap.size ≤ g ∧ ShelfAt w' g p ∧ (∃ s, Disk w' w.heap.size p 112 s ∧ Stands s 112 E 0 ∧ s.left = -1) ∧ Below w.heap.size w w' := by
  have HN := diskNew_any w 112 (by decide) (by decide)
  go_enter Tryz.func26, Tryz.ntmps26
  go_wp2_with fail
  refine (show Calls _ _ _ _ _ from HN).mono ?_
  rintro e w1 ⟨p, rfl, hD1, hb1⟩
  clear HN
  have HF := format_any w1 w.heap.size p 112 DSt.fresh E hD1 rfl (by decide) rfl
  go_wp2_with fail
  refine (show Calls _ _ _ _ _ from HF).mono ?_
  rintro e w2 ⟨rfl, ⟨s2, hD2, hS2, hl2⟩, hSp2⟩
  clear HF
  have hb2 := hb1.trans hSp2.below
  have HO := open_any w2 w.heap.size p 112 s2 E 0 hD2 hS2 (hE.later hb2)
  go_wp2_with fail
  refine (show Calls _ _ _ _ _ from HO).mono ?_
  rintro e w3 ⟨g, rfl, hge, hg, hb3⟩
  clear HO
  have HFIN : Hid (∃ p' g', Ending.returned (.tuple #[.pointer (some ⟨p, 0, none⟩), .pointer (some ⟨g, 0, none⟩), .bool true]) = .returned (.tuple #[.pointer (some ⟨p', 0, none⟩), .pointer (some ⟨g', 0, none⟩), .bool true]) ∧ w.heap.size ≤ g' ∧ ShelfAt w3 g' p' ∧ (∃ s, Disk w3 w.heap.size p' 112 s ∧ Stands s 112 E 0 ∧ s.left = -1) ∧ Below w.heap.size w w3) :=
    ⟨p, g, rfl, Nat.le_trans hb2.size hge, hg, ⟨s2, hD2.later hb3, hS2, hl2⟩, hb2.trans (hb3.mono hb2.size)⟩
  go_wp2
  refine bodyPost_ret (v := .tuple #[.pointer (some ⟨p, 0, none⟩), .pointer (some ⟨g, 0, none⟩), .bool true]) (by simp [results, Tryz.results26, go_sem]) rfl ?_
  exact HFIN.out
end Go.Proofs.YtidabcoodolddaaGreatDoor

namespace Go.Proofs.YtidabcoodolddaaGreatDoor
open Go.RowKit Go.Maps

set_option maxRecDepth 100000 in
set_option maxHeartbeats 8000000 in
theorem ready_any (w : World) (hE : Env w) :
    Calls Tryz.prog 8 #[] w fun e w' => ∃ (B p pf bm l g : Nat) (s : DSt) (D : DataW Unit), e = .returned (.tuple #[.pointer (some ⟨pf, 0, none⟩), .pointer (some ⟨l, 0, none⟩), .pointer (some ⟨p, 0, none⟩), .bool true]) ∧ KeptAt w w' B p pf bm l g s (fun _ => emptyE) 0 D 1 ∧ s.left = -1 ∧ w.heap.size ≤ B ∧ w.heap.size ≤ pf ∧ w.heap.size ≤ bm := by
  have HS := lawShelved_any w (fun _ => emptyE) hE
  go_enter Tryz.func8, Tryz.ntmps8
  go_wp2_with fail
  refine (show Calls _ _ _ _ _ from HS).mono ?_
  rintro e w1 ⟨p, g0, rfl, _, _, ⟨s, hD1, hSt, hl⟩, hb1⟩
  clear HS
  have HN := new_any w1
  go_wp2_with fail
  refine (show Calls _ _ _ _ _ from HN).mono ?_
  rintro e w2 ⟨pf, bm, rfl, hp, hbm, hF2, hb2⟩
  clear HN
  have hD2 := hD1.later hb2
  have hb2' := hb1.trans (hb2.mono hb1.size)
  have hp' : w.heap.size ≤ pf := Nat.le_trans hb1.size hp
  have hbm' : w.heap.size ≤ bm := Nat.le_trans hb1.size hbm
  have HL := loaderNew_any w2 w.heap.size p 112 pf s (fun _ => emptyE) 0 hD2 hSt (hE.later hb2')
  clear hD1 hb1 hb2 hp hbm
  go_wp2_with fail
  refine (show Calls _ _ _ _ _ from HL).mono ?_
  rintro e w3 ⟨l, g, rfl, _, hl3, hg3, hb3⟩
  clear HL
  have hD3 := hD2.later hb3
  have hF3 := hF2.later hb3
  have hb3' := hb2'.trans (hb3.mono hb2'.size)
  have HW := write_any w3 pf bm (.map []) 0 zzN zzT hF3 (by decide) (by simp [Maps.size])
  rw [write_zz] at HW
  clear hD2 hF2 hb2' hb3
  go_wp2_with fail
  refine (show Calls _ _ _ _ _ from HW).mono ?_
  rintro e w4 ⟨rfl, hyes, _, hT4⟩
  clear HW
  have hF4 : FilesAt w4 pf bm fzz 1 := hyes rfl
  have hD4 := hD3.turned hF3 hT4
  have hl4 := hl3.turned hF3 hT4
  have hg4 := hg3.turned hF3 hT4
  have hb4 := hb3'.trans (hT4.below hb3'.size hp' hbm')
  obtain ⟨T, hT⟩ := texts_some fzz
  obtain ⟨S, hS⟩ := stamps_some fzz
  obtain ⟨P, Q, hR⟩ := reck_zz (rd_zz hT)
  have HLd := loaderLoad_any w4 w.heap.size p 112 l g pf bm s (fun _ => emptyE) 0 fzz 1 T S zzN hD4 hSt hl4 hg4 (hE.later hb4) hF4 inv_zz hT hS (by decide)
  rw [show getE (fun _ => emptyE) 0 zzN = (false, emptyE) from if_pos (by rw [findF_end (by decide)]; decide)] at HLd
  clear hyes hT4 hD3 hF3 hl3 hg3 hb3'
  rw [show errV 0 = .nilIface from rfl]
  go_wp2_with fail
  refine (show Calls _ _ _ _ _ from HLd).mono ?_
  rintro e w5 ⟨hLE, hb5⟩
  clear HLd
  cases hLE with
  | kept en u F w1 B1 hB hw hr => cases hr
  | new u F B1 hB hr hld =>
    obtain ⟨rfl, g', A, C, G, hPI⟩ := hld.good hR
    obtain ⟨au, cu, rfl, _, _⟩ := parts_row hPI
    have hF5 := hF4.later hb5
    have hb5' := hb4.trans (hb5.mono hb4.size)
    have HRm := remove_any w5 pf bm fzz 1 zzN hF5 (by decide) 0 (by rw [has_zz]; rfl)
    rw [show errV 0 = .nilIface from rfl] at HRm
    rw [show errV 0 = .nilIface from rfl]
    have hD5 := hD4.later hb5
    have hl5 := hl4.later hb5
    have hg5 := hg4.later hb5
    clear hPI hld hD4 hl4 hg4 hb4 hb5 hF4
    go_wp2_with fail
    refine (show Calls _ _ _ _ _ from HRm).mono ?_
    rintro e w6 ⟨rfl, hF6, hT6⟩
    clear HRm
    have HFIN : Hid (∃ (B p' pf' bm' l' g' : Nat) (s' : DSt) (D : DataW Unit), Ending.returned (.tuple #[.pointer (some ⟨pf, 0, none⟩), .pointer (some ⟨l, 0, none⟩), .pointer (some ⟨p, 0, none⟩), .bool true]) = .returned (.tuple #[.pointer (some ⟨pf', 0, none⟩), .pointer (some ⟨l', 0, none⟩), .pointer (some ⟨p', 0, none⟩), .bool true]) ∧ KeptAt w w6 B p' pf' bm' l' g' s' (fun _ => emptyE) 0 D 1 ∧ s'.left = -1 ∧ w.heap.size ≤ B ∧ w.heap.size ≤ pf' ∧ w.heap.size ≤ bm') :=
      ⟨w.heap.size, p, pf, bm, l, g, s, _, rfl, ⟨hD5.turned hF5 hT6, hSt, hF6, inv_zz.del, (NamesOk.empty.put write_zz).del, (StampsPos.empty.put Inv.empty).del, fun i hi => absurd hi (Nat.not_lt_zero _), hl5.turned hF5 hT6, hg5.turned hF5 hT6, hb5'.trans (hT6.below hb5'.size hp' hbm')⟩, hl, Nat.le_refl _, hp', hbm'⟩
    clear hD5 hSt hF6 hl5 hg5 hT6 hF5
    go_wp2
    refine bodyPost_ret (v := .tuple #[.pointer (some ⟨pf, 0, none⟩), .pointer (some ⟨l, 0, none⟩), .pointer (some ⟨p, 0, none⟩), .bool true]) (by simp [results, Tryz.results8, go_sem]) rfl ?_
    exact HFIN.out
end Go.Proofs.YtidabcoodolddaaGreatDoor
