/-
  Plain words on the closed fact bound: two files, of which the first one needs the second one; what is reckoned for the first one.
  The closed fact bound returns true; memory that was there stays as it was.
-/
import Derived.Test.YtppokhbhmnhhbaaGreatDoorImageLoad
import Derived.Test.YtppokhbhmnhhbaaGreatDoorPlainTop
import Derived.Test.YtppokhbhmnhhbaaGreatDoorFilesInv
import Derived.Test.YtppokhbhmnhhbaaGreatDoorSameNumbers
import Derived.Test.YtppokhbhmnhhbaaGreatDoorFilesOps
import Derived.Deep.RegionLaw
import Derived.RegionTactic
import Derived.BigRegion
namespace Go.Proofs.YtppokhbhmnhhbaaGreatDoor
open Go.RowKit Go.Maps

abbrev bnA : ByteArray := ⟨#[97]⟩
abbrev bnB : ByteArray := ⟨#[98]⟩
abbrev bnX : ByteArray := ⟨#[120]⟩
abbrev btA : ByteArray := ⟨#[110, 101, 101, 100, 32, 98, 10, 119, 111, 114, 100, 32, 48, 10, 119, 104, 111, 108, 101, 32, 48, 32, 48, 32, 120, 10]⟩
abbrev btB : ByteArray := ⟨#[119, 111, 114, 100, 32, 55, 10, 115, 121, 109, 98, 111, 108, 32, 120, 32, 48, 10]⟩
abbrev boA : ObjF := addTie (addWord (addNeed emptyO bnB) 0) 0 2 0 bnX false
abbrev boB : ObjF := addSym (addWord emptyO 7) bnX 0 false
theorem itoa_zero : Lib.itoa 0 = [48] := by
  unfold Lib.itoa
  rw [if_neg (by decide), Lib.decDigits_one (by decide)]
  rfl
theorem itoa_seven : Lib.itoa 7 = [55] := by
  unfold Lib.itoa
  rw [if_neg (by decide), Lib.decDigits_one (by decide)]
  rfl
theorem parse_is {o : ObjF} {t : ByteArray} (ho : objF o = 0) (hl : textL o = t.data.toList) (hn : ¬ 1200 < t.data.toList.length) : (parseF t).1 = 0 ∧ SameO (parseF t).2 o := by
  have he : textF o = (0, t.data.toList) := by
    unfold textF
    rw [if_pos ho, hl, if_neg hn]
  exact parse_text (by rw [he]) (by rw [he])
theorem parse_bA : (parseF btA).1 = 0 ∧ SameO (parseF btA).2 boA := by
  refine parse_is (by decide) ?_ (by decide)
  show (([] ++ lineL false [[110, 101, 101, 100], [98]]) ++ ([] ++ lineL false [[119, 111, 114, 100], Lib.itoa 0]) ++ [] ++ ([] ++ lineL false [[119, 104, 111, 108, 101], Lib.itoa 0, Lib.itoa 0, [120]])) = _
  rw [itoa_zero]
  rfl
theorem parse_bB : (parseF btB).1 = 0 ∧ SameO (parseF btB).2 boB := by
  refine parse_is (by decide) ?_ (by decide)
  show (([] : List UInt8) ++ ([] ++ lineL false [[119, 111, 114, 100], Lib.itoa 7]) ++ ([] ++ lineL false [[115, 121, 109, 98, 111, 108], [120], Lib.itoa 0]) ++ []) = _
  rw [itoa_zero, itoa_seven]
  rfl
theorem write_bA : writeF (.map []) 0 bnA btA = 0 := by decide
abbrev bfA : DataW Unit := DataW.put (.map []) (keyB bnA) (fileD btA.data.toList (((0 : Nat) : Int) + 1))
theorem write_bB : writeF bfA 1 bnB btB = 0 := by decide
abbrev bfB : DataW Unit := DataW.put bfA (keyB bnB) (fileD btB.data.toList (((1 : Nat) : Int) + 1))
theorem inv_bB : Inv bfB 2 := Inv.put (Inv.put Inv.empty write_bA) write_bB
theorem key_ne : keyB bnA ≠ keyB bnB := fun e => absurd (keyB_inj' e) (by decide)
theorem rd_bA {T : ByteArray → ByteArray} (hT : Texts bfB T) : rdD bfB T bnA = parseF btA := by
  have h1 : Maps.has bfB (keyB bnA) = true := by rw [has_put_other key_ne]; exact has_put_same ⟨[], rfl⟩ (keyB_key bnA) _
  have h2 : bfB.atKey (keyB bnA) (fileD [] 0) = fileD btA.data.toList (((0 : Nat) : Int) + 1) := by rw [atKey_put_other key_ne]; exact atKey_put_same ⟨[], rfl⟩ (keyB_key bnA) _ _
  have h3 := hT.is bnA btA _ h1 h2
  unfold rdD
  rw [if_pos h1, ← h3]
theorem rd_bB {T : ByteArray → ByteArray} (hT : Texts bfB T) : rdD bfB T bnB = parseF btB := by
  have hm : IsMap bfA := (Inv.put Inv.empty write_bA).tidy.isMap
  have h1 : Maps.has bfB (keyB bnB) = true := has_put_same hm (keyB_key bnB) _
  have h2 : bfB.atKey (keyB bnB) (fileD [] 0) = fileD btB.data.toList (((1 : Nat) : Int) + 1) := atKey_put_same hm (keyB_key bnB) _ _
  have h3 := hT.is bnB btB _ h1 h2
  unfold rdD
  rw [if_pos h1, ← h3]
theorem of_b {rd : ByteArray → Nat × ObjF} (hA : rd bnA = parseF btA) (hB : rd bnB = parseF btB) : OfIs rd bnA 0 2 ∧ nmAt rd bnA 0 = bnA ∧ nmAt rd bnA 1 = bnB := by
  have e0 : nmAt rd bnA 0 = bnA := rfl
  have hn1 : namesAt rd bnA 1 = [bnA, bnB] := by
    show joinL [bnA] (needsTo (rd bnA).2 (rd bnA).2.nN) = _
    rw [hA, parse_bA.2.nN]
    show joinL [bnA] (needsTo (parseF btA).2 1) = _
    have : needsTo (parseF btA).2 1 = [bnB] := by
      show [(parseF btA).2.needs 0] = _
      rw [parse_bA.2.needs 0 (by decide)]
      rfl
    rw [this]
    rfl
  have e1 : nmAt rd bnA 1 = bnB := by unfold nmAt; rw [hn1]; rfl
  have hn2 : namesAt rd bnA 2 = [bnA, bnB] := by
    show joinL (namesAt rd bnA 1) (needsTo (rd (nmAt rd bnA 1)).2 (rd (nmAt rd bnA 1)).2.nN) = _
    rw [e1, hB, parse_bB.2.nN, hn1]
    rfl
  refine ⟨.ok 2 (fun j hj => ?_) (by rw [hn2]; rfl), e0, e1⟩
  have : j = 0 ∨ j = 1 := by omega
  rcases this with rfl | rfl
  · exact ⟨by simp [namesAt], by rw [e0, hA]; exact parse_bA.1⟩
  · exact ⟨by rw [hn1]; decide, by rw [e1, hB]; exact parse_bB.1⟩
/-- where the two lie. -/
abbrev bbs : Nat → Int := fun i => if i = 1 then 16 else 0
theorem bases_b : BasesAre 2 (fun _ => 1) 0 (fun _ => 0) (fun _ => 0) 0 bbs := by
  refine .ok _ (by decide) fun j hj => ?_
  have : j = 0 ∨ j = 1 := by omega
  rcases this with rfl | rfl
  · exact ⟨0, by decide, by decide, by decide, fun j hj => by omega⟩
  · exact ⟨1, by decide, by decide, by decide, fun j hj => by
      have : j = 0 := by omega
      subst this; decide⟩
theorem BasesAre.sizes {m : Nat} {sz sz' tf tm b : Nat → Int} {nt : Nat} (h : BasesAre m sz nt tf tm 0 b) (e : ∀ i, i < m → sz i = sz' i) : BasesAre m sz' nt tf tm 0 b := by
  obtain ⟨h0, hl⟩ := h.laid rfl
  have h0' : placeF m sz' nt tf tm = 0 := by
    rw [← h0]
    unfold placeF
    rw [anyTo_congr (p := fun i => decide (sz' i < 1 ∨ 40 < sz' i)) (q := fun i => decide (sz i < 1 ∨ 40 < sz i)) fun i hi => by rw [e i hi]]
  refine .ok _ h0' fun j hj => ?_
  obtain ⟨k, hk, hb⟩ := hl j hj
  refine ⟨k, hk, ?_⟩
  rw [← e j hj]
  exact hb.congr fun i hi => ⟨rfl, by
    unfold heldF
    split
    · rfl
    · show roundF (sz (i - nt)) = roundF (sz' (i - nt))
      rw [e _ (by omega)]⟩
theorem reck_b {rd : ByteArray → Nat × ObjF} (hA : rd bnA = parseF btA) (hB : rd bnB = parseF btB) : ∃ P Q, Reckoned rd bnA 2 bbs P Q ∧ boundW rd bnA 2 bbs P Q 0 0 = 16 := by
  obtain ⟨hO, e0, e1⟩ := of_b hA hB
  have o0 : obAt rd bnA 0 = (parseF btA).2 := by show (rd (nmAt rd bnA 0)).2 = _; rw [e0, hA]
  have o1 : obAt rd bnA 1 = (parseF btB).2 := by show (rd (nmAt rd bnA 1)).2 = _; rw [e1, hB]
  have sA := parse_bA.2
  have sB := parse_bB.2
  obtain ⟨P, Q, hP⟩ := finds_some (symsF 2 (obAt rd bnA))
  have hF : IsFound (symsF 2 (obAt rd bnA)) bnX ((1 : Nat) : Int) ((0 : Nat) : Int) := by
    refine .strong 1 0 ⟨show 1 < 2 by decide, ?_, ?_⟩ ?_ fun a b hh hb => ?_
    · show 0 < (obAt rd bnA 1).nS
      rw [o1, sB.nS]; decide
    · show (obAt rd bnA 1).sName 0 = bnX
      rw [o1, (sB.syms 0 (by decide)).1]; rfl
    · show (obAt rd bnA 1).sWeak 0 = false
      rw [o1, (sB.syms 0 (by decide)).2.2]; rfl
    · have h1 : b < (obAt rd bnA a).nS := hh.lk
      rcases hb with hb | ⟨_, hb⟩
      · have : a = 0 := by omega
        subst this
        rw [o0, sA.nS] at h1
        exact absurd h1 (Nat.not_lt_zero _)
      · omega
  obtain ⟨p1, q1⟩ := hP.eq hF
  have t0 := sA.ties 0 (by decide)
  have hw : whereF (obAt rd bnA) P Q bbs 0 0 = some 16 := by
    unfold whereF
    rw [o0, t0.2.1, t0.2.2.2.1]
    rw [if_neg (by decide)]
    have : (boA.tName 0) = bnX := rfl
    rw [this, ← p1, ← q1, if_pos (by decide)]
    show some (bbs 1 + (obAt rd bnA 1).sAt 0) = _
    rw [o1, (sB.syms 0 (by decide)).2.1]
    rfl
  have ht : tieW (obAt rd bnA) P Q bbs 0 0 = (0, 16) := by
    unfold tieW
    rw [hw, o0, t0.2.1, t0.1, t0.2.2.1]
    decide
  have n0 : (obAt rd bnA 0).nT = 1 := by rw [o0, sA.nT]; rfl
  have n1 : (obAt rd bnA 1).nT = 0 := by rw [o1, sB.nT]; rfl
  have hp : patsAt rd bnA 2 bbs P Q = [(0, 0, 16)] := by
    show ([] ++ patsOf (obAt rd bnA) P Q bbs 0 (obAt rd bnA 0).nT) ++ patsOf (obAt rd bnA) P Q bbs 1 (obAt rd bnA 1).nT = _
    rw [n0, n1]
    show [] ++ ([] ++ [(0, (obAt rd bnA 0).tAt 0, (tieW (obAt rd bnA) P Q bbs 0 0).2)]) ++ [] = _
    rw [ht, o0, t0.1]
    rfl
  refine ⟨P, Q, ⟨hO, bases_b.sizes fun i hi => ?_, fun j hj => if_neg (by omega), hP, ?_⟩, ?_⟩
  · have : i = 0 ∨ i = 1 := by omega
    rcases this with rfl | rfl
    · show (1 : Int) = ((obAt rd bnA 0).nW : Int)
      rw [o0, sA.nW]; rfl
    · show (1 : Int) = ((obAt rd bnA 1).nW : Int)
      rw [o1, sB.nW]; rfl
  · unfold allF
    rw [if_neg (by decide), if_neg (by decide)]
    show seqF (seqF 0 (faultTo (fun k => (tieW (obAt rd bnA) P Q bbs 0 k).1) (obAt rd bnA 0).nT)) (faultTo (fun k => (tieW (obAt rd bnA) P Q bbs 1 k).1) (obAt rd bnA 1).nT) = 0
    rw [n0, n1]
    show seqF (seqF 0 (seqF 0 (tieW (obAt rd bnA) P Q bbs 0 0).1)) 0 = 0
    rw [ht]
    decide
  · unfold boundW
    rw [hp]
    show (if pP [(0, 0, 16)] 0 = ((0 : Nat) : Int) ∧ pT [(0, 0, 16)] 0 = ((0 : Nat) : Int) then pV [(0, 0, 16)] 0 else _) = 16
    rw [if_pos (by decide)]
    decide
end Go.Proofs.YtppokhbhmnhhbaaGreatDoor

namespace Go.Proofs.YtppokhbhmnhhbaaGreatDoor
open Go.RowKit Go.Maps

set_option maxRecDepth 100000 in
set_option maxHeartbeats 4000000 in
theorem bound_any (w : World) (hE : Env w) : Calls Tryz.prog 4 #[] w fun e w' => e = .returned (.bool true) ∧ Below w.heap.size w w' := by
  have HN := new_any w
  have q0 : errV 0 = .nilIface := rfl
  go_enter Tryz.func4, Tryz.ntmps4
  go_wp2_with fail
  refine HN.mono ?_
  rintro e w1 ⟨p1, bm1, rfl, hp1, hbm1, hF1, hb⟩
  clear HN
  have HW := write_any w1 p1 bm1 (.map []) 0 bnA btA hF1 (by decide) (by decide)
  rw [write_bA] at HW
  go_wp2_with fail
  refine HW.mono ?_
  intro e w2 hEnd
  have he := hEnd.e
  rw [q0] at he
  subst he
  have hF2 := hEnd.yes rfl
  have hb2 := hb.trans (hEnd.turned.below hb.size hp1 hbm1)
  have HW2 := write_any w2 p1 bm1 bfA 1 bnB btB hF2 (by decide) (Nat.le_trans (Inv.put Inv.empty write_bA).size (by decide))
  rw [write_bB] at HW2
  clear HW hEnd hF1 hb
  go_wp2_with fail
  refine HW2.mono ?_
  intro e w3 hEnd
  have he := hEnd.e
  rw [q0] at he
  subst he
  have hF3 := hEnd.yes rfl
  have hb3 := hb2.trans (hEnd.turned.below hb2.size hp1 hbm1)
  obtain ⟨T, hT⟩ := texts_some bfB
  have HL := load_any w3 p1 bm1 bfB 2 T bnA hF3 inv_bB hT (hE.later hb3) (by decide)
  obtain ⟨P, Q, hR, hbd⟩ := reck_b (rd_bA hT) (rd_bB hT)
  clear HW2 hEnd hF2 hF3 hb2
  go_wp2_with fail
  refine HL.mono ?_
  rintro e w4 ⟨he, hb4⟩
  have hb5 := hb3.trans (hb4.mono hb3.size)
  clear HL hb3 hb4
  cases he with
  | bad F h hf => exact (h.not hR).elim
  | ok m B P' Q' u g A C G h hu =>
    obtain ⟨rfl, rfl, rfl, rfl⟩ := h.unique hR
    obtain ⟨au, cu, rfl, _⟩ := owns_shape hu.own
    have hnW : (obAt (rdD bfB T) bnA 0).nW = 1 := by
      show (rdD bfB T bnA).2.nW = 1
      rw [rd_bA hT, parse_bA.2.nW]
      rfl
    obtain ⟨gu, rfl, _, hcu⟩ := owns_cell hu.own (j := 2) (u := .slice (A 0) 1 (C 0)) (by rw [show (2 : Nat) = 0 * 3 + 2 from rfl, joinC_at (s := 3) (fun i _ => rfl) (by decide) (by decide)]; show some (Value.slice (A 0) (obAt (rdD bfB T) bnA 0).nW (C 0)) = _; rw [hnW])
    have hrow : RowAt w4 (A 0) 1 fun _ => .int .i64 16 := by
      refine .inr ⟨G 0, 0, hu.out.adr 0 (by decide) (by show 0 < (obAt (rdD bfB T) bnA 0).nW; omega), fun i hi => ?_⟩
      have : i = 0 := by omega
      subst this
      rw [hu.out.row 0 (by decide) 0 (by show 0 < (obAt (rdD bfB T) bnA 0).nW; omega), hbd]
    have HS := fun (W : World) (hW : Below w4.heap.size w4 W) (a4 : Option Addr) (hr4 : RowAt W a4 1 fun _ => .int .i64 16) => sameNumbers_any (fun _ => 16) (fun _ => 16) 1 1 (A 0) a4 (C 0) 1 W (by decide) (hrow.later hW) hr4
    clear hrow hu hbd hR hT
    go_wp2_with fail
    refine (HS _ ((Below.refl _ _).alloc (Nat.le_refl _) _) _ (.inr ⟨_, _, rfl, fun i hi => ?_⟩)).mono ?_
    · have : i = 0 := by omega
      subst this
      simp [go_sem]
    rintro e w6 ⟨rfl, kq, rfl⟩
    go_wp2
    go_ret
    exact ⟨ret_bool (by simp [eqTo]), below_drewN (hb5.alloc hb5.size _) _⟩
end Go.Proofs.YtppokhbhmnhhbaaGreatDoor
