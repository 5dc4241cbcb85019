/-
  What SameNumbers returns, for every two lists of numbers: whether they are alike; memory stays as it was.
  Plain words on the closed fact bound: two files, of which the first one needs the second one; what is reckoned for the first one.
  The closed fact bound returns true; memory that was there stays as it was.
  Plain words on the closed fact scopes: two files, of which the first one needs the second one; who belongs together.
  What Filed returns, for every row of acts that are few and not too long: both files, alike; memory that was there stays as it was.
  What the document's Found returns, for every list of objects and every text: who is found (E2); memory that was there stays as it was.
  What SameTexts returns, of two lists that are alike: true; memory stays as it was.
-/
import Derived.Test.YtbbhjpbacobmjaaGreatDoorRows
import Derived.Test.YtbbhjpbacobmjaaGreatDoorAtAll
import Derived.Deep.QuietTactic
import Derived.BigQuiet
import Derived.Test.YtbbhjpbacobmjaaGreatDoorLayOne
import Derived.Test.YtbbhjpbacobmjaaGreatDoorPlainTop
import Derived.Test.YtbbhjpbacobmjaaGreatDoorActsOne
import Derived.Test.YtbbhjpbacobmjaaGreatDoorFilesOne
import Derived.Deep.RegionLaw
import Derived.RegionTactic
import Derived.BigRegion
import Derived.Test.YtbbhjpbacobmjaaGreatDoorScopeOne
import Derived.Deep.CutRange
import Derived.Test.YtbbhjpbacobmjaaGreatDoorPlaceOne
namespace Go.Proofs.YtbbhjpbacobmjaaGreatDoor
open Go.RowKit

theorem bool_ret {a b : Bool} (h : a = b) : Ending.returned (.bool a) = .returned (.bool b) := by rw [h]

theorem sameNumbers_zero (a c : Option Addr) (ca cb : Nat) (w : World) :
    Calls Tryz.prog 68 #[.slice a 0 ca, .slice c 0 cb] w fun e w' => e = .returned (.bool true) ∧ ∃ k, w' = w.drewN k := by
  go_enter Tryz.func68, Tryz.ntmps68
  go_wp2
  refine wp_loop_rounds 1 ?_
  rw [rounds_succ]
  go_wp2
  go_ret
  exact ⟨rfl, 0, rfl⟩

set_option maxHeartbeats 400000 in
theorem sameNumbers_some (f g : Nat → Int) (n : Nat) (bx ox cx bY oY cy : Nat) (w : World) (hm : n ≤ 1000000000)
    (hx : ∀ i, i < n → w.cell? ⟨bx, ox + i, none⟩ = some (.int .i64 (f i)))
    (hy : ∀ i, i < n → w.cell? ⟨bY, oY + i, none⟩ = some (.int .i64 (g i))) :
    Calls Tryz.prog 68 #[.slice (some ⟨bx, ox, none⟩) n cx, .slice (some ⟨bY, oY, none⟩) n cy] w fun e w' => e = .returned (.bool (eqTo f g n)) ∧ ∃ k, w' = w.drewN k := by
  go_enter Tryz.func68, Tryz.ntmps68
  go_wp2
  go_loopw [5] (fun i wr => ∃ k j : Nat, k ≤ n ∧ i = .int .i64 k ∧ wr = w.drewN j ∧ Hid (eqTo f g k = true)) (fun i _ => n - (intOf i).toNat)
  case atStart => exact ⟨0, 0, Nat.zero_le _, rfl, rfl, rfl⟩
  case round =>
    obtain ⟨k, j, hk, rfl, rfl, HK⟩ := hrel
    by_cases hlt : k < n
    · have hxk := hx k hlt
      have hyk := hy k hlt
      by_cases he : f k = g k
      · have hne : (f k != g k) = false := bne_eq_false_iff_eq.2 he
        have HE : Hid (f k = g k) := he
        clear he hx hy
        go_wp2
        go_quiet (fail)
        go_wp2
        go_roundw
        case rel => exact ⟨k + 1, j + nq, by omega, by go_num, rfl, eqTo_succ HK.out HE.out⟩
        case measure => simp [intOf]; omega
      · have hne : (f k != g k) = true := bne_iff_ne.2 he
        have HE : Hid (eqTo f g n = false) := eqTo_stop he hlt
        clear he hx hy
        go_wp2
        go_quiet (fail)
        go_wp2
        go_ret
        exact ⟨bool_ret HE.out.symm, j + nq, by rw [World.drewN_drewN]⟩
    · have hkn : k = n := by omega
      subst hkn
      clear hx hy
      go_wp2
      go_ret
      exact ⟨bool_ret HK.out.symm, j, rfl⟩

set_option maxHeartbeats 400000 in
theorem sameNumbers_other (a c : Option Addr) (n m ca cb : Nat) (w : World) (hm : n ≠ m) :
    Calls Tryz.prog 68 #[.slice a n ca, .slice c m cb] w fun e w' => e = .returned (.bool false) ∧ ∃ k, w' = w.drewN k := by
  have hne : ((n : Int) != (m : Int)) = true := bne_iff_ne.2 (by omega)
  clear hm
  go_enter Tryz.func68, Tryz.ntmps68
  go_wp2
  go_ret
  exact ⟨rfl, 0, rfl⟩

theorem sameNumbers_any (f g : Nat → Int) (n m : Nat) (a c : Option Addr) (ca cb : Nat) (w : World) (hm : n ≤ 1000000000)
    (hx : RowAt w a n fun i => .int .i64 (f i)) (hy : RowAt w c m fun i => .int .i64 (g i)) :
    Calls Tryz.prog 68 #[.slice a n ca, .slice c m cb] w fun e w' => e = .returned (.bool (decide (n = m) && eqTo f g n)) ∧ ∃ k, w' = w.drewN k := by
  by_cases h : n = m
  · subst h
    rcases hx with h0 | ⟨b, o, rfl, hx⟩
    · subst h0
      refine (sameNumbers_zero a c ca cb w).mono ?_
      rintro e w' ⟨rfl, hw⟩
      exact ⟨rfl, hw⟩
    · rcases hy with h0 | ⟨b', o', rfl, hy⟩
      · subst h0
        refine (sameNumbers_zero _ c ca cb w).mono ?_
        rintro e w' ⟨rfl, hw⟩
        exact ⟨rfl, hw⟩
      · refine (sameNumbers_some f g n b o ca b' o' cb w hm hx hy).mono ?_
        rintro e w' ⟨rfl, hw⟩
        exact ⟨bool_ret (by simp), hw⟩
  · refine (sameNumbers_other a c n m ca cb w h).mono ?_
    rintro e w' ⟨rfl, hw⟩
    exact ⟨bool_ret (by simp [h]), hw⟩
end Go.Proofs.YtbbhjpbacobmjaaGreatDoor

namespace Go.Proofs.YtbbhjpbacobmjaaGreatDoor
open Go.RowKit Go.Maps

abbrev bnA : ByteArray := ⟨#[97]⟩
abbrev bnB : ByteArray := ⟨#[98]⟩
abbrev bnX : ByteArray := ⟨#[120]⟩
theorem itoa_zero : Lib.itoa 0 = [48] := by
  unfold Lib.itoa
  rw [if_neg (by decide), Lib.decDigits_one (by decide)]
  rfl
theorem parse_is {o : ObjF} {t : ByteArray} (ho : objF o = 0) (hl : textL o = t.data.toList) (hn : ¬ 1200 < t.data.toList.length) : (parseF t).1 = 0 ∧ SameO (parseF t).2 o := by
  have he : textF o = (0, t.data.toList) := by
    unfold textF
    rw [if_pos ho, hl, if_neg hn]
  exact parse_text (by rw [he]) (by rw [he])
theorem key_ne : keyB bnA ≠ keyB bnB := fun e => absurd (keyB_inj' e) (by decide)
end Go.Proofs.YtbbhjpbacobmjaaGreatDoor

namespace Go.Proofs.YtbbhjpbacobmjaaGreatDoor
open Go.RowKit Go.Maps

end Go.Proofs.YtbbhjpbacobmjaaGreatDoor

namespace Go.Proofs.YtbbhjpbacobmjaaGreatDoor
open Go.RowKit Go.Maps

abbrev stA : ByteArray := ⟨#[110, 101, 101, 100, 32, 98, 10, 119, 111, 114, 100, 32, 49, 10]⟩
abbrev stB : ByteArray := ⟨#[119, 111, 114, 100, 32, 50, 10, 115, 121, 109, 98, 111, 108, 32, 120, 32, 48, 10]⟩
abbrev soA : ObjF := addWord (addNeed emptyO bnB) 1
abbrev soB : ObjF := addSym (addWord emptyO 2) bnX 0 false
theorem itoa_two : Lib.itoa 2 = [50] := by
  unfold Lib.itoa
  rw [if_neg (by decide), Lib.decDigits_one (by decide)]
  rfl
theorem parse_sA : (parseF stA).1 = 0 ∧ SameO (parseF stA).2 soA := by
  refine parse_is (by decide) ?_ (by decide)
  show (([] ++ lineL false [[110, 101, 101, 100], [98]]) ++ ([] ++ lineL false [[119, 111, 114, 100], Lib.itoa 1]) ++ [] ++ []) = _
  rw [itoa_one]
  rfl
theorem parse_sB : (parseF stB).1 = 0 ∧ SameO (parseF stB).2 soB := by
  refine parse_is (by decide) ?_ (by decide)
  show (([] : List UInt8) ++ ([] ++ lineL false [[119, 111, 114, 100], Lib.itoa 2]) ++ ([] ++ lineL false [[115, 121, 109, 98, 111, 108], [120], Lib.itoa 0]) ++ []) = _
  rw [itoa_zero, itoa_two]
  rfl
theorem write_sA : writeF (.map []) 0 bnA stA = 0 := by decide
abbrev sfA : DataW Unit := DataW.put (.map []) (keyB bnA) (fileD stA.data.toList (((0 : Nat) : Int) + 1))
theorem write_sB : writeF sfA 1 bnB stB = 0 := by decide
abbrev sfB : DataW Unit := DataW.put sfA (keyB bnB) (fileD stB.data.toList (((1 : Nat) : Int) + 1))
theorem inv_sB : Inv sfB 2 := Inv.put (Inv.put Inv.empty write_sA) write_sB
theorem rd_sA {T : ByteArray → ByteArray} (hT : Texts sfB T) : rdD sfB T bnA = parseF stA := by
  have h1 : Maps.has sfB (keyB bnA) = true := by rw [has_put_other key_ne]; exact has_put_same ⟨[], rfl⟩ (keyB_key bnA) _
  have h2 : sfB.atKey (keyB bnA) (fileD [] 0) = fileD stA.data.toList (((0 : Nat) : Int) + 1) := by rw [atKey_put_other key_ne]; exact atKey_put_same ⟨[], rfl⟩ (keyB_key bnA) _ _
  have h3 := hT.is bnA stA _ h1 h2
  unfold rdD
  rw [if_pos h1, ← h3]
theorem rd_sB {T : ByteArray → ByteArray} (hT : Texts sfB T) : rdD sfB T bnB = parseF stB := by
  have hm : IsMap sfA := (Inv.put Inv.empty write_sA).tidy.isMap
  have h1 : Maps.has sfB (keyB bnB) = true := has_put_same hm (keyB_key bnB) _
  have h2 : sfB.atKey (keyB bnB) (fileD [] 0) = fileD stB.data.toList (((1 : Nat) : Int) + 1) := atKey_put_same hm (keyB_key bnB) _ _
  have h3 := hT.is bnB stB _ h1 h2
  unfold rdD
  rw [if_pos h1, ← h3]
theorem of_s {rd : ByteArray → Nat × ObjF} (hA : rd bnA = parseF stA) (hB : rd bnB = parseF stB) : OfIs rd bnA 0 2 ∧ namesAt rd bnA 2 = [bnA, bnB] ∧ nmAt rd bnA 0 = bnA ∧ nmAt rd bnA 1 = bnB := by
  have e0 : nmAt rd bnA 0 = bnA := rfl
  have hn1 : namesAt rd bnA 1 = [bnA, bnB] := by
    show joinL [bnA] (needsTo (rd bnA).2 (rd bnA).2.nN) = _
    rw [hA, parse_sA.2.nN]
    show joinL [bnA] (needsTo (parseF stA).2 1) = _
    have : needsTo (parseF stA).2 1 = [bnB] := by
      show [(parseF stA).2.needs 0] = _
      rw [parse_sA.2.needs 0 (by decide)]
      rfl
    rw [this]
    rfl
  have e1 : nmAt rd bnA 1 = bnB := by unfold nmAt; rw [hn1]; rfl
  have hn2 : namesAt rd bnA 2 = [bnA, bnB] := by
    show joinL (namesAt rd bnA 1) (needsTo (rd (nmAt rd bnA 1)).2 (rd (nmAt rd bnA 1)).2.nN) = _
    rw [e1, hB, parse_sB.2.nN, hn1]
    rfl
  refine ⟨.ok 2 (fun j hj => ?_) (by rw [hn2]; rfl), hn2, e0, e1⟩
  have : j = 0 ∨ j = 1 := by omega
  rcases this with rfl | rfl
  · exact ⟨by simp [namesAt], by rw [e0, hA]; exact parse_sA.1⟩
  · exact ⟨by rw [hn1]; decide, by rw [e1, hB]; exact parse_sB.1⟩
theorem found_s {rd : ByteArray → Nat × ObjF} (hA : rd bnA = parseF stA) (hB : rd bnB = parseF stB) : IsFound (symsF 2 fun j => (rd (nmAt rd bnA j)).2) bnX ((1 : Nat) : Int) ((0 : Nat) : Int) := by
  obtain ⟨_, _, e0, e1⟩ := of_s hA hB
  have o0 : (rd (nmAt rd bnA 0)).2 = (parseF stA).2 := by rw [e0, hA]
  have o1 : (rd (nmAt rd bnA 1)).2 = (parseF stB).2 := by rw [e1, hB]
  have sA := parse_sA.2
  have sB := parse_sB.2
  refine .strong 1 0 ⟨show 1 < 2 by decide, ?_, ?_⟩ ?_ fun a b hh hb => ?_
  · show 0 < (rd (nmAt rd bnA 1)).2.nS
    rw [o1, sB.nS]; decide
  · show (rd (nmAt rd bnA 1)).2.sName 0 = bnX
    rw [o1, (sB.syms 0 (by decide)).1]; rfl
  · show (rd (nmAt rd bnA 1)).2.sWeak 0 = false
    rw [o1, (sB.syms 0 (by decide)).2.2]; rfl
  · have h1 : b < (rd (nmAt rd bnA a)).2.nS := hh.lk
    rcases hb with hb | ⟨_, hb⟩
    · have : a = 0 := by omega
      subst this
      rw [o0, sA.nS] at h1
      exact absurd h1 (Nat.not_lt_zero _)
    · omega
end Go.Proofs.YtbbhjpbacobmjaaGreatDoor

namespace Go.Proofs.YtbbhjpbacobmjaaGreatDoor
open Go.RowKit Go.Maps

theorem same_self (F : Nat) (w : World) : Calls Tryz.prog 15 #[errV F, .int .i64 (F : Int)] w fun e w' => e = .returned (.bool true) ∧ w = w' :=
  (same_errV F F w).mono fun _ _ ⟨h, h2⟩ => ⟨by rw [h]; simp, h2⟩
theorem undrewT {p bm : Nat} {w w' : World} (h : Turned p bm w.drew w') : Turned p bm w w' := ⟨h.os, h.tape, h.output, h.size, h.block⟩
theorem both_write {B p bm q k : Nat} {w w' : World} {D : DataW Unit} {L : List FileR} {s t : ByteArray} {F : Nat} (h : Both B w p bm q D L k) (hF : writeF D k s t = F)
    (f1 : F = 0 → FilesAt w' p bm (D.put (keyB s) (fileD t.data.toList ((k : Int) + 1))) (k + 1)) (f2 : F ≠ 0 → FilesAt w' p bm D k) (r1 : F = 0 → RAt B w' q (putR ⟨s, t, (k : Int) + 1⟩ L) (k + 1)) (r2 : F ≠ 0 → RAt B w' q L k) : ∃ D' L' k', Both B w' p bm q D' L' k' := by
  by_cases h0 : F = 0
  · have hF0 : writeF D k s t = 0 := hF.trans h0
    exact ⟨_, _, _, f1 h0, r1 h0, h.inv.put hF0, h.agree.put h.inv s t _, by have := (writeF_ok hF0).2.2; omega⟩
  · exact ⟨_, _, _, f2 h0, r2 h0, h.inv, h.agree, h.most⟩
/-- a call of Filed that returned both, alike. -/
def FiledEnd (B : Nat) (_ : World) (e : Ending) (w' : World) : Prop := ∃ p bm q D L k, e = .returned (.tuple #[.pointer (some ⟨p, 0, none⟩), .pointer (some ⟨q, 0, none⟩), .bool true]) ∧ Both B w' p bm q D L k ∧ B ≤ p ∧ B ≤ bm

set_option maxRecDepth 100000 in
set_option maxHeartbeats 8000000 in
theorem filed_any (a : Option Addr) (n c : Nat) (X : Nat → ActF) (w : World) (hr : ActsRow w a n X) (hn : n ≤ 1000) (hs : ∀ i, i < n → (X i).s.size ≤ 100 ∧ (X i).t.size ≤ 1300) :
    Calls Tryz.prog 10 #[.slice a n c] w fun e w' => FiledEnd w.heap.size w e w' ∧ Below w.heap.size w w' := by
  have HN := new_any w
  go_enter Tryz.func10, Tryz.ntmps10
  go_wp2_with fail
  refine HN.mono ?_
  rintro e w1 ⟨p, bm, rfl, hp, hbm, hF, hb⟩
  clear HN
  have hb1 : Below w1.heap.size w1 (w1.alloc (.cells #[.slice none 0 0, .int .i64 0] 104)) := (Below.refl _ _).alloc (Nat.le_refl _) _
  have hBoth : Both w.heap.size (w1.alloc (.cells #[.slice none 0 0, .int .i64 0] 104)) p bm w1.heap.size (.map []) [] 0 := by
    refine ⟨hF.later hb1, ⟨hb.size, .slice none 0 0, ?_, World.ownsRow_nil _ _ _ _⟩, Inv.empty, Agree.empty, by omega⟩
    show (w1.heap.push _)[w1.heap.size]? = _
    rw [Array.getElem?_push_size]
    rfl
  have hB1 := hb.trans (hb1.mono hb.size)
  obtain ⟨q, hq⟩ : ∃ q, w1.heap.size = q := ⟨_, rfl⟩
  rw [hq] at hBoth
  have HQ : Hid (w1.heap.size = q) := hq
  have hqB : w.heap.size ≤ q := by rw [← hq]; exact hb.size
  go_wp2
  generalize w1.alloc (.cells #[.slice none 0 0, .int .i64 0] 104) = Y at *
  clear hq hb1 hF hb
  go_loopw [7] (fun x wr => ∃ (i : Nat) (D : DataW Unit) (L : List FileR) (k : Nat), i ≤ n ∧ x = .int .i64 i ∧ Both w.heap.size wr p bm q D L k ∧ Below w.heap.size w wr) (fun x _ => n - (intOf x).toNat)
  case atStart => exact ⟨0, _, _, 0, Nat.zero_le _, rfl, hBoth, hB1⟩
  case round =>
    clear hBoth hB1
    obtain ⟨i, D, L, k, hi, rfl, hBo, hB⟩ := hrel
    by_cases hlt : i < n
    · rcases hr with h0 | ⟨bk, o, rfl, hc⟩
      · omega
      have H := (hc i hlt).later hB
      have d0 := H.c0
      have d1 := H.c1
      have d2 := H.c2
      have d3 := H.c3
      have d4 := H.c4
      have d5 := H.c5
      have d6 := H.c6
      have d7 := H.c7
      obtain ⟨hs1, hs2⟩ := hs i hlt
      have hml : (X i).s.size ≤ maxLen := by simp only [maxLen]; omega
      generalize X i = x at *
      have hbA : ∀ ob : Obj, Below wr.heap.size wr (wr.alloc ob) := fun ob => (Below.refl _ _).alloc (Nat.le_refl _) ob
      have hp8 : wr.heap.size ≠ p := Nat.ne_of_gt hBo.f.lt
      have hm8 : wr.heap.size ≠ bm := Nat.ne_of_gt hBo.f.own.lt
      have hq8 : wr.heap.size ≠ q := by obtain ⟨v, hv, _⟩ := hBo.r.blk; exact Nat.ne_of_gt (Array.getElem?_eq_some_iff.1 hv).1
      have cK : (wr.alloc (.cells #[.string x.kind, .string x.s, .string x.t, .int .i64 x.a, .int .u64 x.k, .string x.root, .slice x.pa x.pn x.pc, .slice x.qa x.qn x.qc] 82)).cell? ⟨wr.heap.size, 0, none⟩ = some (.string x.kind) := by simp [go_sem]
      have cS : (wr.alloc (.cells #[.string x.kind, .string x.s, .string x.t, .int .i64 x.a, .int .u64 x.k, .string x.root, .slice x.pa x.pn x.pc, .slice x.qa x.qn x.qc] 82)).cell? ⟨wr.heap.size, 1, none⟩ = some (.string x.s) := by simp [go_sem]
      have cT : (wr.alloc (.cells #[.string x.kind, .string x.s, .string x.t, .int .i64 x.a, .int .u64 x.k, .string x.root, .slice x.pa x.pn x.pc, .slice x.qa x.qn x.qc] 82)).cell? ⟨wr.heap.size, 2, none⟩ = some (.string x.t) := by simp [go_sem]
      clear H
      go_upto_if 33 with fail
      have hBo1 := hBo.later (hbA (.cells #[.string x.kind, .string x.s, .string x.t, .int .i64 x.a, .int .u64 x.k, .string x.root, .slice x.pa x.pn x.pc, .slice x.qa x.qn x.qc] 82))
      have hB2 := hB.trans ((hbA (.cells #[.string x.kind, .string x.s, .string x.t, .int .i64 x.a, .int .u64 x.k, .string x.root, .slice x.pa x.pn x.pc, .slice x.qa x.qn x.qc] 82)).mono hB.size)
      clear d0 d1 d2 d3 d4 d5 d6 d7 cK hBo hbA
      generalize wr.alloc (.cells #[.string x.kind, .string x.s, .string x.t, .int .i64 x.a, .int .u64 x.k, .string x.root, .slice x.pa x.pn x.pc, .slice x.qa x.qn x.qc] 82) = A1 at *
      generalize wr.heap.size = b8 at *
      go_cut [9] from 33 to 55 (fun v wc => v = .bool true ∧ (∃ D' L' k', Both w.heap.size wc p bm q D' L' k') ∧ Below w.heap.size w wc ∧ wc.cell? ⟨b8, 1, none⟩ = some (.string x.s))
      case first =>
        have hF1 := hBo1.f
        have hR1 := hBo1.r
        have hl6 : L.length ≤ 1000 := by have := hBo1.len; omega
        have hz6 : Maps.size D ≤ 1000 := by have := hBo1.inv.size; omega
        by_cases hk : x.kind = kWrite
        · have e1 : (x.kind.toList == [119, 114, 105, 116, 101]) = true := by rw [hk, ByteArray.toList_eq]; rfl
          obtain ⟨F, hFw⟩ : ∃ F, writeF D k x.s x.t = F := ⟨_, rfl⟩
          have hFr : writeRF L k x.s x.t = F := (hBo1.agree.fault hBo1.inv hF1.own hBo1.most x.s x.t).symm.trans hFw
          have HW := fun W (hW : FilesAt W p bm D k) => write_any W p bm D k x.s x.t hW hml hz6
          have HWR := fun W (hW : RAt w.heap.size W q L k) (hWB : w.heap.size ≤ W.heap.size) => writeR_any w.heap.size W q L k x.s x.t hW hl6 hWB hml hBo1.most
          rw [hFw] at HW
          rw [hFr] at HWR
          have HS := fun W => same_self F W
          have hfin : ∀ {W}, (F = 0 → FilesAt W p bm (D.put (keyB x.s) (fileD x.t.data.toList ((k : Int) + 1))) (k + 1)) → (F ≠ 0 → FilesAt W p bm D k) → (F = 0 → RAt w.heap.size W q (putR ⟨x.s, x.t, (k : Int) + 1⟩ L) (k + 1)) → (F ≠ 0 → RAt w.heap.size W q L k) → ∃ D' L' k', Both w.heap.size W p bm q D' L' k' := fun a b c d => both_write hBo1 hFw a b c d
          clear hFw hFr hBo1 hk
          go_upto_region 11 with fail
          rotate_left
          · exact absurd (e1.symm.trans (show (x.kind.toList == [119, 114, 105, 116, 101]) = false by assumption)) (by decide)
          go_region_law
            (go_simp
             first
               | (go_at_call 36
                  refine (HW _ ?hw).mono ?_
                  case hw => (first | exact hF1 | exact hF1.later (Below.refl _ _).drew | exact hF1.later (Below.refl _ _).drew.drew | exact hF1.later (Below.refl _ _).drew.drew.drew | exact hF1.later (Below.refl _ _).drew.drew.drew.drew)
                  intro e w3 hE
                  have he := hE.e
                  subst he
                  have hT3 := hE.turned
                  repeat (replace hT3 := undrewT hT3)
                  have hFy := hE.yes
                  have hFn := hE.no
                  replace hR1 := hR1.turned hF1 hT3
                  replace cS := cell_turned hT3 cS hp8 hm8
                  replace cT := cell_turned hT3 cT hp8 hm8
                  replace hB2 := hB2.trans (hT3.below hB2.size hp hbm)
                  clear hE hT3 HW)
               | (go_at_call 37
                  refine (HWR _ ?hw ?hs).mono ?_
                  case hw => (first | exact hR1 | exact hR1.later (Below.refl _ _).drew | exact hR1.later (Below.refl _ _).drew.drew | exact hR1.later (Below.refl _ _).drew.drew.drew)
                  case hs => exact hB2.size
                  intro e w4 hE
                  have he := hE.e
                  subst he
                  have hT4 := hE.turned
                  repeat (replace hT4 := undrewT hT4)
                  have hall := hfin (fun h => (hFy h).turnedQ hR1 hT4) (fun h => (hFn h).turnedQ hR1 hT4) hE.yes hE.no
                  replace cS := cell_turned hT4 cS hq8 hq8
                  replace cT := cell_turned hT4 cT hq8 hq8
                  replace hB2 := hB2.trans (hT4.below hB2.size hqB hqB)
                  clear hE hT4 HWR hFy hFn)
               | (go_at_call 15
                  refine (HS _).mono ?_
                  rintro e w5 ⟨rfl, rfl⟩))
          all_goals
            go_wp2
            go_meet
            exact ⟨rfl, hall, hB2, cS⟩
        · have e1 : (x.kind.toList == [119, 114, 105, 116, 101]) = false := by
            rw [beq_eq_false_iff_ne]
            intro z
            apply hk
            have : x.kind.toList = kWrite.toList := by rw [z, ByteArray.toList_eq]
            rw [ByteArray.toList_eq, ByteArray.toList_eq] at this
            exact WideShapes.bytes_inj this
          obtain ⟨F, hFw⟩ : ∃ F : Nat, F = if Maps.has D (keyB x.s) = true then 0 else 5 := ⟨_, rfl⟩
          have hgone : (if (delR x.s L).length = L.length then (5 : Int) else 0) = ((F : Nat) : Int) := by
            rw [hFw, hBo1.agree.gone hBo1.inv x.s]
            by_cases z : (delR x.s L).length = L.length
            · rw [if_pos z, if_pos z]; rfl
            · rw [if_neg z, if_neg z]; rfl
          have HW := fun W (hW : FilesAt W p bm D k) => remove_any W p bm D k x.s hW hml F hFw
          have HWR := fun W (hW : RAt w.heap.size W q L k) (hWB : w.heap.size ≤ W.heap.size) => removeR_any w.heap.size W q L k x.s hW hl6 hWB
          have HS := fun W => same_self F W
          have hfin : ∀ {W}, FilesAt W p bm (D.del (keyB x.s)) k → RAt w.heap.size W q (delR x.s L) k → ∃ D' L' k', Both w.heap.size W p bm q D' L' k' := fun a b => ⟨_, _, _, a, b, hBo1.inv.del, hBo1.agree.del x.s, hBo1.most⟩
          clear hFw hBo1 hk
          go_upto_region 12 with fail
          · exact absurd ((show (x.kind.toList == [119, 114, 105, 116, 101]) = true by assumption).symm.trans e1) (by decide)
          go_region_law
            (go_simp
             first
               | (go_at_call 38
                  refine (HW _ ?hw).mono ?_
                  case hw => (first | exact hF1 | exact hF1.later (Below.refl _ _).drew | exact hF1.later (Below.refl _ _).drew.drew | exact hF1.later (Below.refl _ _).drew.drew.drew)
                  rintro e w3 ⟨rfl, hF3, hT3⟩
                  repeat (replace hT3 := undrewT hT3)
                  replace hR1 := hR1.turned hF1 hT3
                  replace cS := cell_turned hT3 cS hp8 hm8
                  replace hB2 := hB2.trans (hT3.below hB2.size hp hbm)
                  clear hT3 HW)
               | (go_at_call 39
                  refine (HWR _ ?hw ?hs).mono ?_
                  case hw => (first | exact hR1 | exact hR1.later (Below.refl _ _).drew | exact hR1.later (Below.refl _ _).drew.drew | exact hR1.later (Below.refl _ _).drew.drew.drew)
                  case hs => exact hB2.size
                  intro e w4 hE
                  have he := hE.e
                  rw [hgone] at he
                  subst he
                  have hT4 := hE.turned
                  repeat (replace hT4 := undrewT hT4)
                  have hall := hfin (hF3.turnedQ hR1 hT4) hE.at'
                  replace cS := cell_turned hT4 cS hq8 hq8
                  replace hB2 := hB2.trans (hT4.below hB2.size hqB hqB)
                  clear hE hT4 HWR)
               | (go_at_call 15
                  refine (HS _).mono ?_
                  rintro e w5 ⟨rfl, rfl⟩))
          all_goals
            go_wp2
            go_meet
            exact ⟨rfl, hall, hB2, cS⟩
      case rest =>
        obtain ⟨rfl, ⟨D2, L2, k2, hBo2⟩, hB3, cS2⟩ := hcut
        have HR := fileRead_any wc p bm D2 k2 x.s hBo2.f hml
        clear hBo1 cS cT hB2
        go_wp2_with fail
        refine HR.mono ?_
        rintro e w3 ⟨⟨t, nn, f, rfl, hRI⟩, hb3⟩
        have hBo3 := hBo2.later hb3
        have hB4 := hB3.trans (hb3.mono hB3.size)
        replace cS2 := cell_later hb3 cS2
        have HR2 := readR_any w.heap.size w3 q L2 k2 x.s hBo3.r (by have := hBo3.len; omega)
        clear HR hBo2 hB3 hb3
        go_wp2_with fail
        refine HR2.mono ?_
        rintro e w4 ⟨⟨t', nn', f', rfl, hRI2⟩, hb4⟩
        obtain ⟨rfl, rfl, rfl⟩ := hBo3.agree.read hBo3.inv hRI hRI2
        have hBo4 := hBo3.later hb4
        have hB5 := hB4.trans (hb4.mono hB4.size)
        have HS := fun W => same_self f W
        have HL := list_any w4 p bm D2 k2 hBo4.f (by have := hBo4.inv.size; omega)
        clear HR2 hRI hRI2 hBo3 hB4 hb4 cS2
        go_wp2_with fail
        refine (HS _).mono ?_
        rintro e w' ⟨rfl, rfl⟩
        go_wp2_with fail
        refine HL.mono ?_
        rintro e w5 ⟨⟨v5, rfl, hown5⟩, hb5⟩
        have hBo5 := hBo4.later hb5
        have hB6 := hB5.trans (hb5.mono hB5.size)
        have HL2 := listR_any w.heap.size w5 q L2 k2 hBo5.r (by have := hBo5.len; omega)
        have hnames := hBo5.agree.names hBo5.inv hBo5.f.own
        clear HL HS hBo4 hB5
        go_wp2_with fail
        refine HL2.mono ?_
        rintro e w6 ⟨⟨v6, rfl, hown6⟩, hb6⟩
        have hBo6 := hBo5.later hb6
        have hB7 := hB6.trans (hb6.mono hB6.size)
        have hown5' := owns_below hown5 hb6
        obtain ⟨a5, c5, rfl, _⟩ := owns_shape hown5
        obtain ⟨a6, c6, rfl, _⟩ := owns_shape hown6
        have hlenN : (namesF D2).length = L2.length := by rw [hnames, List.length_map]
        have row5 : RowAt w6 a5 L2.length fun i => .string (nmF D2 i) := by
          by_cases h0 : L2.length = 0
          · exact .inl h0
          · obtain ⟨g, hg, _, _⟩ := owns_cell hown5' (nm_cell (D := D2) (i := 0) (by omega))
            refine .inr ⟨g, 0, hg, fun i hi => ?_⟩
            obtain ⟨g', hg', _, hcl⟩ := owns_cell hown5' (nm_cell (D := D2) (i := i) (by omega))
            rw [hg] at hg'
            injection hg' with hg'
            injection hg' with hg'
            subst hg'
            simpa using hcl
        have row6 : RowAt w6 a6 L2.length fun i => .string (nmF D2 i) := by
          have cell : ∀ i, i < L2.length → (L2.map fun f => Value.string f.nm)[i]? = some (.string (nmF D2 i)) := fun i hi => by
            rw [List.getElem?_map, List.getElem?_eq_getElem hi]
            simp only [Option.map_some, Option.some.injEq, Value.string.injEq]
            apply ba_ext
            unfold nmF
            rw [hnames]
            simp [List.getD_eq_getElem?_getD, List.getElem?_eq_getElem hi]
          by_cases h0 : L2.length = 0
          · exact .inl h0
          · obtain ⟨g, hg, _, _⟩ := owns_cell hown6 (cell 0 (by omega))
            refine .inr ⟨g, 0, hg, fun i hi => ?_⟩
            obtain ⟨g', hg', _, hcl⟩ := owns_cell hown6 (cell i hi)
            rw [hg] at hg'
            injection hg' with hg'
            injection hg' with hg'
            subst hg'
            simpa using hcl
        have HT := sameTx_true (nmF D2) (nmF D2) L2.length a5 a6 c5 c6 w6 (by have := hBo6.len; omega) row5 row6 (fun _ _ => rfl)
        rw [hlenN]
        clear HL2 hown5 hown5' hown6 row5 row6 hnames hBo5 hB6
        go_wp2_with fail
        refine HT.mono ?_
        rintro e w7 ⟨rfl, kk, hw7⟩
        have hb7 : Below w6.heap.size w6 w7 := by rw [hw7]; exact below_drewN (Below.refl _ _) kk
        have hBo7 := hBo6.later hb7
        have hB8 := hB7.trans (hb7.mono hB7.size)
        clear HT hw7 hBo6 hB7
        go_wp2
        go_roundw
        case rel => exact ⟨i + 1, D2, L2, k2, by omega, by go_num, hBo7, hB8⟩
        case measure => simp [intOf]; omega
    · go_wp2
      go_ret3
      exact ⟨⟨p, bm, q, D, L, k, rfl, hBo, hp, hbm⟩, hB⟩
end Go.Proofs.YtbbhjpbacobmjaaGreatDoor

namespace Go.Proofs.YtbbhjpbacobmjaaGreatDoor
open Go.RowKit

/-- what is known in a pass: in the first one all ahead are weak; in the second one all are, and none is ahead. -/
def PassAt (L : SymsF) (s : ByteArray) (p i k : Nat) : Prop :=
  (p = 0 ∧ ∀ a b, Hit L s a b → Bef a b i k → L.wk a b = true) ∨ (p = 1 ∧ (∀ a b, Hit L s a b → L.wk a b = true) ∧ ∀ a b, Hit L s a b → ¬ Bef a b i k)
theorem PassAt.next {L : SymsF} {s : ByteArray} {p i : Nat} (h : PassAt L s p i (L.m i)) : PassAt L s p (i + 1) 0 := by
  have key : ∀ a b, Hit L s a b → Bef a b (i + 1) 0 → Bef a b i (L.m i) := fun a b hh e => by
    have := hh.lk
    by_cases z : a = i
    · subst z; unfold Bef at *; omega
    · unfold Bef at *; omega
  rcases h with ⟨h0, h⟩ | ⟨h0, h1, h⟩
  · exact .inl ⟨h0, fun a b hh e => h a b hh (key a b hh e)⟩
  · exact .inr ⟨h0, h1, fun a b hh e => h a b hh (key a b hh e)⟩
theorem PassAt.step {L : SymsF} {s : ByteArray} {p i k : Nat} (h : PassAt L s p i k) (hn : Hit L s i k → p = 0 ∧ L.wk i k = true) : PassAt L s p i (k + 1) := by
  have key : ∀ a b, Hit L s a b → Bef a b i (k + 1) → Bef a b i k ∨ (a = i ∧ b = k) := fun a b hh e => by unfold Bef at *; omega
  rcases h with ⟨h0, h⟩ | ⟨h0, h1, h⟩
  · refine .inl ⟨h0, fun a b hh e => ?_⟩
    rcases key a b hh e with e | ⟨rfl, rfl⟩
    · exact h a b hh e
    · exact (hn hh).2
  · refine .inr ⟨h0, h1, fun a b hh e => ?_⟩
    rcases key a b hh e with e | ⟨rfl, rfl⟩
    · exact h a b hh e
    · have := (hn hh).1; omega
theorem PassAt.found {L : SymsF} {s : ByteArray} {p i k : Nat} (h : PassAt L s p i k) (hh : Hit L s i k) (hw : L.wk i k = decide (p = 1)) : IsFound L s i k := by
  rcases h with ⟨rfl, h⟩ | ⟨rfl, h1, h⟩
  · exact .strong i k hh (by simpa using hw) h
  · exact .weak i k hh h h1
theorem PassAt.again {L : SymsF} {s : ByteArray} (h : PassAt L s 0 L.n 0) : PassAt L s 1 0 0 := by
  rcases h with ⟨_, h⟩ | ⟨h0, _⟩
  · exact .inr ⟨rfl, fun a b hh => h a b hh (.inl hh.li), fun a b _ e => by unfold Bef at e; omega⟩
  · cases h0
theorem PassAt.none {L : SymsF} {s : ByteArray} (h : PassAt L s 1 L.n 0) : IsFound L s (-1) (-1) := by
  rcases h with ⟨h0, _⟩ | ⟨_, _, h⟩
  · cases h0
  · exact .none fun a b hh => h a b hh (.inl hh.li)

set_option maxRecDepth 100000 in
set_option maxHeartbeats 4000000 in
theorem refFound_any (a : Option Addr) (n c : Nat) (V : Nat → ObjV) (O : Nat → ObjF) (s : ByteArray) (w : World) (hn : n ≤ 1000000000) (hm : ∀ i, i < n → (O i).nS ≤ 1000000000) (hr : ObjsRow w a n V O) :
    Calls Tryz.prog 14 #[.slice a n c, .string s] w fun e w' => FoundEnd (symsF n O) s e ∧ Below w.heap.size w w' := by
  go_enter Tryz.func14, Tryz.ntmps14
  go_wp2
  go_loopw [6] (fun z wr => ∃ p : Nat, z = .int .i64 p ∧ p ≤ 2 ∧ Hid (p < 2 → PassAt (symsF n O) s p 0 0) ∧ Hid (p = 2 → IsFound (symsF n O) s (-1) (-1)) ∧ Below w.heap.size w wr) (fun z _ => 2 - (intOf z).toNat)
  case atStart => exact ⟨0, rfl, by omega, fun _ => .inl ⟨rfl, fun a b _ e => by unfold Bef at e; omega⟩, fun e => (by cases e), Below.refl _ _⟩
  case round =>
    obtain ⟨p, rfl, hp, H1, H2, hb⟩ := hrel
    by_cases hlp : p < 2
    · have HP : Hid (PassAt (symsF n O) s p 0 0) := H1.out hlp
      clear H1 H2
      go_wp2
      go_loopw [7] (fun z wr => ∃ i : Nat, z = .int .i64 i ∧ i ≤ n ∧ Hid (PassAt (symsF n O) s p i 0) ∧ Below w.heap.size w wr) (fun z _ => n - (intOf z).toNat)
      case atStart => exact ⟨0, rfl, Nat.zero_le _, HP, hb⟩
      case round =>
        clear HP hb
        obtain ⟨i, rfl, hi, HP, hb⟩ := hrel
        by_cases hlt : i < n
        · have hr' := hr
          rcases hr' with h0 | ⟨bk, o, rfl, hc⟩
          · omega
          have hmi := hm i hlt
          go_wp2
          go_loopw [8] (fun z wr => ∃ k : Nat, z = .int .i64 k ∧ k ≤ (O i).nS ∧ Hid (PassAt (symsF n O) s p i k) ∧ Below w.heap.size w wr) (fun z _ => (O i).nS - (intOf z).toNat)
          case atStart => exact ⟨0, rfl, Nat.zero_le _, HP, hb⟩
          case round =>
            clear HP hb
            obtain ⟨k, rfl, hk, HP, hb⟩ := hrel
            have H := (hc i hlt).later hb
            have c2 := H.c2
            by_cases hlk : k < (O i).nS
            · rcases H.here.syms with h0 | ⟨b2, o2, ha2, hs2⟩
              · omega
              rw [ha2] at c2
              obtain ⟨d0, d1, d2⟩ := hs2 k hlk
              have hx : ∀ ob : Obj, Below w.heap.size w (wr.alloc ob) := fun ob => hb.alloc hb.size ob
              clear hs2 H hc
              by_cases hnm : (O i).sName k = s
              · have hh : Hit (symsF n O) s i k := ⟨hlt, hlk, hnm⟩
                have ht : (((O i).sName k).toList == s.toList) = true := by rw [toList_beq, decide_eq_true hnm]
                by_cases hwk : (O i).sWeak k = decide (p = 1)
                · have HF : Hid (IsFound (symsF n O) s i k) := HP.out.found hh hwk
                  have hw2 : ((O i).sWeak k == ((p : Int) == 1)) = true := by
                    rw [hwk, beq_iff_eq, Bool.eq_iff_iff]; simp; omega
                  clear hnm hh hwk HP
                  go_wp2
                  go_ret2
                  exact ⟨⟨i, k, rfl, HF.out⟩, hx _⟩
                · have HS : Hid (PassAt (symsF n O) s p i (k + 1)) := HP.out.step fun _ => by
                    rcases HP.out with ⟨h0, _⟩ | ⟨h0, h1, _⟩
                    · refine ⟨h0, ?_⟩
                      subst h0
                      show (O i).sWeak k = true
                      simpa using hwk
                    · exfalso
                      subst h0
                      exact hwk (by have := h1 i k hh; simpa using (show (O i).sWeak k = true from this))
                  have hw2 : ((O i).sWeak k == ((p : Int) == 1)) = false := by
                    rw [beq_eq_false_iff_ne]
                    intro e
                    apply hwk
                    rw [e, Bool.eq_iff_iff]; simp; omega
                  clear hnm hh hwk HP
                  go_wp2
                  go_roundw
                  case rel => exact ⟨k + 1, by go_num, by omega, HS, hx _⟩
                  case measure => simp [intOf]; omega
              · have ht : (((O i).sName k).toList == s.toList) = false := by rw [toList_beq, decide_eq_false hnm]
                have HS : Hid (PassAt (symsF n O) s p i (k + 1)) := HP.out.step fun hh => absurd hh.eq hnm
                clear hnm HP
                go_wp2
                go_roundw
                case rel => exact ⟨k + 1, by go_num, by omega, HS, hx _⟩
                case measure => simp [intOf]; omega
            · have e : k = (O i).nS := by omega
              subst e
              have HN : Hid (PassAt (symsF n O) s p (i + 1) 0) := HP.out.next
              clear H hc
              go_wp2
              go_roundw
              case rel => exact ⟨i + 1, by go_num, by omega, HN, hb⟩
              case measure => simp [intOf]; omega
        · have e : i = n := by omega
          subst e
          have E1 : Hid (p + 1 < 2 → PassAt (symsF i O) s (p + 1) 0 0) := fun h => by
            have : p = 0 := by omega
            subst this
            exact PassAt.again HP.out
          have E2 : Hid (p + 1 = 2 → IsFound (symsF i O) s (-1) (-1)) := fun h => by
            have : p = 1 := by omega
            subst this
            exact PassAt.none HP.out
          clear HP
          go_wp2
          go_roundw
          case rel => exact ⟨p + 1, by go_num, by omega, E1, E2, hb⟩
          case measure => simp [intOf]; omega
    · have HF := H2.out (by omega)
      clear H1 H2
      go_wp2
      go_ret2
      exact ⟨⟨_, _, rfl, HF⟩, hb⟩
end Go.Proofs.YtbbhjpbacobmjaaGreatDoor

namespace Go.Proofs.YtbbhjpbacobmjaaGreatDoor
open Go.RowKit

theorem sameTexts_zero (a c : Option Addr) (ca cb : Nat) (w : World) :
    Calls Tryz.prog 16 #[.slice a 0 ca, .slice c 0 cb] w fun e w' => e = .returned (.bool true) ∧ ∃ k, w' = w.drewN k := by
  go_enter Tryz.func16, Tryz.ntmps16
  go_wp2
  refine wp_loop_rounds 1 ?_
  rw [rounds_succ]
  go_wp2
  go_ret
  exact ⟨rfl, 0, rfl⟩

set_option maxHeartbeats 400000 in
theorem sameTexts_some (f : Nat → ByteArray) (n : Nat) (bx ox cx bY oY cy : Nat) (w : World) (hm : n ≤ 1000000000)
    (hx : ∀ i, i < n → w.cell? ⟨bx, ox + i, none⟩ = some (.string (f i)))
    (hy : ∀ i, i < n → w.cell? ⟨bY, oY + i, none⟩ = some (.string (f i))) :
    Calls Tryz.prog 16 #[.slice (some ⟨bx, ox, none⟩) n cx, .slice (some ⟨bY, oY, none⟩) n cy] w fun e w' => e = .returned (.bool true) ∧ ∃ k, w' = w.drewN k := by
  go_enter Tryz.func16, Tryz.ntmps16
  go_wp2
  go_loopw [5] (fun i wr => ∃ k j : Nat, k ≤ n ∧ i = .int .i64 k ∧ wr = w.drewN j) (fun i _ => n - (intOf i).toNat)
  case atStart => exact ⟨0, 0, Nat.zero_le _, rfl, rfl⟩
  case round =>
    obtain ⟨k, j, hk, rfl, rfl⟩ := hrel
    by_cases hlt : k < n
    · have hxk := hx k hlt
      have hyk := hy k hlt
      clear hx hy
      generalize f k = z at *
      go_wp2
      go_quiet (fail)
      go_wp2
      go_roundw
      case rel => exact ⟨k + 1, j + nq, by omega, by go_num, rfl⟩
      case measure => simp [intOf]; omega
    · have hkn : k = n := by omega
      subst hkn
      clear hx hy
      go_wp2
      go_ret
      exact ⟨rfl, j, rfl⟩

theorem sameTexts_true (f g : Nat → ByteArray) (n : Nat) (a c : Option Addr) (ca cb : Nat) (w : World) (hm : n ≤ 1000000000)
    (hx : RowAt w a n fun i => .string (f i)) (hy : RowAt w c n fun i => .string (g i)) (he : ∀ i, i < n → f i = g i) :
    Calls Tryz.prog 16 #[.slice a n ca, .slice c n cb] w fun e w' => e = .returned (.bool true) ∧ ∃ k, w' = w.drewN k := by
  rcases hx with h0 | ⟨b, o, rfl, hx⟩
  · subst h0
    exact sameTexts_zero a c ca cb w
  · rcases hy with h0 | ⟨b', o', rfl, hy⟩
    · subst h0
      exact sameTexts_zero _ c ca cb w
    · exact sameTexts_some f n b o ca b' o' cb w hm hx (fun i hi => by rw [hy i hi, he i hi])
end Go.Proofs.YtbbhjpbacobmjaaGreatDoor
