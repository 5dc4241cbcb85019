/-
  What Filed returns, for every row of acts that are few and not too long: both files, alike; memory that was there stays as it was.
-/
import Derived.Test.YtjamlmklnkckgaaBothAt
import Derived.Deep.CutRange
namespace Go.Proofs.Ytjamlmklnkckgaa
open Go.RowKit Go.Maps

abbrev bB : ByteArray := ⟨#[98]⟩
abbrev yB : ByteArray := ⟨#[121]⟩
theorem closed_write2 : writeF ((DataW.map []).put (keyB aB) (fileD xB.data.toList 1)) 1 bB yB = 0 := by decide
theorem closed_names : (namesF (((DataW.map []).put (keyB aB) (fileD xB.data.toList 1)).put (keyB bB) (fileD yB.data.toList 2))).length = 2 := by
  rw [names_size (isMap_empty.put _ _ |>.put _ _)]
  decide

set_option maxRecDepth 100000 in
set_option maxHeartbeats 1000000 in
theorem drawerL_any (w : World) : Calls Try.prog 19 #[] w fun e w' => e = .returned (.bool true) ∧ Below w.heap.size w w' := by
  have HN := new_any w
  go_enter Try.func19, Try.ntmps19
  go_wp2_with fail
  refine HN.mono ?_
  rintro e w1 ⟨p, bm, rfl, hp, hbm, hF, hb⟩
  have HW := write_any w1 p bm (.map []) 0 aB xB hF (by decide) (by decide)
  rw [closed_write] at HW
  clear HN
  go_wp2_with fail
  refine HW.mono ?_
  rintro e w2 hE
  have he := hE.e
  subst he
  have hF2 : FilesAt w2 p bm ((DataW.map []).put (keyB aB) (fileD xB.data.toList 1)) 1 := hE.yes rfl
  have hb2 := hb.trans (hE.turned.below hb.size hp hbm)
  have HW2 := write_any w2 p bm _ 1 bB yB hF2 (by decide) (by decide)
  rw [closed_write2] at HW2
  rw [show errV 0 = .nilIface from rfl]
  clear HW hE hF
  go_wp2_with fail
  refine HW2.mono ?_
  rintro e w3 hE
  have he := hE.e
  subst he
  have hF3 : FilesAt w3 p bm (((DataW.map []).put (keyB aB) (fileD xB.data.toList 1)).put (keyB bB) (fileD yB.data.toList 2)) 2 := hE.yes rfl
  have hb3 := hb2.trans (hE.turned.below hb2.size hp hbm)
  have HR := read_any w3 p bm _ _ bB hF3 (by decide)
  rw [show errV 0 = .nilIface from rfl]
  clear HW2 hE hF2
  go_wp2_with fail
  refine HR.mono ?_
  rintro e w4 ⟨⟨t, n, f, rfl, hI⟩, hb4⟩
  obtain ⟨rfl, rfl, rfl⟩ := read_put (s := bB) (text := yB) (m := 2) (isMap_empty.put _ _) hI
  have hF4 := hF3.later hb4
  have hB4 := hb3.trans (hb4.mono hb3.size)
  have HS := fun W => same_nil 0 W
  have HL4 := list_any w4 p bm _ 2 hF4 (by decide)
  rw [show errV 0 = .nilIface from rfl]
  clear HR hI hF3
  go_wp2_with fail
  refine (HS _).mono ?_
  rintro e w' ⟨rfl, rfl⟩
  go_wp2_with fail
  refine HL4.mono ?_
  rintro e w5 ⟨⟨v5, rfl, hown5⟩, hb5⟩
  obtain ⟨a5, c5, rfl, _⟩ := owns_shape hown5
  rw [closed_names]
  have hB5 := hB4.trans (hb5.mono hB4.size)
  clear HL4 HS hown5
  go_wp2
  go_ret
  exact ⟨rfl, hB5⟩

theorem same_self (F : Nat) (w : World) : Calls Try.prog 11 #[errV F, .int .i64 (F : Int)] w fun e w' => e = .returned (.bool true) ∧ w = w' :=
  (same_errV F F w).mono fun _ _ ⟨h, h2⟩ => ⟨by rw [h]; simp, h2⟩
theorem undrewT {p bm : Nat} {w w' : World} (h : Turned p bm w.drew w') : Turned p bm w w' := ⟨h.os, h.tape, h.output, h.size, h.block⟩
theorem both_write {B p bm q k : Nat} {w w' : World} {D : DataW Unit} {L : List FileR} {s t : ByteArray} {F : Nat} (h : Both B w p bm q D L k) (hF : writeF D k s t = F)
    (f1 : F = 0 → FilesAt w' p bm (D.put (keyB s) (fileD t.data.toList ((k : Int) + 1))) (k + 1)) (f2 : F ≠ 0 → FilesAt w' p bm D k) (r1 : F = 0 → RAt B w' q (putR ⟨s, t, (k : Int) + 1⟩ L) (k + 1)) (r2 : F ≠ 0 → RAt B w' q L k) : ∃ D' L' k', Both B w' p bm q D' L' k' := by
  by_cases h0 : F = 0
  · have hF0 : writeF D k s t = 0 := hF.trans h0
    exact ⟨_, _, _, f1 h0, r1 h0, h.inv.put hF0, h.agree.put h.inv s t _, by have := (writeF_ok hF0).2.2; omega⟩
  · exact ⟨_, _, _, f2 h0, r2 h0, h.inv, h.agree, h.most⟩
/-- a call of Filed that returned both, alike. -/
def FiledEnd (B : Nat) (_ : World) (e : Ending) (w' : World) : Prop := ∃ p bm q D L k, e = .returned (.tuple #[.pointer (some ⟨p, 0, none⟩), .pointer (some ⟨q, 0, none⟩), .bool true]) ∧ Both B w' p bm q D L k ∧ B ≤ p ∧ B ≤ bm

set_option maxRecDepth 100000 in
set_option maxHeartbeats 8000000 in
theorem filed_any (a : Option Addr) (n c : Nat) (X : Nat → ActF) (w : World) (hr : ActsRow w a n X) (hn : n ≤ 1000) (hs : ∀ i, i < n → (X i).s.size ≤ 100 ∧ (X i).t.size ≤ 1300) :
    Calls Try.prog 21 #[.slice a n c] w fun e w' => FiledEnd w.heap.size w e w' ∧ Below w.heap.size w w' := by
  have HN := new_any w
  go_enter Try.func21, Try.ntmps21
  go_wp2_with fail
  refine HN.mono ?_
  rintro e w1 ⟨p, bm, rfl, hp, hbm, hF, hb⟩
  clear HN
  have hb1 : Below w1.heap.size w1 (w1.alloc (.cells #[.slice none 0 0, .int .i64 0] 86)) := (Below.refl _ _).alloc (Nat.le_refl _) _
  have hBoth : Both w.heap.size (w1.alloc (.cells #[.slice none 0 0, .int .i64 0] 86)) p bm w1.heap.size (.map []) [] 0 := by
    refine ⟨hF.later hb1, ⟨hb.size, .slice none 0 0, ?_, World.ownsRow_nil _ _ _ _⟩, Inv.empty, Agree.empty, by omega⟩
    show (w1.heap.push _)[w1.heap.size]? = _
    rw [Array.getElem?_push_size]
    rfl
  have hB1 := hb.trans (hb1.mono hb.size)
  obtain ⟨q, hq⟩ : ∃ q, w1.heap.size = q := ⟨_, rfl⟩
  rw [hq] at hBoth
  have HQ : Hid (w1.heap.size = q) := hq
  have hqB : w.heap.size ≤ q := by rw [← hq]; exact hb.size
  go_wp2
  generalize w1.alloc (.cells #[.slice none 0 0, .int .i64 0] 86) = Y at *
  clear hq hb1 hF hb
  go_loopw [7] (fun x wr => ∃ (i : Nat) (D : DataW Unit) (L : List FileR) (k : Nat), i ≤ n ∧ x = .int .i64 i ∧ Both w.heap.size wr p bm q D L k ∧ Below w.heap.size w wr) (fun x _ => n - (intOf x).toNat)
  case atStart => exact ⟨0, _, _, 0, Nat.zero_le _, rfl, hBoth, hB1⟩
  case round =>
    clear hBoth hB1
    obtain ⟨i, D, L, k, hi, rfl, hBo, hB⟩ := hrel
    by_cases hlt : i < n
    · rcases hr with h0 | ⟨bk, o, rfl, hc⟩
      · omega
      have H := (hc i hlt).later hB
      have d0 := H.c0
      have d1 := H.c1
      have d2 := H.c2
      have d3 := H.c3
      have d4 := H.c4
      have d5 := H.c5
      have d6 := H.c6
      have d7 := H.c7
      obtain ⟨hs1, hs2⟩ := hs i hlt
      have hml : (X i).s.size ≤ maxLen := by simp only [maxLen]; omega
      generalize X i = x at *
      have hbA : ∀ ob : Obj, Below wr.heap.size wr (wr.alloc ob) := fun ob => (Below.refl _ _).alloc (Nat.le_refl _) ob
      have hp8 : wr.heap.size ≠ p := Nat.ne_of_gt hBo.f.lt
      have hm8 : wr.heap.size ≠ bm := Nat.ne_of_gt hBo.f.own.lt
      have hq8 : wr.heap.size ≠ q := by obtain ⟨v, hv, _⟩ := hBo.r.blk; exact Nat.ne_of_gt (Array.getElem?_eq_some_iff.1 hv).1
      have cK : (wr.alloc (.cells #[.string x.kind, .string x.s, .string x.t, .int .i64 x.a, .int .u64 x.k, .string x.root, .slice x.pa x.pn x.pc, .slice x.qa x.qn x.qc] 62)).cell? ⟨wr.heap.size, 0, none⟩ = some (.string x.kind) := by simp [go_sem]
      have cS : (wr.alloc (.cells #[.string x.kind, .string x.s, .string x.t, .int .i64 x.a, .int .u64 x.k, .string x.root, .slice x.pa x.pn x.pc, .slice x.qa x.qn x.qc] 62)).cell? ⟨wr.heap.size, 1, none⟩ = some (.string x.s) := by simp [go_sem]
      have cT : (wr.alloc (.cells #[.string x.kind, .string x.s, .string x.t, .int .i64 x.a, .int .u64 x.k, .string x.root, .slice x.pa x.pn x.pc, .slice x.qa x.qn x.qc] 62)).cell? ⟨wr.heap.size, 2, none⟩ = some (.string x.t) := by simp [go_sem]
      clear H
      go_upto_if 33 with fail
      have hBo1 := hBo.later (hbA (.cells #[.string x.kind, .string x.s, .string x.t, .int .i64 x.a, .int .u64 x.k, .string x.root, .slice x.pa x.pn x.pc, .slice x.qa x.qn x.qc] 62))
      have hB2 := hB.trans ((hbA (.cells #[.string x.kind, .string x.s, .string x.t, .int .i64 x.a, .int .u64 x.k, .string x.root, .slice x.pa x.pn x.pc, .slice x.qa x.qn x.qc] 62)).mono hB.size)
      clear d0 d1 d2 d3 d4 d5 d6 d7 cK hBo hbA
      generalize wr.alloc (.cells #[.string x.kind, .string x.s, .string x.t, .int .i64 x.a, .int .u64 x.k, .string x.root, .slice x.pa x.pn x.pc, .slice x.qa x.qn x.qc] 62) = A1 at *
      generalize wr.heap.size = b8 at *
      go_cut [9] from 33 to 55 (fun v wc => v = .bool true ∧ (∃ D' L' k', Both w.heap.size wc p bm q D' L' k') ∧ Below w.heap.size w wc ∧ wc.cell? ⟨b8, 1, none⟩ = some (.string x.s))
      case first =>
        have hF1 := hBo1.f
        have hR1 := hBo1.r
        have hl6 : L.length ≤ 1000 := by have := hBo1.len; omega
        have hz6 : Maps.size D ≤ 1000 := by have := hBo1.inv.size; omega
        by_cases hk : x.kind = kWrite
        · have e1 : (x.kind.toList == [119, 114, 105, 116, 101]) = true := by rw [hk, ByteArray.toList_eq]; rfl
          obtain ⟨F, hFw⟩ : ∃ F, writeF D k x.s x.t = F := ⟨_, rfl⟩
          have hFr : writeRF L k x.s x.t = F := (hBo1.agree.fault hBo1.inv hF1.own hBo1.most x.s x.t).symm.trans hFw
          have HW := fun W (hW : FilesAt W p bm D k) => write_any W p bm D k x.s x.t hW hml hz6
          have HWR := fun W (hW : RAt w.heap.size W q L k) (hWB : w.heap.size ≤ W.heap.size) => writeR_any w.heap.size W q L k x.s x.t hW hl6 hWB hml hBo1.most
          rw [hFw] at HW
          rw [hFr] at HWR
          have HS := fun W => same_self F W
          have hfin : ∀ {W}, (F = 0 → FilesAt W p bm (D.put (keyB x.s) (fileD x.t.data.toList ((k : Int) + 1))) (k + 1)) → (F ≠ 0 → FilesAt W p bm D k) → (F = 0 → RAt w.heap.size W q (putR ⟨x.s, x.t, (k : Int) + 1⟩ L) (k + 1)) → (F ≠ 0 → RAt w.heap.size W q L k) → ∃ D' L' k', Both w.heap.size W p bm q D' L' k' := fun a b c d => both_write hBo1 hFw a b c d
          clear hFw hFr hBo1 hk
          go_upto_region 11 with fail
          rotate_left
          · exact absurd (e1.symm.trans (show (x.kind.toList == [119, 114, 105, 116, 101]) = false by assumption)) (by decide)
          go_region_law
            (go_simp
             first
               | (go_at_call 27
                  refine (HW _ ?hw).mono ?_
                  case hw => (first | exact hF1 | exact hF1.later (Below.refl _ _).drew | exact hF1.later (Below.refl _ _).drew.drew | exact hF1.later (Below.refl _ _).drew.drew.drew | exact hF1.later (Below.refl _ _).drew.drew.drew.drew)
                  intro e w3 hE
                  have he := hE.e
                  subst he
                  have hT3 := hE.turned
                  repeat (replace hT3 := undrewT hT3)
                  have hFy := hE.yes
                  have hFn := hE.no
                  replace hR1 := hR1.turned hF1 hT3
                  replace cS := cell_turned hT3 cS hp8 hm8
                  replace cT := cell_turned hT3 cT hp8 hm8
                  replace hB2 := hB2.trans (hT3.below hB2.size hp hbm)
                  clear hE hT3 HW)
               | (go_at_call 36
                  refine (HWR _ ?hw ?hs).mono ?_
                  case hw => (first | exact hR1 | exact hR1.later (Below.refl _ _).drew | exact hR1.later (Below.refl _ _).drew.drew | exact hR1.later (Below.refl _ _).drew.drew.drew)
                  case hs => exact hB2.size
                  intro e w4 hE
                  have he := hE.e
                  subst he
                  have hT4 := hE.turned
                  repeat (replace hT4 := undrewT hT4)
                  have hall := hfin (fun h => (hFy h).turnedQ hR1 hT4) (fun h => (hFn h).turnedQ hR1 hT4) hE.yes hE.no
                  replace cS := cell_turned hT4 cS hq8 hq8
                  replace cT := cell_turned hT4 cT hq8 hq8
                  replace hB2 := hB2.trans (hT4.below hB2.size hqB hqB)
                  clear hE hT4 HWR hFy hFn)
               | (go_at_call 11
                  refine (HS _).mono ?_
                  rintro e w5 ⟨rfl, rfl⟩))
          all_goals
            go_wp2
            go_meet
            exact ⟨rfl, hall, hB2, cS⟩
        · have e1 : (x.kind.toList == [119, 114, 105, 116, 101]) = false := by
            rw [beq_eq_false_iff_ne]
            intro z
            apply hk
            have : x.kind.toList = kWrite.toList := by rw [z, ByteArray.toList_eq]
            rw [ByteArray.toList_eq, ByteArray.toList_eq] at this
            exact WideShapes.bytes_inj this
          obtain ⟨F, hFw⟩ : ∃ F : Nat, F = if Maps.has D (keyB x.s) = true then 0 else 5 := ⟨_, rfl⟩
          have hgone : (if (delR x.s L).length = L.length then (5 : Int) else 0) = ((F : Nat) : Int) := by
            rw [hFw, hBo1.agree.gone hBo1.inv x.s]
            by_cases z : (delR x.s L).length = L.length
            · rw [if_pos z, if_pos z]; rfl
            · rw [if_neg z, if_neg z]; rfl
          have HW := fun W (hW : FilesAt W p bm D k) => remove_any W p bm D k x.s hW hml F hFw
          have HWR := fun W (hW : RAt w.heap.size W q L k) (hWB : w.heap.size ≤ W.heap.size) => removeR_any w.heap.size W q L k x.s hW hl6 hWB
          have HS := fun W => same_self F W
          have hfin : ∀ {W}, FilesAt W p bm (D.del (keyB x.s)) k → RAt w.heap.size W q (delR x.s L) k → ∃ D' L' k', Both w.heap.size W p bm q D' L' k' := fun a b => ⟨_, _, _, a, b, hBo1.inv.del, hBo1.agree.del x.s, hBo1.most⟩
          clear hFw hBo1 hk
          go_upto_region 12 with fail
          · exact absurd ((show (x.kind.toList == [119, 114, 105, 116, 101]) = true by assumption).symm.trans e1) (by decide)
          go_region_law
            (go_simp
             first
               | (go_at_call 37
                  refine (HW _ ?hw).mono ?_
                  case hw => (first | exact hF1 | exact hF1.later (Below.refl _ _).drew | exact hF1.later (Below.refl _ _).drew.drew | exact hF1.later (Below.refl _ _).drew.drew.drew)
                  rintro e w3 ⟨rfl, hF3, hT3⟩
                  repeat (replace hT3 := undrewT hT3)
                  replace hR1 := hR1.turned hF1 hT3
                  replace cS := cell_turned hT3 cS hp8 hm8
                  replace hB2 := hB2.trans (hT3.below hB2.size hp hbm)
                  clear hT3 HW)
               | (go_at_call 38
                  refine (HWR _ ?hw ?hs).mono ?_
                  case hw => (first | exact hR1 | exact hR1.later (Below.refl _ _).drew | exact hR1.later (Below.refl _ _).drew.drew | exact hR1.later (Below.refl _ _).drew.drew.drew)
                  case hs => exact hB2.size
                  intro e w4 hE
                  have he := hE.e
                  rw [hgone] at he
                  subst he
                  have hT4 := hE.turned
                  repeat (replace hT4 := undrewT hT4)
                  have hall := hfin (hF3.turnedQ hR1 hT4) hE.at'
                  replace cS := cell_turned hT4 cS hq8 hq8
                  replace hB2 := hB2.trans (hT4.below hB2.size hqB hqB)
                  clear hE hT4 HWR)
               | (go_at_call 11
                  refine (HS _).mono ?_
                  rintro e w5 ⟨rfl, rfl⟩))
          all_goals
            go_wp2
            go_meet
            exact ⟨rfl, hall, hB2, cS⟩
      case rest =>
        obtain ⟨rfl, ⟨D2, L2, k2, hBo2⟩, hB3, cS2⟩ := hcut
        have HR := read_any wc p bm D2 k2 x.s hBo2.f hml
        clear hBo1 cS cT hB2
        go_wp2_with fail
        refine HR.mono ?_
        rintro e w3 ⟨⟨t, nn, f, rfl, hRI⟩, hb3⟩
        have hBo3 := hBo2.later hb3
        have hB4 := hB3.trans (hb3.mono hB3.size)
        replace cS2 := cell_later hb3 cS2
        have HR2 := readR_any w.heap.size w3 q L2 k2 x.s hBo3.r (by have := hBo3.len; omega)
        clear HR hBo2 hB3 hb3
        go_wp2_with fail
        refine HR2.mono ?_
        rintro e w4 ⟨⟨t', nn', f', rfl, hRI2⟩, hb4⟩
        obtain ⟨rfl, rfl, rfl⟩ := hBo3.agree.read hBo3.inv hRI hRI2
        have hBo4 := hBo3.later hb4
        have hB5 := hB4.trans (hb4.mono hB4.size)
        have HS := fun W => same_self f W
        have HL := list_any w4 p bm D2 k2 hBo4.f (by have := hBo4.inv.size; omega)
        clear HR2 hRI hRI2 hBo3 hB4 hb4 cS2
        go_wp2_with fail
        refine (HS _).mono ?_
        rintro e w' ⟨rfl, rfl⟩
        go_wp2_with fail
        refine HL.mono ?_
        rintro e w5 ⟨⟨v5, rfl, hown5⟩, hb5⟩
        have hBo5 := hBo4.later hb5
        have hB6 := hB5.trans (hb5.mono hB5.size)
        have HL2 := listR_any w.heap.size w5 q L2 k2 hBo5.r (by have := hBo5.len; omega)
        have hnames := hBo5.agree.names hBo5.inv hBo5.f.own
        clear HL HS hBo4 hB5
        go_wp2_with fail
        refine HL2.mono ?_
        rintro e w6 ⟨⟨v6, rfl, hown6⟩, hb6⟩
        have hBo6 := hBo5.later hb6
        have hB7 := hB6.trans (hb6.mono hB6.size)
        have hown5' := owns_below hown5 hb6
        obtain ⟨a5, c5, rfl, _⟩ := owns_shape hown5
        obtain ⟨a6, c6, rfl, _⟩ := owns_shape hown6
        have hlenN : (namesF D2).length = L2.length := by rw [hnames, List.length_map]
        have row5 : RowAt w6 a5 L2.length fun i => .string (nmF D2 i) := by
          by_cases h0 : L2.length = 0
          · exact .inl h0
          · obtain ⟨g, hg, _, _⟩ := owns_cell hown5' (nm_cell (D := D2) (i := 0) (by omega))
            refine .inr ⟨g, 0, hg, fun i hi => ?_⟩
            obtain ⟨g', hg', _, hcl⟩ := owns_cell hown5' (nm_cell (D := D2) (i := i) (by omega))
            rw [hg] at hg'
            injection hg' with hg'
            injection hg' with hg'
            subst hg'
            simpa using hcl
        have row6 : RowAt w6 a6 L2.length fun i => .string (nmF D2 i) := by
          have cell : ∀ i, i < L2.length → (L2.map fun f => Value.string f.nm)[i]? = some (.string (nmF D2 i)) := fun i hi => by
            rw [List.getElem?_map, List.getElem?_eq_getElem hi]
            simp only [Option.map_some, Option.some.injEq, Value.string.injEq]
            apply ba_ext
            unfold nmF
            rw [hnames]
            simp [List.getD_eq_getElem?_getD, List.getElem?_eq_getElem hi]
          by_cases h0 : L2.length = 0
          · exact .inl h0
          · obtain ⟨g, hg, _, _⟩ := owns_cell hown6 (cell 0 (by omega))
            refine .inr ⟨g, 0, hg, fun i hi => ?_⟩
            obtain ⟨g', hg', _, hcl⟩ := owns_cell hown6 (cell i hi)
            rw [hg] at hg'
            injection hg' with hg'
            injection hg' with hg'
            subst hg'
            simpa using hcl
        have HT := sameTx_true (nmF D2) (nmF D2) L2.length a5 a6 c5 c6 w6 (by have := hBo6.len; omega) row5 row6 (fun _ _ => rfl)
        rw [hlenN]
        clear HL2 hown5 hown5' hown6 row5 row6 hnames hBo5 hB6
        go_wp2_with fail
        refine HT.mono ?_
        rintro e w7 ⟨rfl, kk, hw7⟩
        have hb7 : Below w6.heap.size w6 w7 := by rw [hw7]; exact below_drewN (Below.refl _ _) kk
        have hBo7 := hBo6.later hb7
        have hB8 := hB7.trans (hb7.mono hB7.size)
        clear HT hw7 hBo6 hB7
        go_wp2
        go_roundw
        case rel => exact ⟨i + 1, D2, L2, k2, by omega, by go_num, hBo7, hB8⟩
        case measure => simp [intOf]; omega
    · go_wp2
      go_ret3
      exact ⟨⟨p, bm, q, D, L, k, rfl, hBo, hp, hbm⟩, hB⟩
end Go.Proofs.Ytjamlmklnkckgaa
