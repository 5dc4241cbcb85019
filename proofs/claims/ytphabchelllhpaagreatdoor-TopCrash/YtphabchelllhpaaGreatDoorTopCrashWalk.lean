/-
  A fall takes nothing: what TopCrash returns, for every row of acts, every fuse, whatever is kept: true; memory that was there stays as it was.
-/
import Derived.Test.YtphabchelllhpaaGreatDoorShelfAll
import Derived.Test.YtphabchelllhpaaGreatDoorRefShelves
import Derived.Test.YtphabchelllhpaaGreatDoorActsAt
import Derived.Test.YtphabchelllhpaaGreatDoorNumber
import Derived.Deep.CutBlock
namespace Go.Proofs.YtphabchelllhpaaGreatDoor
open Go.RowKit

theorem Spun.mono {B B' : Nat} {w w' : World} (h : Spun B w w') (hB : B' ≤ B) : Spun B' w w' := ⟨h.below.mono hB, h.block⟩
theorem RShelf.spun {w w' : World} {B0 B m : Nat} {v : Value} {k : Nat} {V : Nat → EntV} {E : Nat → EntF} (h : RShelf w B0 B m v k V E) (hs : Spun B0 w w') : RShelf w' B0 B m v k V E :=
  ⟨hs.block _ _ h.blk (fun ⟨c, t, f, e, ht⟩ => by
    injection e with _ e2 _
    subst e2
    exact absurd ht (by decide)), h.own.spun hs, h.few, h.once⟩
/-- an act's entry. -/
def actE (x : ActF) : EntF := ⟨x.root, x.pn, x.pname, x.pst, x.pbs, x.qn, x.qp, x.qt, x.qv⟩
def actV (x : ActF) : EntV := ⟨x.pa, x.pc, x.qa, x.qc⟩
theorem ActHere.ent {w : World} {b o : Nat} {x : ActF} (h : ActHere w b o x) : EntAt w (actV x) (actE x) := ⟨h.rows, h.pats⟩
theorem ActFit.ent {x : ActF} (h : ActFit x) : EntFit (actE x) := ⟨h.root, h.pcap, h.qcap, fun i hi => (h.parts i hi).1⟩
theorem putE_kept {E : Nat → EntF} {k : Nat} {en : EntF} (h : (putE E k en).1 ≠ 0) : (putE E k en).2 = (E, k) := by
  unfold putE at h ⊢
  split
  · rfl
  · rename_i h1
    rw [if_neg h1] at h
    split
    · rename_i h2; rw [if_pos h2] at h; exact absurd rfl h
    · rename_i h2
      rw [if_neg h2] at h
      split
      · rfl
      · rename_i h3; rw [if_neg h3] at h; exact absurd rfl h
theorem dropE_kept {E : Nat → EntF} {k : Nat} {root : ByteArray} (h : (dropE E k root).1 ≠ 0) : (dropE E k root).2 = (E, k) := by
  unfold dropE at h ⊢
  split
  · rfl
  · rename_i h1; rw [if_neg h1] at h; exact absurd rfl h
/-- an entry of one part, that has nothing to patch. -/
def lonE (root nm : ByteArray) (st : Int) : EntF := ⟨root, 1, fun _ => nm, fun _ => st, fun _ => 0, 0, fun _ => 0, fun _ => 0, fun _ => 0⟩
theorem lon_at (w : World) (root nm : ByteArray) (st : Int) (c : Nat) : EntAt (w.alloc (.cells #[.string nm, .int .i64 st, .int .i64 0] 54)) ⟨some ⟨w.heap.size, 0, none⟩, c, none, 0⟩ (lonE root nm st) := by
  refine ⟨.inr ⟨w.heap.size, 0, rfl, fun i hi => ?_⟩, .inl rfl⟩
  obtain rfl : i = 0 := by simp [lonE] at hi; exact hi
  exact ⟨by simp [go_sem, lonE], by simp [go_sem, lonE], by simp [go_sem, lonE]⟩
theorem lon_ok {root nm : ByteArray} {st : Int} (h1 : nameF root.data.toList = 0) (h2 : nameF nm.data.toList = 0) (h3 : 1 ≤ st) (h4 : st ≤ 1000000) : entF (lonE root nm st) = 0 := by
  unfold entF lonE
  rw [h1, seqF_zero, if_pos (show mayBeB ((1 : Nat) : Int) ((0 : Nat) : Int) = true by decide), seqF_zero]
  show seqF (partsF _ 1) (patchesF _ 0) = 0
  have e : partsF (⟨root, 1, fun _ => nm, fun _ => st, fun _ => 0, 0, fun _ => 0, fun _ => 0, fun _ => 0⟩ : EntF) 1 = 0 := by
    show seqF 0 (stampedF nm st 0) = 0
    rw [seqF_zero]
    unfold stampedF
    rw [h2, seqF_zero, if_neg (by omega), if_neg (by omega)]
  rw [e, seqF_zero]
  rfl
set_option maxRecDepth 100000 in
set_option maxHeartbeats 4000000 in
theorem topShelved_any (w : World) (hE : Env w) :
    Calls Tryz.prog 4 #[] w fun e w' => e = .returned (.bool true) ∧ Below w.heap.size w w' := by
  have HS := lawShelved_any w (fun _ => emptyE) hE
  go_enter Tryz.func4, Tryz.ntmps4
  go_wp2_with fail
  refine (show Calls _ _ _ _ _ from HS).mono ?_
  rintro e w1 ⟨p, g, rfl, hge, hg, ⟨s, hD, hSt, hl⟩, hb1⟩
  clear HS
  have hbx : Below w1.heap.size w1 (w1.alloc (.cells #[.string ⟨#[97]⟩, .int .i64 1, .int .i64 0] 54)) := (Below.refl _ _).alloc (Nat.le_refl _) _
  have hA := lon_at w1 ⟨#[97]⟩ ⟨#[97]⟩ 1 1
  have hok : entF (lonE ⟨#[97]⟩ ⟨#[97]⟩ 1) = 0 := lon_ok (by decide +kernel) (by decide +kernel) (by decide) (by decide)
  have hb2 := hb1.trans (hbx.mono hb1.size)
  have HPU := put_any _ w.heap.size p 112 g s (fun _ => emptyE) 0 _ _ (hD.later hbx) hSt (hg.later hbx) (hE.later hb2) hA (entOk hok).fit
  have er : putE (fun _ => emptyE) 0 (lonE ⟨#[97]⟩ ⟨#[97]⟩ 1) = (0, addV (fun _ => emptyE) 0 (lonE ⟨#[97]⟩ ⟨#[97]⟩ 1), 1) := putE_add hok (by rw [findF_end (by decide)]; decide) (by decide)
  rw [er] at HPU
  unfold entCs at HPU
  go_wp2_with fail
  refine (show Calls _ _ _ _ _ from HPU).mono ?_
  rintro e w3 ⟨s', hPE, hD3, hS3⟩
  clear HPU
  cases hPE with
  | bad h _ => exact absurd rfl h
  | keep _ _ hk =>
    cases hk with
    | fell hl' _ => exact absurd hl hl'
    | ok hSt3 hl3 =>
      have hg3 := (hg.later hbx).spun hS3
      have hb3 := hb2.trans hS3.below
      have HO := open_any w3 w.heap.size p 112 s' _ 1 hD3 hSt3 (hE.later hb3)
      go_wp2_with fail
      refine (show Calls _ _ _ _ _ from HO).mono ?_
      rintro e w4 ⟨g4, rfl, _, hg4, hb4⟩
      clear HO
      have hb5 := hb3.trans (hb4.mono hb3.size)
      have HR := roots_any w4 w.heap.size p 112 g4 s' _ 1 (hD3.later hb4) hSt3 hg4 (hE.later hb5)
      go_wp2_with fail
      refine (show Calls _ _ _ _ _ from HR).mono ?_
      rintro e w5 ⟨vr, rfl, hOw, hb6⟩
      clear HR
      obtain ⟨ar, cr, rfl, _⟩ := rowsR hOw
      go_wp2
      go_ret
      exact ⟨rfl, hb5.trans (hb6.mono hb5.size)⟩
/-- one of two shelves stands, whatever is kept. -/
structure CrashAt (w wc : World) (B p m g : Nat) (s : DSt) (vl : Value) (k : Nat) (V : Nat → EntV) (E : Nat → EntF) (vl' : Value) (k' : Nat) (V' : Nat → EntV) (E' : Nat → EntF) : Prop where
  disk : Disk wc B p 112 s
  two : ∀ keep, Stands (s.again keep) 112 E k ∨ Stands (s.again keep) 112 E' k'
  was : EntsOwn wc w.heap.size w.heap.size vl k V E
  is : RShelf wc w.heap.size w.heap.size m vl' k' V' E'
  shelf : ShelfAt wc g p
  below : Below w.heap.size w wc
/-- an act was done on both shelves. -/
structure CrashStep (w wc : World) (B p m g : Nat) (s s' : DSt) (vl : Value) (k : Nat) (V : Nat → EntV) (E : Nat → EntF) (r : Nat × (Nat → EntF) × Nat) (vl' : Value) (V' : Nat → EntV) (ev : Value) : Prop where
  put : PutEnd s 112 E k r s' (.returned ev)
  kept : r.1 ≠ 0 → r.2 = (E, k)
  disk : Disk wc B p 112 s'
  was : EntsOwn wc w.heap.size w.heap.size vl k V E
  is : RShelf wc w.heap.size w.heap.size m vl' r.2.2 V' r.2.1
  shelf : ShelfAt wc g p
  below : Below w.heap.size w wc
theorem CrashStep.mk' {w w6 w7 : World} {B p m g : Nat} {s s' : DSt} {vl : Value} {k : Nat} {V : Nat → EntV} {E : Nat → EntF} {r : Nat × (Nat → EntF) × Nat} {ev : Value} (hBw : w.heap.size ≤ B) (hBm : B ≤ m) (hm : RShelf w6 w.heap.size w.heap.size m vl k V E) (hP : PutEnd s 112 E k r s' (.returned ev)) (hk : r.1 ≠ 0 → r.2 = (E, k)) (hD : Disk w6 B p 112 s') (hg : ShelfAt w6 g p) (hb : Below w.heap.size w w6) (hR : ∃ vl' V', RShelf w7 w.heap.size w.heap.size m vl' r.2.2 V' r.2.1) (hG : w6.grownBy w7 (some m)) : ∃ vl' V', CrashStep w w7 B p m g s s' vl k V E r vl' V' ev := by
  obtain ⟨vl', V', hR⟩ := hR
  have hmt : ∀ (q : Nat) (o : Obj), w6.heap[q]? = some o → (∀ v, o ≠ .cells #[v] 33 (0, 0)) → w7.heap[q]? = some o := fun q o hq hne => (hG.block q (Array.getElem?_eq_some_iff.1 hq).1 (fun e => by
    injection e with e
    subst e
    rw [hm.blk] at hq
    injection hq with hq
    exact hne _ hq.symm)).trans hq
  refine ⟨vl', V', hP, hk, hD.other (fun q o hq ho => hmt q o hq (fun v e => ?_)), hm.own.other hm.blk (by decide) (by omega) hb.size hG, hR, hmt g _ hg (fun v e => ?_), ?_⟩
  · subst e
    obtain ⟨c, t, f, e2, ht⟩ := ho
    injection e2 with _ e3 _
    subst e3
    exact absurd ht (by decide)
  · injection e with _ e2 _
    exact absurd e2 (by decide)
  · exact ⟨hG.os.trans hb.os, hG.tape.trans hb.tape, hG.output.trans hb.output, Nat.le_trans hb.size hG.size, fun q hq => (hG.block q (Nat.lt_of_lt_of_le hq hb.size) (fun e => by injection e; omega)).trans (hb.block q hq)⟩
abbrev kPut : ByteArray := ⟨#[112, 117, 116]⟩
set_option maxRecDepth 100000 in
set_option maxHeartbeats 16000000 in
theorem topCrash_walk (a : Option Addr) (n c : Nat) (X : Nat → ActF) (fuse keep : Int) (w : World) (hE : Env w) (hr : ActsRow w a n X) (hf : ∀ i, i < n → ActFit (X i)) :
    Calls Tryz.prog 3 #[.slice a n c, .int .i64 fuse, .int .u64 keep] w fun e w' => e = .returned (.bool true) ∧ Below w.heap.size w w' := by
  have HC := topShelved_any w hE
  go_enter Tryz.func3, Tryz.ntmps3
  go_wp2_with fail
  refine (show Calls _ _ _ _ _ from HC).mono ?_
  rintro e w1 ⟨rfl, hb1⟩
  clear HC
  have HS := lawShelved_any w1 (fun _ => emptyE) (hE.later hb1)
  go_wp2_with fail
  refine (show Calls _ _ _ _ _ from HS).mono ?_
  rintro e w2 ⟨p, g, rfl, hge, hg2, ⟨s, hD2, hSt, hl⟩, hb2⟩
  clear HS
  have hbB := hb1.trans (hb2.mono hb1.size)
  have HL := lightActs_any a n c 30 X w2 (by decide) (hr.later hbB) hf
  have hB1 := hb1.size
  generalize w1.heap.size = B at *
  go_wp2_with fail
  refine (show Calls _ _ _ _ _ from HL).mono ?_
  rintro e w3 ⟨⟨b, rfl, hlb⟩, hb3⟩
  clear HL
  have hbC := hbB.trans (hb3.mono hbB.size)
  cases b with
  | false =>
    go_wp2
    go_ret
    exact ⟨rfl, hbC⟩
  | true =>
    obtain ⟨hn30, _⟩ := hlb rfl
    clear hlb
    have hD3 := hD2.later hb3
    have hg3 := hg2.later hb3
    have hBw2 : B ≤ w2.heap.size := hD2.base
    have hBm : B ≤ w3.heap.size := Nat.le_trans hBw2 hb3.size
    have hbx : Below w3.heap.size w3 (w3.alloc (.cells #[.slice none 0 0] 33)) := (Below.refl _ _).alloc (Nat.le_refl _) _
    have hbl : (w3.alloc (.cells #[.slice none 0 0] 33)).heap[w3.heap.size]? = some (.cells #[.slice none 0 0] 33 (0, 0)) := Array.getElem?_push_size
    have mc : (w3.alloc (.cells #[.slice none 0 0] 33)).cell? ⟨w3.heap.size, 0, none⟩ = some (.slice none 0 0) := by simp [go_sem]
    obtain ⟨A, hA⟩ : ∃ A : Int, min (max fuse (-1)) 1000 = A := ⟨_, rfl⟩
    have hA1 : A ≤ 9223372036854775807 := by omega
    have HAr := diskArm_any _ B p 112 s A (hD3.later hbx) hA1
    have hbD := hbC.trans (hbx.mono hbC.size)
    have hg4 := hg3.later hbx
    have hSz : w3.heap.size < (w3.alloc (.cells #[.slice none 0 0] 33)).heap.size := by simp
    clear hD2 hg2 hb2 hb3 hge hD3 hg3 hbB
    generalize hW4 : w3.alloc (.cells #[.slice none 0 0] 33) = w4 at *
    generalize hm : w3.heap.size = m at *
    go_wp2_with fail
    refine (show Calls _ _ _ _ _ from HAr).mono ?_
    rintro e w5 ⟨rfl, hD5, hS5⟩
    clear HAr
    have hSt5 : Stands { s with left := max A (-1) } 112 (fun _ => emptyE) 0 := hSt.armed _
    have hbE := hbD.trans (hS5.below.mono hB1)
    have hg5 := hg4.spun hS5
    have hBm' : B ≤ m := by omega
    have hRS5 : RShelf w5 w.heap.size w.heap.size m (.slice none 0 0) 0 (fun _ => ⟨none, 0, none, 0⟩) (fun _ => emptyE) := ⟨hS5.block _ _ hbl (fun ⟨c, t, f, e, ht⟩ => by
      injection e with _ e2 _
      subst e2
      exact absurd ht (by decide)), ⟨World.ownsRow_nil _ _ _ _, fun i hi => absurd hi (Nat.not_lt_zero _)⟩, by decide, fun i _ hi => absurd hi (Nat.not_lt_zero _)⟩
    generalize ({ s with left := max A (-1) } : DSt) = s5 at *
    clear hA hA1 mc hbl hbx hg4 hbD hS5 hSt hl hW4 hSz hbC
    go_upto_block 0 with fail
    go_cut [11, 12, 13, 14] from 44 to 102 (fun y11 _ _ _ wc => ∃ s k V E vl' k' V' E', CrashAt w wc B p m g s y11 k V E vl' k' V' E')
    case first =>
      go_wp2
      go_loopw [11, 12, 13, 14] (fun y11 y12 _ _ wr => ∃ (i : Nat) (s : DSt) (k : Nat) (V : Nat → EntV) (E : Nat → EntF), i ≤ n ∧ y12 = .int .i64 i ∧ Disk wr B p 112 s ∧ Stands s 112 E k ∧ RShelf wr w.heap.size w.heap.size m y11 k V E ∧ ShelfAt wr g p ∧ Below w.heap.size w wr) (fun _ y12 _ _ _ => n - (intOf y12).toNat)
      case atStart => exact ⟨0, s5, 0, _, _, Nat.zero_le _, rfl, hD5, hSt5, hRS5, hg5, hbE⟩
      case round =>
        clear hD5 hSt5 hRS5 hg5 hbE
        obtain ⟨i, s, k, V, E, hi, rfl, hD, hSt, hRS, hg, hb⟩ := hrel
        have mc := hRS.cell
        obtain ⟨av, cv, hvv, hRow⟩ := hRS.own.ents
        by_cases hlt : i < n
        · have hr2 := hr.later hb
          rcases hr2 with h0 | ⟨bk, o, hao, hc⟩
          · omega
          have H := hc i hlt
          have hFit := (hf i hlt).ent
          have hEn0 : EntIn w w.heap.size (actV (X i)) (actE (X i)) := by
            rcases hr with h0 | ⟨bk', o', _, hc'⟩
            · omega
            · exact (hc' i hlt).ent.within
          have hEn := hEn0.keeps (Keeps.of_below (Nat.le_refl _) hb)
          have hlow : bk < w.heap.size := by
            rcases hr with h0 | ⟨bk', o', ha', hc'⟩
            · omega
            · rw [ha'] at hao
              injection hao with hao
              injection hao with e1 _
              rw [← e1]
              exact World.block_lt_of_cell? _ _ (hc' i hlt).c0
          subst hao
          generalize X i = x at *
          have d0 := H.c0
          have d1 := H.c1
          have d5 := H.c5
          have d6 := H.c6
          have d7 := H.c7
          have hi0 : (0 : Int) ≤ (i : Int) := by omega
          have hi1 : (i : Int) < (n : Int) := by omega
          subst hvv
          clear hc H hf hr hEn0
          go_upto_if 59 with fail
          go_cut [13, 14] from 54 to 87 (fun y13 y14 wc => ∃ r s' vl' V', CrashStep w wc B p m g s s' (.slice av k cv) k V E r vl' V' y13 ∧ y14 = .int .i64 (r.1 : Int))
          case first =>
            by_cases hk : x.kind = kPut
            · have e1 : (x.kind.toList == [112, 117, 116]) = true := by rw [hk, ByteArray.toList_eq]; rfl
              have HPU := put_any wr B p 112 g s E k (actV x) (actE x) hD hSt hg (hE.later hb) hEn.here hFit
              have HKEP : Hid ((putE E k (actE x)).1 ≠ 0 → (putE E k (actE x)).2 = (E, k)) := putE_kept
              have HREF := fun (W : World) (hW : RShelf W w.heap.size w.heap.size m (.slice av k cv) k V E) (hbW : Below w.heap.size w W) (hEW : EntIn W w.heap.size (actV x) (actE x)) => refPut_any W w.heap.size w.heap.size m k _ V E (actV x) (actE x) hW (Nat.le_refl _) (Nat.le_trans hB1 hBm') hEW hFit
              generalize hR0 : putE E k (actE x) = r at HPU HREF HKEP
              clear hR0
              unfold entCs actV actE at HPU HREF
              dsimp only at HPU HREF
              clear hk
              rw [e1]
              clear e1
              go_wp2_with fail
              refine (show Calls _ _ _ _ _ from HPU).mono ?_
              rintro e w6 ⟨s', hPE, hD6, hS6⟩
              clear HPU
              have hRS6 := hRS.spun (hS6.mono hB1)
              have hb6 := hb.trans (hS6.below.mono hB1)
              have hg6 := hg.spun hS6
              have HRF := HREF w6 hRS6 hb6 (hEn.keeps ⟨fun q hq => hS6.below.block q (Nat.lt_of_lt_of_le hq hB1), (Keeps.of_spun hS6).kind⟩)
              have d5' : w6.cell? _ = _ := (hS6.below.cell (p := ⟨bk, _, none⟩) (Nat.lt_of_lt_of_le hlow hB1)).trans d5
              have d6' : w6.cell? _ = _ := (hS6.below.cell (p := ⟨bk, _, none⟩) (Nat.lt_of_lt_of_le hlow hB1)).trans d6
              have d7' : w6.cell? _ = _ := (hS6.below.cell (p := ⟨bk, _, none⟩) (Nat.lt_of_lt_of_le hlow hB1)).trans d7
              clear HREF d0 d1 d5 d6 d7 mc hRow
              cases hPE with
              | bad h hs =>
                obtain ⟨z, hz⟩ := errV_some h
                have HP : PutEnd s 112 E k r s' (.returned (errV r.1)) := .bad h hs
                rw [hz] at HP
                rw [hz]
                go_wp2_with fail
                refine (show Calls _ _ _ _ _ from HRF).mono ?_
                rintro e w7 ⟨rfl, hR7, hG7⟩
                clear HRF
                obtain ⟨vl', V', hST⟩ := CrashStep.mk' hB1 hBm' hRS6 HP HKEP.out hD6 hg6 hb6 hR7 hG7
                go_wp2
                go_meet
                exact ⟨_, _, _, _, hST, by first | rfl | (rw [h]; rfl)⟩
              | keep _ h hk =>
                cases hk with
                | ok h1 h2 =>
                  have HP : PutEnd s 112 E k r s' (.returned .nilIface) := .keep _ h (.ok h1 h2)
                  go_wp2_with fail
                  refine (show Calls _ _ _ _ _ from HRF).mono ?_
                  rintro e w7 ⟨rfl, hR7, hG7⟩
                  clear HRF
                  obtain ⟨vl', V', hST⟩ := CrashStep.mk' hB1 hBm' hRS6 HP HKEP.out hD6 hg6 hb6 hR7 hG7
                  go_wp2
                  go_meet
                  exact ⟨_, _, _, _, hST, by first | rfl | (rw [h]; rfl)⟩
                | fell h1 h2 =>
                  have HP : PutEnd s 112 E k r s' (.returned (errV 9)) := .keep _ h (.fell h1 h2)
                  rw [show errV 9 = .iface 69 (.int .i64 9) from rfl] at HP
                  rw [show errV 9 = .iface 69 (.int .i64 9) from rfl]
                  go_wp2_with fail
                  refine (show Calls _ _ _ _ _ from HRF).mono ?_
                  rintro e w7 ⟨rfl, hR7, hG7⟩
                  clear HRF
                  obtain ⟨vl', V', hST⟩ := CrashStep.mk' hB1 hBm' hRS6 HP HKEP.out hD6 hg6 hb6 hR7 hG7
                  go_wp2
                  go_meet
                  exact ⟨_, _, _, _, hST, by first | rfl | (rw [h]; rfl)⟩
            · have e1 : (x.kind.toList == [112, 117, 116]) = false := by
                have := bytes_ne hk
                rw [show kPut.toList = [112, 117, 116] by rw [ByteArray.toList_eq]] at this
                exact this
              have HPU := drop_any wr B p 112 g s E k x.s hD hSt hg (hE.later hb)
              have HKEP : Hid ((dropE E k x.s).1 ≠ 0 → (dropE E k x.s).2 = (E, k)) := dropE_kept
              have HREF := fun (W : World) (hW : RShelf W w.heap.size w.heap.size m (.slice av k cv) k V E) => refDrop_any W w.heap.size w.heap.size m k _ V E x.s hW (Nat.le_refl _) (Nat.le_trans hB1 hBm')
              generalize hR0 : dropE E k x.s = r at HPU HREF HKEP
              clear hR0
              clear hk
              rw [e1]
              clear e1
              go_wp2_with fail
              refine (show Calls _ _ _ _ _ from HPU).mono ?_
              rintro e w6 ⟨s', hPE, hD6, hS6⟩
              clear HPU
              have hRS6 := hRS.spun (hS6.mono hB1)
              have hb6 := hb.trans (hS6.below.mono hB1)
              have hg6 := hg.spun hS6
              have HRF := HREF w6 hRS6
              have d1' : w6.cell? _ = _ := (hS6.below.cell (p := ⟨bk, _, none⟩) (Nat.lt_of_lt_of_le hlow hB1)).trans d1
              clear HREF d0 d1 d5 d6 d7 mc hRow
              cases hPE with
              | bad h hs =>
                obtain ⟨z, hz⟩ := errV_some h
                have HP : PutEnd s 112 E k r s' (.returned (errV r.1)) := .bad h hs
                rw [hz] at HP
                rw [hz]
                go_wp2_with fail
                refine (show Calls _ _ _ _ _ from HRF).mono ?_
                rintro e w7 ⟨rfl, hR7, hG7⟩
                clear HRF
                obtain ⟨vl', V', hST⟩ := CrashStep.mk' hB1 hBm' hRS6 HP HKEP.out hD6 hg6 hb6 hR7 hG7
                go_wp2
                go_meet
                exact ⟨_, _, _, _, hST, by first | rfl | (rw [h]; rfl)⟩
              | keep _ h hk =>
                cases hk with
                | ok h1 h2 =>
                  have HP : PutEnd s 112 E k r s' (.returned .nilIface) := .keep _ h (.ok h1 h2)
                  go_wp2_with fail
                  refine (show Calls _ _ _ _ _ from HRF).mono ?_
                  rintro e w7 ⟨rfl, hR7, hG7⟩
                  clear HRF
                  obtain ⟨vl', V', hST⟩ := CrashStep.mk' hB1 hBm' hRS6 HP HKEP.out hD6 hg6 hb6 hR7 hG7
                  go_wp2
                  go_meet
                  exact ⟨_, _, _, _, hST, by first | rfl | (rw [h]; rfl)⟩
                | fell h1 h2 =>
                  have HP : PutEnd s 112 E k r s' (.returned (errV 9)) := .keep _ h (.fell h1 h2)
                  rw [show errV 9 = .iface 69 (.int .i64 9) from rfl] at HP
                  rw [show errV 9 = .iface 69 (.int .i64 9) from rfl]
                  go_wp2_with fail
                  refine (show Calls _ _ _ _ _ from HRF).mono ?_
                  rintro e w7 ⟨rfl, hR7, hG7⟩
                  clear HRF
                  obtain ⟨vl', V', hST⟩ := CrashStep.mk' hB1 hBm' hRS6 HP HKEP.out hD6 hg6 hb6 hR7 hG7
                  go_wp2
                  go_meet
                  exact ⟨_, _, _, _, hST, by first | rfl | (rw [h]; rfl)⟩
          case rest =>
            obtain ⟨r, s', vl', V', hST, rfl⟩ := hcut
            have mc7 := hST.is.cell
            have HPE := hST.put
            clear d0 d1 d5 d6 d7 mc hEn
            obtain ⟨hPut, hKept, hD7, hWas7, hIs7, hg7, hb7⟩ := hST
            obtain ⟨rn, rE, rk⟩ := r
            dsimp only at *
            cases HPE with
            | bad h hs =>
              subst hs
              have hrk := hKept h
              injection hrk with e1 e2
              subst e1
              subst e2
              obtain ⟨z, hz⟩ := errV_some h
              have HN := fun W => numberErr_any rn W
              rw [hz] at HN
              dsimp only at hz
              rw [hz]
              clear hz h hKept hPut
              by_cases h9 : rn = 9
              · have q1 : ((rn : Int) == 9) = true := by rw [h9]; rfl
                have q2 : ((rn : Int) != 9) = false := by rw [h9]; rfl
                clear h9
                go_wp2_with fail
                refine (show Calls _ _ _ _ _ from HN _).mono ?_
                rintro e w8 ⟨rfl, hw8⟩
                subst hw8
                go_wp2_with fail
                refine (show Calls _ _ _ _ _ from HN _).mono ?_
                rintro e w8 ⟨rfl, hw8⟩
                subst hw8
                clear HN
                go_wp2
                go_roundw
                case rel => exact ⟨i + 1, s', rk, V', rE, by omega, by go_num, hD7, hSt, hIs7, hg7, hb7⟩
                case measure => simp [intOf]; omega
              · have q1 : ((rn : Int) == 9) = false := by simp; omega
                clear h9
                go_wp2_with fail
                refine (show Calls _ _ _ _ _ from HN _).mono ?_
                rintro e w8 ⟨rfl, hw8⟩
                subst hw8
                go_wp2_with fail
                refine (show Calls _ _ _ _ _ from HN _).mono ?_
                rintro e w8 ⟨rfl, hw8⟩
                subst hw8
                clear HN
                go_wp2
                go_roundw
                case rel => exact ⟨i + 1, s', rk, V', rE, by omega, by go_num, hD7, hSt, hIs7, hg7, hb7⟩
                case measure => simp [intOf]; omega
            | keep _ h hk =>
              dsimp only at h hk
              subst h
              cases hk with
              | ok h1 h2 =>
                go_wp2_with fail
                refine (show Calls _ _ _ _ _ from number_nil _).mono ?_
                rintro e w8 ⟨rfl, hw8⟩
                subst hw8
                go_wp2_with fail
                refine (show Calls _ _ _ _ _ from number_nil _).mono ?_
                rintro e w8 ⟨rfl, hw8⟩
                subst hw8
                go_wp2
                go_roundw
                case rel => exact ⟨i + 1, s', rk, V', rE, by omega, by go_num, hD7, h1, hIs7, hg7, hb7⟩
                case measure => simp [intOf]; omega
              | fell h1 h2 =>
                rw [show errV 9 = .iface 69 (.int .i64 9) from rfl]
                go_wp2_with fail
                refine (show Calls _ _ _ _ _ from number_errno 9 _).mono ?_
                rintro e w8 ⟨rfl, hw8⟩
                subst hw8
                go_wp2
                go_meet
                exact ⟨s', k, V, E, vl', rk, V', rE, hD7, h2.2, hWas7, hIs7, hg7, hb7⟩
        · obtain rfl : i = n := by omega
          go_wp2
          go_meet
          exact ⟨s, k, V, E, _, k, V, E, hD, fun q => .inl (hSt.again q), hRS.own, hRS, hg, hb⟩
    case rest =>
      obtain ⟨s, k, V, E, vl', k', V', E', hCA⟩ := hcut
      obtain ⟨hD, hTwo, hWas, hIs, hg6, hb6⟩ := hCA
      clear hD5 hSt5 hRS5 hg5 hbE hr hf
      have HRS := diskRestart_any wc B p 112 s keep hD
      have hTw := hTwo keep
      clear hTwo hD
      go_wp2_with fail
      refine (show Calls _ _ _ _ _ from HRS).mono ?_
      rintro e w7 ⟨rfl, hD7, hS7⟩
      clear HRS
      have hWas7 := hWas.spun (hS7.mono hB1)
      have hIs7 := hIs.spun (hS7.mono hB1)
      have hb7 := hb6.trans (hS7.below.mono hB1)
      have hl7 : (s.again keep).left = -1 := rfl
      clear hWas hIs hb6 hg6 hS7
      generalize s.again keep = s7 at *
      obtain ⟨Es, ks, hSt7, hWhich⟩ : ∃ Es ks, Stands s7 112 Es ks ∧ Hid ((Es = E ∧ ks = k) ∨ (Es = E' ∧ ks = k')) := by
        rcases hTw with h | h
        · exact ⟨E, k, h, .inl ⟨rfl, rfl⟩⟩
        · exact ⟨E', k', h, .inr ⟨rfl, rfl⟩⟩
      have HO := open_any w7 B p 112 s7 Es ks hD7 hSt7 (hE.later hb7)
      go_wp2_with fail
      refine (show Calls _ _ _ _ _ from HO).mono ?_
      rintro e w8 ⟨g8, rfl, _, hg8, hb8⟩
      clear HO hTw
      have hD8 := hD7.later hb8
      have hb8' := hb7.trans (hb8.mono hb7.size)
      have hWas8 := hWas7.later hb7.size hb8
      have hIs8 := hIs7.later hb7.size hb8
      have HAL := all_any w8 B p 112 g8 s7 Es ks hD8 hSt7 hg8 (hE.later hb8')
      clear hD7 hWas7 hIs7 hb8 hb7
      go_wp2_with fail
      refine (show Calls _ _ _ _ _ from HAL).mono ?_
      rintro e w9 ⟨vg, Vg, Eg, rfl, hEg, hSg, hb9⟩
      clear HAL
      have hD9 := hD8.later hb9
      have hg9 := hg8.later hb9
      have hb9' := hb8'.trans (hb9.mono hb8'.size)
      have hWas9 := hWas8.later hb8'.size hb9
      have hIs9 := hIs8.later hb8'.size hb9
      clear hD8 hg8 hWas8 hIs8 hb9 hb8'
      obtain ⟨ag, cg, rfl, hRg⟩ := hEg.ents
      obtain ⟨aw, cw, hvw, hRw⟩ := hWas9.ents
      obtain ⟨ai, ci, hvi, hRi⟩ := hIs9.own.ents
      subst hvw
      have mc9 := hIs9.cell
      rw [hvi] at mc9
      have hk3 := hSt7.good.few
      have hOkg : ∀ i, i < ks → EntOk (Eg i) := fun i hi => entOk ((hSg i hi).symm.line (hSt7.good.ok i hi)).1
      have hszg : ∀ i, i < ks → (Eg i).nP ≤ 1000000 ∧ (Eg i).nQ ≤ 1000000 := fun i hi => by have h1 := (hOkg i hi).nP; have h2 := (hOkg i hi).nQ; omega
      have HTRUE : ∀ W (a2 : Option Addr) (c2 : Nat) (V2 : Nat → EntV) (hb : Below w9.heap.size w9 W) (hR2 : EntsRow W a2 ks V2 Es), Calls Tryz.prog 16 #[.slice ag ks cg, .slice a2 ks c2] W fun e w' => e = .returned (.bool true) ∧ Below W.heap.size W w' := fun W a2 c2 V2 hb hR2 =>
        sameShelf_true W ag a2 ks cg c2 Vg V2 Eg Es (by omega) (hRg.later hb) hR2 hSg (fun i hi => by have h1 := (hSt7.good.ent hi).nP; have h2 := (hSt7.good.ent hi).nQ; omega)
      go_upto_region 32 with fail
      go_cut [131] from 119 to 131 (fun y wc => y = .bool false ∧ Below w9.heap.size w9 wc)
      case first =>
        rcases hWhich.out with ⟨e1, e2⟩ | ⟨e1, e2⟩
        · subst e1
          subst e2
          have HS1 := HTRUE w9 aw cw V (Below.refl _ _) hRw
          clear HTRUE hOkg hszg hRg hRw hRi mc9 hWhich
          go_wp2_with fail
          refine (show Calls _ _ _ _ _ from HS1).mono ?_
          rintro e w10 ⟨rfl, hb10⟩
          clear HS1
          go_wp2
          go_meet
          exact ⟨rfl, hb10⟩
        · subst e1
          subst e2
          have HS1 := sameShelf_some w9 ag aw ks k cg cw Vg V Eg E (by omega) hRg hRw hszg
          clear hOkg hszg hRg hRw hWhich
          go_wp2_with fail
          refine (show Calls _ _ _ _ _ from HS1).mono ?_
          rintro e w10 ⟨⟨bb, rfl⟩, hb10⟩
          clear HS1
          cases bb with
          | true =>
            clear HTRUE
            go_wp2
            go_meet
            exact ⟨rfl, hb10⟩
          | false =>
            have HS2 := HTRUE w10 ai ci V' hb10 (hRi.later hb10)
            have mc10 := cell_later hb10 mc9
            clear HTRUE hRi mc9
            go_wp2_with fail
            refine (show Calls _ _ _ _ _ from HS2).mono ?_
            rintro e w11 ⟨rfl, hb11⟩
            clear HS2
            go_wp2
            go_meet
            exact ⟨rfl, hb10.trans (hb11.mono hb10.size)⟩
      case rest =>
        obtain ⟨rfl, hbc⟩ := hcut
        have hRgc := hRg.later hbc
        have hDc := hD9.later hbc
        have hgc := hg9.later hbc
        have hbC := hb9'.trans (hbc.mono hb9'.size)
        clear HTRUE hRg hRw hRi mc9 hD9 hg9 hWhich hWas9 hIs9 hvi hszg hEg hbc hb9'
        go_upto_region 35 with fail
        have hbS : Below wc.heap.size wc (wc.alloc (.cells #[.string ⟨#[122, 122]⟩, .int .i64 9, .int .i64 0] 54)) := (Below.refl _ _).alloc (Nat.le_refl _) _
        have hbT : Below wc.heap.size wc ((wc.alloc (.cells #[.string ⟨#[122, 122]⟩, .int .i64 9, .int .i64 0] 54)).alloc (.cells #[.string ⟨#[122, 122]⟩, .slice (some ⟨wc.heap.size, 0, none⟩) 1 1, .slice none 0 0] 40)) := hbS.alloc (by simp) _
        have hbl : ((wc.alloc (.cells #[.string ⟨#[122, 122]⟩, .int .i64 9, .int .i64 0] 54)).alloc (.cells #[.string ⟨#[122, 122]⟩, .slice (some ⟨wc.heap.size, 0, none⟩) 1 1, .slice none 0 0] 40)).heap[wc.heap.size + 1]? = some (.cells #[.string ⟨#[122, 122]⟩, .slice (some ⟨wc.heap.size, 0, none⟩) 1 1, .slice none 0 0] 40 (0, 0)) := two_new1 _ _ _
        have hLon : ∀ root, EntIn ((wc.alloc (.cells #[.string ⟨#[122, 122]⟩, .int .i64 9, .int .i64 0] 54)).alloc (.cells #[.string ⟨#[122, 122]⟩, .slice (some ⟨wc.heap.size, 0, none⟩) 1 1, .slice none 0 0] 40)) (wc.heap.size + 1) ⟨some ⟨wc.heap.size, 0, none⟩, 1, none, 0⟩ (lonE root ⟨#[122, 122]⟩ 9) := fun root => by
          have h1 := (lon_at wc root ⟨#[122, 122]⟩ 9 1).within
          have h2 := h1.keeps (Keeps.of_below (Nat.le_refl _) ((Below.refl _ _).alloc (Nat.le_refl _) (.cells #[.string ⟨#[122, 122]⟩, .slice (some ⟨wc.heap.size, 0, none⟩) 1 1, .slice none 0 0] 40)))
          rw [World.size_alloc] at h2
          exact h2
        generalize hWT : (wc.alloc (.cells #[.string ⟨#[122, 122]⟩, .int .i64 9, .int .i64 0] 54)).alloc (.cells #[.string ⟨#[122, 122]⟩, .slice (some ⟨wc.heap.size, 0, none⟩) 1 1, .slice none 0 0] 40) = W2 at *
        have c0 : W2.cell? ⟨wc.heap.size + 1, 0, none⟩ = some (.string ⟨#[122, 122]⟩) := by simp [World.cell?, hbl]
        have c1 : W2.cell? ⟨wc.heap.size + 1, 1, none⟩ = some (.slice (some ⟨wc.heap.size, 0, none⟩) 1 1) := by simp [World.cell?, hbl]
        have c2 : W2.cell? ⟨wc.heap.size + 1, 2, none⟩ = some (.slice none 0 0) := by simp [World.cell?, hbl]
        have f0 : W2.frozen? ⟨wc.heap.size + 1, 0, none⟩ = false := by simp [World.frozen?, hbl]
        by_cases hk3' : ks = 3
        · subst hk3'
          have hOk0 := hOkg 0 (by decide)
          have hfind : findF Es (Eg 0).root 3 0 = 0 := findF_hit (by decide) (hSg 0 (by decide)).root.symm
          rcases hRgc.later hbT with h0 | ⟨bk, o, rfl, hc⟩
          · cases h0
          have y0 := (hc 0 (by decide)).c0
          rw [Nat.zero_mul, Nat.add_zero] at y0
          have hne : bk ≠ wc.heap.size + 1 := by
            rcases hRgc with h0 | ⟨bk', o', ha', hc'⟩
            · cases h0
            · injection ha' with ha'
              injection ha' with e1 _
              have := World.block_lt_of_cell? _ _ (hc' 0 (by decide)).c0
              rw [e1]
              intro e
              simp at this
              omega
          generalize hrt : (Eg 0).root = rt at *
          have hEok : entF (lonE rt ⟨#[122, 122]⟩ 9) = 0 := lon_ok (by rw [← hrt]; exact hOk0.root) (by decide +kernel) (by decide) (by decide)
          have hz : (putE Es 3 (lonE rt ⟨#[122, 122]⟩ 9)).1 = 0 := by rw [putE_set (i := 0) hEok hfind]
          have hLs := ((hLon rt).keeps (Keeps.set (i := 0) hbl (by decide) (Nat.le_refl _) (.string rt))).here
          have hbW := (hbC.trans (hbT.mono hbC.size)).setCell (p := ⟨wc.heap.size + 1, 0, none⟩) (by have := hbC.size; simp; omega) (.string rt)
          have hDW := (hDc.later hbT).set (i := 0) hbl (by decide) (.string rt)
          have hgW : ShelfAt (W2.setCell ⟨wc.heap.size + 1, 0, none⟩ (.string rt)) g8 p := (Below.heap_setCell _ _ _ _ (by have := hgc.lt; show g8 ≠ wc.heap.size + 1; omega)).trans (hgc.later hbT)
          have HPU := put_any _ B p 112 g8 s7 Es 3 _ _ hDW hSt7 hgW (hE.later hbW) hLs (entOk hEok).fit
          unfold entCs lonE at HPU
          dsimp only at HPU
          generalize hE3 : (⟨rt, 1, fun _ => ⟨#[122, 122]⟩, fun _ => 9, fun _ => 0, 0, fun _ => 0, fun _ => 0, fun _ => 0⟩ : EntF) = en3 at HPU
          have he3 : en3 = lonE rt ⟨#[122, 122]⟩ 9 := hE3.symm
          rw [he3] at HPU
          clear hE3 he3 hc hRgc hfind hLs hLon hOk0 hOkg
          go_wp2_with fail
          refine (show Calls _ _ _ _ _ from HPU).mono ?_
          rintro e w10 ⟨s10, hPE, hD10, hS10⟩
          clear HPU
          have hg10 := hgW.spun hS10
          have hb10 := hbW.trans (hS10.below.mono hB1)
          generalize hrr : putE Es 3 (lonE rt ⟨#[122, 122]⟩ 9) = r at *
          cases hPE with
          | bad h _ => exact absurd hz h
          | keep _ h hk =>
            cases hk with
            | fell hl' _ => exact absurd hl7 hl'
            | ok hSt10 _ =>
              have HO := open_any w10 B p 112 s10 r.2.1 r.2.2 hD10 hSt10 (hE.later hb10)
              go_wp2_with fail
              refine (show Calls _ _ _ _ _ from HO).mono ?_
              rintro e w11 ⟨g11, rfl, _, hg11, hb11⟩
              clear HO
              have hb11' := hb10.trans (hb11.mono hb10.size)
              have hD11 := hD10.later hb11
              have hgt11 := hg10.later hb11
              have HAU := all_any w11 B p 112 g11 s10 r.2.1 r.2.2 hD11 hSt10 hg11 (hE.later hb11')
              go_wp2_with fail
              refine (show Calls _ _ _ _ _ from HAU).mono ?_
              rintro e w12 ⟨vu, Vu, Eu, rfl, hEu, hSu, hb12⟩
              clear HAU
              obtain ⟨au, cu, rfl, hRu⟩ := hEu.ents
              have hb12' := hb11'.trans (hb12.mono hb11'.size)
              have HAT := all_any w12 B p 112 g8 s10 r.2.1 r.2.2 (hD11.later hb12) hSt10 (hgt11.later hb12) (hE.later hb12')
              clear hEu
              go_wp2_with fail
              refine (show Calls _ _ _ _ _ from HAT).mono ?_
              rintro e w13 ⟨vt, Vt, Et, rfl, hEt, hSt13, hb13⟩
              clear HAT
              obtain ⟨at', ct, rfl, hRt⟩ := hEt.ents
              have hb13' := hb12'.trans (hb13.mono hb12'.size)
              have hk13 := hSt10.good.few
              have HSS := sameShelf_true w13 au at' r.2.2 cu ct Vu Vt Eu Et (by omega) (hRu.later hb13) hRt (fun i hi => (hSu i hi).trans (hSt13 i hi).symm) (fun i hi => by
                have h0 := entOk ((hSt13 i hi).symm.line (hSt10.good.ok i hi)).1
                have h1 := h0.nP
                have h2 := h0.nQ
                omega)
              clear hEt hRt hRu
              go_wp2_with fail
              refine (show Calls _ _ _ _ _ from HSS).mono ?_
              rintro e w14 ⟨rfl, hb14⟩
              clear HSS
              go_wp2
              go_ret
              exact ⟨rfl, hb13'.trans (hb14.mono hb13'.size)⟩
        · have hkn : ((ks : Int) == 3) = false := by simp; omega
          have hEok : entF (lonE ⟨#[122, 122]⟩ ⟨#[122, 122]⟩ 9) = 0 := lon_ok (by decide +kernel) (by decide +kernel) (by decide) (by decide)
          obtain ⟨rt, hrt⟩ : ∃ rt : ByteArray, rt = ⟨#[122, 122]⟩ := ⟨_, rfl⟩
          have hz : (putE Es ks (lonE rt ⟨#[122, 122]⟩ 9)).1 = 0 := by
            subst hrt
            by_cases hng : findF Es (lonE ⟨#[122, 122]⟩ ⟨#[122, 122]⟩ 9).root ks 0 < 0
            · rw [putE_add hEok hng hk3']
            · obtain ⟨j, _, _, _, hfj⟩ := findF_some _ 0 rfl (show 0 ≤ findF Es (lonE ⟨#[122, 122]⟩ ⟨#[122, 122]⟩ 9).root ks 0 by omega)
              rw [putE_set hEok hfj]
          have hbW := hbC.trans (hbT.mono hbC.size)
          have hgW := hgc.later hbT
          have HPU := put_any W2 B p 112 g8 s7 Es ks _ _ (hDc.later hbT) hSt7 hgW (hE.later hbW) (hLon ⟨#[122, 122]⟩).here (entOk hEok).fit
          rw [show lonE ⟨#[122, 122]⟩ ⟨#[122, 122]⟩ 9 = lonE rt ⟨#[122, 122]⟩ 9 by rw [hrt]] at HPU
          generalize hrr0 : putE Es ks (lonE rt ⟨#[122, 122]⟩ 9) = r at HPU hz
          clear hrr0
          unfold entCs at HPU
          rw [show (lonE rt ⟨#[122, 122]⟩ 9).root = ⟨#[122, 122]⟩ from hrt] at HPU
          dsimp only [lonE] at HPU
          clear hRgc hLon hOkg hrt
          go_wp2_with fail
          refine (show Calls _ _ _ _ _ from HPU).mono ?_
          rintro e w10 ⟨s10, hPE, hD10, hS10⟩
          clear HPU
          have hg10 := hgW.spun hS10
          have hb10 := hbW.trans (hS10.below.mono hB1)
          cases hPE with
          | bad h _ => exact absurd hz h
          | keep _ h hk =>
            cases hk with
            | fell hl' _ => exact absurd hl7 hl'
            | ok hSt10 _ =>
              have HO := open_any w10 B p 112 s10 r.2.1 r.2.2 hD10 hSt10 (hE.later hb10)
              go_wp2_with fail
              refine (show Calls _ _ _ _ _ from HO).mono ?_
              rintro e w11 ⟨g11, rfl, _, hg11, hb11⟩
              clear HO
              have hb11' := hb10.trans (hb11.mono hb10.size)
              have hD11 := hD10.later hb11
              have hgt11 := hg10.later hb11
              have HAU := all_any w11 B p 112 g11 s10 r.2.1 r.2.2 hD11 hSt10 hg11 (hE.later hb11')
              go_wp2_with fail
              refine (show Calls _ _ _ _ _ from HAU).mono ?_
              rintro e w12 ⟨vu, Vu, Eu, rfl, hEu, hSu, hb12⟩
              clear HAU
              obtain ⟨au, cu, rfl, hRu⟩ := hEu.ents
              have hb12' := hb11'.trans (hb12.mono hb11'.size)
              have HAT := all_any w12 B p 112 g8 s10 r.2.1 r.2.2 (hD11.later hb12) hSt10 (hgt11.later hb12) (hE.later hb12')
              clear hEu
              go_wp2_with fail
              refine (show Calls _ _ _ _ _ from HAT).mono ?_
              rintro e w13 ⟨vt, Vt, Et, rfl, hEt, hSt13, hb13⟩
              clear HAT
              obtain ⟨at', ct, rfl, hRt⟩ := hEt.ents
              have hb13' := hb12'.trans (hb13.mono hb12'.size)
              have hk13 := hSt10.good.few
              have HSS := sameShelf_true w13 au at' r.2.2 cu ct Vu Vt Eu Et (by omega) (hRu.later hb13) hRt (fun i hi => (hSu i hi).trans (hSt13 i hi).symm) (fun i hi => by
                have h0 := entOk ((hSt13 i hi).symm.line (hSt10.good.ok i hi)).1
                have h1 := h0.nP
                have h2 := h0.nQ
                omega)
              clear hEt hRt hRu
              go_wp2_with fail
              refine (show Calls _ _ _ _ _ from HSS).mono ?_
              rintro e w14 ⟨rfl, hb14⟩
              clear HSS
              go_wp2
              go_ret
              exact ⟨rfl, hb13'.trans (hb14.mono hb13'.size)⟩
end Go.Proofs.YtphabchelllhpaaGreatDoor

