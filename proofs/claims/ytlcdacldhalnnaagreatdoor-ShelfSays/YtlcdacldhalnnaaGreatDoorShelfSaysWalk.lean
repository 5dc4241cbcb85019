/-
  The law ShelfSays returns true, for every number of sectors and every row of acts; memory that was there stays as it was.
-/
import Derived.Test.YtlcdacldhalnnaaGreatDoorFaceNone
import Derived.Test.YtlcdacldhalnnaaGreatDoorRefGets
import Derived.Test.YtlcdacldhalnnaaGreatDoorActsBoth
import Derived.Test.YtlcdacldhalnnaaGreatDoorSameAll
import Derived.Test.YtlcdacldhalnnaaGreatDoorEarly
import Derived.Deep.CutBlock
namespace Go.Proofs.YtlcdacldhalnnaaGreatDoor
open Go.RowKit

theorem PutEnd.calm {s : DSt} {n : Nat} {E : Nat → EntF} {k : Nat} {r : Nat × (Nat → EntF) × Nat} {s' : DSt} {e : Ending} (h : PutEnd s n E k r s' e) (hS : Stands s n E k) (hl : s.left = -1) (hk : r.1 ≠ 0 → r.2 = (E, k)) : e = .returned (errV r.1) ∧ s'.left = -1 ∧ Stands s' n r.2.1 r.2.2 := by
  cases h with
  | bad h hs => subst hs; rw [hk h]; exact ⟨rfl, hl, hS⟩
  | keep _ h hk' =>
    cases hk' with
    | fell hl' _ => exact absurd hl hl'
    | ok hSt hl2 => exact ⟨by rw [h]; rfl, hl2 hl, hSt⟩
theorem getE_small {E : Nat → EntF} {k : Nat} (root : ByteArray) (h : ShelfOk E k) : (getE E k root).2.nP ≤ 1000 ∧ (getE E k root).2.nQ ≤ 1000000 := by
  unfold getE
  split
  · exact ⟨by decide, by decide⟩
  · obtain ⟨j, _, hj, _, hfj⟩ := findF_some _ 0 rfl (show 0 ≤ findF E root k 0 by omega)
    rw [hfj]
    have h1 := (h.ent hj).nP
    have h2 := (h.ent hj).nQ
    exact ⟨show (E j).nP ≤ 1000 by omega, show (E j).nQ ≤ 1000000 by omega⟩
theorem roots_row {w : World} {B k : Nat} {v : Value} {E : Nat → EntF} (h : w.ownsRow B 9 1 v k (joinC (rootC E) k)) : ∃ a c, v = .slice a k c ∧ RowAt w a k fun i => .string (E i).root := by
  obtain ⟨a, c, e, hr⟩ := rowsR h
  exact ⟨a, c, e, hr.imp id fun ⟨bk, ha, hc⟩ => ⟨bk, 0, ha, fun i hi => by rw [Nat.zero_add]; exact hc i hi⟩⟩
set_option maxRecDepth 100000 in
set_option maxHeartbeats 4000000 in
theorem shelves_any (w : World) (hE : Env w) :
    Calls Tryz.prog 4 #[] w fun e w' => e = .returned (.bool true) ∧ Below w.heap.size w w' := by
  have HS := lawShelved_any w (fun _ => emptyE) hE
  go_enter Tryz.func4, Tryz.ntmps4
  go_wp2_with fail
  refine (show Calls _ _ _ _ _ from HS).mono ?_
  rintro e w1 ⟨p, g, rfl, hge, hg, ⟨s, hD, hSt, hl⟩, hb1⟩
  clear HS
  have hbx : Below w1.heap.size w1 (w1.alloc (.cells #[.string ⟨#[97]⟩, .int .i64 1, .int .i64 0] 60)) := (Below.refl _ _).alloc (Nat.le_refl _) _
  have hA := lon_at w1 ⟨#[97]⟩ ⟨#[97]⟩ 1 1
  have hok : entF (lonE ⟨#[97]⟩ ⟨#[97]⟩ 1) = 0 := lon_ok (by decide +kernel) (by decide +kernel) (by decide) (by decide)
  have hb2 := hb1.trans (hbx.mono hb1.size)
  have HPU := put_any _ w.heap.size p 112 g s (fun _ => emptyE) 0 _ _ (hD.later hbx) hSt (hg.later hbx) (hE.later hb2) hA (entOk hok).fit
  have er : putE (fun _ => emptyE) 0 (lonE ⟨#[97]⟩ ⟨#[97]⟩ 1) = (0, addV (fun _ => emptyE) 0 (lonE ⟨#[97]⟩ ⟨#[97]⟩ 1), 1) := putE_add hok (by rw [findF_end (by decide)]; decide) (by decide)
  rw [er] at HPU
  unfold entCs at HPU
  go_wp2_with fail
  refine (show Calls _ _ _ _ _ from HPU).mono ?_
  rintro e w3 ⟨s', hPE, hD3, hS3⟩
  clear HPU
  cases hPE with
  | bad h _ => exact absurd rfl h
  | keep _ _ hk =>
    cases hk with
    | fell hl' _ => exact absurd hl hl'
    | ok hSt3 hl3 =>
      have hg3 := (hg.later hbx).spun hS3
      have hb3 := hb2.trans hS3.below
      have HO := open_any w3 w.heap.size p 112 s' _ 1 hD3 hSt3 (hE.later hb3)
      go_wp2_with fail
      refine (show Calls _ _ _ _ _ from HO).mono ?_
      rintro e w4 ⟨g4, rfl, _, hg4, hb4⟩
      clear HO
      have hb5 := hb3.trans (hb4.mono hb3.size)
      have hD4 := hD3.later hb4
      have HG := get_any w4 w.heap.size p 112 g4 s' _ 1 ⟨#[97]⟩ hD4 hSt3 hg4 (hE.later hb5)
      have eg : getE (addV (fun _ => emptyE) 0 (lonE ⟨#[97]⟩ ⟨#[97]⟩ 1)) 1 ⟨#[97]⟩ = (true, lonE ⟨#[97]⟩ ⟨#[97]⟩ 1) := by
        have ef : findF (addV (fun _ => emptyE) 0 (lonE ⟨#[97]⟩ ⟨#[97]⟩ 1)) ⟨#[97]⟩ 1 0 = ((0 : Nat) : Int) := findF_first (by decide) rfl (fun i hi => absurd hi (Nat.not_lt_zero _))
        unfold getE
        rw [ef, if_neg (by decide)]
        rfl
      rw [eg] at HG
      dsimp only at HG
      unfold entCs at HG
      go_wp2_with fail
      refine (show Calls _ _ _ _ _ from HG).mono ?_
      rintro e w5 ⟨v, en, rfl, hSm, _, hb6⟩
      clear HG
      have hroot : en.root = ⟨#[97]⟩ := hSm.root
      have hb' : (en.root.toList == [97]) = true := by rw [hroot, ByteArray.toList_eq]; rfl
      have hbn : Below w5.heap.size w5 (w5.alloc (.cells #[.string en.root, .slice v.aP en.nP v.cP, .slice v.aQ en.nQ v.cQ] 43)) := (Below.refl _ _).alloc (Nat.le_refl _) _
      have hb7 := hb5.trans (hb6.mono hb5.size)
      have hb8 := hb7.trans (hbn.mono hb7.size)
      have HR := roots_any _ w.heap.size p 112 g4 s' _ 1 ((hD4.later hb6).later hbn) hSt3 ((hg4.later hb6).later hbn) (hE.later hb8)
      clear hroot hSm
      go_wp2_with fail
      refine (show Calls _ _ _ _ _ from HR).mono ?_
      rintro e w6 ⟨vr, rfl, hOw, hb9⟩
      clear HR
      obtain ⟨ar, cr, rfl, _⟩ := rowsR hOw
      go_wp2
      go_ret
      exact ⟨rfl, hb8.trans (hb9.mono hb8.size)⟩
/-- a shelf and the document's have the same entries. -/
structure SaysAt (w wr : World) (B p q m g : Nat) (s : DSt) (vl : Value) (k : Nat) (V : Nat → EntV) (E : Nat → EntF) : Prop where
  disk : Disk wr B p q s
  stands : Stands s q E k
  calm : s.left = -1
  ref : RShelf wr w.heap.size w.heap.size m vl k V E
  shelf : ShelfAt wr g p
  below : Below w.heap.size w wr
theorem SaysAt.later {w wr w' : World} {B p q m g : Nat} {s : DSt} {vl : Value} {k : Nat} {V : Nat → EntV} {E : Nat → EntF} (h : SaysAt w wr B p q m g s vl k V E) (hb : Below wr.heap.size wr w') : SaysAt w w' B p q m g s vl k V E :=
  ⟨h.disk.later hb, h.stands, h.calm, h.ref.later h.below.size hb, h.shelf.later hb, h.below.trans (hb.mono h.below.size)⟩
abbrev kPut : ByteArray := ⟨#[112, 117, 116]⟩
abbrev kDrop : ByteArray := ⟨#[100, 114, 111, 112]⟩
set_option maxRecDepth 100000 in
set_option maxHeartbeats 16000000 in
theorem shelfSays_walk (sectors : Int) (a : Option Addr) (n c : Nat) (X : Nat → ActF) (w : World) (hE : Env w) (hr : ActsRow w a n X) (hf : ∀ i, i < n → ActFit (X i)) :
    Calls Tryz.prog 3 #[.int .i64 sectors, .slice a n c] w fun e w' => e = .returned (.bool true) ∧ Below w.heap.size w w' := by
  have HC := shelves_any w hE
  go_enter Tryz.func3, Tryz.ntmps3
  go_wp2_with fail
  refine (show Calls _ _ _ _ _ from HC).mono ?_
  rintro e w1 ⟨rfl, hb1⟩
  clear HC
  have HL := lightActs_any a n c 40 X w1 (by decide) (hr.later hb1) hf
  go_wp2_with fail
  refine (show Calls _ _ _ _ _ from HL).mono ?_
  rintro e w2 ⟨⟨b, rfl, hlb⟩, hb2'⟩
  have hb2 := hb1.trans (hb2'.mono hb1.size)
  clear HL hb2' hb1
  cases b with
  | false =>
    clear hlb hr hf
    go_wp2
    go_ret
    exact ⟨rfl, hb2⟩
  | true =>
  obtain ⟨h40, _⟩ := hlb rfl
  clear hlb
  by_cases hs : sectors < 1 ∨ 120 < sectors
  · have HN := newDisk_bad w2 sectors hs
    have q1 : errV 1 = .iface 62 (.int .i64 1) := rfl
    have HSm := same_alike 1 w2
    rw [q1] at HN HSm
    have e1 : (((1 : Nat) : Int)) = 1 := rfl
    rw [e1] at HSm
    clear hr hf
    go_wp2_with fail
    refine (show Calls _ _ _ _ _ from HN).mono ?_
    rintro e w3 ⟨rfl, rfl⟩
    clear HN
    rcases hs with hs | hs
    · have hs' : ¬ 120 < sectors := by omega
      go_wp2_with fail
      refine (show Calls _ _ _ _ _ from HSm).mono ?_
      rintro e w5 ⟨rfl, rfl⟩
      clear HSm
      go_wp2
      go_ret
      exact ⟨rfl, hb2⟩
    · have hs' : ¬ sectors < 1 := by omega
      go_wp2_with fail
      refine (show Calls _ _ _ _ _ from HSm).mono ?_
      rintro e w5 ⟨rfl, rfl⟩
      clear HSm
      go_wp2
      go_ret
      exact ⟨rfl, hb2⟩
  obtain ⟨q, rfl⟩ := Int.eq_ofNat_of_zero_le (show 0 ≤ sectors by omega)
  have hq1 : 1 ≤ q := by omega
  have hq2 : q ≤ 120 := by omega
  have hs1 : ¬ ((q : Nat) : Int) < 1 := by omega
  have hs2 : ¬ 120 < ((q : Nat) : Int) := by omega
  have HN := diskNew_any w2 q hq1 hq2
  clear hs
  go_wp2_with fail
  refine (show Calls _ _ _ _ _ from HN).mono ?_
  rintro e w3 ⟨p, rfl, hD3, hb3⟩
  clear HN
  have hBw := hb2.size
  generalize w2.heap.size = B at *
  have hb3' := hb2.trans (hb3.mono hBw)
  have HO := open_none w3 B p q DSt.fresh hD3 hq1 (fresh_none hq1)
  rw [show errV 4 = .iface 62 (.int .i64 4) from rfl] at HO
  clear hb3 hb2
  go_wp2_with fail
  refine (show Calls _ _ _ _ _ from HO).mono ?_
  rintro e w4 ⟨rfl, hb4⟩
  clear HO
  have hD4 := hD3.later hb4
  have hb4' := hb3'.trans (hb4.mono hb3'.size)
  have HSm : Calls Tryz.prog 7 #[.iface 62 (.int .i64 4), .int .i64 4] w4 fun e w' => e = .returned (.bool true) ∧ w' = w4 := same_alike 4 w4
  clear hD3 hb4 hb3'
  go_wp2_with fail
  refine (show Calls _ _ _ _ _ from HSm).mono ?_
  rintro e w5 ⟨rfl, hw5⟩
  subst w5
  clear HSm
  by_cases hn : q < 112
  · have HF := format_full w4 B p q DSt.fresh hD4 hn
    rw [show errV 8 = .iface 62 (.int .i64 8) from rfl] at HF
    have HSm : Calls Tryz.prog 7 #[.iface 62 (.int .i64 8), .int .i64 8] w4 fun e w' => e = .returned (.bool true) ∧ w' = w4 := same_alike 8 w4
    have hn' : ((q : Nat) : Int) < 112 := by omega
    clear hr hf
    go_wp2_with fail
    refine (show Calls _ _ _ _ _ from HF).mono ?_
    rintro e w5 ⟨rfl, hw5⟩
    subst w5
    clear HF
    go_wp2_with fail
    refine (show Calls _ _ _ _ _ from HSm).mono ?_
    rintro e w5 ⟨rfl, hw5⟩
    subst w5
    clear HSm
    go_wp2
    go_ret
    exact ⟨rfl, hb4'⟩
  have hn' : ¬ ((q : Nat) : Int) < 112 := by omega
  have HF := format_any w4 B p q DSt.fresh (fun _ => emptyE) hD4 rfl (by omega) rfl
  go_wp2_with fail
  refine (show Calls _ _ _ _ _ from HF).mono ?_
  rintro e w5 ⟨rfl, ⟨s, hD5, hSt, hl⟩, hSp5⟩
  clear HF
  have hb5 := hb4'.trans (hSp5.below.mono hBw)
  have HO := open_any w5 B p q s (fun _ => emptyE) 0 hD5 hSt (hE.later hb5)
  clear hD4 hb4' hSp5
  go_wp2_with fail
  refine (show Calls _ _ _ _ _ from HO).mono ?_
  rintro e w6 ⟨g, rfl, _, hg6, hb6⟩
  clear HO
  have hD6 := hD5.later hb6
  have hb6' := hb5.trans (hb6.mono hb5.size)
  have hbx : Below w6.heap.size w6 (w6.alloc (.cells #[.slice none 0 0] 38)) := (Below.refl _ _).alloc (Nat.le_refl _) _
  have hbl : (w6.alloc (.cells #[.slice none 0 0] 38)).heap[w6.heap.size]? = some (.cells #[.slice none 0 0] 38 (0, 0)) := Array.getElem?_push_size
  have hS7 : SaysAt w (w6.alloc (.cells #[.slice none 0 0] 38)) B p q w6.heap.size g s (.slice none 0 0) 0 (fun _ => ⟨none, 0, none, 0⟩) (fun _ => emptyE) :=
    ⟨hD6.later hbx, hSt, hl, ⟨hbl, ⟨World.ownsRow_nil _ _ _ _, fun i hi => absurd hi (Nat.not_lt_zero _)⟩, by decide, fun i _ hi => absurd hi (Nat.not_lt_zero _)⟩, hg6.later hbx, hb6'.trans (hbx.mono hb6'.size)⟩
  have hBm : B ≤ w6.heap.size := hD6.base
  clear hD5 hSt hl hb5 hg6 hb6 hD6 hb6' hbx hbl hs1 hs2 hn hn'
  go_upto_block 0 with fail
  generalize w6.alloc (.cells #[.slice none 0 0] 38) = w7 at *
  generalize w6.heap.size = m at *
  go_wp2
  go_loopw [9, 12] (fun y9 y12 wr => ∃ (i g : Nat) (s : DSt) (vl : Value) (k : Nat) (V : Nat → EntV) (E : Nat → EntF), i ≤ n ∧ y12 = .int .i64 i ∧ y9 = .pointer (some ⟨g, 0, none⟩) ∧ SaysAt w wr B p q m g s vl k V E) (fun _ y12 _ => n - (intOf y12).toNat)
  case atStart => exact ⟨0, g, s, _, 0, _, _, Nat.zero_le _, rfl, rfl, hS7⟩
  case round =>
    clear hS7
    obtain ⟨i, g, s, vl, k, V, E, hi, rfl, rfl, hSA⟩ := hrel
    by_cases hlt : i < n
    · have hb := hSA.below
      have hr2 := hr.later hb
      rcases hr2 with h0 | ⟨bk, o, hao, hc⟩
      · omega
      have H := hc i hlt
      have hFit := (hf i hlt).ent
      have hEn0 : EntIn w w.heap.size (actV (X i)) (actE (X i)) := by
        rcases hr with h0 | ⟨bk', o', _, hc'⟩
        · omega
        · exact (hc' i hlt).ent.within
      subst hao
      generalize X i = x at *
      have d0 := H.c0
      have d1 := H.c1
      have d2 := H.c2
      have d3 := H.c3
      have d4 := H.c4
      have d5 := H.c5
      have d6 := H.c6
      have d7 := H.c7
      have hi0 : (0 : Int) ≤ (i : Int) := by omega
      have hi1 : (i : Int) < (n : Int) := by omega
      have hbA : Below wr.heap.size wr (wr.alloc (.cells (actCs x) 45)) := (Below.refl _ _).alloc (Nat.le_refl _) _
      have hCp : ActCopy (wr.alloc (.cells (actCs x) 45)) wr.heap.size x := ⟨heap_alloc_new _ _⟩
      have cK := hCp.c0
      have hSA1 := hSA.later hbA
      have hne : wr.heap.size ≠ m := by have := hSA.ref.lt; omega
      clear hc H hf hr hSA hbA hb
      go_upto_block 2 with fail
      clear d0 d1 d2 d3 d4 d5 d6 d7 cK
      generalize wr.alloc (.cells (actCs x) 45) = A1 at *
      generalize wr.heap.size = b8 at *
      go_cut [9, 14, 15, 16] from 84 to 164 (fun y9 y14 _ _ wc => ∃ (g : Nat) (s : DSt) (vl : Value) (k : Nat) (V : Nat → EntV) (E : Nat → EntF), y9 = .pointer (some ⟨g, 0, none⟩) ∧ y14 = .bool true ∧ SaysAt w wc B p q m g s vl k V E ∧ ActCopy wc b8 x)
      case first =>
        by_cases hk1 : x.kind = kPut
        · have e1 : (x.kind.toList == [112, 117, 116]) = true := by rw [hk1, ByteArray.toList_eq]; rfl
          have hSA2 := hSA1.later (Below.refl _ A1).drew
          have hCp2 := hCp.later (Below.refl _ A1).drew
          have hEn2 := hEn0.keeps (Keeps.of_below (Nat.le_refl _) hSA2.below)
          have HPU := put_any _ B p q g s E k (actV x) (actE x) hSA2.disk hSA2.stands hSA2.shelf (hE.later hSA2.below) hEn2.here hFit
          have HKEP : Hid ((putE E k (actE x)).1 ≠ 0 → (putE E k (actE x)).2 = (E, k)) := putE_kept
          have HREF := fun (W : World) (hW : RShelf W w.heap.size w.heap.size m vl k V E) (hEW : EntIn W w.heap.size (actV x) (actE x)) => refPut_any W w.heap.size w.heap.size m k _ V E (actV x) (actE x) hW (Nat.le_refl _) (Nat.le_trans hBw hBm) hEW hFit
          generalize hR0 : putE E k (actE x) = r at HPU HREF HKEP
          clear hR0
          unfold entCs actV actE at HPU HREF
          dsimp only at HPU HREF
          clear hk1 hSA1 hCp
          have mkS : ∀ W : World, ActCopy W b8 x → (fun w' : World => w'.cell? ⟨b8, 5, none⟩ = some (.string x.root) ∧ w'.cell? ⟨b8, 6, none⟩ = some (.slice x.pa x.pn x.pc) ∧ w'.cell? ⟨b8, 7, none⟩ = some (.slice x.qa x.qn x.qc)) W := fun W h => ⟨h.c5, h.c6, h.c7⟩
          have hSS := mkS _ hCp2
          go_upto_region 30 with fail
          refine wp_region_G (fun w' : World => w'.cell? ⟨b8, 5, none⟩ = some (.string x.root) ∧ w'.cell? ⟨b8, 6, none⟩ = some (.slice x.pa x.pn x.pc) ∧ w'.cell? ⟨b8, 7, none⟩ = some (.slice x.qa x.qn x.qc)) 7 10 (by kernel_rfl) rfl ?_
          generalize A1.drew = A2 at *
          refine takeW 0 (v := ?v1) rfl (by kernel_rfl) (by kernel_rfl) (by kernel_rfl) (by kernel_rfl) (fun _ _ _ h => h) (.inr hSS) (.inl ⟨by rfl, fun w => ?hy1⟩) ?rest1
          case hy1 => (go_simp <;> with_reducible rfl)
          simp only [Go.Act.put, List.setIfInBounds_toArray, List.set_cons_zero, List.set_cons_succ]
          refine takeW 1 (v := ?v2) rfl (by kernel_rfl) (by kernel_rfl) (by kernel_rfl) (by kernel_rfl) (fun _ _ _ h => h) (.inr hSS) (.inl ⟨by rfl, fun w => ?hy2⟩) ?rest2
          case hy2 => (go_simp <;> with_reducible rfl)
          simp only [Go.Act.put, List.setIfInBounds_toArray, List.set_cons_zero, List.set_cons_succ]
          refine takeW 4 (v := ?v3) rfl (by kernel_rfl) (by kernel_rfl) (by kernel_rfl) (by kernel_rfl) (fun _ _ _ h => h) (.inr hSS) (.inl ⟨by rfl, fun w => ?hy3⟩) ?rest3
          case hy3 => (go_simp <;> with_reducible rfl)
          simp only [Go.Act.put, List.setIfInBounds_toArray, List.set_cons_zero, List.set_cons_succ]
          refine takeW 5 (v := ?v4) rfl (by kernel_rfl) (by kernel_rfl) (by kernel_rfl) (by kernel_rfl) (fun _ _ _ h => h) (.inr hSS) (.inl ⟨by rfl, fun w => ?hy4⟩) ?rest4
          case hy4 => (go_simp <;> with_reducible rfl)
          simp only [Go.Act.put, List.setIfInBounds_toArray, List.set_cons_zero, List.set_cons_succ]
          refine takeR 2 [3] (v := ?v5) rfl (by kernel_rfl) (by kernel_rfl) (by kernel_rfl) (by kernel_rfl) (by kernel_rfl) (fun _ _ _ h => h) hSS (.inl ⟨by rfl, fun w hSw => ?hy5⟩) ?rest5
          case hy5 => ((try dsimp only at hSw); go_simp <;> with_reducible rfl)
          simp only [Go.Act.put, List.setIfInBounds_toArray, List.set_cons_zero, List.set_cons_succ]
          refine takeR 6 [] (v := ?v6) rfl (by kernel_rfl) (by kernel_rfl) (by kernel_rfl) (by kernel_rfl) (by kernel_rfl) (fun _ _ _ h => h) hSS (.inl ⟨by rfl, fun w hSw => ?hy6⟩) ?rest6
          case hy6 => ((try dsimp only at hSw); go_simp <;> with_reducible rfl)
          simp only [Go.Act.put, List.setIfInBounds_toArray, List.set_cons_zero, List.set_cons_succ]
          clear hSS
          refine onlyG 3 rfl (by kernel_rfl) (fun K hK => ?_)
          go_wp2_with fail
          refine (show Calls _ _ _ _ _ from HPU).mono ?_
          rintro e w6 ⟨s', hPE, hD6, hS6⟩
          clear HPU
          obtain ⟨he, hl6, hSt6⟩ := hPE.calm hSA2.stands hSA2.calm HKEP.out
          subst he
          have hRS6 := hSA2.ref.spun (hS6.mono hBw)
          have hb6 := hSA2.below.trans (hS6.below.mono hBw)
          have hg6 := hSA2.shelf.spun hS6
          have hCp6 := hCp2.spun hS6
          have HRF := HREF w6 hRS6 (hEn2.keeps ⟨fun q hq => hS6.below.block q (Nat.lt_of_lt_of_le hq hBw), (Keeps.of_spun hS6).kind⟩)
          have hSS6 := mkS _ hCp6
          clear HREF hSA2 hCp2 hEn2 hPE mkS HKEP
          go_wp2
          refine hK _ _ hSS6 ?_
          clear hK hSS6
          refine lastG 7 rfl (by kernel_rfl) (by kernel_rfl) (fun K hK => ?_)
          go_wp2_with fail
          refine (show Calls _ _ _ _ _ from HRF).mono ?_
          rintro e w7 ⟨rfl, ⟨vl', V', hR7⟩, hG7⟩
          clear HRF
          obtain ⟨hD7, hg7, hb7⟩ := both_end hBw hBm hRS6 hD6 hg6 hb6 hG7
          have hCp7 := hCp6.grown hG7 hne
          have HFIN : Hid (SaysAt w w7 B p q m g s' vl' r.2.2 V' r.2.1) := ⟨hD7, hSt6, hl6, hR7, hg7, hb7⟩
          have HSm := same_alike r.1 w7
          clear hRS6 hb6 hg6 hD6 hCp6 hG7 hD7 hSt6 hl6 hR7 hg7 hb7
          obtain ⟨rn, rE, rk⟩ := r
          dsimp only at HSm HFIN
          go_wp2
          refine hK _ _ ?_
          clear hK
          refine lastG 8 rfl (by kernel_rfl) (by kernel_rfl) (fun K hK => ?_)
          go_wp2_with fail
          refine (show Calls _ _ _ _ _ from HSm).mono ?_
          rintro e w8 ⟨rfl, hw8⟩
          subst w8
          clear HSm
          go_wp2
          refine hK _ _ ?_
          clear hK
          refine takeW 9 (v := ?v10) rfl (by kernel_rfl) (by kernel_rfl) (by kernel_rfl) (by kernel_rfl) (fun _ _ _ h => h) (.inl (by kernel_rfl)) (.inl ⟨by rfl, fun w => ?hy10⟩) ?rest10
          case hy10 => (go_simp <;> with_reducible rfl)
          simp only [Go.Act.put, List.setIfInBounds_toArray, List.set_cons_zero, List.set_cons_succ]
          refine doneG (by kernel_rfl) ?_ _
          go_wp2
          go_meet
          exact ⟨g, s', vl', rk, V', rE, rfl, rfl, HFIN.out, hCp7⟩
        have e1 : (x.kind.toList == [112, 117, 116]) = false := by have := kind_no hk1; rwa [show kPut.toList = [112, 117, 116] by rw [ByteArray.toList_eq]] at this
        by_cases hk2 : x.kind = kDrop
        · have e2 : (x.kind.toList == [100, 114, 111, 112]) = true := by rw [hk2, ByteArray.toList_eq]; rfl
          have hSA2 := hSA1.later (Below.refl _ A1).drew
          have hCp2 := hCp.later (Below.refl _ A1).drew
          have HPU := drop_any _ B p q g s E k x.s hSA2.disk hSA2.stands hSA2.shelf (hE.later hSA2.below)
          have HKEP : Hid ((dropE E k x.s).1 ≠ 0 → (dropE E k x.s).2 = (E, k)) := dropE_kept
          have HREF := fun (W : World) (hW : RShelf W w.heap.size w.heap.size m vl k V E) => refDrop_any W w.heap.size w.heap.size m k _ V E x.s hW (Nat.le_refl _) (Nat.le_trans hBw hBm)
          generalize hR0 : dropE E k x.s = r at HPU HREF HKEP
          clear hR0
          clear hk1 hk2 hSA1 hCp
          have mkS : ∀ W : World, ActCopy W b8 x → (fun w' : World => w'.cell? ⟨b8, 1, none⟩ = some (.string x.s)) W := fun W h => h.c1
          have hSS := mkS _ hCp2
          go_upto_region 32 with fail
          refine wp_region_G (fun w' : World => w'.cell? ⟨b8, 1, none⟩ = some (.string x.s)) 7 10 (by kernel_rfl) rfl ?_
          generalize A1.drew = A2 at *
          refine takeW 0 (v := ?v12) rfl (by kernel_rfl) (by kernel_rfl) (by kernel_rfl) (by kernel_rfl) (fun _ _ _ h => h) (.inr hSS) (.inl ⟨by rfl, fun w => ?hy12⟩) ?rest12
          case hy12 => (go_simp <;> with_reducible rfl)
          simp only [Go.Act.put, List.setIfInBounds_toArray, List.set_cons_zero, List.set_cons_succ]
          refine takeW 1 (v := ?v13) rfl (by kernel_rfl) (by kernel_rfl) (by kernel_rfl) (by kernel_rfl) (fun _ _ _ h => h) (.inr hSS) (.inl ⟨by rfl, fun w => ?hy13⟩) ?rest13
          case hy13 => (go_simp <;> with_reducible rfl)
          simp only [Go.Act.put, List.setIfInBounds_toArray, List.set_cons_zero, List.set_cons_succ]
          refine takeW 4 (v := ?v14) rfl (by kernel_rfl) (by kernel_rfl) (by kernel_rfl) (by kernel_rfl) (fun _ _ _ h => h) (.inr hSS) (.inl ⟨by rfl, fun w => ?hy14⟩) ?rest14
          case hy14 => (go_simp <;> with_reducible rfl)
          simp only [Go.Act.put, List.setIfInBounds_toArray, List.set_cons_zero, List.set_cons_succ]
          refine takeW 5 (v := ?v15) rfl (by kernel_rfl) (by kernel_rfl) (by kernel_rfl) (by kernel_rfl) (fun _ _ _ h => h) (.inr hSS) (.inl ⟨by rfl, fun w => ?hy15⟩) ?rest15
          case hy15 => (go_simp <;> with_reducible rfl)
          simp only [Go.Act.put, List.setIfInBounds_toArray, List.set_cons_zero, List.set_cons_succ]
          refine takeR 2 [3] (v := ?v16) rfl (by kernel_rfl) (by kernel_rfl) (by kernel_rfl) (by kernel_rfl) (by kernel_rfl) (fun _ _ _ h => h) hSS (.inl ⟨by rfl, fun w hSw => ?hy16⟩) ?rest16
          case hy16 => ((try dsimp only at hSw); go_simp <;> with_reducible rfl)
          simp only [Go.Act.put, List.setIfInBounds_toArray, List.set_cons_zero, List.set_cons_succ]
          refine takeR 6 [] (v := ?v17) rfl (by kernel_rfl) (by kernel_rfl) (by kernel_rfl) (by kernel_rfl) (by kernel_rfl) (fun _ _ _ h => h) hSS (.inl ⟨by rfl, fun w hSw => ?hy17⟩) ?rest17
          case hy17 => ((try dsimp only at hSw); go_simp <;> with_reducible rfl)
          simp only [Go.Act.put, List.setIfInBounds_toArray, List.set_cons_zero, List.set_cons_succ]
          clear hSS
          refine onlyG 3 rfl (by kernel_rfl) (fun K hK => ?_)
          go_wp2_with fail
          refine (show Calls _ _ _ _ _ from HPU).mono ?_
          rintro e w6 ⟨s', hPE, hD6, hS6⟩
          clear HPU
          obtain ⟨he, hl6, hSt6⟩ := hPE.calm hSA2.stands hSA2.calm HKEP.out
          subst he
          have hRS6 := hSA2.ref.spun (hS6.mono hBw)
          have hb6 := hSA2.below.trans (hS6.below.mono hBw)
          have hg6 := hSA2.shelf.spun hS6
          have hCp6 := hCp2.spun hS6
          have HRF := HREF w6 hRS6
          have hSS6 := mkS _ hCp6
          clear HREF hSA2 hCp2 hPE mkS HKEP
          go_wp2
          refine hK _ _ hSS6 ?_
          clear hK hSS6
          refine lastG 7 rfl (by kernel_rfl) (by kernel_rfl) (fun K hK => ?_)
          go_wp2_with fail
          refine (show Calls _ _ _ _ _ from HRF).mono ?_
          rintro e w7 ⟨rfl, ⟨vl', V', hR7⟩, hG7⟩
          clear HRF
          obtain ⟨hD7, hg7, hb7⟩ := both_end hBw hBm hRS6 hD6 hg6 hb6 hG7
          have hCp7 := hCp6.grown hG7 hne
          have HFIN : Hid (SaysAt w w7 B p q m g s' vl' r.2.2 V' r.2.1) := ⟨hD7, hSt6, hl6, hR7, hg7, hb7⟩
          have HSm := same_alike r.1 w7
          clear hRS6 hb6 hg6 hD6 hCp6 hG7 hD7 hSt6 hl6 hR7 hg7 hb7
          obtain ⟨rn, rE, rk⟩ := r
          dsimp only at HSm HFIN
          go_wp2
          refine hK _ _ ?_
          clear hK
          refine lastG 8 rfl (by kernel_rfl) (by kernel_rfl) (fun K hK => ?_)
          go_wp2_with fail
          refine (show Calls _ _ _ _ _ from HSm).mono ?_
          rintro e w8 ⟨rfl, hw8⟩
          subst w8
          clear HSm
          go_wp2
          refine hK _ _ ?_
          clear hK
          refine takeW 9 (v := ?v21) rfl (by kernel_rfl) (by kernel_rfl) (by kernel_rfl) (by kernel_rfl) (fun _ _ _ h => h) (.inl (by kernel_rfl)) (.inl ⟨by rfl, fun w => ?hy21⟩) ?rest21
          case hy21 => (go_simp <;> with_reducible rfl)
          simp only [Go.Act.put, List.setIfInBounds_toArray, List.set_cons_zero, List.set_cons_succ]
          refine doneG (by kernel_rfl) ?_ _
          go_wp2
          go_meet
          exact ⟨g, s', vl', rk, V', rE, rfl, rfl, HFIN.out, hCp7⟩
        have e2 : (x.kind.toList == [100, 114, 111, 112]) = false := by have := kind_no hk2; rwa [show kDrop.toList = [100, 114, 111, 112] by rw [ByteArray.toList_eq]] at this
        have HO := open_any A1 B p q s E k hSA1.disk hSA1.stands (hE.later hSA1.below)
        clear hk1 hk2
        go_wp2_with fail
        refine (show Calls _ _ _ _ _ from HO).mono ?_
        rintro e w6 ⟨g6, rfl, _, hg6, hb6⟩
        clear HO
        have HFIN : Hid (SaysAt w w6 B p q m g6 s vl k V E) := { hSA1.later hb6 with shelf := hg6 }
        have hCp6 := hCp.later hb6
        clear hSA1 hCp
        go_wp2
        go_meet
        exact ⟨g6, s, vl, k, V, E, rfl, rfl, HFIN.out, hCp6⟩
      case rest =>
        obtain ⟨g, s, vl, k, V, E, rfl, rfl, hS, hCp⟩ := hcut
        clear hSA1 hEn0 hFit
        have c1 := hCp.c1
        have HG := get_any wc B p q g s E k x.s hS.disk hS.stands hS.shelf (hE.later hS.below)
        have hSm2 := getE_small x.s hS.stands.good
        have HGR := fun W (hW : RShelf W w.heap.size w.heap.size m vl k V E) (hB : w.heap.size ≤ W.heap.size) => refGet_any W w.heap.size w.heap.size m k vl V E x.s hW hB
        generalize getE E k x.s = r at *
        obtain ⟨rb, re⟩ := r
        dsimp only at HG HGR hSm2
        have hbb : (rb != rb) = false := by simp
        unfold entCs at HG HGR
        go_wp2_with fail
        refine (show Calls _ _ _ _ _ from HG).mono ?_
        rintro e w8 ⟨v, en, rfl, hSm, hIn, hb8⟩
        clear HG c1
        have hS8 := hS.later hb8
        have hCp8 := hCp.later hb8
        have hbn : Below w8.heap.size w8 (w8.alloc (.cells #[.string en.root, .slice v.aP en.nP v.cP, .slice v.aQ en.nQ v.cQ] 43)) := (Below.refl _ _).alloc (Nat.le_refl _) _
        have x0 : (w8.alloc (.cells #[.string en.root, .slice v.aP en.nP v.cP, .slice v.aQ en.nQ v.cQ] 43)).cell? ⟨w8.heap.size, 0, none⟩ = some (.string en.root) := by simp [go_sem]
        have x1 : (w8.alloc (.cells #[.string en.root, .slice v.aP en.nP v.cP, .slice v.aQ en.nQ v.cQ] 43)).cell? ⟨w8.heap.size, 1, none⟩ = some (.slice v.aP en.nP v.cP) := by simp [go_sem]
        have x2 : (w8.alloc (.cells #[.string en.root, .slice v.aP en.nP v.cP, .slice v.aQ en.nQ v.cQ] 43)).cell? ⟨w8.heap.size, 2, none⟩ = some (.slice v.aQ en.nQ v.cQ) := by simp [go_sem]
        have hS9 := hS8.later hbn
        have c1 := (hCp8.later hbn).c1
        have hA9 := hIn.here.later hbn
        have HG2 := HGR _ hS9.ref hS9.below.size
        go_upto_region 34 with fail
        clear HGR hS8 hCp8 hIn hbn hb8 hS hCp
        generalize w8.alloc (.cells #[.string en.root, .slice v.aP en.nP v.cP, .slice v.aQ en.nQ v.cQ] 43) = w9 at *
        generalize w8.heap.size = b9 at *
        go_wp2_with fail
        refine (show Calls _ _ _ _ _ from HG2).mono ?_
        rintro e w10 ⟨v2, rfl, hA10, hb10⟩
        clear HG2 c1
        have hbn : Below w10.heap.size w10 (w10.alloc (.cells #[.string re.root, .slice v2.aP re.nP v2.cP, .slice v2.aQ re.nQ v2.cQ] 43)) := (Below.refl _ _).alloc (Nat.le_refl _) _
        have z0 : (w10.alloc (.cells #[.string re.root, .slice v2.aP re.nP v2.cP, .slice v2.aQ re.nQ v2.cQ] 43)).cell? ⟨w10.heap.size, 0, none⟩ = some (.string re.root) := by simp [go_sem]
        have z1 : (w10.alloc (.cells #[.string re.root, .slice v2.aP re.nP v2.cP, .slice v2.aQ re.nQ v2.cQ] 43)).cell? ⟨w10.heap.size, 1, none⟩ = some (.slice v2.aP re.nP v2.cP) := by simp [go_sem]
        have z2 : (w10.alloc (.cells #[.string re.root, .slice v2.aP re.nP v2.cP, .slice v2.aQ re.nQ v2.cQ] 43)).cell? ⟨w10.heap.size, 2, none⟩ = some (.slice v2.aQ re.nQ v2.cQ) := by simp [go_sem]
        have hb11 : Below w9.heap.size w9 (w10.alloc (.cells #[.string re.root, .slice v2.aP re.nP v2.cP, .slice v2.aQ re.nQ v2.cQ] 43)) := hb10.trans (hbn.mono hb10.size)
        have y0 := cell_later hb11 x0
        have y1 := cell_later hb11 x1
        have y2 := cell_later hb11 x2
        have hS11 := hS9.later hb11
        have HSE := sameE_true hSm v v2 _ hSm2.1 hSm2.2 (hA9.later hb11) (hA10.later hbn)
        unfold entCs at HSE
        go_upto_region 35 with fail
        clear hS9 hA9 hA10 hb10 hbn hb11 x0 x1 x2 hSm hSm2
        generalize w10.alloc (.cells #[.string re.root, .slice v2.aP re.nP v2.cP, .slice v2.aQ re.nQ v2.cQ] 43) = w11 at *
        generalize w10.heap.size = b11 at *
        go_wp2_with fail
        refine (show Calls _ _ _ _ _ from HSE).mono ?_
        rintro e w12 ⟨rfl, hb12⟩
        clear HSE y0 y1 y2 z0 z1 z2
        have hS12 := hS11.later hb12
        have HR1 := roots_any w12 B p q g s E k hS12.disk hS12.stands hS12.shelf (hE.later hS12.below)
        clear hS11 hb12
        go_wp2_with fail
        refine (show Calls _ _ _ _ _ from HR1).mono ?_
        rintro e w13 ⟨vr, rfl, hOw1, hb13⟩
        clear HR1
        have hS13 := hS12.later hb13
        obtain ⟨ar, cr, rfl, hRow1⟩ := roots_row hOw1
        have HR2 := refRoots_any w13 w.heap.size w.heap.size m k vl V E hS13.ref hS13.below.size
        clear hS12 hb13 hOw1
        go_wp2_with fail
        refine (show Calls _ _ _ _ _ from HR2).mono ?_
        rintro e w14 ⟨vs, rfl, hOw2, hb14⟩
        clear HR2
        have hS14 := hS13.later hb14
        obtain ⟨az, cz, rfl, hRow2⟩ := roots_row hOw2
        have hk3 := hS14.stands.good.few
        have HST := sameTexts_true _ _ k ar az cr cz w14 (by omega) (hRow1.later hb14) hRow2 (fun _ _ => rfl)
        clear hS13 hOw2 hb14 hRow1 hRow2
        go_wp2_with fail
        refine (show Calls _ _ _ _ _ from HST).mono ?_
        rintro e w15 ⟨rfl, kd, rfl⟩
        clear HST
        have hS15 := hS14.later (below_drewN (Below.refl _ w14) kd)
        clear hS14
        generalize w14.drewN kd = w15 at *
        go_wp2
        go_roundw
        case rel => exact ⟨i + 1, g, s, vl, k, V, E, by omega, by go_num, rfl, hS15⟩
        case measure => simp [intOf]; omega
    · obtain rfl : i = n := by omega
      have hb := hSA.below
      clear hSA hr hf
      go_wp2
      go_ret
      exact ⟨rfl, hb⟩
end Go.Proofs.YtlcdacldhalnnaaGreatDoor

