/-
  The law TopScope returns true, for every row of acts and every root; memory that was there stays as it was.
-/
import Derived.Test.YtanfejgcjifhpaaDoorScoped
import Derived.Test.YtanfejgcjifhpaaDoorSameObj
import Derived.Test.YtanfejgcjifhpaaDoorSameTx
import Derived.Deep.RegionLaw
import Derived.RegionTactic
import Derived.BigRegion
import Derived.Deep.RegionWith
import Derived.Deep.CutRange
import Derived.Deep.QuietTactic
import Derived.BigQuiet
import Derived.Test.YtanfejgcjifhpaaDoorQuietLater
namespace Go.Proofs.YtanfejgcjifhpaaDoor
open Go.RowKit Go.Maps

abbrev nameA : ByteArray := ⟨#[97]⟩
abbrev textA : ByteArray := ⟨#[119, 111, 114, 100, 32, 49, 10]⟩
theorem parseA : (parseF textA).1 = 0 ∧ (parseF textA).2.nN = 0 := by
  have ho : objF (addWord emptyO 1) = 0 := by decide
  have hl : textL (addWord emptyO 1) = [119, 111, 114, 100, 32, 49, 10] := by
    show (([] : List UInt8) ++ ([] ++ lineL false [[119, 111, 114, 100], Lib.itoa 1]) ++ [] ++ []) = _
    rw [itoa_one]
    rfl
  have he : textF (addWord emptyO 1) = (0, [119, 111, 114, 100, 32, 49, 10]) := by
    unfold textF
    rw [if_pos ho, hl, if_neg (by decide)]
  obtain ⟨h1, h2⟩ := parse_text (o := addWord emptyO 1) (t := textA) (by rw [he]) (by rw [he])
  exact ⟨h1, h2.nN⟩
theorem writeA : writeF (.map []) 0 nameA textA = 0 := by decide
/-- files with that one file. -/
abbrev filesA : DataW Unit := DataW.put (.map []) (keyB nameA) (fileD textA.data.toList ((0 : Nat) + 1))
theorem rdA {T : ByteArray → ByteArray} (hT : Texts filesA T) : rdD filesA T nameA = parseF textA := by
  have h1 : Maps.has filesA (keyB nameA) = true := has_put_same ⟨[], rfl⟩ (keyB_key nameA) _
  have h2 : filesA.atKey (keyB nameA) (fileD [] 0) = fileD textA.data.toList ((0 : Nat) + 1) := atKey_put_same ⟨[], rfl⟩ (keyB_key nameA) _ _
  have h3 := hT.is nameA textA _ h1 h2
  unfold rdD
  rw [if_pos h1, ← h3]
theorem ofA {T : ByteArray → ByteArray} (hT : Texts filesA T) : OfIs (rdD filesA T) nameA 0 1 ∧ namesAt (rdD filesA T) nameA 1 = [nameA] := by
  have e : rdD filesA T (nmAt (rdD filesA T) nameA 0) = parseF textA := rdA hT
  have hn : namesAt (rdD filesA T) nameA 1 = [nameA] := by
    show joinL [nameA] (needsTo (rdD filesA T (nmAt (rdD filesA T) nameA 0)).2 (rdD filesA T (nmAt (rdD filesA T) nameA 0)).2.nN) = [nameA]
    rw [e, parseA.2]
    rfl
  refine ⟨.ok 1 (fun j hj => ?_) (by rw [hn]; rfl), hn⟩
  have : j = 0 := by omega
  subst this
  exact ⟨by simp [namesAt], by rw [e]; exact parseA.1⟩
theorem closed_of (w : World) (p bm : Nat) (h : FilesAt w p bm filesA 1) (hE : Env w) :
    Calls Tryd.prog 15 #[.pointer (some ⟨p, 0, none⟩), .string nameA] w fun e w' => (∃ (a : Option Addr) (c : Nat) (x : Value), e = .returned (.tuple #[.slice a 1 c, x, .nilIface]) ∧ RowAt w' a 1 fun _ => .string nameA) ∧ Below w.heap.size w w' := by
  obtain ⟨T, hT⟩ := texts_some filesA
  obtain ⟨hO, hn⟩ := ofA hT
  refine (of_any w p bm filesA 1 T nameA h (Inv.put Inv.empty writeA) hT hE (by decide)).mono ?_
  rintro e w' ⟨he, hb⟩
  refine ⟨?_, hb⟩
  cases he with
  | bad F i h hf => exact absurd (h.unique hO).1 hf
  | ok i u x V h hu hx =>
    obtain ⟨_, rfl⟩ := h.unique hO
    rw [hn] at hu
    obtain ⟨a, c, rfl, _, hr⟩ := ownTx_row hu
    refine ⟨a, c, x, rfl, ?_⟩
    rcases hr with h0 | ⟨b, o, ha, hc⟩
    · cases h0
    · refine .inr ⟨b, o, ha, fun i hi => ?_⟩
      have : i = 0 := by omega
      subst this
      exact hc 0 (by decide)

/-- what stands of the object that was just read. -/
structure Loc (w8 wr : World) (bo : Nat) (v : ObjV) (o : ObjF) : Prop where
  below : Below w8.heap.size w8 wr
  c0 : wr.cell? ⟨bo, 0, none⟩ = some (.slice v.aN o.nN v.cN)
  row : RowAt wr v.aN o.nN fun i => .string (o.needs i)
theorem Loc.drewN {w8 wr : World} {bo : Nat} {v : ObjV} {o : ObjF} (h : Loc w8 wr bo v o) (k : Nat) : Loc w8 (wr.drewN k) bo v o :=
  ⟨below_drewN h.below _, by simpa using h.c0, h.row.drewN k⟩
theorem Loc.later {w8 wr w' : World} {bo : Nat} {v : ObjV} {o : ObjF} (h : Loc w8 wr bo v o) (hb : Below wr.heap.size wr w') : Loc w8 w' bo v o :=
  ⟨h.below.trans (hb.mono h.below.size), cell_later hb h.c0, h.row.later hb⟩
theorem undrewS {B : Nat} {w w' : World} (h : Below B w.drew w') : Below B w w' := ⟨h.os, h.tape, h.output, h.size, h.block⟩
/-- is it needed by one of the first k, ahead of it? -/
def wantB (nm : Nat → ByteArray) (O : Nat → ObjF) (i : Nat) : Nat → Bool := anyTo fun k => decide (k < i) && anyTo (fun q => decide ((O k).needs q = nm i)) (O k).nN
theorem wantB_yes {rd : ByteArray → Nat × ObjF} {root : ByteArray} {n : Nat} {nm : Nat → ByteArray} {O : Nat → ObjF} (h : Scoped rd root n nm O) {i : Nat} (hi : i < n) : (decide (i = 0) || wantB nm O i n) = true := by
  by_cases h0 : i = 0
  · simp [h0]
  · obtain ⟨k, q, hk, hq, e⟩ := h.want i (by omega) hi
    have : wantB nm O i n = true := anyTo_yes (k := k) (by omega) (by rw [Bool.and_eq_true]; exact ⟨decide_eq_true hk, anyTo_yes hq (decide_eq_true e)⟩)
    rw [this, Bool.or_true]
theorem needB_yes {rd : ByteArray → Nat × ObjF} {root : ByteArray} {n : Nat} {nm : Nat → ByteArray} {O : Nat → ObjF} (h : Scoped rd root n nm O) {i q : Nat} (hi : i < n) (hq : q < (O i).nN) : anyTo (fun k => decide (nm k = (O i).needs q)) n = true := by
  obtain ⟨k, hk, e⟩ := h.need i q hi hq
  exact anyTo_yes hk (decide_eq_true e)

set_option maxRecDepth 100000 in
set_option maxHeartbeats 8000000 in
theorem topScope_walk (a : Option Addr) (n c : Nat) (X : Nat → ActF) (root : ByteArray) (w : World) (hE : Env w) (hr : ActsRow w a n X) (hf : ∀ i, i < n → ActFit (X i)) :
    Calls Tryd.prog 5 #[.slice a n c, .string root] w fun e w' => e = .returned (.bool true) ∧ Below w.heap.size w w' := by
  have HN := new_any w
  go_enter Tryd.func5, Tryd.ntmps5
  go_wp2_with fail
  refine HN.mono ?_
  rintro e w1 ⟨p1, bm1, rfl, hp1, hbm1, hF1, hb⟩
  clear HN
  have HW := write_any w1 p1 bm1 (.map []) 0 nameA textA hF1 (by decide) (by decide)
  rw [writeA] at HW
  go_wp2_with fail
  refine HW.mono ?_
  intro e w2 hEnd
  have he := hEnd.e
  have q0 : errV 0 = .nilIface := rfl
  rw [q0] at he
  subst he
  have hF2 := hEnd.yes rfl
  have hb2 := hb.trans (hEnd.turned.below hb.size hp1 hbm1)
  have HO := closed_of w2 p1 bm1 hF2 (hE.later hb2)
  clear HW hEnd hF1 hb q0 hF2
  go_wp2_with fail
  refine HO.mono ?_
  rintro e w3 ⟨⟨a3, c3, x3, rfl, hr3⟩, hb3⟩
  have hbw := hb2.trans (hb3.mono hb2.size)
  have HS := fun (W : World) (hW : Below w3.heap.size w3 W) (a4 : Option Addr) (hr4 : RowAt W a4 1 fun _ => .string nameA) => sameTx_true (fun _ => nameA) (fun _ => nameA) 1 a3 a4 c3 1 W (by decide) (hr3.later hW) hr4 (fun _ _ => rfl)
  clear HO hb2 hb3 hr3
  go_wp2_with fail
  refine (HS _ ((Below.refl _ _).alloc (Nat.le_refl _) _) _ (.inr ⟨_, _, rfl, fun i hi => ?_⟩)).mono ?_
  · have : i = 0 := by omega
    subst this
    simp [go_sem]
  rintro e w4 ⟨rfl, kq, hw4⟩
  have hb4 : Below w.heap.size w w4 := by rw [hw4]; exact below_drewN (hbw.alloc hbw.size _) _
  clear HS hw4 hbw
  have HL := lightActs_any a n c 30 X w4 (by decide) (hr.later hb4) hf
  clear hf
  go_wp2_with fail
  refine HL.mono ?_
  rintro e w5 ⟨⟨b, rfl, hl⟩, hb5⟩
  have hb6 := hb4.trans (hb5.mono hb4.size)
  clear HL hb5 hb4
  cases b with
  | false =>
    clear hl hr
    go_wp2
    go_ret
    exact ⟨rfl, hb6⟩
  | true =>
    obtain ⟨h30, hsz⟩ := hl rfl
    clear hl
    by_cases hs : (20 : Int) < (root.size : Int)
    · go_wp2
      go_ret
      exact ⟨rfl, hb6⟩
    have hroot : root.size ≤ maxLen := by simp only [maxLen]; omega
    have HN := new_any w5
    go_wp2_with fail
    refine HN.mono ?_
    rintro e w6 ⟨p, bm, rfl, hp, hbm, hF, hb7⟩
    have hb8 := hb6.trans (hb7.mono hb6.size)
    have HD := done_any w6 p bm (.map []) 0 a n c X w.heap.size hF Inv.empty hb8.size (Nat.le_trans hb6.size hp) (Nat.le_trans hb6.size hbm) (by omega) (fun W hW => hr.later (hb8.trans hW)) hsz
    clear HN
    go_wp2_with fail
    refine HD.mono ?_
    rintro e w7 ⟨rfl, hF7, hT7⟩
    have hb9 := hb8.trans (hT7.below hb8.size (Nat.le_trans hb6.size hp) (Nat.le_trans hb6.size hbm))
    have hI7 := doneD_inv (X := X) (q := (.map [], 0)) Inv.empty n
    generalize (doneD (.map [], 0) X n).1 = D at *
    generalize (doneD (.map [], 0) X n).2 = k at *
    obtain ⟨T, hT⟩ := texts_some D
    have HO := of_any w7 p bm D k T root hF7 hI7.1 hT (hE.later hb9) hroot
    have hfew := rd_few (T := T) hI7.1
    clear HD hF hb7 hb8 hb6 hT7 hr hsz hp hbm
    go_wp2_with fail
    refine HO.mono ?_
    rintro e w8 ⟨he, hbA⟩
    have hbB := hb9.trans (hbA.mono hb9.size)
    clear HO
    cases he with
    | bad F i h hf =>
      obtain ⟨z, hz⟩ : ∃ z : Int, errV F = .iface 23 (.int .i64 z) := by
        cases F with
        | zero => exact absurd rfl hf
        | succ f => exact ⟨_, rfl⟩
      rw [hz]
      clear hz h hf hfew
      go_wp2
      go_ret
      exact ⟨rfl, hbB⟩
    | ok m u x V h hu hx =>
      obtain ⟨hS, hlen, hnm⟩ := scope_of h hfew
      have hok : ∀ j, j < m → ObjOk (rdD D T (nmAt (rdD D T) root j)).2 := fun j hj => rd_ok (by rw [hS.read j hj])
      obtain ⟨xa, xc, rfl, _, hrow⟩ := hx.own.row hx.at'
      obtain ⟨ua, uc, rfl, _, hur⟩ := ownTx_row hu
      rw [hlen] at hur ⊢
      have hm0 := hS.pos
      have hm6 := hS.few
      have hnames : ∃ bu ou, ua = some ⟨bu, ou, none⟩ ∧ ∀ j, j < m → w8.cell? ⟨bu, ou + j, none⟩ = some (.string (nmAt (rdD D T) root j)) := by
        rcases hur with h0 | ⟨bu, ou, ha, hc⟩
        · omega
        · exact ⟨bu, ou, ha, fun j hj => by rw [hc j hj]; show some (Value.string _) = _; rw [hnm j hj]⟩
      obtain ⟨bu, ou, rfl, hnc⟩ := hnames
      have hobjs : ∃ bx ox, xa = some ⟨bx, ox, none⟩ ∧ ∀ j, j < m → ObjHere w8 bx (ox + j * 4) (V j) (rdD D T (nmAt (rdD D T) root j)).2 := by
        rcases hrow with h0 | h
        · omega
        · exact h
      obtain ⟨bx, ox, rfl, hxc⟩ := hobjs
      have hF8 := hF7.later hbA
      have hE8 := hE.later hbB
      clear hu hur hrow hx h hlen hnm hfew hb9 hbA hF7 hI7
      have hrt : (root.toList != root.toList) = false := by simp
      have hn0 := hnc 0 hm0
      rw [hS.root] at hn0
      go_wp2
      clear hn0 hrt
      obtain ⟨O, hO⟩ : ∃ O : Nat → ObjF, O = fun j => (rdD D T (nmAt (rdD D T) root j)).2 := ⟨_, rfl⟩
      have hxc2 : ∀ j, j < m → ObjHere w8 bx (ox + j * 4) (V j) (O j) := fun j hj => by rw [hO]; exact hxc j hj
      have hok2 : ∀ j, j < m → ObjOk (O j) := fun j hj => by rw [hO]; exact hok j hj
      rw [← hO] at hS
      clear hxc hok hO
      generalize nmAt (rdD D T) root = nm at *
      have hnz : ∀ j, j < m → (nm j).size ≤ maxLen := fun j hj => by
        by_cases h0 : j = 0
        · subst h0; rw [hS.root]; exact hroot
        · obtain ⟨q, z, hq, hz, e⟩ := hS.want j (by omega) hj
          have h1 := nameF_len ((hok2 q (by omega)).needs z hz)
          rw [e] at h1
          have : (nm j).data.toList.length = (nm j).size := by simp
          simp only [maxLen]
          omega
      go_loopw [12] (fun y wr => ∃ i : Nat, i ≤ m ∧ y = .int .i64 i ∧ Below w8.heap.size w8 wr) (fun y _ => m - (intOf y).toNat)
      case atStart => exact ⟨0, Nat.zero_le _, rfl, Below.refl _ _⟩
      case round =>
        obtain ⟨i, hi, rfl, hbr⟩ := hrel
        by_cases hlt : i < m
        · have hci := cell_later hbr (hnc i hlt)
          have hRd := hS.read i hlt
          have hhas : Maps.has D (keyB (nm i)) = true := by
            cases e : Maps.has D (keyB (nm i)) with
            | true => rfl
            | false => unfold rdD at hRd; rw [if_neg (by simp [e])] at hRd; cases hRd
          have hpar : parseF (T (nm i)) = (0, O i) := by unfold rdD at hRd; rw [if_pos hhas] at hRd; exact hRd
          have HR := fileRead_any wr p bm D k (nm i) (hF8.later hbr) (hnz i hlt)
          go_wp2_with fail
          refine HR.mono ?_
          rintro e w9 ⟨⟨t, nst, f, rfl, hRI⟩, hb9⟩
          obtain ⟨rfl, ht⟩ := hRI.yes hhas
          obtain rfl := hT.is (nm i) t nst hhas ht
          have hbr9 := hbr.trans (hb9.mono hbr.size)
          have HP := parse_any (T (nm i)) w9 (hE8.later hbr9)
          rw [hpar] at HP
          dsimp only at HP
          have q0 : errV 0 = .nilIface := rfl
          rw [q0] at HP ⊢
          clear q0 HR hRI ht hRd hhas hpar hci
          go_wp2_with fail
          refine HP.mono ?_
          rintro e w10 ⟨⟨v, rfl, hA⟩, hb10⟩
          have hbr10 := hbr9.trans (hb10.mono hbr9.size)
          obtain ⟨aN, cN, aW, cW, aS, cS, aT, cT⟩ := v
          unfold ObjV.cells
          clear HP hb9 hb10 hbr9 hbr
          go_upto_region 21 with fail
          have hal : Below w10.heap.size w10 (w10.alloc (.cells #[.slice aN (O i).nN cN, .slice aW (O i).nW cW, .slice aS (O i).nS cS, .slice aT (O i).nT cT] 35)) := (Below.refl _ _).alloc (Nat.le_refl _) _
          have hAW := hA.later hal
          have hbW := hbr10.trans (hal.mono hbr10.size)
          have d0 : (w10.alloc (.cells #[.slice aN (O i).nN cN, .slice aW (O i).nW cW, .slice aS (O i).nS cS, .slice aT (O i).nT cT] 35)).cell? ⟨w10.heap.size, 0, none⟩ = some (.slice aN (O i).nN cN) := by simp [go_sem]
          have d1 : (w10.alloc (.cells #[.slice aN (O i).nN cN, .slice aW (O i).nW cW, .slice aS (O i).nS cS, .slice aT (O i).nT cT] 35)).cell? ⟨w10.heap.size, 1, none⟩ = some (.slice aW (O i).nW cW) := by simp [go_sem]
          have d2 : (w10.alloc (.cells #[.slice aN (O i).nN cN, .slice aW (O i).nW cW, .slice aS (O i).nS cS, .slice aT (O i).nT cT] 35)).cell? ⟨w10.heap.size, 2, none⟩ = some (.slice aS (O i).nS cS) := by simp [go_sem]
          have d3 : (w10.alloc (.cells #[.slice aN (O i).nN cN, .slice aW (O i).nW cW, .slice aS (O i).nS cS, .slice aT (O i).nT cT] 35)).cell? ⟨w10.heap.size, 3, none⟩ = some (.slice aT (O i).nT cT) := by simp [go_sem]
          generalize w10.alloc (.cells #[.slice aN (O i).nN cN, .slice aW (O i).nW cW, .slice aS (O i).nS cS, .slice aT (O i).nT cT] 35) = W at *
          generalize w10.heap.size = bo at *
          have hH := (hxc2 i hlt).later hbW
          have g0 := hH.c0
          have g1 := hH.c1
          have g2 := hH.c2
          have g3 := hH.c3
          have hoi := hok2 i hlt
          have HSO := fun (W' : World) (hW' : Below W.heap.size W W') => sameObject_true ⟨aN, cN, aW, cW, aS, cS, aT, cT⟩ (V i) (O i) (O i) W' (hAW.later hW') (hH.here.later hW') ⟨rfl, rfl, rfl, rfl, fun _ _ => rfl, fun _ _ => rfl, fun _ _ => ⟨rfl, rfl, rfl⟩, fun _ _ => ⟨rfl, rfl, rfl, rfl, rfl⟩⟩ ⟨by have := hoi.nN; omega, by have := hoi.nW; omega, by have := hoi.nS; omega, by have := hoi.nT; omega⟩
          unfold ObjV.cells at HSO
          have hL0 : Loc w8 W bo ⟨aN, cN, aW, cW, aS, cS, aT, cT⟩ (O i) := ⟨hbW, d0, hAW.needs⟩
          clear hA hbr10 hal hH hAW
          go_cut [121] from 107 to 121 (fun y wc => y = .bool false ∧ Loc w8 wc bo ⟨aN, cN, aW, cW, aS, cS, aT, cT⟩ (O i))
          case first =>
            clear hS hnz hok2 hxc2 hnc hT hE8 hF8 hE hroot hoi hbB hbW
            dsimp only at HSO
            have hnil : ∀ W' : World, (binOp .neq 27 .nilIface .nilIface).run Tryd.prog W' = .ok (.bool false) W' := fun _ => by kernel_rfl
            have e0 : ∀ x : Later W, x.1.cell? ⟨bo, 0, none⟩ = some (.slice aN (O i).nN cN) := fun x => x.cell d0
            have e1 : ∀ x : Later W, x.1.cell? ⟨bo, 1, none⟩ = some (.slice aW (O i).nW cW) := fun x => x.cell d1
            have e2 : ∀ x : Later W, x.1.cell? ⟨bo, 2, none⟩ = some (.slice aS (O i).nS cS) := fun x => x.cell d2
            have e3 : ∀ x : Later W, x.1.cell? ⟨bo, 3, none⟩ = some (.slice aT (O i).nT cT) := fun x => x.cell d3
            have f0 := fun x : Later W => x.cell g0
            have f1 := fun x : Later W => x.cell g1
            have f2 := fun x : Later W => x.cell g2
            have f3 := fun x : Later W => x.cell g3
            clear d0 d1 d2 d3 g0 g1 g2 g3
            have hsome := later_some W
            refine quiet_later (by kernel_rfl) (by kernel_rfl) ?_
            repeat (go_big_quiet_step (refine Calls.later_of (HSO _ (Subtype.property _))))
            refine wpQuiet_nil ?_
            intro _ hw'
            obtain ⟨x, rfl⟩ := hw'
            have hL1 := hL0.later x.2
            go_wp2
            go_meet
            exact ⟨rfl, hL1⟩
          case rest =>
            obtain ⟨rfl, hL⟩ := hcut
            clear HSO hL0 d0 d1 d2 d3 g0 g1 g2 g3 hbW
            go_wp2
            go_loopw [18, 19] (fun x y wr => ∃ q : Nat, q ≤ m ∧ y = .int .i64 q ∧ x = .bool (decide (i = 0) || wantB nm O i q) ∧ Loc w8 wr bo ⟨aN, cN, aW, cW, aS, cS, aT, cT⟩ (O i)) (fun _ y _ => m - (intOf y).toNat)
            case atStart => exact ⟨0, Nat.zero_le _, rfl, by congr 1; rw [Bool.eq_iff_iff]; simp [wantB, anyTo], hL⟩
            case round =>
              clear hL
              obtain ⟨q, hq, rfl, rfl, hL⟩ := hrel
              by_cases hlq : q < m
              · have hbr := hL.below
                have hci := cell_later hbr (hnc i hlt)
                have hcq := cell_later hbr (hnc q hlq)
                have hH := (hxc2 q hlq).later hbr
                have c0 := hH.c0
                have hnd := hH.here.needs
                have hoq := (hok2 q hlq).nN
                obtain ⟨b0, hb0⟩ : ∃ b0, (decide (i = 0) || wantB nm O i q) = b0 := ⟨_, rfl⟩
                have HB0 : Hid ((decide (i = 0) || wantB nm O i q) = b0) := hb0
                rw [hb0]
                have Hstep : Hid ((decide (i = 0) || wantB nm O i (q + 1)) = (b0 || (decide (q < i) && anyTo (fun z => decide ((O q).needs z = nm i)) (O q).nN))) := by
                  show _ = _
                  rw [← hb0]
                  unfold wantB
                  simp only [anyTo, Bool.or_assoc]
                clear hb0 hH HB0
                by_cases hqi : q < i
                · have hqi' : decide (q < i) = true := decide_eq_true hqi
                  have hne : ((nm q).toList == (nm i).toList) = false := by
                    rw [toList_beq]
                    exact decide_eq_false fun e => by have := hS.once q i hlq hlt e; omega
                  rw [hqi', Bool.true_and] at Hstep
                  go_wp2
                  go_quiet (fail)
                  go_wp2
                  go_loopw [18, 20] (fun x y wr => ∃ z : Nat, z ≤ (O q).nN ∧ y = .int .i64 z ∧ x = .bool (b0 || anyTo (fun z => decide ((O q).needs z = nm i)) z) ∧ Loc w8 wr bo ⟨aN, cN, aW, cW, aS, cS, aT, cT⟩ (O i)) (fun _ y _ => (O q).nN - (intOf y).toNat)
                  case atStart => exact ⟨0, Nat.zero_le _, rfl, by simp [anyTo], hL.drewN _⟩
                  case round =>
                    clear hL hbr hci hcq c0 hnd
                    obtain ⟨z, hz, rfl, rfl, hL⟩ := hrel
                    have hbr := hL.below
                    have hci := cell_later hbr (hnc i hlt)
                    have hH := (hxc2 q hlq).later hbr
                    have c0 := hH.c0
                    have hnd := hH.here.needs
                    clear hH
                    by_cases hlz : z < (O q).nN
                    · rcases hnd with h0 | ⟨bn, on, han, hcn⟩
                      · omega
                      rw [han] at c0
                      have hcz := hcn z hlz
                      clear hcn
                      have Hs : Hid ((b0 || anyTo (fun z => decide ((O q).needs z = nm i)) (z + 1)) = ((b0 || anyTo (fun z => decide ((O q).needs z = nm i)) z) || decide ((O q).needs z = nm i))) := by
                        show _ = _
                        simp only [anyTo, Bool.or_assoc]
                      cases hacc : (b0 || anyTo (fun z => decide ((O q).needs z = nm i)) z) with
                      | true =>
                        rw [hacc, Bool.true_or] at Hs
                        clear hacc
                        go_wp2
                        go_quiet (fail)
                        go_wp2
                        go_roundw
                        case rel => exact ⟨z + 1, by omega, by go_num, by rw [Hs.out], hL.drewN _⟩
                        case measure => simp [intOf]; omega
                      | false =>
                        rw [hacc, Bool.false_or] at Hs
                        clear hacc
                        by_cases hee : (O q).needs z = nm i
                        · have hbe : (((O q).needs z).toList == (nm i).toList) = true := by rw [toList_beq]; exact decide_eq_true hee
                          rw [decide_eq_true hee] at Hs
                          clear hee
                          go_wp2
                          go_quiet (fail)
                          go_wp2
                          go_roundw
                          case rel => exact ⟨z + 1, by omega, by go_num, by rw [Hs.out], hL.drewN _⟩
                          case measure => simp [intOf]; omega
                        · have hbe : (((O q).needs z).toList == (nm i).toList) = false := by rw [toList_beq]; exact decide_eq_false hee
                          rw [decide_eq_false hee] at Hs
                          clear hee
                          go_wp2
                          go_quiet (fail)
                          go_wp2
                          go_roundw
                          case rel => exact ⟨z + 1, by omega, by go_num, by rw [Hs.out], hL.drewN _⟩
                          case measure => simp [intOf]; omega
                    · have e : z = (O q).nN := by omega
                      subst e
                      rw [← Hstep.out]
                      clear hnd hci
                      go_wp2
                      go_roundw
                      case rel => exact ⟨q + 1, by omega, by go_num, rfl, hL⟩
                      case measure => simp [intOf]; omega
                · have hqi' : decide (q < i) = false := decide_eq_false hqi
                  rw [hqi', Bool.false_and, Bool.or_false] at Hstep
                  go_wp2
                  go_quiet (fail)
                  go_wp2
                  go_loopw [18, 20] (fun x y wr => ∃ z : Nat, z ≤ (O q).nN ∧ y = .int .i64 z ∧ x = .bool b0 ∧ Loc w8 wr bo ⟨aN, cN, aW, cW, aS, cS, aT, cT⟩ (O i)) (fun _ y _ => (O q).nN - (intOf y).toNat)
                  case atStart => exact ⟨0, Nat.zero_le _, rfl, rfl, hL.drewN _⟩
                  case round =>
                    clear hL hbr hci hcq c0 hnd
                    obtain ⟨z, hz, rfl, rfl, hL⟩ := hrel
                    have hbr := hL.below
                    have hH := (hxc2 q hlq).later hbr
                    have c0 := hH.c0
                    clear hH
                    by_cases hlz : z < (O q).nN
                    · cases b0 with
                      | true =>
                        go_wp2
                        go_quiet (fail)
                        go_wp2
                        go_roundw
                        case rel => exact ⟨z + 1, by omega, by go_num, rfl, hL.drewN _⟩
                        case measure => simp [intOf]; omega
                      | false =>
                        go_wp2
                        go_quiet (fail)
                        go_wp2
                        go_roundw
                        case rel => exact ⟨z + 1, by omega, by go_num, rfl, hL.drewN _⟩
                        case measure => simp [intOf]; omega
                    · have e : z = (O q).nN := by omega
                      subst e
                      rw [← Hstep.out]
                      go_wp2
                      go_roundw
                      case rel => exact ⟨q + 1, by omega, by go_num, rfl, hL⟩
                      case measure => simp [intOf]; omega
              · have e : q = m := by omega
                subst e
                rw [wantB_yes hS hlt]
                go_wp2
                go_loopw [21] (fun y wr => ∃ z : Nat, z ≤ (O i).nN ∧ y = .int .i64 z ∧ Loc w8 wr bo ⟨aN, cN, aW, cW, aS, cS, aT, cT⟩ (O i)) (fun y _ => (O i).nN - (intOf y).toNat)
                case atStart => exact ⟨0, Nat.zero_le _, rfl, hL⟩
                case round =>
                  clear hL
                  obtain ⟨z, hz, rfl, hL⟩ := hrel
                  have hnni := (hok2 i hlt).nN
                  have c0 := hL.c0
                  by_cases hlz : z < (O i).nN
                  · have HY : Hid (anyTo (fun k => decide (nm k = (O i).needs z)) q = true) := needB_yes hS hlt hlz
                    dsimp only at c0
                    go_wp2
                    go_loopw [22, 23] (fun x y wr => ∃ k2 : Nat, k2 ≤ q ∧ y = .int .i64 k2 ∧ x = .bool (anyTo (fun k => decide (nm k = (O i).needs z)) k2) ∧ Loc w8 wr bo ⟨aN, cN, aW, cW, aS, cS, aT, cT⟩ (O i)) (fun _ y _ => q - (intOf y).toNat)
                    case atStart => exact ⟨0, Nat.zero_le _, rfl, rfl, hL⟩
                    case round =>
                      clear hL c0
                      obtain ⟨k2, hk2, rfl, rfl, hL⟩ := hrel
                      by_cases hl2 : k2 < q
                      · have c0 := hL.c0
                        have hck := cell_later hL.below (hnc k2 hl2)
                        rcases hL.row with h0 | ⟨bn, on, han, hcn⟩
                        · omega
                        dsimp only at han c0
                        rw [han] at c0
                        have hcz := hcn z hlz
                        clear hcn han
                        have Hs : Hid (anyTo (fun k => decide (nm k = (O i).needs z)) (k2 + 1) = (anyTo (fun k => decide (nm k = (O i).needs z)) k2 || decide (nm k2 = (O i).needs z))) := rfl
                        cases hacc : anyTo (fun k => decide (nm k = (O i).needs z)) k2 with
                        | true =>
                          rw [hacc, Bool.true_or] at Hs
                          clear hacc
                          go_wp2
                          go_quiet (fail)
                          go_wp2
                          go_roundw
                          case rel => exact ⟨k2 + 1, by omega, by go_num, by rw [Hs.out], hL.drewN _⟩
                          case measure => simp [intOf]; omega
                        | false =>
                          rw [hacc, Bool.false_or] at Hs
                          clear hacc
                          by_cases hee : nm k2 = (O i).needs z
                          · have hbe : ((nm k2).toList == ((O i).needs z).toList) = true := by rw [toList_beq]; exact decide_eq_true hee
                            rw [decide_eq_true hee] at Hs
                            clear hee
                            go_wp2
                            go_quiet (fail)
                            go_wp2
                            go_roundw
                            case rel => exact ⟨k2 + 1, by omega, by go_num, by rw [Hs.out], hL.drewN _⟩
                            case measure => simp [intOf]; omega
                          · have hbe : ((nm k2).toList == ((O i).needs z).toList) = false := by rw [toList_beq]; exact decide_eq_false hee
                            rw [decide_eq_false hee] at Hs
                            clear hee
                            go_wp2
                            go_quiet (fail)
                            go_wp2
                            go_roundw
                            case rel => exact ⟨k2 + 1, by omega, by go_num, by rw [Hs.out], hL.drewN _⟩
                            case measure => simp [intOf]; omega
                      · have e : k2 = q := by omega
                        subst e
                        rw [HY.out]
                        go_wp2
                        go_roundw
                        case rel => exact ⟨z + 1, by omega, by go_num, hL⟩
                        case measure => simp [intOf]; omega
                  · go_wp2
                    go_roundw
                    case rel => exact ⟨i + 1, by omega, by go_num, hL.below⟩
                    case measure => simp [intOf]; omega
        · go_wp2
          go_ret
          exact ⟨rfl, hbB.trans (hbr.mono hbB.size)⟩
end Go.Proofs.YtanfejgcjifhpaaDoor
