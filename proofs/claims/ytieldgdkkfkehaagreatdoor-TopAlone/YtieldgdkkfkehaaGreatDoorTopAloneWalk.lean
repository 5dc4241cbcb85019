/-
  The law TopAlone returns true, for every object; memory that was there stays as it was.
-/
import Derived.Test.YtieldgdkkfkehaaGreatDoorBoundFact
import Derived.Test.YtieldgdkkfkehaaGreatDoorPlainAlone
import Derived.Test.YtieldgdkkfkehaaGreatDoorPlainOnce
import Derived.Test.YtieldgdkkfkehaaGreatDoorLight
import Derived.Test.YtieldgdkkfkehaaGreatDoorSameObj
import Derived.Deep.RegionWith
import Derived.Deep.RegionLaw
import Derived.RegionTactic
import Derived.BigRegion
import Derived.Deep.CutRange
import Derived.Test.YtieldgdkkfkehaaGreatDoorEarly
import Derived.Deep.QuietTactic
import Derived.BigQuiet
import Derived.Test.YtieldgdkkfkehaaGreatDoorErr
import Derived.Test.YtieldgdkkfkehaaGreatDoorRows
import Derived.Test.YtieldgdkkfkehaaGreatDoorAtAll
namespace Go.Proofs.YtieldgdkkfkehaaGreatDoor
open Go.RowKit Go.Maps


theorem assertN_errno (n : Int) (w : World) : (Instr.typeAssert (.iface 79 (.int .i64 n)) 31 79 true).run Tryz.prog w = .ok (.tuple #[.int .i64 n, .bool true]) w := by kernel_rfl
theorem number_nil (w : World) : Calls Tryz.prog 16 #[.nilIface] w fun e w' => e = .returned (.int .i64 0) ∧ w = w' := by
  go_enter Tryz.func16, Tryz.ntmps16
  go_wp2
  go_ret
  exact ⟨rfl, rfl⟩
theorem number_errno (n : Int) (w : World) : Calls Tryz.prog 16 #[.iface 79 (.int .i64 n)] w fun e w' => e = .returned (.int .i64 n) ∧ w = w' := by
  have ha := assertN_errno n
  go_enter Tryz.func16, Tryz.ntmps16
  go_wp2
  go_ret
  exact ⟨rfl, rfl⟩
theorem numberErr_any (f : Nat) (w : World) : Calls Tryz.prog 16 #[errV f] w fun e w' => e = .returned (.int .i64 (f : Int)) ∧ w = w' := by
  cases f with
  | zero => exact number_nil w
  | succ f => exact number_errno _ w

theorem sameTx_zero (a c : Option Addr) (ca cb : Nat) (w : World) :
    Calls Tryz.prog 12 #[.slice a 0 ca, .slice c 0 cb] w fun e w' => e = .returned (.bool true) ∧ ∃ k, w' = w.drewN k := by
  go_enter Tryz.func12, Tryz.ntmps12
  go_wp2
  refine wp_loop_rounds 1 ?_
  rw [rounds_succ]
  go_wp2
  go_ret
  exact ⟨rfl, 0, rfl⟩

set_option maxHeartbeats 400000 in
theorem sameTx_some (f : Nat → ByteArray) (n : Nat) (bx ox cx bY oY cy : Nat) (w : World) (hm : n ≤ 1000000000)
    (hx : ∀ i, i < n → w.cell? ⟨bx, ox + i, none⟩ = some (.string (f i)))
    (hy : ∀ i, i < n → w.cell? ⟨bY, oY + i, none⟩ = some (.string (f i))) :
    Calls Tryz.prog 12 #[.slice (some ⟨bx, ox, none⟩) n cx, .slice (some ⟨bY, oY, none⟩) n cy] w fun e w' => e = .returned (.bool true) ∧ ∃ k, w' = w.drewN k := by
  go_enter Tryz.func12, Tryz.ntmps12
  go_wp2
  go_loopw [5] (fun i wr => ∃ k j : Nat, k ≤ n ∧ i = .int .i64 k ∧ wr = w.drewN j) (fun i _ => n - (intOf i).toNat)
  case atStart => exact ⟨0, 0, Nat.zero_le _, rfl, rfl⟩
  case round =>
    obtain ⟨k, j, hk, rfl, rfl⟩ := hrel
    by_cases hlt : k < n
    · have hxk := hx k hlt
      have hyk := hy k hlt
      clear hx hy
      generalize f k = z at *
      go_wp2
      go_quiet (fail)
      go_wp2
      go_roundw
      case rel => exact ⟨k + 1, j + nq, by omega, by go_num, rfl⟩
      case measure => simp [intOf]; omega
    · have hkn : k = n := by omega
      subst hkn
      clear hx hy
      go_wp2
      go_ret
      exact ⟨rfl, j, rfl⟩

theorem sameTx_true (f g : Nat → ByteArray) (n : Nat) (a c : Option Addr) (ca cb : Nat) (w : World) (hm : n ≤ 1000000000)
    (hx : RowAt w a n fun i => .string (f i)) (hy : RowAt w c n fun i => .string (g i)) (he : ∀ i, i < n → f i = g i) :
    Calls Tryz.prog 12 #[.slice a n ca, .slice c n cb] w fun e w' => e = .returned (.bool true) ∧ ∃ k, w' = w.drewN k := by
  rcases hx with h0 | ⟨b, o, rfl, hx⟩
  · subst h0
    exact sameTx_zero a c ca cb w
  · rcases hy with h0 | ⟨b', o', rfl, hy⟩
    · subst h0
      exact sameTx_zero _ c ca cb w
    · exact sameTx_some f n b o ca b' o' cb w hm hx (fun i hi => by rw [hy i hi, he i hi])

/-- an object that lies boxed. -/
structure BoxO (w wr : World) (bo : Nat) (v : ObjV) (o : ObjF) : Prop where
  below : Below w.heap.size w wr
  p0 : wr.cell? ⟨bo, 0, none⟩ = some (.slice v.aN o.nN v.cN)
  p1 : wr.cell? ⟨bo, 1, none⟩ = some (.slice v.aW o.nW v.cW)
  p2 : wr.cell? ⟨bo, 2, none⟩ = some (.slice v.aS o.nS v.cS)
  p3 : wr.cell? ⟨bo, 3, none⟩ = some (.slice v.aT o.nT v.cT)
  at' : ObjAt wr v o
theorem BoxO.later {w wr w' : World} {bo : Nat} {v : ObjV} {o : ObjF} (h : BoxO w wr bo v o) (hb : Below wr.heap.size wr w') : BoxO w w' bo v o :=
  ⟨h.below.trans (hb.mono h.below.size), cell_later hb h.p0, cell_later hb h.p1, cell_later hb h.p2, cell_later hb h.p3, h.at'.later hb⟩
theorem writeA_ok {t : ByteArray} (h : t.size ≤ 1200) : writeF (.map []) 0 bnA t = 0 := by
  unfold writeF
  rw [show nameF bnA.data.toList = 0 by decide, seqF_zero, if_neg (by omega), if_neg]
  unfold othersF
  simp [Maps.has, Maps.size]
abbrev alD (t : ByteArray) : DataW Unit := DataW.put (.map []) (keyB bnA) (fileD t.data.toList (((0 : Nat) : Int) + 1))
theorem rd_alone {t : ByteArray} {T : ByteArray → ByteArray} (hT : Texts (alD t) T) : rdD (alD t) T bnA = parseF t := by
  have h1 : Maps.has (alD t) (keyB bnA) = true := has_put_same ⟨[], rfl⟩ (keyB_key bnA) _
  have h2 : (alD t).atKey (keyB bnA) (fileD [] 0) = fileD t.data.toList (((0 : Nat) : Int) + 1) := atKey_put_same ⟨[], rfl⟩ (keyB_key bnA) _ _
  have h3 := hT.is bnA t _ h1 h2
  unfold rdD
  rw [if_pos h1, ← h3]
theorem of_alone {rd : ByteArray → Nat × ObjF} (h0 : (rd bnA).1 = 0) (hn : (rd bnA).2.nN = 0) : OfIs rd bnA 0 1 ∧ namesAt rd bnA 1 = [bnA] := by
  have hn1 : namesAt rd bnA 1 = [bnA] := by
    show joinL [bnA] (needsTo (rd bnA).2 (rd bnA).2.nN) = _
    rw [hn]
    rfl
  refine ⟨.ok 1 (fun j hj => ?_) (by rw [hn1]; rfl), hn1⟩
  have : j = 0 := by omega
  subst this
  exact ⟨by simp [namesAt], h0⟩

theorem eqTo_all {f g : Nat → Int} {n : Nat} (h : ∀ j, j < n → f j = g j) : eqTo f g n = true := by
  induction n with
  | zero => rfl
  | succ n ih => exact eqTo_succ (ih fun j hj => h j (by omega)) (h n (by omega))
set_option maxRecDepth 100000 in
set_option maxHeartbeats 8000000 in
theorem topAlone_walk (v : ObjV) (o : ObjF) (w : World) (hE : Env w) (hA : ObjAt w v o) (hf : ObjFit o) :
    Calls Tryz.prog 3 #[.agg (v.cells o)] w fun e w' => e = .returned (.bool true) ∧ Below w.heap.size w w' := by
  obtain ⟨aN, cN, aW, cW, aS, cS, aT, cT⟩ := v
  unfold ObjV.cells
  have hb0 : Below w.heap.size w (w.alloc (.cells #[.slice aN o.nN cN, .slice aW o.nW cW, .slice aS o.nS cS, .slice aT o.nT cT] 27)) := (Below.refl _ _).alloc (Nat.le_refl _) _
  have HBd := bound_any _ (hE.later hb0)
  have hB0 : BoxO w (w.alloc (.cells #[.slice aN o.nN cN, .slice aW o.nW cW, .slice aS o.nS cS, .slice aT o.nT cT] 27)) w.heap.size ⟨aN, cN, aW, cW, aS, cS, aT, cT⟩ o := ⟨hb0, by simp [go_sem], by simp [go_sem], by simp [go_sem], by simp [go_sem], hA.later hb0⟩
  go_enter Tryz.func3, Tryz.ntmps3
  go_wp2_with fail
  refine HBd.mono ?_
  rintro e w1 ⟨rfl, hb1⟩
  have hB1 := hB0.later hb1
  clear HBd hB0 hb0 hb1 hA
  have p0 := hB1.p0
  have p1 := hB1.p1
  have p2 := hB1.p2
  have p3 := hB1.p3
  dsimp only at p0 p1 p2 p3
  have HL := light_full ⟨aN, cN, aW, cW, aS, cS, aT, cT⟩ o w1 hB1.at' hf
  unfold ObjV.cells at HL
  go_wp2_with fail
  refine HL.mono ?_
  rintro e w2 ⟨⟨b, rfl, _⟩, hb2⟩
  have hB2 := hB1.later hb2
  replace p0 := cell_later hb2 p0
  replace p1 := cell_later hb2 p1
  replace p2 := cell_later hb2 p2
  replace p3 := cell_later hb2 p3
  clear HL hB1 hb2
  cases b with
  | false =>
    go_wp2
    go_ret
    exact ⟨rfl, hB2.below⟩
  | true =>
    by_cases hnn : 0 < o.nN
    · have hnn' : (0 : Int) < (o.nN : Int) := by omega
      go_wp2
      go_ret
      exact ⟨rfl, hB2.below⟩
    have hN0 : o.nN = 0 := by omega
    have HT := text_any ⟨aN, cN, aW, cW, aS, cS, aT, cT⟩ o w2 (hE.later hB2.below) hB2.at' hf
    unfold ObjV.cells at HT
    rw [hN0] at p0 HT
    go_wp2_with fail
    refine HT.mono ?_
    rintro e w3 ⟨⟨t, rfl, ht⟩, hb3⟩
    have hB3 := hB2.later hb3
    replace p0 := cell_later hb3 p0
    replace p1 := cell_later hb3 p1
    replace p2 := cell_later hb3 p2
    replace p3 := cell_later hb3 p3
    clear HT hB2 hb3 hnn
    by_cases h0 : (textF o).1 = 0
    · have q0 : errV 0 = .nilIface := rfl
      rw [h0, q0]
      obtain ⟨y1, y2⟩ := parse_text h0 ht
      obtain ⟨z1, z2, z3⟩ := textF_zero h0
      have hok := objOk z1
      have htz : t.size ≤ 1200 := by
        have : t.data.toList.length = t.size := by simp
        rw [z3] at ht
        dsimp only at ht
        rw [ht] at this
        omega
      have HN := new_any w3
      go_wp2_with fail
      refine HN.mono ?_
      rintro e w4 ⟨p, bm, rfl, hp, hbm, hF4, hb4⟩
      have hB4 := hB3.later hb4
      have HW := write_any w4 p bm (.map []) 0 bnA t hF4 (by decide) (by decide)
      rw [writeA_ok htz] at HW
      have hpw : w.heap.size ≤ p := Nat.le_trans hB3.below.size hp
      have hbmw : w.heap.size ≤ bm := Nat.le_trans hB3.below.size hbm
      clear HN
      go_wp2_with fail
      refine HW.mono ?_
      intro e w5 hEnd
      have hb35 : Below w3.heap.size w3 w5 := hb4.trans (hEnd.turned.below hb4.size hp hbm)
      have hee := hEnd.e
      rw [q0] at hee
      subst hee
      have hF5 := hEnd.yes rfl
      have hB5 := hB3.later hb35
      replace p0 := cell_later hb35 p0
      replace p1 := cell_later hb35 p1
      replace p2 := cell_later hb35 p2
      replace p3 := cell_later hb35 p3
      obtain ⟨T, hT⟩ := texts_some (alD t)
      have hI : Inv (alD t) 1 := Inv.put Inv.empty (writeA_ok htz)
      have hrd := rd_alone hT
      obtain ⟨hO, hn1⟩ := of_alone (rd := rdD (alD t) T) (by rw [hrd]; exact y1) (by rw [hrd, y2.nN]; exact hN0)
      have hso : SameO (rdD (alD t) T bnA).2 o := by rw [hrd]; exact y2
      have HOf := of_any w5 p bm (alD t) 1 T bnA hF5 hI hT (hE.later hB5.below) (by decide)
      clear HW hEnd hb4 hB4 hB3 hb35 hp hbm hpw hbmw hrd y1 y2 ht z3 htz z2
      go_wp2_with fail
      refine HOf.mono ?_
      rintro e w6 ⟨he, hb6⟩
      have hB6 := hB5.later hb6
      have hF6 := hF5.later hb6
      replace p0 := cell_later hb6 p0
      replace p1 := cell_later hb6 p1
      replace p2 := cell_later hb6 p2
      replace p3 := cell_later hb6 p3
      clear HOf hb6 hB5 hF5
      cases he with
      | bad F i h hf => exact absurd (h.unique hO).1 hf
      | ok i u x V h hu hx =>
        obtain ⟨_, rfl⟩ := h.unique hO
        rw [hn1] at hu
        obtain ⟨ua, uc, rfl, _, hur⟩ := ownTx_row hu
        obtain ⟨xa, xc, rfl, _, hxr⟩ := hx.own.row hx.at'
        rcases hxr with h0' | ⟨bx, ox, rfl, hxc⟩
        · omega
        have hX0 := hxc 0 (by decide)
        have e0 := hX0.c0
        have e1 := hX0.c1
        have e2 := hX0.c2
        have e3 := hX0.c3
        simp only [Nat.zero_mul, Nat.add_zero] at e0 e1 e2 e3
        have hXA : ObjAt w6 (V 0) (rdD (alD t) T bnA).2 := hX0.here
        have hur1 : RowAt w6 ua 1 fun _ => .string bnA := by
          rcases hur with h0' | ⟨bu, ou, ha, hc⟩
          · cases h0'
          · refine .inr ⟨bu, ou, ha, fun i hi => ?_⟩
            have : i = 0 := by omega
            subst this
            exact hc 0 (by decide)
        have HS := fun (W : World) (hW : Below w6.heap.size w6 W) (a4 : Option Addr) (hr4 : RowAt W a4 1 fun _ => .string bnA) => sameTx_true (fun _ => bnA) (fun _ => bnA) 1 ua a4 uc 1 W (by decide) (hur1.later hW) hr4 (fun _ _ => rfl)
        have HSO := fun (W : World) (hW : Below w6.heap.size w6 W) => sameObject_true (V 0) ⟨aN, cN, aW, cW, aS, cS, aT, cT⟩ (rdD (alD t) T bnA).2 o W (hXA.later hW) (hB6.at'.later hW) hso ⟨by have := hok.nN; omega, by have := hok.nW; omega, by have := hok.nS; omega, by have := hok.nT; omega⟩
        unfold ObjV.cells at HSO
        dsimp only at HSO
        rw [hN0] at HSO
        have e0' : w6.cell? ⟨bx, ox, none⟩ = some (.slice (V 0).aN (rdD (alD t) T bnA).2.nN (V 0).cN) := e0
        have e1' : w6.cell? ⟨bx, ox + 1, none⟩ = some (.slice (V 0).aW (rdD (alD t) T bnA).2.nW (V 0).cW) := e1
        have e2' : w6.cell? ⟨bx, ox + 2, none⟩ = some (.slice (V 0).aS (rdD (alD t) T bnA).2.nS (V 0).cS) := e2
        have e3' : w6.cell? ⟨bx, ox + 3, none⟩ = some (.slice (V 0).aT (rdD (alD t) T bnA).2.nT (V 0).cT) := e3
        have hl1 := World.block_lt_of_cell? _ _ e0'
        have hl2 := World.block_lt_of_cell? _ _ p0
        clear e0 e1 e2 e3 hX0 hxc hur hu hx h hXA hur1
        obtain ⟨o1, ho1⟩ : ∃ o1, o1 = (rdD (alD t) T bnA).2 := ⟨_, rfl⟩
        have Ho1 : Hid (o1 = (rdD (alD t) T bnA).2) := ho1
        rw [← ho1] at e0' e1' e2' e3' HSO hso
        clear ho1
        generalize V 0 = V0 at *
        obtain ⟨vN, vcN, vW, vcW, vS, vcS, vT, vcT⟩ := V0
        dsimp only at e0' e1' e2' e3' HSO
        go_upto_region 13 with fail
        have keepS : ∀ W W' : World, Below W.heap.size W W' → (fun w' : World => w'.cell? ⟨bx, ox, none⟩ = some (.slice vN o1.nN vcN) ∧ w'.cell? ⟨bx, ox + 1, none⟩ = some (.slice vW o1.nW vcW) ∧ w'.cell? ⟨bx, ox + 2, none⟩ = some (.slice vS o1.nS vcS) ∧ w'.cell? ⟨bx, ox + 3, none⟩ = some (.slice vT o1.nT vcT) ∧ w'.cell? ⟨w.heap.size, 0, none⟩ = some (.slice aN 0 cN) ∧ w'.cell? ⟨w.heap.size, 1, none⟩ = some (.slice aW o.nW cW) ∧ w'.cell? ⟨w.heap.size, 2, none⟩ = some (.slice aS o.nS cS) ∧ w'.cell? ⟨w.heap.size, 3, none⟩ = some (.slice aT o.nT cT)) W → (fun w' : World => w'.cell? ⟨bx, ox, none⟩ = some (.slice vN o1.nN vcN) ∧ w'.cell? ⟨bx, ox + 1, none⟩ = some (.slice vW o1.nW vcW) ∧ w'.cell? ⟨bx, ox + 2, none⟩ = some (.slice vS o1.nS vcS) ∧ w'.cell? ⟨bx, ox + 3, none⟩ = some (.slice vT o1.nT vcT) ∧ w'.cell? ⟨w.heap.size, 0, none⟩ = some (.slice aN 0 cN) ∧ w'.cell? ⟨w.heap.size, 1, none⟩ = some (.slice aW o.nW cW) ∧ w'.cell? ⟨w.heap.size, 2, none⟩ = some (.slice aS o.nS cS) ∧ w'.cell? ⟨w.heap.size, 3, none⟩ = some (.slice aT o.nT cT)) W' := fun W W' hb h => ⟨cell_later hb h.1, cell_later hb h.2.1, cell_later hb h.2.2.1, cell_later hb h.2.2.2.1, cell_later hb h.2.2.2.2.1, cell_later hb h.2.2.2.2.2.1, cell_later hb h.2.2.2.2.2.2.1, cell_later hb h.2.2.2.2.2.2.2⟩
        have hSS : (fun w' : World => w'.cell? ⟨bx, ox, none⟩ = some (.slice vN o1.nN vcN) ∧ w'.cell? ⟨bx, ox + 1, none⟩ = some (.slice vW o1.nW vcW) ∧ w'.cell? ⟨bx, ox + 2, none⟩ = some (.slice vS o1.nS vcS) ∧ w'.cell? ⟨bx, ox + 3, none⟩ = some (.slice vT o1.nT vcT) ∧ w'.cell? ⟨w.heap.size, 0, none⟩ = some (.slice aN 0 cN) ∧ w'.cell? ⟨w.heap.size, 1, none⟩ = some (.slice aW o.nW cW) ∧ w'.cell? ⟨w.heap.size, 2, none⟩ = some (.slice aS o.nS cS) ∧ w'.cell? ⟨w.heap.size, 3, none⟩ = some (.slice aT o.nT cT)) w6.drew := ⟨e0', e1', e2', e3', p0, p1, p2, p3⟩
        clear e0' e1' e2' e3' p0 p1 p2 p3
        refine wp_region_G (fun w' : World => w'.cell? ⟨bx, ox, none⟩ = some (.slice vN o1.nN vcN) ∧ w'.cell? ⟨bx, ox + 1, none⟩ = some (.slice vW o1.nW vcW) ∧ w'.cell? ⟨bx, ox + 2, none⟩ = some (.slice vS o1.nS vcS) ∧ w'.cell? ⟨bx, ox + 3, none⟩ = some (.slice vT o1.nT vcT) ∧ w'.cell? ⟨w.heap.size, 0, none⟩ = some (.slice aN 0 cN) ∧ w'.cell? ⟨w.heap.size, 1, none⟩ = some (.slice aW o.nW cW) ∧ w'.cell? ⟨w.heap.size, 2, none⟩ = some (.slice aS o.nS cS) ∧ w'.cell? ⟨w.heap.size, 3, none⟩ = some (.slice aT o.nT cT)) 18 21 (by kernel_rfl) rfl ?_
        refine takeW 0 (v := ?v1) rfl (by kernel_rfl) (by kernel_rfl) (by kernel_rfl) (by kernel_rfl) (fun _ _ _ h => h) (.inr hSS) (.inl ⟨by rfl, fun w => ?hy1⟩) ?rest1
        case hy1 => (go_simp <;> with_reducible rfl)
        simp only [Go.Act.put, List.setIfInBounds_toArray, List.set_cons_zero, List.set_cons_succ]
        refine takeW 1 (v := ?v2) rfl (by kernel_rfl) (by kernel_rfl) (by kernel_rfl) (by kernel_rfl) (fun _ _ _ h => h) (.inr hSS) (.inl ⟨by rfl, fun w => ?hy2⟩) ?rest2
        case hy2 => (go_simp <;> with_reducible rfl)
        simp only [Go.Act.put, List.setIfInBounds_toArray, List.set_cons_zero, List.set_cons_succ]
        refine takeW 2 (v := ?v3) rfl (by kernel_rfl) (by kernel_rfl) (by kernel_rfl) (by kernel_rfl) (fun _ _ _ h => h) (.inr hSS) (.inl ⟨by rfl, fun w => ?hy3⟩) ?rest3
        case hy3 => (go_simp <;> with_reducible rfl)
        simp only [Go.Act.put, List.setIfInBounds_toArray, List.set_cons_zero, List.set_cons_succ]
        refine takeW 3 (v := ?v4) rfl (by kernel_rfl) (by kernel_rfl) (by kernel_rfl) (by kernel_rfl) (fun _ _ _ h => h) (.inr hSS) (.inl ⟨by rfl, fun w => ?hy4⟩) ?rest4
        case hy4 => (go_simp <;> with_reducible rfl)
        simp only [Go.Act.put, List.setIfInBounds_toArray, List.set_cons_zero, List.set_cons_succ]
        refine onlyG 4 rfl (by kernel_rfl) (fun K hK => ?_)
        go_wp2_with fail
        have hbA : Below w6.heap.size w6 ((w6.alloc (.cells #[.string ⟨#[97]⟩] 9)).drew) := ((Below.refl _ _).alloc (Nat.le_refl _) _).drew
        have hSS' := keepS w6.drew (w6.alloc (.cells #[.string ⟨#[97]⟩] 9)).drew (((Below.refl _ w6.drew).alloc (Nat.le_refl _) (.cells #[.string ⟨#[97]⟩] 9))) hSS
        clear hSS
        have hSS := hSS'
        clear hSS'
        refine hK _ _ hSS ?_
        clear hK
        have hrA : RowAt ((w6.alloc (.cells #[.string ⟨#[97]⟩] 9)).drew) (some ⟨w6.heap.size, 0, none⟩) 1 fun _ => .string bnA := .inr ⟨_, _, rfl, fun i hi => by have h00 : i = 0 := (by omega); subst h00; simp [go_sem]⟩
        have HSA := HS _ hbA _ hrA
        generalize (w6.alloc (.cells #[.string ⟨#[97]⟩] 9)).drew = w7 at *
        refine onlyG 5 rfl (by kernel_rfl) (fun K hK => ?_)
        go_wp2_with fail
        refine (show Calls _ _ _ _ _ from HSA).mono ?_
        rintro e w8 ⟨rfl, kq, rfl⟩
        have hSS' := keepS _ _ (below_drewN (Below.refl _ _) kq) hSS
        clear hSS
        have hSS := hSS'
        clear hSS' HSA hrA
        go_wp2_with fail
        refine hK _ _ hSS ?_
        clear hK
        have hb8 := below_drewN hbA kq
        generalize w7.drewN kq = w8 at *
        clear hbA
        refine takeW 6 (v := ?v7) rfl (by kernel_rfl) (by kernel_rfl) (by kernel_rfl) (by kernel_rfl) (fun _ _ _ h => h) (.inr hSS) (.inl ⟨by rfl, fun w => ?hy7⟩) ?rest7
        case hy7 => (go_simp <;> with_reducible rfl)
        simp only [Go.Act.put, List.setIfInBounds_toArray, List.set_cons_zero, List.set_cons_succ]
        refine takeW 7 (v := ?v8) rfl (by kernel_rfl) (by kernel_rfl) (by kernel_rfl) (by kernel_rfl) (fun _ _ _ h => h) (.inr hSS) (.inl ⟨by rfl, fun w => ?hy8⟩) ?rest8
        case hy8 => (go_simp <;> with_reducible rfl)
        simp only [Go.Act.put, List.setIfInBounds_toArray, List.set_cons_zero, List.set_cons_succ]
        refine takeW 8 (v := ?v9) rfl (by kernel_rfl) (by kernel_rfl) (by kernel_rfl) (by kernel_rfl) (fun _ _ _ h => h) (.inr hSS) (.inl ⟨by rfl, fun w => ?hy9⟩) ?rest9
        case hy9 => (go_simp <;> with_reducible rfl)
        simp only [Go.Act.put, List.setIfInBounds_toArray, List.set_cons_zero, List.set_cons_succ]
        refine takeW 9 (v := ?v10) rfl (by kernel_rfl) (by kernel_rfl) (by kernel_rfl) (by kernel_rfl) (fun _ _ _ h => h) (.inr hSS) (.inl ⟨by rfl, fun w => ?hy10⟩) ?rest10
        case hy10 => (go_simp <;> with_reducible rfl)
        simp only [Go.Act.put, List.setIfInBounds_toArray, List.set_cons_zero, List.set_cons_succ]
        refine takeW 10 (v := ?v11) rfl (by kernel_rfl) (by kernel_rfl) (by kernel_rfl) (by kernel_rfl) (fun _ _ _ h => h) (.inr hSS) (.inl ⟨by rfl, fun w => ?hy11⟩) ?rest11
        case hy11 => (go_simp <;> with_reducible rfl)
        simp only [Go.Act.put, List.setIfInBounds_toArray, List.set_cons_zero, List.set_cons_succ]
        refine takeW 11 (v := ?v12) rfl (by kernel_rfl) (by kernel_rfl) (by kernel_rfl) (by kernel_rfl) (fun _ _ _ h => h) (.inr hSS) (.inl ⟨by rfl, fun w => ?hy12⟩) ?rest12
        case hy12 => (go_simp <;> with_reducible rfl)
        simp only [Go.Act.put, List.setIfInBounds_toArray, List.set_cons_zero, List.set_cons_succ]
        refine takeW 12 (v := ?v13) rfl (by kernel_rfl) (by kernel_rfl) (by kernel_rfl) (by kernel_rfl) (fun _ _ _ h => h) (.inr hSS) (.inl ⟨by rfl, fun w => ?hy13⟩) ?rest13
        case hy13 => (go_simp <;> with_reducible rfl)
        simp only [Go.Act.put, List.setIfInBounds_toArray, List.set_cons_zero, List.set_cons_succ]
        refine takeW 13 (v := ?v14) rfl (by kernel_rfl) (by kernel_rfl) (by kernel_rfl) (by kernel_rfl) (fun _ _ _ h => h) (.inr hSS) (.inl ⟨by rfl, fun w => ?hy14⟩) ?rest14
        case hy14 => (go_simp <;> with_reducible rfl)
        simp only [Go.Act.put, List.setIfInBounds_toArray, List.set_cons_zero, List.set_cons_succ]
        refine takeW 14 (v := ?v15) rfl (by kernel_rfl) (by kernel_rfl) (by kernel_rfl) (by kernel_rfl) (fun _ _ _ h => h) (.inr hSS) (.inl ⟨by rfl, fun w => ?hy15⟩) ?rest15
        case hy15 => (go_simp <;> with_reducible rfl)
        simp only [Go.Act.put, List.setIfInBounds_toArray, List.set_cons_zero, List.set_cons_succ]
        refine takeW 15 (v := ?v16) rfl (by kernel_rfl) (by kernel_rfl) (by kernel_rfl) (by kernel_rfl) (fun _ _ _ h => h) (.inr hSS) (.inl ⟨by rfl, fun w => ?hy16⟩) ?rest16
        case hy16 => (go_simp <;> with_reducible rfl)
        simp only [Go.Act.put, List.setIfInBounds_toArray, List.set_cons_zero, List.set_cons_succ]
        refine takeR 16 [] (v := ?v17) rfl (by kernel_rfl) (by kernel_rfl) (by kernel_rfl) (by kernel_rfl) (by kernel_rfl) (fun _ _ _ h => h) hSS (.inl ⟨by rfl, fun w hSw => ?hy17⟩) ?rest17
        case hy17 => ((try dsimp only at hSw); go_simp <;> with_reducible rfl)
        simp only [Go.Act.put, List.setIfInBounds_toArray, List.set_cons_zero, List.set_cons_succ]
        refine takeR 17 [] (v := ?v18) rfl (by kernel_rfl) (by kernel_rfl) (by kernel_rfl) (by kernel_rfl) (by kernel_rfl) (fun _ _ _ h => h) hSS (.inl ⟨by rfl, fun w hSw => ?hy18⟩) ?rest18
        case hy18 => ((try dsimp only at hSw); go_simp <;> with_reducible rfl)
        simp only [Go.Act.put, List.setIfInBounds_toArray, List.set_cons_zero, List.set_cons_succ]
        refine lastG 18 rfl (by kernel_rfl) (by kernel_rfl) (fun K hK => ?_)
        go_wp2_with fail
        refine (show Calls _ _ _ _ _ from HSO _ hb8).mono ?_
        rintro e w9 ⟨rfl, hb9⟩
        go_wp2_with fail
        refine hK _ _ ?_
        clear hK
        refine takeW 19 (v := ?v20) rfl (by kernel_rfl) (by kernel_rfl) (by kernel_rfl) (by kernel_rfl) (fun _ _ _ h => h) (.inl (by kernel_rfl)) (.inl ⟨by rfl, fun w => ?hy20⟩) ?rest20
        case hy20 => (go_simp <;> with_reducible rfl)
        simp only [Go.Act.put, List.setIfInBounds_toArray, List.set_cons_zero, List.set_cons_succ]
        refine takeW 20 (v := ?v21) rfl (by kernel_rfl) (by kernel_rfl) (by kernel_rfl) (by kernel_rfl) (fun _ _ _ h => h) (.inl (by kernel_rfl)) (.inl ⟨by rfl, fun w => ?hy21⟩) ?rest21
        case hy21 => (go_simp <;> with_reducible rfl)
        simp only [Go.Act.put, List.setIfInBounds_toArray, List.set_cons_zero, List.set_cons_succ]
        refine doneG (by kernel_rfl) ?_ _
        have hS9 := keepS _ _ hb9 hSS
        have hB9 := (hB6.later hb8).later hb9
        have hF9 := (hF6.later hb8).later hb9
        clear hSS HS HSO hb8 hB6 hF6 keepS
        obtain ⟨p0, p1, p2, p3⟩ := hS9.2.2.2.2
        obtain ⟨P', Q', hf'⟩ := finds_some (symsF 1 fun _ => o)
        have HLd := load_any w9 p bm (alD t) 1 T bnA hF9 hI hT (hE.later hB9.below) (by decide)
        rw [Ho1.out] at hso
        clear hS9 Ho1
        go_wp2_with fail
        refine HLd.mono ?_
        rintro e w10 ⟨hld, hb10⟩
        have hB10 := hB9.later hb10
        replace p0 := cell_later hb10 p0
        replace p1 := cell_later hb10 p1
        replace p2 := cell_later hb10 p2
        replace p3 := cell_later hb10 p3
        have hbo : Below w10.heap.size w10 (w10.alloc (.cells #[.slice aN 0 cN, .slice aW o.nW cW, .slice aS o.nS cS, .slice aT o.nT cT] 27)) := (Below.refl _ _).alloc (Nat.le_refl _) _
        have hbi : Below w10.heap.size w10 ((w10.alloc (.cells #[.slice aN 0 cN, .slice aW o.nW cW, .slice aS o.nS cS, .slice aT o.nT cT] 27)).alloc (.cells #[.int .i64 0] 3)) := hbo.alloc (by simp) _
        have rO : ObjsRow ((w10.alloc (.cells #[.slice aN 0 cN, .slice aW o.nW cW, .slice aS o.nS cS, .slice aT o.nT cT] 27)).alloc (.cells #[.int .i64 0] 3)) (some ⟨w10.heap.size, 0, none⟩) 1 (fun _ => ⟨aN, cN, aW, cW, aS, cS, aT, cT⟩) (fun _ => o) := .inr ⟨_, _, rfl, fun i hi => by
          have h00 : i = 0 := (by omega)
          subst h00
          exact ⟨by rw [hN0]; simp [go_sem], by simp [go_sem], by simp [go_sem], by simp [go_sem], hB10.at'.later hbi⟩⟩
        have rI : RowAt ((w10.alloc (.cells #[.slice aN 0 cN, .slice aW o.nW cW, .slice aS o.nS cS, .slice aT o.nT cT] 27)).alloc (.cells #[.int .i64 0] 3)) (some ⟨w10.heap.size + 1, 0, none⟩) 1 fun i => .int .i64 ((fun _ => 0 : Nat → Int) i) := .inr ⟨_, _, rfl, fun i hi => by
          have h00 : i = 0 := (by omega)
          subst h00
          simp [go_sem]⟩
        have HA := all_any (some ⟨w10.heap.size, 0, none⟩) (some ⟨w10.heap.size + 1, 0, none⟩) 1 1 1 1 _ _ (fun _ => 0) P' Q' _ (by decide) (by decide) rO rI (fun _ _ => hok) hf'
        have HB12 : Hid (∀ W, Below w10.heap.size w10 W → Below w.heap.size w W) := fun W h => hB10.below.trans (h.mono hB10.below.size)
        clear HLd hB9 hF9 hb10 hbo rO rI
        generalize hW11 : (w10.alloc (.cells #[.slice aN 0 cN, .slice aW o.nW cW, .slice aS o.nS cS, .slice aT o.nT cT] 27)).alloc (.cells #[.int .i64 0] 3) = W11 at *
        cases hld with
        | bad F hR hFn =>
          have hFF := alone_bad hO hso hok hf' hR
          obtain ⟨z, hz⟩ := errV_pos hFn
          rw [hz]
          rw [← hFF] at HA
          have HNZ := number_errno z
          go_wp2_with fail
          refine HA.mono ?_
          rintro e w12 ⟨hae, hb12⟩
          clear HA
          have hB12 := HB12.out _ (hbi.trans (hb12.mono hbi.size))
          cases hae with
          | ok hf0 => exact absurd hf0 hFn
          | bad _ =>
            rw [hz]
            clear hz hFF hFn hR
            go_wp2_with (go_at_call 16; refine (HNZ _).mono ?_; rintro e w13 ⟨rfl, rfl⟩)
            go_ret
            exact ⟨rfl, hB12⟩
        | ok m B P Q u g A C G hR hu =>
          obtain ⟨rfl, rfl, hall, hbw⟩ := alone_ok hO hso hok hf' hR
          rw [hall] at HA
          go_wp2_with fail
          refine HA.mono ?_
          rintro e w12 ⟨hae, hb12⟩
          clear HA
          cases hae with
          | bad hf0 => exact absurd rfl hf0
          | ok hf0 pv hpv =>
            obtain ⟨pa, pc, rfl, hpc, hprow⟩ := rows_pat hpv
            obtain ⟨au, cu, rfl, _, hrow⟩ := parts_row hu
            rcases hrow with h0' | ⟨gk, go, rfl, hrc⟩
            · cases h0'
            obtain ⟨c0, c1, c2, rwd⟩ := hrc 0 (by decide)
            simp only [Nat.zero_mul, Nat.add_zero] at c0 c1 c2
            have hb1012 := hbi.trans (hb12.mono hbi.size)
            have hbl : Below w12.heap.size w12 (w12.alloc (.cells #[.slice aW o.nW cW] 23)) := (Below.refl _ _).alloc (Nat.le_refl _) _
            have hbL := hb1012.trans (hbl.mono hb1012.size)
            have rL : ListsRow (w12.alloc (.cells #[.slice aW o.nW cW] 23)) (some ⟨w12.heap.size, 0, none⟩) 1 (fun _ => aW) (fun _ => o.nW) (fun _ => cW) (fun _ j => o.words j) := .inr ⟨_, _, rfl, fun i hi => by
              have h00 : i = 0 := (by omega)
              subst h00
              exact ⟨by simp [go_sem], hB10.at'.words.later hbL⟩⟩
            have hlen : (patsTo (fun _ => o) P' Q' (fun _ => 0) 1).length ≤ 1000 := by have := patsTo_le (O := fun _ => o) P' Q' (fun _ => 0) (i := 1) (fun _ _ => hok.nT); omega
            have HPU := put_any (some ⟨w12.heap.size, 0, none⟩) pa 1 1 (patsTo (fun _ => o) P' Q' (fun _ => 0) 1).length pc _ _ _ _ _ _ _ _ (by decide) (fun i hi => by have := hok.nW; omega) hlen rL (hprow.later hbl)
            have q1 := cell_later hb1012 p1
            have hOKP := pats_ok (O := fun _ => o) (P := P') (Q := Q') (B := fun _ => 0) (m := 1) (fun _ _ => hok)
            clear rL hprow hpv hbl hb12 hlen
            go_wp2_with fail
            refine HPU.mono ?_
            rintro e w14 ⟨hpe, hb14⟩
            clear HPU
            cases hpe with
            | bad hbd =>
              exact (hbd.not hOKP).elim
            | ok g2 A2 C2 G2 hok2 ho =>
              have hbE := hbL.trans (hb14.mono hbL.size)
              have c0' := cell_later hbE c0
              have c1' := cell_later hbE c1
              have c2' := cell_later hbE c2
              have r1 := rwd.later hbE
              have t0 := ho.top 0 (by decide)
              have r2 : RowAt w14 (A2 0) o.nW fun j => .int .i64 (putF (fun _ j => o.words j) (pP (patsTo (fun _ => o) P' Q' (fun _ => 0) 1)) (pT (patsTo (fun _ => o) P' Q' (fun _ => 0) 1)) (pV (patsTo (fun _ => o) P' Q' (fun _ => 0) 1)) (patsTo (fun _ => o) P' Q' (fun _ => 0) 1).length 0 j) := by
                by_cases h00 : o.nW = 0
                · exact .inl h00
                · exact .inr ⟨G2 0, 0, ho.adr 0 (by decide) (by show 0 < o.nW; omega), fun j hj => by rw [Nat.zero_add]; exact ho.row 0 (by decide) j hj⟩
              have e1 : (obAt (rdD (alD t) T) bnA 0).nW = o.nW := hso.nW
              (try dsimp only at c2'); (try dsimp only at r1)
              rw [e1] at c2' r1
              have HSN := fun W (hW : Below w14.heap.size w14 W) => sameNumbers_any (fun j => boundW (rdD (alD t) T) bnA 1 (fun _ => 0) P Q 0 j) (fun j => putF (fun _ j => o.words j) (pP (patsTo (fun _ => o) P' Q' (fun _ => 0) 1)) (pT (patsTo (fun _ => o) P' Q' (fun _ => 0) 1)) (pV (patsTo (fun _ => o) P' Q' (fun _ => 0) 1)) (patsTo (fun _ => o) P' Q' (fun _ => 0) 1).length 0 j) o.nW o.nW (A 0) (A2 0) (C 0) (C2 0) W (by have := hok.nW; omega) (r1.later hW) (r2.later hW)
              have heq : (decide (o.nW = o.nW) && eqTo (fun j => boundW (rdD (alD t) T) bnA 1 (fun _ => 0) P Q 0 j) (fun j => putF (fun _ j => o.words j) (pP (patsTo (fun _ => o) P' Q' (fun _ => 0) 1)) (pT (patsTo (fun _ => o) P' Q' (fun _ => 0) 1)) (pV (patsTo (fun _ => o) P' Q' (fun _ => 0) 1)) (patsTo (fun _ => o) P' Q' (fun _ => 0) 1).length 0 j) o.nW) = true := by
                rw [decide_eq_true rfl, Bool.true_and]
                exact eqTo_all hbw
              rw [heq] at HSN
              have hBE := HB12.out _ hbE
              generalize A 0 = A0 at *
              generalize C 0 = C0 at *
              generalize A2 0 = A20 at *
              generalize C2 0 = C20 at *
              clear heq r1 r2 e1 hbw hbE hbL hb1012 ho hok2 hOKP hu hR hrc rwd c0 c1 c2 hW11 HB12 q1 p0 p1 p2 p3 hB10 hbi hpc hb14 hso hf' hO hn1 hall hf0 c0'
              go_upto_region 20 with fail
              go_quiet ((go_at_call 18; exact Calls.quiet_of (HSN _ (below_drewN (Below.refl _ _) _))))
              go_wp2
              go_ret
              exact ⟨rfl, below_drewN hBE _⟩
    · obtain ⟨z, hz⟩ := errV_pos h0
      rw [hz]
      go_wp2
      go_ret
      exact ⟨rfl, hB3.below⟩
end Go.Proofs.YtieldgdkkfkehaaGreatDoor

