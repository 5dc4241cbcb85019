/-
  The law ObjectSays returns true, for every object and text; memory that was there stays as it was.
-/
import Derived.Test.YtlplncjhggojoaaGreatDoorObjFact
import Derived.Test.YtlplncjhggojoaaGreatDoorSameObj
import Derived.Test.YtlplncjhggojoaaGreatDoorLight
import Derived.Test.YtlplncjhggojoaaGreatDoorRefFault
import Derived.Test.YtlplncjhggojoaaGreatDoorRefOf
namespace Go.Proofs.YtlplncjhggojoaaGreatDoor
open Go.RowKit

/-- what stands in memory while the law is gone through: the object in its box. -/
structure SaySt (w wi : World) (v : ObjV) (o : ObjF) : Prop where
  env : Env wi
  at' : ObjAt wi v o
  below : Below w.heap.size w wi
  box : wi.heap[w.heap.size]? = some (.cells (v.cells o) 27 (0, 0))
theorem SaySt.later {w wi wj : World} {v : ObjV} {o : ObjF} (h : SaySt w wi v o) (hb : Below wi.heap.size wi wj) : SaySt w wj v o :=
  ⟨h.env.later hb, h.at'.later hb, h.below.trans (hb.mono h.below.size), (hb.block _ (Array.getElem?_eq_some_iff.1 h.box).1).trans h.box⟩
theorem SaySt.p0 {w wi : World} {v : ObjV} {o : ObjF} (h : SaySt w wi v o) : wi.cell? ⟨w.heap.size, 0, none⟩ = some (.slice v.aN o.nN v.cN) := by simp [World.cell?, h.box, ObjV.cells]
theorem SaySt.p1 {w wi : World} {v : ObjV} {o : ObjF} (h : SaySt w wi v o) : wi.cell? ⟨w.heap.size, 1, none⟩ = some (.slice v.aW o.nW v.cW) := by simp [World.cell?, h.box, ObjV.cells]
theorem SaySt.p2 {w wi : World} {v : ObjV} {o : ObjF} (h : SaySt w wi v o) : wi.cell? ⟨w.heap.size, 2, none⟩ = some (.slice v.aS o.nS v.cS) := by simp [World.cell?, h.box, ObjV.cells]
theorem SaySt.p3 {w wi : World} {v : ObjV} {o : ObjF} (h : SaySt w wi v o) : wi.cell? ⟨w.heap.size, 3, none⟩ = some (.slice v.aT o.nT v.cT) := by simp [World.cell?, h.box, ObjV.cells]
theorem same_same (a : Nat) (W : World) : Calls Tryz.prog 8 #[errV a, .int .i64 (a : Int)] W fun e w' => e = .returned (.bool true) ∧ W = w' := by
  refine (same_errV a a W).mono ?_
  rintro e w' ⟨rfl, h⟩
  exact ⟨by simp, h⟩

set_option maxRecDepth 100000 in
set_option maxHeartbeats 6000000 in
theorem objectSays_walk (v : ObjV) (o : ObjF) (s : ByteArray) (w : World) (hE0 : Env w) (hA0 : ObjAt w v o) (hf : ObjFit o) :
    Calls Tryz.prog 3 #[.agg (v.cells o), .string s] w fun e w' => e = .returned (.bool true) ∧ Below w.heap.size w w' := by
  obtain ⟨aN, cN, aW, cW, aS, cS, aT, cT⟩ := v
  have hb0 : Below w.heap.size w (w.alloc (.cells #[.slice aN o.nN cN, .slice aW o.nW cW, .slice aS o.nS cS, .slice aT o.nT cT] 27)) := (Below.refl _ _).alloc (Nat.le_refl _) _
  have hS : SaySt w (w.alloc (.cells #[.slice aN o.nN cN, .slice aW o.nW cW, .slice aS o.nS cS, .slice aT o.nT cT] 27)) ⟨aN, cN, aW, cW, aS, cS, aT, cT⟩ o := by
    refine ⟨hE0.later hb0, hA0.later hb0, hb0, ?_⟩
    show (w.heap.push _)[w.heap.size]? = _
    rw [Array.getElem?_push_size]
    rfl
  have HO := objects_any _ hS.env
  unfold ObjV.cells
  clear hb0 hE0 hA0
  go_enter Tryz.func3, Tryz.ntmps3
  go_wp2_with fail
  refine HO.mono ?_
  rintro e w1 ⟨rfl, hb1⟩
  replace hS := hS.later hb1
  clear HO hb1
  have HL := light_any ⟨aN, cN, aW, cW, aS, cS, aT, cT⟩ o _ hS.at' hf
  unfold ObjV.cells at HL
  have p0 := hS.p0
  have p1 := hS.p1
  have p2 := hS.p2
  have p3 := hS.p3
  go_wp2_with fail
  refine HL.mono ?_
  rintro e w2 ⟨⟨b, rfl⟩, hb2⟩
  clear HL p0 p1 p2 p3
  replace hS := hS.later hb2
  clear hb2
  have hB2 := hS.below
  cases b with
  | false =>
    clear hS
    go_wp2
    go_ret
    exact ⟨rfl, hB2⟩
  | true =>
    by_cases hs : 1500 < s.size
    · have hs' : (1500 : Int) < (s.size : Int) := by omega
      clear hS hs
      go_wp2
      go_ret
      exact ⟨rfl, hB2⟩
    · have hs' : ¬ (1500 : Int) < (s.size : Int) := by omega
      have HOF := objectFault_any ⟨aN, cN, aW, cW, aS, cS, aT, cT⟩ o w2 hS.at' hf
      unfold ObjV.cells at HOF
      have p0 := hS.p0
      have p1 := hS.p1
      have p2 := hS.p2
      have p3 := hS.p3
      clear hs hB2
      go_wp2_with fail
      refine HOF.mono ?_
      rintro e w3 ⟨rfl, hb3⟩
      replace hS := hS.later hb3
      clear HOF p0 p1 p2 p3 hb3
      have HT := text_any ⟨aN, cN, aW, cW, aS, cS, aT, cT⟩ o w3 hS.env hS.at' hf
      unfold ObjV.cells at HT
      have p0 := hS.p0
      have p1 := hS.p1
      have p2 := hS.p2
      have p3 := hS.p3
      go_wp2_with fail
      refine HT.mono ?_
      rintro e w4 ⟨⟨t, rfl, ht⟩, hb4⟩
      replace hS := hS.later hb4
      clear HT p0 p1 p2 p3 hb4
      have HC := checkObj_any ⟨aN, cN, aW, cW, aS, cS, aT, cT⟩ o w4 hS.at' hf
      unfold ObjV.cells at HC
      have p0 := hS.p0
      have p1 := hS.p1
      have p2 := hS.p2
      have p3 := hS.p3
      go_wp2_with fail
      refine HC.mono ?_
      rintro e w5 ⟨rfl, hb5⟩
      replace hS := hS.later hb5
      clear HC p0 p1 p2 p3 hb5
      have HSm := same_same (objF o) w5
      go_wp2_with fail
      refine HSm.mono ?_
      rintro e w5' ⟨rfl, hw5⟩
      replace hw5 := hw5.symm
      subst hw5
      clear HSm
      by_cases hz : objF o = 0
      · rw [hz]
        have hok := objOk hz
        obtain ⟨F, L, hFL⟩ : ∃ F L, (F, L) = if 1200 < (textL o).length then ((2 : Nat), ([] : List UInt8)) else (0, textL o) := ⟨_, _, rfl⟩
        have hTF : textF o = (F, L) := by
          unfold textF
          rw [if_pos hz, hFL]
        rw [hTF] at ht ⊢
        have HX := objectText_any ⟨aN, cN, aW, cW, aS, cS, aT, cT⟩ o F L _ hS.at' hok hFL
        unfold ObjV.cells at HX
        have p0 := hS.p0
        have p1 := hS.p1
        have p2 := hS.p2
        have p3 := hS.p3
        clear hFL hTF hz hok
        go_wp2_with fail
        refine HX.mono ?_
        rintro e w6 ⟨⟨u, rfl, hu⟩, hb6⟩
        obtain rfl : t = u := by rw [← mkB_data t, ← mkB_data u, ht, hu]
        replace hS := hS.later hb6
        clear HX p0 p1 p2 p3 hb6 ht hu
        have HSm := same_same F w6
        go_wp2_with fail
        refine HSm.mono ?_
        rintro e w6' ⟨rfl, hw6⟩
        replace hw6 := hw6.symm
        subst hw6
        clear HSm
        have HP := parse_any s _ hS.env
        go_wp2_with fail
        refine HP.mono ?_
        rintro e w7 ⟨⟨⟨xN, dN, xW, dW, xS, dS, xT, dT⟩, rfl, hAx⟩, hb7⟩
        replace hS := hS.later hb7
        clear HP hb7
        have hb8 : Below w7.heap.size w7 (w7.alloc (.cells #[.slice xN (parseF s).2.nN dN, .slice xW (parseF s).2.nW dW, .slice xS (parseF s).2.nS dS, .slice xT (parseF s).2.nT dT] 27)) := (Below.refl _ _).alloc (Nat.le_refl _) _
        replace hS := hS.later hb8
        replace hAx := hAx.later hb8
        have HOf := objectOf_any s (w7.alloc (.cells #[.slice xN (parseF s).2.nN dN, .slice xW (parseF s).2.nW dW, .slice xS (parseF s).2.nS dS, .slice xT (parseF s).2.nT dT] 27))
        obtain ⟨g1, g2, g3⟩ := ref_same s
        rw [g1] at HOf
        unfold ObjV.cells
        clear hb8
        go_wp2_with fail
        refine HOf.mono ?_
        rintro e w9 ⟨⟨⟨yN, eN, yW, eW, yS, eS, yT, eT⟩, rfl, hAy⟩, hb9⟩
        have x0 : w9.cell? ⟨w7.heap.size, 0, none⟩ = some (.slice xN (parseF s).2.nN dN) := cell_later hb9 (by simp [go_sem])
        have x1 : w9.cell? ⟨w7.heap.size, 1, none⟩ = some (.slice xW (parseF s).2.nW dW) := cell_later hb9 (by simp [go_sem])
        have x2 : w9.cell? ⟨w7.heap.size, 2, none⟩ = some (.slice xS (parseF s).2.nS dS) := cell_later hb9 (by simp [go_sem])
        have x3 : w9.cell? ⟨w7.heap.size, 3, none⟩ = some (.slice xT (parseF s).2.nT dT) := cell_later hb9 (by simp [go_sem])
        have hlt : w7.heap.size < w9.heap.size := World.block_lt_of_cell? _ _ x0
        replace hS := hS.later hb9
        replace hAx := hAx.later hb9
        clear HOf hb9
        have hbA : Below w9.heap.size w9 (w9.alloc (.cells #[.slice yN (refF s).2.nN eN, .slice yW (refF s).2.nW eW, .slice yS (refF s).2.nS eS, .slice yT (refF s).2.nT eT] 27)) := (Below.refl _ _).alloc (Nat.le_refl _) _
        replace hS := hS.later hbA
        replace hAx := hAx.later hbA
        replace hAy := hAy.later hbA
        have HSm := same_same (parseF s).1 (w9.alloc (.cells #[.slice yN (refF s).2.nN eN, .slice yW (refF s).2.nW eW, .slice yS (refF s).2.nS eS, .slice yT (refF s).2.nT eT] 27))
        have HSO := sameObject_true ⟨xN, dN, xW, dW, xS, dS, xT, dT⟩ ⟨yN, eN, yW, eW, yS, eS, yT, eT⟩ (parseF s).2 (refF s).2 _ hAx hAy g2 g3
        unfold ObjV.cells at HSO
        unfold ObjV.cells
        have hB := hS.below
        generalize (parseF s).1 = FP at *
        generalize (parseF s).2 = PX at *
        generalize (refF s).2 = RY at *
        clear hbA hAx hAy g1 g2 g3 hS
        go_wp2_with (first | (go_at_call 8; refine HSm.mono ?_; rintro e w10 ⟨rfl, rfl⟩) | (go_at_call 13; refine HSO.mono ?_; rintro e w11 ⟨rfl, hb11⟩))
        go_ret
        exact ⟨rfl, hB.trans (hb11.mono hB.size)⟩
      · have hTF : textF o = (objF o, []) := if_neg hz
        rw [hTF] at ht ⊢
        obtain rfl : t = ⟨#[]⟩ := by rw [← mkB_data t, ht]; rfl
        have hp : (0 : Int) < ((objF o : Nat) : Int) := by omega
        have HSm2 := same_same (objF o)
        generalize objF o = FO at *
        clear hTF hz ht
        go_wp2_with fail
        refine (HSm2 _).mono ?_
        rintro e w6' ⟨rfl, hw6⟩
        replace hw6 := hw6.symm
        subst hw6
        clear HSm2
        have HP := parse_any s _ hS.env
        go_wp2_with fail
        refine HP.mono ?_
        rintro e w7 ⟨⟨⟨xN, dN, xW, dW, xS, dS, xT, dT⟩, rfl, hAx⟩, hb7⟩
        replace hS := hS.later hb7
        clear HP hb7
        have hb8 : Below w7.heap.size w7 (w7.alloc (.cells #[.slice xN (parseF s).2.nN dN, .slice xW (parseF s).2.nW dW, .slice xS (parseF s).2.nS dS, .slice xT (parseF s).2.nT dT] 27)) := (Below.refl _ _).alloc (Nat.le_refl _) _
        replace hS := hS.later hb8
        replace hAx := hAx.later hb8
        have HOf := objectOf_any s (w7.alloc (.cells #[.slice xN (parseF s).2.nN dN, .slice xW (parseF s).2.nW dW, .slice xS (parseF s).2.nS dS, .slice xT (parseF s).2.nT dT] 27))
        obtain ⟨g1, g2, g3⟩ := ref_same s
        rw [g1] at HOf
        unfold ObjV.cells
        clear hb8
        go_wp2_with fail
        refine HOf.mono ?_
        rintro e w9 ⟨⟨⟨yN, eN, yW, eW, yS, eS, yT, eT⟩, rfl, hAy⟩, hb9⟩
        have x0 : w9.cell? ⟨w7.heap.size, 0, none⟩ = some (.slice xN (parseF s).2.nN dN) := cell_later hb9 (by simp [go_sem])
        have x1 : w9.cell? ⟨w7.heap.size, 1, none⟩ = some (.slice xW (parseF s).2.nW dW) := cell_later hb9 (by simp [go_sem])
        have x2 : w9.cell? ⟨w7.heap.size, 2, none⟩ = some (.slice xS (parseF s).2.nS dS) := cell_later hb9 (by simp [go_sem])
        have x3 : w9.cell? ⟨w7.heap.size, 3, none⟩ = some (.slice xT (parseF s).2.nT dT) := cell_later hb9 (by simp [go_sem])
        have hlt : w7.heap.size < w9.heap.size := World.block_lt_of_cell? _ _ x0
        replace hS := hS.later hb9
        replace hAx := hAx.later hb9
        clear HOf hb9
        have hbA : Below w9.heap.size w9 (w9.alloc (.cells #[.slice yN (refF s).2.nN eN, .slice yW (refF s).2.nW eW, .slice yS (refF s).2.nS eS, .slice yT (refF s).2.nT eT] 27)) := (Below.refl _ _).alloc (Nat.le_refl _) _
        replace hS := hS.later hbA
        replace hAx := hAx.later hbA
        replace hAy := hAy.later hbA
        have HSm := same_same (parseF s).1 (w9.alloc (.cells #[.slice yN (refF s).2.nN eN, .slice yW (refF s).2.nW eW, .slice yS (refF s).2.nS eS, .slice yT (refF s).2.nT eT] 27))
        have HSO := sameObject_true ⟨xN, dN, xW, dW, xS, dS, xT, dT⟩ ⟨yN, eN, yW, eW, yS, eS, yT, eT⟩ (parseF s).2 (refF s).2 _ hAx hAy g2 g3
        unfold ObjV.cells at HSO
        unfold ObjV.cells
        have hB := hS.below
        generalize (parseF s).1 = FP at *
        generalize (parseF s).2 = PX at *
        generalize (refF s).2 = RY at *
        clear hbA hAx hAy g1 g2 g3 hS
        go_wp2_with (first | (go_at_call 8; refine HSm.mono ?_; rintro e w10 ⟨rfl, rfl⟩) | (go_at_call 13; refine HSO.mono ?_; rintro e w11 ⟨rfl, hb11⟩))
        go_ret
        exact ⟨rfl, hB.trans (hb11.mono hB.size)⟩
end Go.Proofs.YtlplncjhggojoaaGreatDoor
