/-
  The law TopText returns true, for every object and text; memory that was there stays as it was.
-/
import Derived.Test.YtnbmnljknfgafaaDoorPlainTop
import Derived.Test.YtnbmnljknfgafaaDoorSameObj
import Derived.Test.YtnbmnljknfgafaaDoorLight
namespace Go.Proofs.YtnbmnljknfgafaaDoor
open Go.RowKit

theorem slicesOf (a0 : Option Addr) (n0 k0 : Nat) (a1 : Option Addr) (n1 k1 : Nat) (a2 : Option Addr) (n2 k2 : Nat) (a3 : Option Addr) (n3 k3 : Nat) : Slices #[.slice a0 n0 k0, .slice a1 n1 k1, .slice a2 n2 k2, .slice a3 n3 k3] := by
  intro j x hx
  match j, hx with
  | 0, hx => exact ⟨a0, n0, k0, by simpa using hx.symm⟩
  | 1, hx => exact ⟨a1, n1, k1, by simpa using hx.symm⟩
  | 2, hx => exact ⟨a2, n2, k2, by simpa using hx.symm⟩
  | 3, hx => exact ⟨a3, n3, k3, by simpa using hx.symm⟩
  | j + 4, hx => simp at hx
theorem ObjAt.storeAll {w : World} {v : ObjV} {o : ObjF} {g : Nat} {t : TypeId} {c : Array Value} (h : ObjAt w v o) (hg : w.heap[g]? = some (.cells c t (0, 0))) (hc : Slices c) (a0 : Option Addr) (n0 k0 : Nat) (a1 : Option Addr) (n1 k1 : Nat) (a2 : Option Addr) (n2 k2 : Nat) (a3 : Option Addr) (n3 k3 : Nat) :
    ObjAt ((((w.setCell ⟨g, 0, none⟩ (.slice a0 n0 k0)).setCell ⟨g, 1, none⟩ (.slice a1 n1 k1)).setCell ⟨g, 2, none⟩ (.slice a2 n2 k2)).setCell ⟨g, 3, none⟩ (.slice a3 n3 k3)) v o := by
  have h1 := heap_setCell w g 0 _ _ (.slice a0 n0 k0) hg
  have h2 := heap_setCell _ g 1 _ _ (.slice a1 n1 k1) h1
  have h3 := heap_setCell _ g 2 _ _ (.slice a2 n2 k2) h2
  exact (((h.store hg hc).store h1 (hc.set _ _ _ _)).store h2 ((hc.set _ _ _ _).set _ _ _ _)).store h3 (((hc.set _ _ _ _).set _ _ _ _).set _ _ _ _)

/-- what stands in memory while the law is gone through: the object in its box, and a box for another one. -/
structure TopSt (w wi : World) (v : ObjV) (o : ObjF) (Q : Nat) (q0 q1 q2 q3 : Value) : Prop where
  env : Env wi
  at' : ObjAt wi v o
  below : Below w.heap.size w wi
  lo : w.heap.size ≤ Q
  box : wi.heap[w.heap.size]? = some (.cells (v.cells o) 35 (0, 0))
  loc : wi.heap[Q]? = some (.cells #[q0, q1, q2, q3] 35 (0, 0))
theorem TopSt.later {w wi wj : World} {v : ObjV} {o : ObjF} {Q : Nat} {q0 q1 q2 q3 : Value} (h : TopSt w wi v o Q q0 q1 q2 q3) (hb : Below wi.heap.size wi wj) : TopSt w wj v o Q q0 q1 q2 q3 :=
  ⟨h.env.later hb, h.at'.later hb, h.below.trans (hb.mono h.below.size), h.lo, (hb.block _ (Array.getElem?_eq_some_iff.1 h.box).1).trans h.box, (hb.block _ (Array.getElem?_eq_some_iff.1 h.loc).1).trans h.loc⟩
theorem TopSt.p0 {w wi : World} {v : ObjV} {o : ObjF} {Q : Nat} {q0 q1 q2 q3 : Value} (h : TopSt w wi v o Q q0 q1 q2 q3) : wi.cell? ⟨w.heap.size, 0, none⟩ = some (.slice v.aN o.nN v.cN) := by simp [World.cell?, h.box, ObjV.cells]
theorem TopSt.p1 {w wi : World} {v : ObjV} {o : ObjF} {Q : Nat} {q0 q1 q2 q3 : Value} (h : TopSt w wi v o Q q0 q1 q2 q3) : wi.cell? ⟨w.heap.size, 1, none⟩ = some (.slice v.aW o.nW v.cW) := by simp [World.cell?, h.box, ObjV.cells]
theorem TopSt.p2 {w wi : World} {v : ObjV} {o : ObjF} {Q : Nat} {q0 q1 q2 q3 : Value} (h : TopSt w wi v o Q q0 q1 q2 q3) : wi.cell? ⟨w.heap.size, 2, none⟩ = some (.slice v.aS o.nS v.cS) := by simp [World.cell?, h.box, ObjV.cells]
theorem TopSt.p3 {w wi : World} {v : ObjV} {o : ObjF} {Q : Nat} {q0 q1 q2 q3 : Value} (h : TopSt w wi v o Q q0 q1 q2 q3) : wi.cell? ⟨w.heap.size, 3, none⟩ = some (.slice v.aT o.nT v.cT) := by simp [World.cell?, h.box, ObjV.cells]
theorem TopSt.l0 {w wi : World} {v : ObjV} {o : ObjF} {Q : Nat} {q0 q1 q2 q3 : Value} (h : TopSt w wi v o Q q0 q1 q2 q3) : wi.cell? ⟨Q, 0, none⟩ = some q0 := by simp [World.cell?, h.loc]
theorem TopSt.l1 {w wi : World} {v : ObjV} {o : ObjF} {Q : Nat} {q0 q1 q2 q3 : Value} (h : TopSt w wi v o Q q0 q1 q2 q3) : wi.cell? ⟨Q, 1, none⟩ = some q1 := by simp [World.cell?, h.loc]
theorem TopSt.l2 {w wi : World} {v : ObjV} {o : ObjF} {Q : Nat} {q0 q1 q2 q3 : Value} (h : TopSt w wi v o Q q0 q1 q2 q3) : wi.cell? ⟨Q, 2, none⟩ = some q2 := by simp [World.cell?, h.loc]
theorem TopSt.l3 {w wi : World} {v : ObjV} {o : ObjF} {Q : Nat} {q0 q1 q2 q3 : Value} (h : TopSt w wi v o Q q0 q1 q2 q3) : wi.cell? ⟨Q, 3, none⟩ = some q3 := by simp [World.cell?, h.loc]
theorem TopSt.m {w wi : World} {v : ObjV} {o : ObjF} {Q : Nat} {q0 q1 q2 q3 : Value} (h : TopSt w wi v o Q q0 q1 q2 q3) (i : Nat) : wi.frozen? ⟨Q, i, none⟩ = false := by simp [World.frozen?, h.loc]

set_option maxRecDepth 100000 in
set_option maxHeartbeats 4000000 in
theorem topText_walk (v : ObjV) (o : ObjF) (s : ByteArray) (w : World) (hE0 : Env w) (hA0 : ObjAt w v o) (hf : ObjFit o) :
    Calls Tryd.prog 4 #[.agg (v.cells o), .string s] w fun e w' => e = .returned (.bool true) ∧ Below w.heap.size w w' := by
  obtain ⟨aN, cN, aW, cW, aS, cS, aT, cT⟩ := v
  have hb0 : ∀ ob : Obj, Below w.heap.size w (w.alloc ob) := fun ob => (Below.refl _ _).alloc (Nat.le_refl _) ob
  have HP := fun ob => parse_any ⟨#[119, 111, 114, 100, 32, 49, 10]⟩ (w.alloc ob) (hE0.later (hb0 ob))
  obtain ⟨z1, z2⟩ := parse_word1
  rw [errV_nil z1] at HP
  generalize (parseF ⟨#[119, 111, 114, 100, 32, 49, 10]⟩).2 = X at *
  have hbox : (w.alloc (.cells #[.slice aN o.nN cN, .slice aW o.nW cW, .slice aS o.nS cS, .slice aT o.nT cT] 35)).heap[w.heap.size]? = some (.cells #[.slice aN o.nN cN, .slice aW o.nW cW, .slice aS o.nS cS, .slice aT o.nT cT] 35 (0, 0)) := by
    show (w.heap.push _)[w.heap.size]? = _
    rw [Array.getElem?_push_size]
  unfold ObjV.cells
  clear z1
  go_enter Tryd.func4, Tryd.ntmps4
  go_wp2_with fail
  refine (HP _).mono ?_
  rintro e w1 ⟨⟨⟨xN, dN, xW, dW, xS, dS, xT, dT⟩, rfl, -⟩, hb1⟩
  clear HP
  have hx1 := (hb0 _).trans (hb1.mono (hb0 _).size)
  have hb2 : Below w1.heap.size w1 (w1.alloc (.cells #[.slice xN X.nN dN, .slice xW X.nW dW, .slice xS X.nS dS, .slice xT X.nT dT] 35)) := (Below.refl _ _).alloc (Nat.le_refl _) _
  have hS : TopSt w (w1.alloc (.cells #[.slice xN X.nN dN, .slice xW X.nW dW, .slice xS X.nS dS, .slice xT X.nT dT] 35)) ⟨aN, cN, aW, cW, aS, cS, aT, cT⟩ o w1.heap.size (.slice xN X.nN dN) (.slice xW X.nW dW) (.slice xS X.nS dS) (.slice xT X.nT dT) := by
    have hlt : w.heap.size < w1.heap.size := by have := hb1.size; simp at this; omega
    refine ⟨(hE0.later hx1).later hb2, (hA0.later hx1).later hb2, hx1.trans (hb2.mono hx1.size), Nat.le_of_lt hlt, (hb2.block _ hlt).trans ((hb1.block _ (by simp)).trans hbox), ?_⟩
    show (w1.heap.push _)[w1.heap.size]? = _
    rw [Array.getElem?_push_size]
  unfold ObjV.cells
  simp only [z2] at hS ⊢
  have HL := light_any ⟨aN, cN, aW, cW, aS, cS, aT, cT⟩ o _ hS.at' hf
  unfold ObjV.cells at HL
  clear hb1 hb0 hbox hx1 hb2 z2
  have p0 := hS.p0
  have p1 := hS.p1
  have p2 := hS.p2
  have p3 := hS.p3
  have l1 := hS.l1
  go_wp2_with fail
  refine HL.mono ?_
  rintro e w2 ⟨⟨b, rfl⟩, hb2⟩
  clear HL p0 p1 p2 p3 l1
  replace hS := hS.later hb2
  clear hb2
  have hB2 := hS.below
  cases b with
  | false =>
    clear hS
    go_wp2
    go_ret
    exact ⟨rfl, hB2⟩
  | true =>
    by_cases hs : 1300 < s.size
    · have hs' : (1300 : Int) < (s.size : Int) := by omega
      clear hS hs
      go_wp2
      go_ret
      exact ⟨rfl, hB2⟩
    · have hs' : ¬ (1300 : Int) < (s.size : Int) := by omega
      have HT := text_any ⟨aN, cN, aW, cW, aS, cS, aT, cT⟩ o w2 hS.env hS.at' hf
      unfold ObjV.cells at HT
      have p0 := hS.p0
      have p1 := hS.p1
      have p2 := hS.p2
      have p3 := hS.p3
      clear hs hB2
      go_wp2_with fail
      refine HT.mono ?_
      rintro e w3 ⟨⟨t, rfl, ht⟩, hb3⟩
      replace hS := hS.later hb3
      clear HT p0 p1 p2 p3 hb3
      by_cases h0 : (textF o).1 = 0
      · rw [errV_nil h0]
        have HP2 := parse_any t w3 hS.env
        obtain ⟨y1, y2⟩ := parse_text h0 ht
        rw [errV_nil y1] at HP2
        have hok := objOk (textF_zero h0).1
        have hn : o.nN ≤ 1000000000 ∧ o.nW ≤ 1000000000 ∧ o.nS ≤ 1000000000 ∧ o.nT ≤ 1000000000 := by
          have := hok.nN
          have := hok.nW
          have := hok.nS
          have := hok.nT
          omega
        generalize (parseF t).2 = Y at *
        clear y1 hok h0 ht
        go_wp2_with fail
        refine HP2.mono ?_
        rintro e w4 ⟨⟨⟨bN, eN, bW, eW, bS, eS, bT, eT⟩, rfl, hA4⟩, hb4⟩
        replace hS := hS.later hb4
        clear HP2 hb4
        have hb5 : Below w4.heap.size w4 (w4.alloc (.cells #[.slice bN Y.nN eN, .slice bW Y.nW eW, .slice bS Y.nS eS, .slice bT Y.nT eT] 35)) := (Below.refl _ _).alloc (Nat.le_refl _) _
        replace hS := hS.later hb5
        have HSO := sameObject_true ⟨bN, eN, bW, eW, bS, eS, bT, eT⟩ ⟨aN, cN, aW, cW, aS, cS, aT, cT⟩ Y o _ (hA4.later hb5) hS.at' y2 hn
        unfold ObjV.cells at HSO
        unfold ObjV.cells
        have p0 := hS.p0
        have p1 := hS.p1
        have p2 := hS.p2
        have p3 := hS.p3
        clear hb5 hA4 y2 hn
        go_wp2_with fail
        refine HSO.mono ?_
        rintro e w5 ⟨rfl, hb6⟩
        replace hS := hS.later hb6
        clear HSO p0 p1 p2 p3 hb6
        have HP3 := parse_any s w5 hS.env
        go_wp2_with fail
        refine HP3.mono ?_
        rintro e w6 ⟨⟨⟨yN, kN, yW, kW, yS, kS, yT, kT⟩, rfl, hA6⟩, hb6⟩
        clear HP3
        have s6 := hS.later hb6
        have l0 := s6.l0
        have l1 := s6.l1
        have l2 := s6.l2
        have l3 := s6.l3
        have m0 := s6.m 0
        have m1 := s6.m 1
        have m2 := s6.m 2
        have m3 := s6.m 3
        have hB6 := below_store4 s6.below s6.lo (.slice yN (parseF s).2.nN kN) (.slice yW (parseF s).2.nW kW) (.slice yS (parseF s).2.nS kS) (.slice yT (parseF s).2.nT kT)
        by_cases h6 : (parseF s).1 = 0
        · rw [errV_nil h6]
          obtain ⟨g1, g2, g3⟩ := parse_back h6
          have hA7 := hA6.storeAll s6.loc (slicesOf _ _ _ _ _ _ _ _ _ _ _ _) yN (parseF s).2.nN kN yW (parseF s).2.nW kW yS (parseF s).2.nS kS yT (parseF s).2.nT kT
          have HT7 := text_any ⟨yN, kN, yW, kW, yS, kS, yT, kT⟩ (parseF s).2 _ (hE0.later hB6) hA7 g3
          rw [errV_nil g1, g2] at HT7
          unfold ObjV.cells at HT7
          unfold ObjV.cells
          clear hb6 hA6 hA7 s6  g1 g2 g3 h6
          generalize (parseF s).2 = y at *
          go_wp2_with fail
          refine HT7.mono ?_
          rintro e w7 ⟨⟨r, rfl, hr⟩, hb7⟩
          obtain rfl : r = s := by rw [← mkB_data r, ← mkB_data s, hr]
          have hB7 := hB6.trans (hb7.mono hB6.size)
          clear HT7 hr hb7 hB6 l0 l1 l2 l3 m0 m1 m2 m3
          go_wp2
          go_ret
          exact ⟨rfl, hB7⟩
        · rw [errV_some h6]
          unfold ObjV.cells
          clear hb6 hA6 s6 
          generalize (parseF s).2 = y at *
          go_wp2
          go_ret
          exact ⟨rfl, hB6⟩
      · rw [errV_some h0]
        clear ht
        have HP3 := parse_any s w3 hS.env
        go_wp2_with fail
        refine HP3.mono ?_
        rintro e w6 ⟨⟨⟨yN, kN, yW, kW, yS, kS, yT, kT⟩, rfl, hA6⟩, hb6⟩
        clear HP3
        have s6 := hS.later hb6
        have l0 := s6.l0
        have l1 := s6.l1
        have l2 := s6.l2
        have l3 := s6.l3
        have m0 := s6.m 0
        have m1 := s6.m 1
        have m2 := s6.m 2
        have m3 := s6.m 3
        have hB6 := below_store4 s6.below s6.lo (.slice yN (parseF s).2.nN kN) (.slice yW (parseF s).2.nW kW) (.slice yS (parseF s).2.nS kS) (.slice yT (parseF s).2.nT kT)
        by_cases h6 : (parseF s).1 = 0
        · rw [errV_nil h6]
          obtain ⟨g1, g2, g3⟩ := parse_back h6
          have hA7 := hA6.storeAll s6.loc (slicesOf _ _ _ _ _ _ _ _ _ _ _ _) yN (parseF s).2.nN kN yW (parseF s).2.nW kW yS (parseF s).2.nS kS yT (parseF s).2.nT kT
          have HT7 := text_any ⟨yN, kN, yW, kW, yS, kS, yT, kT⟩ (parseF s).2 _ (hE0.later hB6) hA7 g3
          rw [errV_nil g1, g2] at HT7
          unfold ObjV.cells at HT7
          unfold ObjV.cells
          clear hb6 hA6 hA7 s6 h0 g1 g2 g3 h6
          generalize (parseF s).2 = y at *
          go_wp2_with fail
          refine HT7.mono ?_
          rintro e w7 ⟨⟨r, rfl, hr⟩, hb7⟩
          obtain rfl : r = s := by rw [← mkB_data r, ← mkB_data s, hr]
          have hB7 := hB6.trans (hb7.mono hB6.size)
          clear HT7 hr hb7 hB6 l0 l1 l2 l3 m0 m1 m2 m3
          go_wp2
          go_ret
          exact ⟨rfl, hB7⟩
        · rw [errV_some h6]
          unfold ObjV.cells
          clear hb6 hA6 s6 h0
          generalize (parseF s).2 = y at *
          go_wp2
          go_ret
          exact ⟨rfl, hB6⟩
end Go.Proofs.YtnbmnljknfgafaaDoor
