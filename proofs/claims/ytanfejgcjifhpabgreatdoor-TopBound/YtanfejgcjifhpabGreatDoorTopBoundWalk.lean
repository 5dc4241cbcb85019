/-
  The law TopBound returns true, for every row of acts and every root; memory that was there stays as it was.
-/
import Derived.Test.YtanfejgcjifhpabGreatDoorBoundFact
import Derived.Test.YtanfejgcjifhpabGreatDoorPlainBound
import Derived.Test.YtanfejgcjifhpabGreatDoorImageAt
import Derived.Test.YtanfejgcjifhpabGreatDoorActsAt
import Derived.Deep.QuietTactic
import Derived.BigQuiet
namespace Go.Proofs.YtanfejgcjifhpabGreatDoor
open Go.RowKit Go.Maps

/-- 40 places, tied or not. -/
structure Tied (w : World) (g : Nat) (U : Nat → Bool) : Prop where
  lt : g < w.heap.size
  at' : ∀ i, i < 40 → w.cell? ⟨g, i, none⟩ = some (.bool (U i))
  free : ∀ i, w.frozen? ⟨g, i, none⟩ = false
theorem Tied.later {w w' : World} {g : Nat} {U : Nat → Bool} (h : Tied w g U) (hb : Below w.heap.size w w') : Tied w' g U :=
  ⟨Nat.lt_of_lt_of_le h.lt hb.size, fun i hi => cell_later hb (h.at' i hi), fun i => by rw [hb.frozen (p := ⟨g, i, none⟩) h.lt]; exact h.free i⟩
theorem Tied.set {w : World} {g : Nat} {U V : Nat → Bool} (h : Tied w g U) {x : Nat} (hV : ∀ z, V z = if z = x then true else U z) : Tied (w.setCell ⟨g, x, none⟩ (.bool true)) g V :=
  ⟨by simpa [World.setCell] using h.lt, fun i hi => by
    rw [hV]
    by_cases e : i = x
    · subst e; rw [World.cell?_setCell_same _ _ _ (h.at' i hi), if_pos rfl]
    · rw [World.cell?_setCell_other _ _ _ _ (by intro e2; injection e2 with _ e2 _; exact e e2.symm), if_neg e]; exact h.at' i hi, fun i => by rw [World.frozen?_setCell]; exact h.free i⟩
theorem tied_made : ∃ cs : Array Value, (∀ w, Sem.run Tryz.prog (zeroValue 79) w = .ok (.agg cs) w) ∧ ∀ w : World, Tied (w.alloc (.cells cs 79)) w.heap.size (fun _ => false) :=
  ⟨Array.replicate 40 (.bool false), fun w => by kernel_rfl, fun w => ⟨by simp, fun i hi => by simp [go_sem, hi], fun i => by simp [go_sem]⟩⟩

set_option maxRecDepth 100000 in
set_option maxHeartbeats 20000000 in
theorem topBound_walk (a : Option Addr) (n c : Nat) (X : Nat → ActF) (root : ByteArray) (w : World) (hE : Env w) (hr : ActsRow w a n X) (hf : ∀ i, i < n → ActFit (X i)) :
    Calls Tryz.prog 6 #[.slice a n c, .string root] w fun e w' => e = .returned (.bool true) ∧ Below w.heap.size w w' := by
  have HBd := bound_any w hE
  obtain ⟨Z, hal, hZ⟩ := tied_made
  go_enter Tryz.func6, Tryz.ntmps6
  go_wp2_with fail
  refine HBd.mono ?_
  rintro e w4 ⟨rfl, hb4⟩
  clear HBd
  have HL := lightActs_any a n c 30 X w4 (by decide) (hr.later hb4) hf
  clear hf
  go_wp2_with fail
  refine HL.mono ?_
  rintro e w5 ⟨⟨b, rfl, hl⟩, hb5⟩
  have hb6 := hb4.trans (hb5.mono hb4.size)
  clear HL hb5 hb4
  cases b with
  | false =>
    clear hl hr
    go_wp2
    go_ret
    exact ⟨rfl, hb6⟩
  | true =>
    obtain ⟨h30, hsz⟩ := hl rfl
    clear hl
    by_cases hs : (20 : Int) < (root.size : Int)
    · go_wp2
      go_ret
      exact ⟨rfl, hb6⟩
    have hroot : root.size ≤ maxLen := by simp only [maxLen]; omega
    have HN := new_any w5
    go_wp2_with fail
    refine HN.mono ?_
    rintro e w6 ⟨p, bm, rfl, hp, hbm, hF, hb7⟩
    have hb8 := hb6.trans (hb7.mono hb6.size)
    have HD := done_any w6 p bm (.map []) 0 a n c X w.heap.size hF Inv.empty hb8.size (Nat.le_trans hb6.size hp) (Nat.le_trans hb6.size hbm) (by omega) (fun W hW => hr.later (hb8.trans hW)) hsz
    clear HN
    go_wp2_with fail
    refine HD.mono ?_
    rintro e w7 ⟨rfl, hF7, hT7⟩
    have hb9 := hb8.trans (hT7.below hb8.size (Nat.le_trans hb6.size hp) (Nat.le_trans hb6.size hbm))
    have hI7 := (doneD_inv (X := X) (q := (.map [], 0)) Inv.empty n).1
    generalize (doneD (.map [], 0) X n).1 = D at *
    generalize (doneD (.map [], 0) X n).2 = k at *
    obtain ⟨T, hT⟩ := texts_some D
    have HO := load_any w7 p bm D k T root hF7 hI7 hT (hE.later hb9) hroot
    have hfew := rd_few (T := T) hI7
    clear HD hF hb7 hb8 hb6 hT7 hr hsz hp hbm h30
    go_wp2_with fail
    refine HO.mono ?_
    rintro e w8 ⟨he, hbA⟩
    have hbB := hb9.trans (hbA.mono hb9.size)
    have hF8 := hF7.later hbA
    clear HO hb9 hbA hF7
    cases he with
    | bad F h hf =>
      obtain ⟨z, hz⟩ := errV_pos hf
      rw [hz]
      clear hz h hf hfew
      go_wp2
      go_ret
      exact ⟨rfl, hbB⟩
    | ok m B P Q u g A C G h hu =>
      have HOf := of_any w8 p bm D k T root hF8 hI7 hT (hE.later hbB) hroot
      obtain ⟨au, cu, rfl, _, hprow⟩ := parts_row hu
      clear hF8 hE hu hI7 hT
      go_wp2_with fail
      refine HOf.mono ?_
      rintro e w9 ⟨he2, hbC⟩
      have hbD := hbB.trans (hbC.mono hbB.size)
      clear HOf hbB
      cases he2 with
      | bad F i h2 hf2 => exact absurd (h2.unique h.of).1 hf2
      | ok m' u2 x2 V h2 hu2 hx2 =>
        obtain ⟨_, rfl⟩ := h2.unique h.of
        obtain ⟨hSc, hlen, _⟩ := scope_of h.of hfew
        obtain ⟨xa, xc, rfl, _, horow⟩ := hx2.own.row hx2.at'
        obtain ⟨ua, uc, rfl, _⟩ := owns_shape hu2
        have hm6 := hSc.few
        have himg : ∃ (O : Nat → ObjF) (nm : Nat → ByteArray), PartRow w9 au m' nm B A (fun i => (O i).nW) C (putW O P Q B m') ∧ ObjsRow w9 xa m' V O ∧ (∀ i, i < m' → objF (O i) = 0) ∧ Finds (symsF m' O) P Q ∧ allF m' O P Q m' B = 0 ∧ BasesAre m' (fun i => ((O i).nW : Int)) 0 (fun _ => 0) (fun _ => 0) 0 B :=
          ⟨obAt (rdD D T) root, nmAt (rdD D T) root, hprow.later hbC, horow, fun i hi => rd_obj (by rw [hSc.read i hi]), h.finds, h.all, h.bases⟩
        clear hSc hu2 hx2 horow hprow hbC h2 h hfew
        obtain ⟨O, nm, hparts, hobjs, hobj, hP, hall, hbs⟩ := himg
        have hok : ∀ i, i < m' → ObjOk (O i) := fun i hi => objOk (hobj i hi)
        obtain ⟨hs1, hs2, _⟩ := bases_apart hbs
        have hB : ∀ i, i < m' → 0 ≤ B i ∧ B i ≤ 256 := fun i hi => by have := hs1 i hi; have := hs2 i hi; omega
        have hF9 := fun (s : ByteArray) (W : World) (hW : Below w9.heap.size w9 W) => find_any xa m' xc V O s W (by omega) (fun j hj => by have := (hok j hj).nS; omega) (hobjs.later hW)
        have hAt := fun (x : Int) (hx : x ≤ 9223372036854775807) (W : World) (hW : Below w9.heap.size w9 W) => at_any au m' cu nm B A (fun i => (O i).nW) C (putW O P Q B m') x W (by omega) hB (fun i hi => Nat.le_trans (hok i hi).nW (by decide)) hx (hparts.later hW)
        have hmm : ((m' : Int) != (m' : Int)) = false := by simp
        clear hs1 hs2
        go_wp2
        clear hmm
        go_loopw [11] (fun y wr => ∃ i : Nat, i ≤ m' ∧ y = .int .i64 i ∧ Below w9.heap.size w9 wr) (fun y _ => m' - (intOf y).toNat)
        case atStart => exact ⟨0, Nat.zero_le _, rfl, Below.refl _ _⟩
        case round =>
          obtain ⟨i, hi, rfl, hb⟩ := hrel
          by_cases hlt : i < m'
          · have hU0 := hZ wr
            have hgB : w9.heap.size ≤ wr.heap.size := hb.size
            have hb0 : Below w9.heap.size w9 (wr.alloc (.cells Z 79)) := hb.alloc hgB _
            have hBi := hB i hlt
            have hoki := hok i hlt
            go_wp2
            generalize wr.alloc (.cells Z 79) = wr0 at *
            generalize wr.heap.size = g0 at *
            go_loopw [13] (fun y wr => ∃ q : Nat, q ≤ (O i).nT ∧ y = .int .i64 q ∧ Tied wr g0 (tiedTo (O i) q) ∧ Below w9.heap.size w9 wr) (fun y _ => (O i).nT - (intOf y).toNat)
            case atStart => exact ⟨0, Nat.zero_le _, rfl, hU0, hb0⟩
            case round =>
              clear hU0 hb0 hb
              obtain ⟨q, hq, rfl, hU, hb⟩ := hrel
              have hro := hobjs.later hb
              rcases hro with h0 | ⟨bk, o, rfl, hco⟩
              · omega
              have hpo := hparts.later hb
              rcases hpo with h0 | ⟨bp, op, rfl, hcp⟩
              · omega
              have H := hco i hlt
              have c3 := H.c3
              have c1o := H.c1
              have htr := H.here.ties
              have hwr := H.here.words
              have hnT := hoki.nT
              obtain ⟨_, _, _, prow'⟩ := hcp i hlt
              have prow : RowAt wr (A i) (O i).nW fun j => .int .i64 (putW O P Q B m' i j) := prow'
              clear prow'
              by_cases hlq : q < (O i).nT
              · have htie := hoki.ties q hlq
                obtain ⟨ta, hta⟩ : ∃ ta : Nat, (O i).tAt q = (ta : Int) := ⟨((O i).tAt q).toNat, by omega⟩
                have hta40 : ta < 40 := by have := hoki.nW; omega
                have htaW : ta < (O i).nW := by omega
                obtain ⟨pv, hTI⟩ := tie_is hP (allF_none hall hlt hlq)
                have hxw : putW O P Q B m' i ta = (tieW O P Q B i q).2 := tied_word hobj hlt hlq hta
                rcases htr with h0 | ⟨bt, ot, hba, hct⟩
                · omega
                rw [hba] at c3
                obtain ⟨t0, t1, t2, t3, t4⟩ := hct q hlq
                rcases prow with h0 | ⟨bw, ow, haw, hcw⟩
                · omega
                clear hcw
                rw [hTI.word] at hxw
                rw [hta] at t0 hxw
                have hU2 := hU.later ((Below.refl wr.heap.size wr).alloc (Nat.le_refl _) (.cells #[.int .i64 (ta : Int), .int .i64 ((O i).tKind q), .int .i64 ((O i).tAdd q), .string ((O i).tName q), .bool ((O i).tWeak q)] 72))
                have hal2 : Below wr.heap.size wr (wr.alloc (.cells #[.int .i64 (ta : Int), .int .i64 ((O i).tKind q), .int .i64 ((O i).tAdd q), .string ((O i).tName q), .bool ((O i).tWeak q)] 72)) := (Below.refl _ _).alloc (Nat.le_refl _) _
                have hUc := hU2.at' ta hta40
                have hUf := hU2.free ta
                have hU3 := hU.set (x := ta) (V := tiedTo (O i) (q + 1)) (fun z => tiedTo_succ hta z)
                have hUd := hU.at' ta hta40
                have hUg := hU.free ta
                have hgl := hU.lt
                have hkc := htie.2.2.2.2
                have hfd := hP.is ((O i).tName q)
                have Hbase : Hid ((O i).tKind q = 1 → pv = B i) := hTI.base
                have Hnob : Hid ((O i).tKind q ≠ 1 → P ((O i).tName q) < 0 → pv = 0 ∧ (O i).tWeak q = true) := hTI.nobody
                have Hfou : Hid ((O i).tKind q ≠ 1 → ¬ P ((O i).tName q) < 0 → ∃ x y : Nat, P ((O i).tName q) = x ∧ Q ((O i).tName q) = y ∧ x < m' ∧ y < (O x).nS ∧ pv = B x + (O x).sAt y) := hTI.found
                have hadd := htie.2.2.1
                have hadd2 := htie.2.2.2.1
                clear hTI htie hct hco hcp H hU2
                obtain ⟨x, hxE⟩ : ∃ x, x = putW O P Q B m' i ta := ⟨_, rfl⟩
                rw [← hxE] at hxw
                generalize (O i).tKind q = kd at *
                generalize (O i).tAdd q = td at *
                generalize (O i).tName q = tn at *
                generalize (O i).tWeak q = tw at *
                have hbW1 : Below w9.heap.size w9 (wr.setCell ⟨g0, ta, none⟩ (.bool true)) := hb.setCell (p := ⟨g0, ta, none⟩) hgB (.bool true)
                have hbW2 : Below w9.heap.size w9 ((wr.setCell ⟨g0, ta, none⟩ (.bool true)).alloc (.cells #[.int .i64 (ta : Int), .int .i64 kd, .int .i64 td, .string tn, .bool tw] 72)) := hbW1.alloc hbW1.size _
                have hszS : (wr.setCell ⟨g0, ta, none⟩ (.bool true)).heap.size = wr.heap.size := by simp [World.setCell]
                have s0 : ((wr.setCell ⟨g0, ta, none⟩ (.bool true)).alloc (.cells #[.int .i64 (ta : Int), .int .i64 kd, .int .i64 td, .string tn, .bool tw] 72)).cell? ⟨wr.heap.size, 0, none⟩ = some (.int .i64 (ta : Int)) := by rw [← hszS]; simp [go_sem]
                have s1 : ((wr.setCell ⟨g0, ta, none⟩ (.bool true)).alloc (.cells #[.int .i64 (ta : Int), .int .i64 kd, .int .i64 td, .string tn, .bool tw] 72)).cell? ⟨wr.heap.size, 1, none⟩ = some (.int .i64 kd) := by rw [← hszS]; simp [go_sem]
                have s2 : ((wr.setCell ⟨g0, ta, none⟩ (.bool true)).alloc (.cells #[.int .i64 (ta : Int), .int .i64 kd, .int .i64 td, .string tn, .bool tw] 72)).cell? ⟨wr.heap.size, 2, none⟩ = some (.int .i64 td) := by rw [← hszS]; simp [go_sem]
                have s3 : ((wr.setCell ⟨g0, ta, none⟩ (.bool true)).alloc (.cells #[.int .i64 (ta : Int), .int .i64 kd, .int .i64 td, .string tn, .bool tw] 72)).cell? ⟨wr.heap.size, 3, none⟩ = some (.string tn) := by rw [← hszS]; simp [go_sem]
                have s4 : ((wr.setCell ⟨g0, ta, none⟩ (.bool true)).alloc (.cells #[.int .i64 (ta : Int), .int .i64 kd, .int .i64 td, .string tn, .bool tw] 72)).cell? ⟨wr.heap.size, 4, none⟩ = some (.bool tw) := by rw [← hszS]; simp [go_sem]
                have hU3b := hU3.later ((Below.refl _ _).alloc (Nat.le_refl _) (.cells #[.int .i64 (ta : Int), .int .i64 kd, .int .i64 td, .string tn, .bool tw] 72))
                have HF := hF9 tn _ hbW2
                have htai : (ta : Int) < 40 := by omega
                go_wp2_with fail
                refine HF.mono ?_
                rintro e w12 ⟨⟨pf, qf, rfl, hpf⟩, hb12⟩
                obtain ⟨hpe, hqe⟩ := hpf.unique hfd
                replace s0 := cell_later hb12 s0
                replace s1 := cell_later hb12 s1
                replace s2 := cell_later hb12 s2
                replace s3 := cell_later hb12 s3
                replace s4 := cell_later hb12 s4
                have hU4 := hU3b.later hb12
                have hbT := hbW2.trans (hb12.mono hbW2.size)
                have hbase := Hbase.out
                have hnob := Hnob.out
                have hfou := Hfou.out
                clear Hbase Hnob Hfou
                rw [← hpe] at hnob hfou
                rw [← hqe] at hfou
                clear HF hb12 hbW2 hbW1 hU3 hU3b hszS hUc hUf hUd hUg hal2 hb hpf hfd hpe hqe c3 t0 t1 t2 t3 t4 hba hU hgl
                generalize wr.heap.size = bs at *
                have hp12 := hparts.later hbT
                rcases hp12 with h0 | ⟨bp', op', e, hcp2⟩
                · omega
                cases e
                have pB := (hcp2 i hlt).2.1
                have pW : w12.cell? ⟨bp, op + i * 3 + 2, none⟩ = some (.slice (some ⟨bw, ow, none⟩) (O i).nW (C i)) := by rw [(hcp2 i hlt).2.2.1, haw]
                have hcx : w12.cell? ⟨bw, ow + ta, none⟩ = some (.int .i64 x) := by
                  have hrr : RowAt w12 (A i) (O i).nW fun j => .int .i64 (putW O P Q B m' i j) := (hcp2 i hlt).2.2.2
                  rcases hrr with h0 | ⟨bw', ow', e, hc⟩
                  · omega
                  rw [haw] at e
                  cases e
                  rw [hxE]
                  exact hc ta htaW
                have htaN : (ta : Int) < ((O i).nW : Int) := by omega
                clear hcp2 hxE haw
                have hk3 : kd = 1 ∨ kd = 2 ∨ kd = 3 := by
                  rcases hkc with ⟨h, _⟩ | ⟨h | h, _⟩
                  · exact .inl h
                  · exact .inr (.inl h)
                  · exact .inr (.inr h)
                clear hkc
                rcases hk3 with rfl | rfl | rfl
                · have hpv := hbase rfl
                  rw [if_neg (by decide)] at hxw
                  have hsub : x - td = B i := by omega
                  have hxb : -4294967296 ≤ x ∧ x ≤ 4294967296 := by omega
                  have hbb : (B i != B i) = false := by simp
                  clear hbase hnob hfou hxw
                  go_wp2
                  go_quiet (fail)
                  go_wp2
                  go_roundw
                  case rel => exact ⟨q + 1, by omega, by go_num, hU4.later (below_drewN (Below.refl _ _) _), below_drewN hbT _⟩
                  case measure => simp [intOf]; omega
                · rw [if_neg (by decide)] at hxw
                  by_cases hneg : pf < 0
                  · obtain ⟨rfl, rfl⟩ := hnob (by decide) (by omega)
                    have hsub : x - td = 0 := by omega
                    have hxb : -4294967296 ≤ x ∧ x ≤ 4294967296 := by omega
                    clear hbase hnob hfou hxw
                    go_wp2
                    go_quiet (fail)
                    go_wp2
                    
                    go_roundw
                    case rel => exact ⟨q + 1, by omega, by go_num, hU4.later (below_drewN (Below.refl _ _) _), below_drewN hbT _⟩
                    case measure => simp [intOf]; omega
                  · obtain ⟨xo, yo, rfl, rfl, hxm, hyS, hpv⟩ := hfou (by decide) (by omega)
                    have hsyx := (hok xo hxm).syms yo hyS
                    have hBx := hB xo hxm
                    have hnWx := (hok xo hxm).nW
                    obtain ⟨sa, hsa⟩ : ∃ sa : Nat, (O xo).sAt yo = (sa : Int) := ⟨((O xo).sAt yo).toNat, by omega⟩
                    rw [hsa] at hpv
                    have hsaW : sa < (O xo).nW := by omega
                    have hpvb : 0 ≤ pv ∧ pv ≤ 400 := by omega
                    have hpvm : pv ≤ 9223372036854775807 := by omega
                    
                    have hsub : x - td = pv := by omega
                    
                    have hxb : -4294967296 ≤ x ∧ x ≤ 4294967296 := by omega
                    have hhas : hasB B (fun i => (O i).nW) pv xo = true := by
                      unfold hasB
                      rw [decide_eq_true (show B xo ≤ pv by omega), decide_eq_true (show pv < B xo + ((O xo).nW : Int) by omega)]
                      rfl
                    have Hpv : Hid (pv = B xo + (sa : Int)) := hpv
                    clear hpv
                    clear hbase hnob hfou hxw
                    go_wp2
                    go_quiet (fail)
                    
                    go_wp2_with fail
                    refine (hAt pv hpvm _ ?_).mono ?_
                    · exact below_drewN hbT _
                    rintro e w13 ⟨heA, hb13⟩
                    have hb13' := (below_drewN hbT _).trans (hb13.mono (below_drewN hbT _).size)
                    have hU5 := (hU4.later (below_drewN (Below.refl _ _) _)).later hb13
                    cases heA with
                    | no hno =>
                      rw [hno xo hxm] at hhas
                      cases hhas
                    | yes j hj hh hfj =>
                      obtain rfl := has_once hbs hj hxm hh hhas
                      have hpv := Hpv.out
                      clear Hpv
                      have hpd : (pv - B j).toNat = sa := by omega
                      rw [hpd]
                      have hq12 := hparts.later hb13'
                      rcases hq12 with h0 | ⟨bp', op', e, hcp2⟩
                      · omega
                      cases e
                      have pB2 := (hcp2 j hj).2.1
                      have prow2 : RowAt w13 (A j) (O j).nW fun z => .int .i64 (putW O P Q B m' j z) := (hcp2 j hj).2.2.2
                      rcases prow2 with h0 | ⟨bw2, ow2, haw2, hcw2⟩
                      · omega
                      have pW2 : w13.cell? ⟨bp, op + j * 3 + 2, none⟩ = some (.slice (some ⟨bw2, ow2, none⟩) (O j).nW (C j)) := by rw [(hcp2 j hj).2.2.1, haw2]
                      have hcx2 : w13.cell? ⟨bw2, ow2 + sa, none⟩ = some (.int .i64 (putW O P Q B m' j sa)) := hcw2 sa hsaW
                      have hq13 := hobjs.later hb13'
                      rcases hq13 with h0 | ⟨bk', o', e, hco2⟩
                      · omega
                      cases e
                      have oS := (hco2 j hj).c2
                      have osr := (hco2 j hj).here.syms
                      rcases osr with h0 | ⟨bsy, osy, hasy, hcsy⟩
                      · omega
                      rw [hasy] at oS
                      have hcs2 := (hcsy yo hyS).2.1
                      rw [hsa] at hcs2
                      have hsumB : B j + (sa : Int) = pv := by omega
                      have hjm : (j : Int) < (m' : Int) := by omega
                      have hys : (yo : Int) < ((O j).nS : Int) := by omega
                      have hsaN : (sa : Int) < ((O j).nW : Int) := by omega
                      have hpp : (pv != pv) = false := by simp
                      have hxx : (putW O P Q B m' j sa != putW O P Q B m' j sa) = false := by simp
                      generalize putW O P Q B m' j sa = xs at *
                      clear hcp2 hcw2 hco2 hcsy haw2 hasy hh hfj hpd hhas hsa hpv hneg
                      go_wp2
                      go_quiet (fail)
                      go_wp2
                      go_roundw
                      case rel => exact ⟨q + 1, by omega, by go_num, hU5.later (below_drewN (Below.refl _ _) _), below_drewN hb13' _⟩
                      case measure => simp [intOf]; omega
                · rw [if_pos rfl] at hxw
                  by_cases hneg : pf < 0
                  · obtain ⟨rfl, rfl⟩ := hnob (by decide) (by omega)
                    obtain ⟨d0, hsub⟩ : ∃ d0, x - td = d0 := ⟨_, rfl⟩
                    have hsum : d0 + B i + (ta : Int) = 0 := by omega
                    have hd0 : -2000 ≤ d0 ∧ d0 ≤ 2000 := by omega
                    have hxb : -4294967296 ≤ x ∧ x ≤ 4294967296 := by omega
                    clear hbase hnob hfou hxw
                    go_wp2
                    go_quiet (fail)
                    go_wp2
                    go_quiet (fail)
                    go_wp2
                    
                    go_roundw
                    case rel => exact ⟨q + 1, by omega, by go_num, hU4.later (below_drewN (Below.refl _ _) _), below_drewN hbT _⟩
                    case measure => simp [intOf]; omega
                  · obtain ⟨xo, yo, rfl, rfl, hxm, hyS, hpv⟩ := hfou (by decide) (by omega)
                    have hsyx := (hok xo hxm).syms yo hyS
                    have hBx := hB xo hxm
                    have hnWx := (hok xo hxm).nW
                    obtain ⟨sa, hsa⟩ : ∃ sa : Nat, (O xo).sAt yo = (sa : Int) := ⟨((O xo).sAt yo).toNat, by omega⟩
                    rw [hsa] at hpv
                    have hsaW : sa < (O xo).nW := by omega
                    have hpvb : 0 ≤ pv ∧ pv ≤ 400 := by omega
                    have hpvm : pv ≤ 9223372036854775807 := by omega
                    
                    obtain ⟨d0, hsub⟩ : ∃ d0, x - td = d0 := ⟨_, rfl⟩
                    have hsum : d0 + B i + (ta : Int) = pv := by omega
                    have hd0 : -2000 ≤ d0 ∧ d0 ≤ 2000 := by omega
                    
                    have hxb : -4294967296 ≤ x ∧ x ≤ 4294967296 := by omega
                    have hhas : hasB B (fun i => (O i).nW) pv xo = true := by
                      unfold hasB
                      rw [decide_eq_true (show B xo ≤ pv by omega), decide_eq_true (show pv < B xo + ((O xo).nW : Int) by omega)]
                      rfl
                    have Hpv : Hid (pv = B xo + (sa : Int)) := hpv
                    clear hpv
                    clear hbase hnob hfou hxw
                    go_wp2
                    go_quiet (fail)
                    go_wp2
                    go_quiet (fail)
                    
                    go_wp2_with fail
                    refine (hAt pv hpvm _ ?_).mono ?_
                    · exact below_drewN hbT _
                    rintro e w13 ⟨heA, hb13⟩
                    have hb13' := (below_drewN hbT _).trans (hb13.mono (below_drewN hbT _).size)
                    have hU5 := (hU4.later (below_drewN (Below.refl _ _) _)).later hb13
                    cases heA with
                    | no hno =>
                      rw [hno xo hxm] at hhas
                      cases hhas
                    | yes j hj hh hfj =>
                      obtain rfl := has_once hbs hj hxm hh hhas
                      have hpv := Hpv.out
                      clear Hpv
                      have hpd : (pv - B j).toNat = sa := by omega
                      rw [hpd]
                      have hq12 := hparts.later hb13'
                      rcases hq12 with h0 | ⟨bp', op', e, hcp2⟩
                      · omega
                      cases e
                      have pB2 := (hcp2 j hj).2.1
                      have prow2 : RowAt w13 (A j) (O j).nW fun z => .int .i64 (putW O P Q B m' j z) := (hcp2 j hj).2.2.2
                      rcases prow2 with h0 | ⟨bw2, ow2, haw2, hcw2⟩
                      · omega
                      have pW2 : w13.cell? ⟨bp, op + j * 3 + 2, none⟩ = some (.slice (some ⟨bw2, ow2, none⟩) (O j).nW (C j)) := by rw [(hcp2 j hj).2.2.1, haw2]
                      have hcx2 : w13.cell? ⟨bw2, ow2 + sa, none⟩ = some (.int .i64 (putW O P Q B m' j sa)) := hcw2 sa hsaW
                      have hq13 := hobjs.later hb13'
                      rcases hq13 with h0 | ⟨bk', o', e, hco2⟩
                      · omega
                      cases e
                      have oS := (hco2 j hj).c2
                      have osr := (hco2 j hj).here.syms
                      rcases osr with h0 | ⟨bsy, osy, hasy, hcsy⟩
                      · omega
                      rw [hasy] at oS
                      have hcs2 := (hcsy yo hyS).2.1
                      rw [hsa] at hcs2
                      have hsumB : B j + (sa : Int) = pv := by omega
                      have hjm : (j : Int) < (m' : Int) := by omega
                      have hys : (yo : Int) < ((O j).nS : Int) := by omega
                      have hsaN : (sa : Int) < ((O j).nW : Int) := by omega
                      have hpp : (pv != pv) = false := by simp
                      have hxx : (putW O P Q B m' j sa != putW O P Q B m' j sa) = false := by simp
                      generalize putW O P Q B m' j sa = xs at *
                      clear hcp2 hcw2 hco2 hcsy haw2 hasy hh hfj hpd hhas hsa hpv hneg
                      go_wp2
                      go_quiet (fail)
                      go_wp2
                      go_roundw
                      case rel => exact ⟨q + 1, by omega, by go_num, hU5.later (below_drewN (Below.refl _ _) _), below_drewN hb13' _⟩
                      case measure => simp [intOf]; omega
              · have e : q = (O i).nT := by omega
                subst e
                clear htr hwr prow c1o H hco hcp
                go_wp2
                clear c3
                go_loopw [20] (fun y wr => ∃ z : Nat, z ≤ (O i).nW ∧ y = .int .i64 z ∧ Tied wr g0 (tiedTo (O i) (O i).nT) ∧ Below w9.heap.size w9 wr) (fun y _ => (O i).nW - (intOf y).toNat)
                case atStart => exact ⟨0, Nat.zero_le _, rfl, hU, hb⟩
                case round =>
                  clear hU hb
                  obtain ⟨z, hz, rfl, hU, hb⟩ := hrel
                  have hq12 := hparts.later hb
                  rcases hq12 with h0 | ⟨bp', op', e, hcp2⟩
                  · omega
                  cases e
                  have hq13 := hobjs.later hb
                  rcases hq13 with h0 | ⟨bk', o', e, hco2⟩
                  · omega
                  cases e
                  have c1w := (hco2 i hlt).c1
                  have hnW := hoki.nW
                  by_cases hlz : z < (O i).nW
                  · have prow2 : RowAt wr (A i) (O i).nW fun j => .int .i64 (putW O P Q B m' i j) := (hcp2 i hlt).2.2.2
                    rcases prow2 with h0 | ⟨bw2, ow2, haw2, hcw2⟩
                    · omega
                    have pW2 : wr.cell? ⟨bp, op + i * 3 + 2, none⟩ = some (.slice (some ⟨bw2, ow2, none⟩) (O i).nW (C i)) := by rw [(hcp2 i hlt).2.2.1, haw2]
                    have hcx2 : wr.cell? ⟨bw2, ow2 + z, none⟩ = some (.int .i64 (putW O P Q B m' i z)) := hcw2 z hlz
                    have hwo := (hco2 i hlt).here.words
                    rcases hwo with h0 | ⟨bo2, oo2, hao2, hcwo⟩
                    · omega
                    rw [hao2] at c1w
                    have hco3 : wr.cell? ⟨bo2, oo2 + z, none⟩ = some (.int .i64 ((O i).words z)) := hcwo z hlz
                    have hUz := hU.at' z (by omega)
                    clear hcp2 hco2 hcw2 hcwo haw2 hao2
                    cases hT : tiedTo (O i) (O i).nT z with
                    | true =>
                      rw [hT] at hUz
                      clear hT
                      go_wp2
                      go_quiet (fail)
                      go_wp2
                      go_roundw
                      case rel => exact ⟨z + 1, by omega, by go_num, hU.later (below_drewN (Below.refl _ _) _), below_drewN hb _⟩
                      case measure => simp [intOf]; omega
                    | false =>
                      rw [free_word (P := P) (Q := Q) (B := B) (m := m') (tiedTo_no hT)] at hcx2
                      rw [hT] at hUz
                      have hww : ((O i).words z != (O i).words z) = false := by simp
                      clear hT
                      generalize (O i).words z = zz at *
                      go_wp2
                      go_quiet (fail)
                      go_wp2
                      go_roundw
                      case rel => exact ⟨z + 1, by omega, by go_num, hU.later (below_drewN (Below.refl _ _) _), below_drewN hb _⟩
                      case measure => simp [intOf]; omega
                  · clear hcp2 hco2
                    go_wp2
                    go_roundw
                    case rel => exact ⟨i + 1, by omega, by go_num, hb⟩
                    case measure => simp [intOf]; omega
          · go_wp2
            go_ret
            exact ⟨rfl, hbD.trans (hb.mono hbD.size)⟩
end Go.Proofs.YtanfejgcjifhpabGreatDoor
