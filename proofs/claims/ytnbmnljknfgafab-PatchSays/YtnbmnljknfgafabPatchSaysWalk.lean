/-
  The law PatchSays returns true, for all objects, bases, words and patches; memory that was there stays as it was.
-/
import Derived.Test.YtnbmnljknfgafabRefPatches
import Derived.Test.YtnbmnljknfgafabPatchSaysFact
import Derived.Test.YtnbmnljknfgafabPutAll
import Derived.Test.YtnbmnljknfgafabRefFault
import Derived.Test.YtnbmnljknfgafabLightObjs
import Derived.Test.YtnbmnljknfgafabSameNumbers
namespace Go.Proofs.Ytnbmnljknfgafab
open Go.RowKit

/-- numbers of the call's own. -/
structure OwnInts (w : World) (B g : Nat) (a : Option Addr) (n : Nat) (f : Nat → Int) : Prop where
  adr : 0 < n → a = some ⟨g, 0, none⟩
  hB : 0 < n → B ≤ g
  row : ∀ j, j < n → w.cell? ⟨g, j, none⟩ = some (.int .i64 (f j))
  free : 0 < n → ∀ j, w.frozen? ⟨g, j, none⟩ = false
theorem OwnInts.of {w : World} {B n c : Nat} {e : TypeId} {a : Option Addr} {f : Nat → Int} (h : w.ownsRow B e 1 (.slice a n c) n (joinC (intC f) n)) : ∃ g, OwnInts w B g a n f := by
  by_cases hn : 0 < n
  · obtain ⟨g, h1, h2, h3, h4⟩ := owns_block h hn
    exact ⟨g, fun _ => h1, fun _ => h2, h3, fun _ => h4⟩
  · exact ⟨0, fun h => absurd h hn, fun h => absurd h hn, fun j hj => by omega, fun h => absurd h hn⟩
theorem OwnInts.put {w : World} {B g : Nat} {a : Option Addr} {n : Nat} {f f' : Nat → Int} (h : OwnInts w B g a n f) {y : Nat} (hy : y < n) (v : Int) (e : ∀ j, f' j = if j = y then v else f j) : OwnInts (w.setCell ⟨g, y, none⟩ (.int .i64 v)) B g a n f' :=
  ⟨h.adr, h.hB, fun j hj => by
    rw [e]
    by_cases q : j = y
    · subst q; rw [World.cell?_setCell_same _ _ _ (h.row j hj), if_pos rfl]
    · rw [World.cell?_setCell_other _ _ _ _ (by intro z; injection z with _ z _; exact q z.symm), if_neg q]; exact h.row j hj, fun hn j => by rw [World.frozen?_setCell]; exact h.free hn j⟩
theorem OwnInts.congr {w : World} {B g : Nat} {a : Option Addr} {n : Nat} {f f' : Nat → Int} (h : OwnInts w B g a n f) (e : ∀ j, f j = f' j) : OwnInts w B g a n f' :=
  ⟨h.adr, h.hB, fun j hj => by rw [← e]; exact h.row j hj, h.free⟩
theorem OwnInts.drewN {w : World} {B g : Nat} {a : Option Addr} {n : Nat} {f : Nat → Int} (h : OwnInts w B g a n f) (k : Nat) : OwnInts (w.drewN k) B g a n f :=
  ⟨h.adr, h.hB, fun j hj => by simpa using h.row j hj, fun hn j => by simpa using h.free hn j⟩
theorem OwnInts.rowAt {w : World} {B g : Nat} {a : Option Addr} {n : Nat} {f : Nat → Int} (h : OwnInts w B g a n f) : RowAt w a n fun i => .int .i64 (f i) := by
  by_cases hn : n = 0
  · exact .inl hn
  · exact .inr ⟨g, 0, h.adr (by omega), fun i hi => by simpa using h.row i hi⟩
theorem OutAt.rowAt {w : World} {B g n : Nat} {M : Nat → Nat} {A : Nat → Option Addr} {C G : Nat → Nat} {X : Nat → Nat → Int} (h : OutAt w B g n M A C G X) {i : Nat} (hi : i < n) : RowAt w (A i) (M i) fun j => .int .i64 (X i j) := by
  by_cases hn : M i = 0
  · exact .inl hn
  · exact .inr ⟨G i, 0, h.adr i hi (by omega), fun j hj => by simpa using h.row i hi j hj⟩

theorem patOk_nat {n : Nat} {M : Nat → Nat} {p t : Int} (h : patOk n M p t = true) : ∃ x y : Nat, p = x ∧ t = y ∧ x < n ∧ y < M x := by
  simp [patOk, isPlaceF] at h
  obtain ⟨⟨h1, h2⟩, h3, h4⟩ := h
  exact ⟨p.toNat, t.toNat, by omega, by omega, by omega, by omega⟩
/-- append of numbers that came in onto nothing. -/
theorem ints_from (w : World) (a : Option Addr) (n c : Nat) (f : Nat → Int) (hr : RowAt w a n fun i => .int .i64 (f i)) (hn : n ≤ 1000) :
    ∃ v' W, (Builtin.append_ #[24, 24] 24 #[.slice none 0 0, .slice a n c]).run Try.prog w = .ok v' W ∧ W.ownsRow w.heap.size 3 1 v' n (joinC (intC f) n) ∧ Below w.heap.size w W := by
  obtain ⟨v', W, happ, hG⟩ := append_from 24 3 1 8 (.int .i64 0) (by kernel_rfl) (by kernel_rfl) (by rfl) (by decide) w.heap.size w (.slice none 0 0) 0 []
      (World.ownsRow_nil _ _ _ _) a n c (joinC (intC f) n) (by rw [joinC_len (fun i _ => intC_len f i)]) (int_cells hr) int_one (Nat.le_refl _) (by omega) (by decide)
  exact ⟨v', W, happ, by simpa using hG.own, hG.below⟩
/-- what comes in. -/
structure PatSaysIn (w : World) (al : Option Addr) (n : Nat) (V : Nat → ObjV) (O : Nat → ObjF) (ab : Option Addr) (nb : Nat) (B : Nat → Int) (aw : Option Addr) (nw : Nat) (A : Nat → Option Addr) (M C : Nat → Nat) (X : Nat → Nat → Int) (ap : Option Addr) (np : Nat) (p t v : Nat → Int) : Prop where
  objs : ObjsRow w al n V O
  fit : ∀ i, i < n → ObjFit (O i)
  bases : RowAt w ab nb fun i => .int .i64 (B i)
  lists : ListsRow w aw nw A M C X
  lens : ∀ i, i < nw → M i ≤ maxLen
  pats : PatRow w ap np p t v
  hn : n ≤ maxLen
  hnb : nb ≤ maxLen
  hnw : nw ≤ maxLen
  hnp : np ≤ maxLen

set_option maxRecDepth 100000 in
set_option maxHeartbeats 8000000 in
theorem patchSays_walk (al ab aw ap : Option Addr) (n cl nb cb nw cw np cp : Nat) (V : Nat → ObjV) (O : Nat → ObjF) (B : Nat → Int) (A : Nat → Option Addr) (M C : Nat → Nat) (X : Nat → Nat → Int) (p t v : Nat → Int) (w : World) (h : PatSaysIn w al n V O ab nb B aw nw A M C X ap np p t v) :
    Calls Try.prog 5 #[.slice al n cl, .slice ab nb cb, .slice aw nw cw, .slice ap np cp] w fun e w' => e = .returned (.bool true) ∧ Below w.heap.size w w' := by
  obtain ⟨hobjs, hfit, hbases, hlists, hlens, hpats, hn, hnb, hnw, hnp⟩ := h
  unfold maxLen at hn hnb hnw hnp
  have HA := patches_any w
  go_enter Try.func5, Try.ntmps5
  go_wp2_with fail
  refine HA.mono ?_
  rintro e w1 ⟨rfl, hb⟩
  clear HA
  have HL := lights_any al n cl V O w1 (hobjs.later hb) hfit
  go_wp2_with fail
  refine HL.mono ?_
  rintro e w2 ⟨⟨b, rfl, hl⟩, hb2⟩
  replace hb := hb.trans (hb2.mono hb.size)
  clear HL hb2
  cases b with
  | false =>
    clear hl
    go_wp2
    go_ret
    exact ⟨rfl, hb⟩
  | true =>
    have hl8 := (hl rfl).1
    clear hl
    by_cases h10 : (10 : Int) < (nb : Int)
    · go_wp2
      go_ret
      exact ⟨rfl, hb⟩
    by_cases h8 : (8 : Int) < (nw : Int)
    · go_wp2
      go_ret
      exact ⟨rfl, hb⟩
    by_cases h40 : (40 : Int) < (np : Int)
    · go_wp2
      go_ret
      exact ⟨rfl, hb⟩
    go_wp2
    go_loopw [10] (fun x wr => ∃ k : Nat, k ≤ n ∧ x = .int .i64 k ∧ Hid (∀ i, i < k → objF (O i) = 0) ∧ Below w.heap.size w wr) (fun x _ => n - (intOf x).toNat)
    case atStart => exact ⟨0, Nat.zero_le _, rfl, fun i hi => by omega, hb⟩
    case round =>
      clear hb
      obtain ⟨k, hk, rfl, HG, hb⟩ := hrel
      by_cases hlt : k < n
      · have ho1 := hobjs.later hb
        rcases ho1 with h0 | ⟨bk, o, rfl, hc⟩
        · omega
        have H := hc k hlt
        have c0 := H.c0
        have c1 := H.c1
        have c2 := H.c2
        have c3 := H.c3
        have HF := objectFault_any (V k) (O k) wr H.here (hfit k hlt)
        unfold ObjV.cells at HF
        clear hc H
        by_cases hz : objF (O k) = 0
        · rw [hz] at HF
          have HG2 : Hid (∀ i, i < k + 1 → objF (O i) = 0) := fun i hi => by
            by_cases e : i = k
            · subst e; exact hz
            · exact HG.out i (by omega)
          clear hz
          go_wp2_with fail
          refine HF.mono ?_
          rintro e w3 ⟨rfl, hb3⟩
          clear HF
          go_wp2
          go_roundw
          case rel => exact ⟨k + 1, by omega, by go_num, HG2, hb.trans (hb3.mono hb.size)⟩
          case measure => simp [intOf]; omega
        · have hz' : 0 < objF (O k) := by omega
          clear hz
          go_wp2_with fail
          refine HF.mono ?_
          rintro e w3 ⟨rfl, hb3⟩
          clear HF
          go_wp2
          go_ret
          exact ⟨rfl, hb.trans (hb3.mono hb.size)⟩
      · have e : k = n := by omega
        have hg : ∀ i, i < n → ObjOk (O i) := fun i hi => objOk (HG.out i (by omega))
        clear HG
        subst e
        obtain ⟨P, Q, hP⟩ := finds_some (symsF k O)
        have HA := all_any al ab k cl nb cb V O B P Q wr (by omega) (by unfold maxLen; omega) (hobjs.later hb) (hbases.later hb) hg hP
        go_wp2_with fail
        refine HA.mono ?_
        rintro e w3 ⟨he, hb3⟩
        have hb4 := hb.trans (hb3.mono hb.size)
        clear HA hb hb3
        have HB := refPatches_any al ab k cl nb cb V O B P Q w3 (by omega) (by unfold maxLen; omega) (hobjs.later hb4) (hbases.later hb4) hg hP
        have hpl : (patsTo O P Q B k).length ≤ 100 := by
          have := patsTo_le P Q B (i := k) (fun j hj => (hg j hj).nT)
          omega
        generalize allF k O P Q nb B = F at he HB
        generalize patsTo O P Q B k = L at he HB hpl
        clear hg hP
        cases he with
        | bad hf =>
          go_wp2_with fail
          refine HB.mono ?_
          rintro e w4 ⟨he2, hb5⟩
          have hb6 := hb4.trans (hb5.mono hb4.size)
          clear HB hb4 hb5
          cases he2 with
          | ok hf2 v2 hv2 => exact absurd hf2 hf
          | bad _ =>
            have HE := fun (w : World) => same_errV F F w
            rw [decide_eq_true (rfl : F = F)] at HE
            have HZ := fun (w : World) => samePats_zero none none 0 0 w
            go_wp2_with fail
            refine (HE _).mono ?_
            rintro e w' ⟨rfl, rfl⟩
            go_wp2_with fail
            refine (HZ _).mono ?_
            rintro e w' ⟨rfl, kq, rfl⟩
            have hb := below_drewN hb6 kq
            generalize w4.drewN kq = wz at *
            clear HE HZ hb6 hf
            go_wp2
            go_loopw [15] (fun x wr => ∃ i : Nat, i ≤ nw ∧ x = .int .i64 i ∧ wr = wz ∧ Hid (∀ j, j < i → M j ≤ 50)) (fun x _ => nw - (intOf x).toNat)
            case atStart => exact ⟨0, Nat.zero_le _, rfl, rfl, fun i hi => by omega⟩
            case round =>
              obtain ⟨i, hi, rfl, hw, HM⟩ := hrel
              subst hw
              by_cases hli : i < nw
              · have hr1 := hlists.later hb
                rcases hr1 with h0 | ⟨bq, oq, rfl, hc⟩
                · omega
                have hck := (hc i hli).1
                have hMk := hlens i hli
                unfold maxLen at hMk
                clear hc
                by_cases h50 : (50 : Int) < (M i : Int)
                · go_wp2
                  go_ret
                  exact ⟨rfl, hb⟩
                · have HM2 : Hid (∀ j, j < i + 1 → M j ≤ 50) := fun j hj => by
                    by_cases e : j = i
                    · subst e; omega
                    · exact HM.out j (by omega)
                  go_wp2
                  go_roundw
                  case rel => exact ⟨i + 1, by omega, by go_num, trivial, HM2⟩
                  case measure => simp [intOf]; omega
              · have e : i = nw := by omega
                subst e
                have hM5 := HM.out
                have HP := put_any aw ap i cw np cp A M C X p t v wr (by omega) (fun j hj => by have := hM5 j hj; omega) (by omega) (hlists.later hb) (hpats.later hb)
                clear HM
                go_wp2_with fail
                refine HP.mono ?_
                rintro e w5 ⟨he5, hb5⟩
                have hbw := hb.trans (hb5.mono hb.size)
                have hl5 := hlists.later hbw
                have hp5 := hpats.later hbw
                clear HP hb5 hb
                cases he5 with
                | bad hbad =>
                  have HE := fun (w : World) => same_errV 1 1 w
                  rw [decide_eq_true (rfl : (1 : Nat) = 1)] at HE
                  have q1 : errV 1 = .iface 73 (.int .i64 1) := rfl
                  rw [q1]
                  simp only [q1] at HE
                  clear q1
                  go_wp2
                  go_loopw [17] (fun x wr => ∃ j q : Nat, j ≤ np ∧ x = .int .i64 j ∧ wr = w5.drewN q ∧ Hid (∀ m, m < j → patOk i M (p m) (t m) = true)) (fun x _ => np - (intOf x).toNat)
                  case atStart => exact ⟨0, 0, Nat.zero_le _, rfl, rfl, fun m hm => by omega⟩
                  case round =>
                    obtain ⟨j, q, hj, rfl, rfl, HO⟩ := hrel
                    by_cases hlj : j < np
                    · have hp6 := hp5
                      rcases hp6 with h0 | ⟨bp, op, rfl, hcp⟩
                      · omega
                      obtain ⟨p0, p1, p2⟩ := hcp j hlj
                      clear hcp
                      by_cases z1 : p j < 0
                      · have z1' : decide (p j < 0) = true := decide_eq_true z1
                        go_wp2
                        go_quiet (fail)
                        go_wp2_with fail
                        refine (HE _).mono ?_
                        rintro e w' ⟨rfl, rfl⟩
                        go_wp2
                        go_ret
                        exact ⟨rfl, below_drewN hbw _⟩
                      have z1' : decide (p j < 0) = false := decide_eq_false z1
                      by_cases z2 : (i : Int) ≤ p j
                      · have z2' : decide ((i : Int) ≤ p j) = true := decide_eq_true z2
                        go_wp2
                        go_quiet (fail)
                        go_wp2_with fail
                        refine (HE _).mono ?_
                        rintro e w' ⟨rfl, rfl⟩
                        go_wp2
                        go_ret
                        exact ⟨rfl, below_drewN hbw _⟩
                      have z2' : decide ((i : Int) ≤ p j) = false := decide_eq_false z2
                      by_cases z3 : t j < 0
                      · have z3' : decide (t j < 0) = true := decide_eq_true z3
                        go_wp2
                        go_quiet (fail)
                        go_wp2_with fail
                        refine (HE _).mono ?_
                        rintro e w' ⟨rfl, rfl⟩
                        go_wp2
                        go_ret
                        exact ⟨rfl, below_drewN hbw _⟩
                      have z3' : decide (t j < 0) = false := decide_eq_false z3
                      have hl6 := hl5
                      rcases hl6 with h0 | ⟨bq, oq, rfl, hc⟩
                      · omega
                      have hcx := (hc (p j).toNat (by omega)).1
                      clear hc
                      have hMx := hM5 (p j).toNat (by omega)
                      have hpn : ((p j).toNat : Int) = p j := by omega
                      have htn : ((t j).toNat : Int) = t j := by omega
                      have HO3 : M (p j).toNat > (t j).toNat → ∀ m, m < j + 1 → patOk i M (p m) (t m) = true := fun z m hm => by
                        by_cases e : m = j
                        · subst e
                          simp [patOk, isPlaceF]; omega
                        · exact HO.out m (by omega)
                      have HX : Hid (M (p j).toNat > (t j).toNat → ∀ m, m < j + 1 → patOk i M (p m) (t m) = true) := HO3
                      clear HO3 hpn htn
                      generalize hmx : M (p j).toNat = mx at *
                      generalize A (p j).toNat = ax at *
                      generalize C (p j).toNat = cx at *
                      clear hmx
                      by_cases z4 : (mx : Int) ≤ t j
                      · have z4' : decide ((mx : Int) ≤ t j) = true := decide_eq_true z4
                        clear HX HO
                        go_wp2
                        go_quiet (fail)
                        go_wp2_with fail
                        refine (HE _).mono ?_
                        rintro e w' ⟨rfl, rfl⟩
                        go_wp2
                        go_ret
                        exact ⟨rfl, below_drewN hbw _⟩
                      · have z4' : decide ((mx : Int) ≤ t j) = false := decide_eq_false z4
                        have HO2 : Hid (∀ m, m < j + 1 → patOk i M (p m) (t m) = true) := HX.out (by omega)
                        clear HX HO
                        go_wp2
                        go_quiet (fail)
                        go_wp2
                        go_roundw
                        case rel => exact ⟨j + 1, q + nq, by omega, by go_num, rfl, HO2⟩
                        case measure => simp [intOf]; omega
                    · exact (hbad.not fun m hm => HO.out m (by omega)).elim
                | ok g A2 C2 G2 hall ho =>
                  go_wp2
                  go_loopw [17] (fun x wr => ∃ j q : Nat, j ≤ np ∧ x = .int .i64 j ∧ wr = w5.drewN q) (fun x _ => np - (intOf x).toNat)
                  case atStart => exact ⟨0, 0, Nat.zero_le _, rfl, rfl⟩
                  case round =>
                    obtain ⟨j, q, hj, rfl, rfl⟩ := hrel
                    by_cases hlj : j < np
                    · have hp6 := hp5
                      rcases hp6 with h0 | ⟨bp, op, rfl, hcp⟩
                      · omega
                      obtain ⟨p0, p1, p2⟩ := hcp j hlj
                      have hok := hall j hlj
                      obtain ⟨x, y, hx, hy, hxi, hyM⟩ := patOk_nat hok
                      have z1' : decide (p j < 0) = false := decide_eq_false (by omega)
                      have z2' : decide ((i : Int) ≤ p j) = false := decide_eq_false (by omega)
                      have z3' : decide (t j < 0) = false := decide_eq_false (by omega)
                      have hpn : (p j).toNat = x := by omega
                      have z1 : 0 ≤ p j := by omega
                      have z2 : p j < i := by omega
                      have hl6 := hl5
                      rcases hl6 with h0 | ⟨bq, oq, rfl, hc⟩
                      · omega
                      have hcx := (hc (p j).toNat (by omega)).1
                      have hMx := hM5 (p j).toNat (by omega)
                      have z4' : decide ((M (p j).toNat : Int) ≤ t j) = false := decide_eq_false (by rw [hpn]; omega)
                      clear hc hcp hx hy hok hpn
                      generalize M (p j).toNat = mx at *
                      generalize A (p j).toNat = ax at *
                      generalize C (p j).toNat = cx at *
                      go_wp2
                      go_quiet (fail)
                      go_wp2
                      go_roundw
                      case rel => exact ⟨j + 1, q + nq, by omega, by go_num, rfl⟩
                      case measure => simp [intOf]; omega
                    · have hbq : Below w5.heap.size w5 (w5.drewN q) := below_drewN (Below.refl _ _) _
                      have h00 : ((i : Int) != (i : Int)) = false := by simp
                      go_wp2
                      go_loopw [18] (fun x wr => ∃ r : Nat, r ≤ i ∧ x = .int .i64 r ∧ Below w5.heap.size w5 wr) (fun x _ => i - (intOf x).toNat)
                      case atStart => exact ⟨0, Nat.zero_le _, rfl, hbq⟩
                      case round =>
                        clear hbq
                        obtain ⟨r, hr, rfl, hbr⟩ := hrel
                        by_cases hlr : r < i
                        · have hl6 := hl5.later hbr
                          rcases hl6 with h0 | ⟨bq, oq, rfl, hc⟩
                          · omega
                          have hcr := (hc r hlr).1
                          have hMr := hM5 r hlr
                          obtain ⟨v6, W6, happ, ho6, hb6⟩ := ints_from wr (A r) (M r) (C r) (X r) (hc r hlr).2 (by omega)
                          obtain ⟨a6, c6, rfl, _⟩ := owns_shape ho6
                          obtain ⟨gw, hI⟩ := OwnInts.of ho6
                          have hB6 : w5.heap.size ≤ wr.heap.size := hbr.size
                          have hb7 := hbr.trans (hb6.mono hbr.size)
                          generalize wr.heap.size = B6 at hI hB6
                          clear hc ho6 hb6
                          go_wp2_with (at_builtin; refine list_run rfl (.const (.slice none 0 0)) (.tmp 169) 24 rfl (.slice none 0 0) (.slice (A r) (M r) (C r)) _ rfl rfl happ ?_)
                          clear happ hcr hbr
                          go_loopw [20] (fun x wr => ∃ m : Nat, m ≤ np ∧ x = .int .i64 m ∧ OwnInts wr B6 gw a6 (M r) (fun j => putF X p t v m r j) ∧ Below w5.heap.size w5 wr) (fun x _ => np - (intOf x).toNat)
                          case atStart => exact ⟨0, Nat.zero_le _, rfl, hI, hb7⟩
                          case round =>
                            clear hI hb7
                            obtain ⟨m, hm, rfl, hI, hb7⟩ := hrel
                            by_cases hlm : m < np
                            · have hp6 := hp5.later hb7
                              rcases hp6 with h0 | ⟨bp, op, rfl, hcp⟩
                              · omega
                              obtain ⟨p0, p1, p2⟩ := hcp m hlm
                              clear hcp
                              by_cases e1 : p m = (r : Int)
                              · have e1' : (p m == (r : Int)) = true := by simp [e1]
                                obtain ⟨x, y, hx, hy, hxi, hyM⟩ := patOk_nat (hall m hlm)
                                have hxr : x = r := by omega
                                subst hxr
                                rw [hy] at p1
                                have hadr := hI.adr (by omega)
                                have hcy := hI.row y hyM
                                have hfz := hI.free (by omega) y
                                have hBg := hI.hB (by omega)
                                have hI2 := hI.put hyM (v m) (f' := fun j => putF X p t v (m + 1) x j) (fun j => by
                                  show (if p m = (x : Int) ∧ t m = (j : Int) then v m else putF X p t v m x j) = _
                                  by_cases e : j = y
                                  · rw [if_pos ⟨e1, by rw [hy, e]⟩, if_pos e]
                                  · rw [if_neg (fun h => e (by have := h.2; omega)), if_neg e])
                                have hb8 := hb7.setCell (p := ⟨gw, y, none⟩) (show w5.heap.size ≤ gw by omega) (.int .i64 (v m))
                                rw [hadr]
                                clear e1 hx hy hI hb7
                                go_wp2
                                go_region
                                go_wp2
                                go_roundw
                                case rel => exact ⟨m + 1, by omega, by go_num, by rw [← hadr]; exact hI2.drewN _, below_drewN hb8 _⟩
                                case measure => simp [intOf]; omega
                              · have e1' : (p m == (r : Int)) = false := by rw [beq_eq_false_iff_ne]; exact e1
                                have hI2 := hI.congr (f' := fun j => putF X p t v (m + 1) r j) (fun j => by
                                  show _ = putF X p t v (m + 1) r j
                                  simp only [putF]
                                  rw [if_neg (fun h => e1 h.1)])
                                clear e1 hI
                                go_wp2
                                go_roundw
                                case rel => exact ⟨m + 1, by omega, by go_num, hI2, hb7⟩
                                case measure => simp [intOf]; omega
                            · have e : m = np := by omega
                              subst e
                              have ho7 := ho.later hb7
                              have htop := ho7.top r hlr
                              have HZ := sameNumbers_any (fun j => putF X p t v m r j) (fun j => putF X p t v m r j) (M r) (M r) (A2 r) a6 (C2 r) c6 wr (by omega) (ho7.rowAt hlr) hI.rowAt
                              have ee : (decide (M r = M r) && eqTo (fun j => putF X p t v m r j) (fun j => putF X p t v m r j) (M r)) = true := by rw [decide_eq_true rfl, Bool.true_and, eqTo_iff]; exact fun _ _ => rfl
                              rw [ee] at HZ
                              clear ee hI ho7
                              go_wp2_with fail
                              refine HZ.mono ?_
                              rintro e w8 ⟨rfl, kz, rfl⟩
                              clear HZ
                              go_wp2
                              go_roundw
                              case rel => exact ⟨r + 1, by omega, by go_num, below_drewN hb7 _⟩
                              case measure => simp [intOf]; omega
                        · go_wp2
                          go_ret
                          exact ⟨rfl, hbw.trans (hbr.mono hbw.size)⟩
        | ok hf v1 hv1 =>
          subst hf
          go_wp2_with fail
          refine HB.mono ?_
          rintro e w4 ⟨he2, hb5⟩
          have hb6 := hb4.trans (hb5.mono hb4.size)
          cases he2 with
          | bad hf2 => exact absurd rfl hf2
          | ok _ v2 hv2 =>
            obtain ⟨a3, c3, rfl, _, hr3⟩ := rows_pat (owns_below hv1 hb5)
            obtain ⟨a4, c4, rfl, _, hr4⟩ := rows_pat hv2
            have HE := fun (w : World) => same_errV 0 0 w
            rw [decide_eq_true (rfl : (0 : Nat) = 0)] at HE
            simp only [errV] at HE
            have HZ := samePats_true (pP L) (pT L) (pV L) L.length a3 a4 c3 c4 w4 (by omega) hr3 hr4
            clear hv1 hv2 hr3 hr4 HB hb4 hb5
            go_wp2_with fail
            refine (HE _).mono ?_
            rintro e w' ⟨rfl, rfl⟩
            go_wp2_with fail
            refine HZ.mono ?_
            rintro e w' ⟨rfl, kq, rfl⟩
            have hb := below_drewN hb6 kq
            generalize w4.drewN kq = wz at *
            clear HE HZ hb6
            go_wp2
            go_loopw [15] (fun x wr => ∃ i : Nat, i ≤ nw ∧ x = .int .i64 i ∧ wr = wz ∧ Hid (∀ j, j < i → M j ≤ 50)) (fun x _ => nw - (intOf x).toNat)
            case atStart => exact ⟨0, Nat.zero_le _, rfl, rfl, fun i hi => by omega⟩
            case round =>
              obtain ⟨i, hi, rfl, hw, HM⟩ := hrel
              subst hw
              by_cases hli : i < nw
              · have hr1 := hlists.later hb
                rcases hr1 with h0 | ⟨bq, oq, rfl, hc⟩
                · omega
                have hck := (hc i hli).1
                have hMk := hlens i hli
                unfold maxLen at hMk
                clear hc
                by_cases h50 : (50 : Int) < (M i : Int)
                · go_wp2
                  go_ret
                  exact ⟨rfl, hb⟩
                · have HM2 : Hid (∀ j, j < i + 1 → M j ≤ 50) := fun j hj => by
                    by_cases e : j = i
                    · subst e; omega
                    · exact HM.out j (by omega)
                  go_wp2
                  go_roundw
                  case rel => exact ⟨i + 1, by omega, by go_num, trivial, HM2⟩
                  case measure => simp [intOf]; omega
              · have e : i = nw := by omega
                subst e
                have hM5 := HM.out
                have HP := put_any aw ap i cw np cp A M C X p t v wr (by omega) (fun j hj => by have := hM5 j hj; omega) (by omega) (hlists.later hb) (hpats.later hb)
                clear HM
                go_wp2_with fail
                refine HP.mono ?_
                rintro e w5 ⟨he5, hb5⟩
                have hbw := hb.trans (hb5.mono hb.size)
                have hl5 := hlists.later hbw
                have hp5 := hpats.later hbw
                clear HP hb5 hb
                cases he5 with
                | bad hbad =>
                  have HE := fun (w : World) => same_errV 1 1 w
                  rw [decide_eq_true (rfl : (1 : Nat) = 1)] at HE
                  have q1 : errV 1 = .iface 73 (.int .i64 1) := rfl
                  rw [q1]
                  simp only [q1] at HE
                  clear q1
                  go_wp2
                  go_loopw [17] (fun x wr => ∃ j q : Nat, j ≤ np ∧ x = .int .i64 j ∧ wr = w5.drewN q ∧ Hid (∀ m, m < j → patOk i M (p m) (t m) = true)) (fun x _ => np - (intOf x).toNat)
                  case atStart => exact ⟨0, 0, Nat.zero_le _, rfl, rfl, fun m hm => by omega⟩
                  case round =>
                    obtain ⟨j, q, hj, rfl, rfl, HO⟩ := hrel
                    by_cases hlj : j < np
                    · have hp6 := hp5
                      rcases hp6 with h0 | ⟨bp, op, rfl, hcp⟩
                      · omega
                      obtain ⟨p0, p1, p2⟩ := hcp j hlj
                      clear hcp
                      by_cases z1 : p j < 0
                      · have z1' : decide (p j < 0) = true := decide_eq_true z1
                        go_wp2
                        go_quiet (fail)
                        go_wp2_with fail
                        refine (HE _).mono ?_
                        rintro e w' ⟨rfl, rfl⟩
                        go_wp2
                        go_ret
                        exact ⟨rfl, below_drewN hbw _⟩
                      have z1' : decide (p j < 0) = false := decide_eq_false z1
                      by_cases z2 : (i : Int) ≤ p j
                      · have z2' : decide ((i : Int) ≤ p j) = true := decide_eq_true z2
                        go_wp2
                        go_quiet (fail)
                        go_wp2_with fail
                        refine (HE _).mono ?_
                        rintro e w' ⟨rfl, rfl⟩
                        go_wp2
                        go_ret
                        exact ⟨rfl, below_drewN hbw _⟩
                      have z2' : decide ((i : Int) ≤ p j) = false := decide_eq_false z2
                      by_cases z3 : t j < 0
                      · have z3' : decide (t j < 0) = true := decide_eq_true z3
                        go_wp2
                        go_quiet (fail)
                        go_wp2_with fail
                        refine (HE _).mono ?_
                        rintro e w' ⟨rfl, rfl⟩
                        go_wp2
                        go_ret
                        exact ⟨rfl, below_drewN hbw _⟩
                      have z3' : decide (t j < 0) = false := decide_eq_false z3
                      have hl6 := hl5
                      rcases hl6 with h0 | ⟨bq, oq, rfl, hc⟩
                      · omega
                      have hcx := (hc (p j).toNat (by omega)).1
                      clear hc
                      have hMx := hM5 (p j).toNat (by omega)
                      have hpn : ((p j).toNat : Int) = p j := by omega
                      have htn : ((t j).toNat : Int) = t j := by omega
                      have HO3 : M (p j).toNat > (t j).toNat → ∀ m, m < j + 1 → patOk i M (p m) (t m) = true := fun z m hm => by
                        by_cases e : m = j
                        · subst e
                          simp [patOk, isPlaceF]; omega
                        · exact HO.out m (by omega)
                      have HX : Hid (M (p j).toNat > (t j).toNat → ∀ m, m < j + 1 → patOk i M (p m) (t m) = true) := HO3
                      clear HO3 hpn htn
                      generalize hmx : M (p j).toNat = mx at *
                      generalize A (p j).toNat = ax at *
                      generalize C (p j).toNat = cx at *
                      clear hmx
                      by_cases z4 : (mx : Int) ≤ t j
                      · have z4' : decide ((mx : Int) ≤ t j) = true := decide_eq_true z4
                        clear HX HO
                        go_wp2
                        go_quiet (fail)
                        go_wp2_with fail
                        refine (HE _).mono ?_
                        rintro e w' ⟨rfl, rfl⟩
                        go_wp2
                        go_ret
                        exact ⟨rfl, below_drewN hbw _⟩
                      · have z4' : decide ((mx : Int) ≤ t j) = false := decide_eq_false z4
                        have HO2 : Hid (∀ m, m < j + 1 → patOk i M (p m) (t m) = true) := HX.out (by omega)
                        clear HX HO
                        go_wp2
                        go_quiet (fail)
                        go_wp2
                        go_roundw
                        case rel => exact ⟨j + 1, q + nq, by omega, by go_num, rfl, HO2⟩
                        case measure => simp [intOf]; omega
                    · exact (hbad.not fun m hm => HO.out m (by omega)).elim
                | ok g A2 C2 G2 hall ho =>
                  go_wp2
                  go_loopw [17] (fun x wr => ∃ j q : Nat, j ≤ np ∧ x = .int .i64 j ∧ wr = w5.drewN q) (fun x _ => np - (intOf x).toNat)
                  case atStart => exact ⟨0, 0, Nat.zero_le _, rfl, rfl⟩
                  case round =>
                    obtain ⟨j, q, hj, rfl, rfl⟩ := hrel
                    by_cases hlj : j < np
                    · have hp6 := hp5
                      rcases hp6 with h0 | ⟨bp, op, rfl, hcp⟩
                      · omega
                      obtain ⟨p0, p1, p2⟩ := hcp j hlj
                      have hok := hall j hlj
                      obtain ⟨x, y, hx, hy, hxi, hyM⟩ := patOk_nat hok
                      have z1' : decide (p j < 0) = false := decide_eq_false (by omega)
                      have z2' : decide ((i : Int) ≤ p j) = false := decide_eq_false (by omega)
                      have z3' : decide (t j < 0) = false := decide_eq_false (by omega)
                      have hpn : (p j).toNat = x := by omega
                      have z1 : 0 ≤ p j := by omega
                      have z2 : p j < i := by omega
                      have hl6 := hl5
                      rcases hl6 with h0 | ⟨bq, oq, rfl, hc⟩
                      · omega
                      have hcx := (hc (p j).toNat (by omega)).1
                      have hMx := hM5 (p j).toNat (by omega)
                      have z4' : decide ((M (p j).toNat : Int) ≤ t j) = false := decide_eq_false (by rw [hpn]; omega)
                      clear hc hcp hx hy hok hpn
                      generalize M (p j).toNat = mx at *
                      generalize A (p j).toNat = ax at *
                      generalize C (p j).toNat = cx at *
                      go_wp2
                      go_quiet (fail)
                      go_wp2
                      go_roundw
                      case rel => exact ⟨j + 1, q + nq, by omega, by go_num, rfl⟩
                      case measure => simp [intOf]; omega
                    · have hbq : Below w5.heap.size w5 (w5.drewN q) := below_drewN (Below.refl _ _) _
                      have h00 : ((i : Int) != (i : Int)) = false := by simp
                      go_wp2
                      go_loopw [18] (fun x wr => ∃ r : Nat, r ≤ i ∧ x = .int .i64 r ∧ Below w5.heap.size w5 wr) (fun x _ => i - (intOf x).toNat)
                      case atStart => exact ⟨0, Nat.zero_le _, rfl, hbq⟩
                      case round =>
                        clear hbq
                        obtain ⟨r, hr, rfl, hbr⟩ := hrel
                        by_cases hlr : r < i
                        · have hl6 := hl5.later hbr
                          rcases hl6 with h0 | ⟨bq, oq, rfl, hc⟩
                          · omega
                          have hcr := (hc r hlr).1
                          have hMr := hM5 r hlr
                          obtain ⟨v6, W6, happ, ho6, hb6⟩ := ints_from wr (A r) (M r) (C r) (X r) (hc r hlr).2 (by omega)
                          obtain ⟨a6, c6, rfl, _⟩ := owns_shape ho6
                          obtain ⟨gw, hI⟩ := OwnInts.of ho6
                          have hB6 : w5.heap.size ≤ wr.heap.size := hbr.size
                          have hb7 := hbr.trans (hb6.mono hbr.size)
                          generalize wr.heap.size = B6 at hI hB6
                          clear hc ho6 hb6
                          go_wp2_with (at_builtin; refine list_run rfl (.const (.slice none 0 0)) (.tmp 169) 24 rfl (.slice none 0 0) (.slice (A r) (M r) (C r)) _ rfl rfl happ ?_)
                          clear happ hcr hbr
                          go_loopw [20] (fun x wr => ∃ m : Nat, m ≤ np ∧ x = .int .i64 m ∧ OwnInts wr B6 gw a6 (M r) (fun j => putF X p t v m r j) ∧ Below w5.heap.size w5 wr) (fun x _ => np - (intOf x).toNat)
                          case atStart => exact ⟨0, Nat.zero_le _, rfl, hI, hb7⟩
                          case round =>
                            clear hI hb7
                            obtain ⟨m, hm, rfl, hI, hb7⟩ := hrel
                            by_cases hlm : m < np
                            · have hp6 := hp5.later hb7
                              rcases hp6 with h0 | ⟨bp, op, rfl, hcp⟩
                              · omega
                              obtain ⟨p0, p1, p2⟩ := hcp m hlm
                              clear hcp
                              by_cases e1 : p m = (r : Int)
                              · have e1' : (p m == (r : Int)) = true := by simp [e1]
                                obtain ⟨x, y, hx, hy, hxi, hyM⟩ := patOk_nat (hall m hlm)
                                have hxr : x = r := by omega
                                subst hxr
                                rw [hy] at p1
                                have hadr := hI.adr (by omega)
                                have hcy := hI.row y hyM
                                have hfz := hI.free (by omega) y
                                have hBg := hI.hB (by omega)
                                have hI2 := hI.put hyM (v m) (f' := fun j => putF X p t v (m + 1) x j) (fun j => by
                                  show (if p m = (x : Int) ∧ t m = (j : Int) then v m else putF X p t v m x j) = _
                                  by_cases e : j = y
                                  · rw [if_pos ⟨e1, by rw [hy, e]⟩, if_pos e]
                                  · rw [if_neg (fun h => e (by have := h.2; omega)), if_neg e])
                                have hb8 := hb7.setCell (p := ⟨gw, y, none⟩) (show w5.heap.size ≤ gw by omega) (.int .i64 (v m))
                                rw [hadr]
                                clear e1 hx hy hI hb7
                                go_wp2
                                go_region
                                go_wp2
                                go_roundw
                                case rel => exact ⟨m + 1, by omega, by go_num, by rw [← hadr]; exact hI2.drewN _, below_drewN hb8 _⟩
                                case measure => simp [intOf]; omega
                              · have e1' : (p m == (r : Int)) = false := by rw [beq_eq_false_iff_ne]; exact e1
                                have hI2 := hI.congr (f' := fun j => putF X p t v (m + 1) r j) (fun j => by
                                  show _ = putF X p t v (m + 1) r j
                                  simp only [putF]
                                  rw [if_neg (fun h => e1 h.1)])
                                clear e1 hI
                                go_wp2
                                go_roundw
                                case rel => exact ⟨m + 1, by omega, by go_num, hI2, hb7⟩
                                case measure => simp [intOf]; omega
                            · have e : m = np := by omega
                              subst e
                              have ho7 := ho.later hb7
                              have htop := ho7.top r hlr
                              have HZ := sameNumbers_any (fun j => putF X p t v m r j) (fun j => putF X p t v m r j) (M r) (M r) (A2 r) a6 (C2 r) c6 wr (by omega) (ho7.rowAt hlr) hI.rowAt
                              have ee : (decide (M r = M r) && eqTo (fun j => putF X p t v m r j) (fun j => putF X p t v m r j) (M r)) = true := by rw [decide_eq_true rfl, Bool.true_and, eqTo_iff]; exact fun _ _ => rfl
                              rw [ee] at HZ
                              clear ee hI ho7
                              go_wp2_with fail
                              refine HZ.mono ?_
                              rintro e w8 ⟨rfl, kz, rfl⟩
                              clear HZ
                              go_wp2
                              go_roundw
                              case rel => exact ⟨r + 1, by omega, by go_num, below_drewN hb7 _⟩
                              case measure => simp [intOf]; omega
                        · go_wp2
                          go_ret
                          exact ⟨rfl, hbw.trans (hbr.mono hbw.size)⟩
end Go.Proofs.Ytnbmnljknfgafab
