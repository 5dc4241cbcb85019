/-
  What SameTexts, SameObject (of two that are alike) and LightObject return; memory that was there stays as it was.
  LightObject returns, for every object (true: it is light); memory that was there stays as it was.
  LightObjects returns, for every row of objects (true: they are few, each is light); memory that was there stays as it was.
  A region that draws its order, whose operations only read and whose callees may make new memory: one walk of the lexical order serves every order; the class of worlds is 'all that stood in W stands as it did'.
  What is said of chapter 5: the law ScopeSays returns true, for all acts, every root, all objects and every name; memory that was there stays as it was.
-/
import Derived.Test.YtbbhjpbacobmjaaGreatDoorParseAll
import Derived.Test.YtbbhjpbacobmjaaGreatDoorFactOne
import Derived.Test.YtbbhjpbacobmjaaGreatDoorRows
import Derived.Test.YtbbhjpbacobmjaaGreatDoorAtAll
import Derived.Deep.QuietTactic
import Derived.BigQuiet
import Derived.Test.YtbbhjpbacobmjaaGreatDoorScopeOne
import Derived.Test.YtbbhjpbacobmjaaGreatDoorPlaceOne
namespace Go.Proofs.YtbbhjpbacobmjaaGreatDoor
open Go.RowKit

theorem sameNumbers_true (f g : Nat → Int) (n : Nat) (a c : Option Addr) (ca cb : Nat) (w : World) (hm : n ≤ 1000000000)
    (hx : RowAt w a n fun i => .int .i64 (f i)) (hy : RowAt w c n fun i => .int .i64 (g i)) (he : ∀ i, i < n → f i = g i) :
    Calls Tryz.prog 68 #[.slice a n ca, .slice c n cb] w fun e w' => e = .returned (.bool true) ∧ ∃ k, w' = w.drewN k := by
  refine (sameNumbers_any f g n n a c ca cb w hm hx hy).mono ?_
  rintro e w' ⟨rfl, h⟩
  exact ⟨bool_ret (by simp [eqTo_iff.2 he]), h⟩

set_option maxRecDepth 100000 in
set_option maxHeartbeats 1000000 in
theorem sameObject_true (va vb : ObjV) (a b : ObjF) (w : World) (hA : ObjAt w va a) (hB : ObjAt w vb b) (hS : SameO a b) (hn : b.nN ≤ 1000000000 ∧ b.nW ≤ 1000000000 ∧ b.nS ≤ 1000000000 ∧ b.nT ≤ 1000000000) :
    Calls Tryz.prog 64 #[.agg (va.cells a), .agg (vb.cells b)] w fun e w' => e = .returned (.bool true) ∧ Below w.heap.size w w' := by
  obtain ⟨xN, pN, xW, pW, xS, pS, xT, pT⟩ := va
  obtain ⟨aN, cN, aW, cW, aS, cS, aT, cT⟩ := vb
  unfold ObjV.cells
  simp only [hS.nN, hS.nW, hS.nS, hS.nT]
  have h1 : RowAt w xN b.nN fun i => .string (a.needs i) := by have := hA.needs; rw [hS.nN] at this; exact this
  have h2 : RowAt w xW b.nW fun i => .int .i64 (a.words i) := by have := hA.words; rw [hS.nW] at this; exact this
  have h3 : SymsRow w xS b.nS a.sName a.sAt a.sWeak := by have := hA.syms; rw [hS.nS] at this; exact this
  have h4 : TiesRow w xT b.nT a.tAt a.tKind a.tAdd a.tName a.tWeak := by have := hA.ties; rw [hS.nT] at this; exact this
  have h5 : RowAt w aN b.nN fun i => .string (b.needs i) := hB.needs
  have h6 : RowAt w aW b.nW fun i => .int .i64 (b.words i) := hB.words
  have h7 : SymsRow w aS b.nS b.sName b.sAt b.sWeak := hB.syms
  have h8 : TiesRow w aT b.nT b.tAt b.tKind b.tAdd b.tName b.tWeak := hB.ties
  have e3 := hS.syms
  have e4 := hS.ties
  have HT := fun (w' : World) (hb : Below w.heap.size w w') => sameTexts_true a.needs b.needs b.nN xN aN pN cN w' hn.1 (h1.later hb) (h5.later hb) hS.needs
  have HW := fun (w' : World) (hb : Below w.heap.size w w') => sameNumbers_true a.words b.words b.nW xW aW pW cW w' hn.2.1 (h2.later hb) (h6.later hb) hS.words
  have hb2 : ∀ o1 o2 : Obj, Below w.heap.size w ((w.alloc o1).alloc o2) := fun o1 o2 => ((Below.refl _ _).alloc (Nat.le_refl _) o1).alloc (by simp) o2
  have hnS := hn.2.2.1
  have hnT := hn.2.2.2
  clear hA hB hS h1 h2 h5 h6 hn
  go_enter Tryz.func64, Tryz.ntmps64
  go_wp2_with fail
  refine (HT _ (hb2 _ _)).mono ?_
  rintro e w1 ⟨rfl, k1, hw1⟩
  replace hw1 := hw1.symm
  subst hw1
  go_wp2_with fail
  refine (HW _ (below_drewN (hb2 _ _) _)).mono ?_
  rintro e w1 ⟨rfl, k2, hw1⟩
  replace hw1 := hw1.symm
  subst hw1
  clear HT HW
  have hx := below_drewN (below_drewN (hb2 (.cells #[.slice xN b.nN pN, .slice xW b.nW pW, .slice xS b.nS pS, .slice xT b.nT pT] 62) (.cells #[.slice aN b.nN cN, .slice aW b.nW cW, .slice aS b.nS cS, .slice aT b.nT cT] 62)) k1) k2
  have c0 : ((((w.alloc (.cells #[.slice xN b.nN pN, .slice xW b.nW pW, .slice xS b.nS pS, .slice xT b.nT pT] 62)).alloc (.cells #[.slice aN b.nN cN, .slice aW b.nW cW, .slice aS b.nS cS, .slice aT b.nT cT] 62)).drewN k1).drewN k2).cell? ⟨w.heap.size, 2, none⟩ = some (.slice xS b.nS pS) := by simp [go_sem]
  have c1 : ((((w.alloc (.cells #[.slice xN b.nN pN, .slice xW b.nW pW, .slice xS b.nS pS, .slice xT b.nT pT] 62)).alloc (.cells #[.slice aN b.nN cN, .slice aW b.nW cW, .slice aS b.nS cS, .slice aT b.nT cT] 62)).drewN k1).drewN k2).cell? ⟨w.heap.size + 1, 2, none⟩ = some (.slice aS b.nS cS) := by simp [go_sem]
  have c2 : ((((w.alloc (.cells #[.slice xN b.nN pN, .slice xW b.nW pW, .slice xS b.nS pS, .slice xT b.nT pT] 62)).alloc (.cells #[.slice aN b.nN cN, .slice aW b.nW cW, .slice aS b.nS cS, .slice aT b.nT cT] 62)).drewN k1).drewN k2).cell? ⟨w.heap.size, 3, none⟩ = some (.slice xT b.nT pT) := by simp [go_sem]
  have c3 : ((((w.alloc (.cells #[.slice xN b.nN pN, .slice xW b.nW pW, .slice xS b.nS pS, .slice xT b.nT pT] 62)).alloc (.cells #[.slice aN b.nN cN, .slice aW b.nW cW, .slice aS b.nS cS, .slice aT b.nT cT] 62)).drewN k1).drewN k2).cell? ⟨w.heap.size + 1, 3, none⟩ = some (.slice aT b.nT cT) := by simp [go_sem]
  generalize (((w.alloc (.cells #[.slice xN b.nN pN, .slice xW b.nW pW, .slice xS b.nS pS, .slice xT b.nT pT] 62)).alloc (.cells #[.slice aN b.nN cN, .slice aW b.nW cW, .slice aS b.nS cS, .slice aT b.nT cT] 62)).drewN k1).drewN k2 = Y at *
  replace h3 := h3.later hx
  replace h4 := h4.later hx
  replace h7 := h7.later hx
  replace h8 := h8.later hx
  clear hb2
  go_wp2
  go_loopw [7] (fun x wr => ∃ k j : Nat, k ≤ b.nS ∧ x = .int .i64 k ∧ wr = Y.drewN j) (fun x _ => b.nS - (intOf x).toNat)
  case atStart => exact ⟨0, 0, Nat.zero_le _, rfl, rfl⟩
  case round =>
    obtain ⟨k, j, hk, rfl, rfl⟩ := hrel
    by_cases hlt : k < b.nS
    · rcases h3 with h0 | ⟨b1, o1, rfl, h3⟩
      · omega
      rcases h7 with h0 | ⟨b2, o2, rfl, h7⟩
      · omega
      obtain ⟨p0, p1, p2⟩ := h3 k hlt
      obtain ⟨q0, q1, q2⟩ := h7 k hlt
      obtain ⟨r0, r1, r2⟩ := e3 k hlt
      rw [r0] at p0
      rw [r1] at p1
      rw [r2] at p2
      clear h3 h7 h4 h8 e3 e4 r0 r1 r2
      go_wp2
      go_quiet (fail)
      go_wp2
      go_roundw
      case rel => exact ⟨k + 1, j + nq, by omega, by go_num, rfl⟩
      case measure => simp [intOf]; omega
    · have e : k = b.nS := by omega
      subst e
      clear h3 h7 e3
      go_wp2
      go_loopw [8] (fun x wr => ∃ k i : Nat, k ≤ b.nT ∧ x = .int .i64 k ∧ wr = Y.drewN i) (fun x _ => b.nT - (intOf x).toNat)
      case atStart => exact ⟨0, j, Nat.zero_le _, rfl, rfl⟩
      case round =>
        obtain ⟨k, i, hk, rfl, rfl⟩ := hrel
        by_cases hlt : k < b.nT
        · rcases h4 with h0 | ⟨b1, o1, rfl, h4⟩
          · omega
          rcases h8 with h0 | ⟨b2, o2, rfl, h8⟩
          · omega
          obtain ⟨p0, p1, p2, p3, p4⟩ := h4 k hlt
          obtain ⟨q0, q1, q2, q3, q4⟩ := h8 k hlt
          obtain ⟨r0, r1, r2, r3, r4⟩ := e4 k hlt
          rw [r0] at p0
          rw [r1] at p1
          rw [r2] at p2
          rw [r3] at p3
          rw [r4] at p4
          clear h4 h8 e4 r0 r1 r2 r3 r4
          go_wp2
          go_quiet (fail)
          go_wp2
          go_roundw
          case rel => exact ⟨k + 1, i + nq, by omega, by go_num, rfl⟩
          case measure => simp [intOf]; omega
        · have e : k = b.nT := by omega
          subst e
          clear h4 h8 e4
          go_wp2
          go_ret
          exact ⟨rfl, below_drewN hx i⟩
end Go.Proofs.YtbbhjpbacobmjaaGreatDoor

namespace Go.Proofs.YtbbhjpbacobmjaaGreatDoor
open Go.RowKit

/-- not too much. -/
structure LightO (o : ObjF) : Prop where
  nN : o.nN ≤ 6
  nW : o.nW ≤ 50
  nS : o.nS ≤ 10
  nT : o.nT ≤ 10
  needs : ∀ i, i < o.nN → (o.needs i).size ≤ 20
  syms : ∀ i, i < o.nS → (o.sName i).size ≤ 20
  ties : ∀ i, i < o.nT → (o.tName i).size ≤ 20
/-- a call that returned true (then it is light) or false. -/
def LightEnd (o : ObjF) (e : Ending) : Prop := ∃ b, e = .returned (.bool b) ∧ (b = true → LightO o)
theorem uptoN_succ {p : Nat → Prop} {k : Nat} (h : ∀ i, i < k → p i) (hk : p k) : ∀ i, i < k + 1 → p i := fun i hi => by
  by_cases e : i = k
  · subst e; exact hk
  · exact h i (by omega)

set_option maxRecDepth 100000 in
set_option maxHeartbeats 1000000 in
theorem light_full (v : ObjV) (o : ObjF) (w : World) (hA : ObjAt w v o) (_ : ObjFit o) :
    Calls Tryz.prog 56 #[.agg (v.cells o)] w fun e w' => LightEnd o e ∧ Below w.heap.size w w' := by
  obtain ⟨aN, cN, aW, cW, aS, cS, aT, cT⟩ := v
  unfold ObjV.cells
  have h5 : RowAt w aN o.nN fun i => .string (o.needs i) := hA.needs
  have h7 : SymsRow w aS o.nS o.sName o.sAt o.sWeak := hA.syms
  have h8 : TiesRow w aT o.nT o.tAt o.tKind o.tAdd o.tName o.tWeak := hA.ties
  have hx : Below w.heap.size w (w.alloc (.cells #[.slice aN o.nN cN, .slice aW o.nW cW, .slice aS o.nS cS, .slice aT o.nT cT] 62)) := (Below.refl _ _).alloc (Nat.le_refl _) _
  have c0 : (w.alloc (.cells #[.slice aN o.nN cN, .slice aW o.nW cW, .slice aS o.nS cS, .slice aT o.nT cT] 62)).cell? ⟨w.heap.size, 0, none⟩ = some (.slice aN o.nN cN) := by simp [go_sem]
  have c1 : (w.alloc (.cells #[.slice aN o.nN cN, .slice aW o.nW cW, .slice aS o.nS cS, .slice aT o.nT cT] 62)).cell? ⟨w.heap.size, 1, none⟩ = some (.slice aW o.nW cW) := by simp [go_sem]
  have c2 : (w.alloc (.cells #[.slice aN o.nN cN, .slice aW o.nW cW, .slice aS o.nS cS, .slice aT o.nT cT] 62)).cell? ⟨w.heap.size, 2, none⟩ = some (.slice aS o.nS cS) := by simp [go_sem]
  have c3 : (w.alloc (.cells #[.slice aN o.nN cN, .slice aW o.nW cW, .slice aS o.nS cS, .slice aT o.nT cT] 62)).cell? ⟨w.heap.size, 3, none⟩ = some (.slice aT o.nT cT) := by simp [go_sem]
  clear hA
  by_cases hc : 6 < o.nN ∨ 50 < o.nW ∨ 10 < o.nS ∨ 10 < o.nT
  · go_enter Tryz.func56, Tryz.ntmps56
    go_wp2
    all_goals first | (go_ret; exact ⟨⟨false, rfl, fun h => by cases h⟩, hx⟩) | (exfalso; omega)
  · have g1 : ¬ (6 : Int) < o.nN := by omega
    have g2 : ¬ (50 : Int) < o.nW := by omega
    have g3 : ¬ (10 : Int) < o.nS := by omega
    have g4 : ¬ (10 : Int) < o.nT := by omega
    clear hc
    have h5' := h5.later hx
    have h7' := h7.later hx
    have h8' := h8.later hx
    clear h5 h7 h8
    go_enter Tryz.func56, Tryz.ntmps56
    go_wp2
    generalize w.alloc (.cells #[.slice aN o.nN cN, .slice aW o.nW cW, .slice aS o.nS cS, .slice aT o.nT cT] 62) = Y at *
    go_loopw [3] (fun x wr => ∃ k : Nat, k ≤ o.nN ∧ x = .int .i64 k ∧ wr = Y ∧ Hid (∀ i, i < k → (o.needs i).size ≤ 20)) (fun x _ => o.nN - (intOf x).toNat)
    case atStart => exact ⟨0, Nat.zero_le _, rfl, rfl, fun i hi => by omega⟩
    case round =>
      obtain ⟨k, hk, rfl, hw, HN⟩ := hrel
      replace hw := hw.symm
      subst hw
      by_cases hlt : k < o.nN
      · rcases h5' with h0 | ⟨b1, o1, rfl, h5⟩
        · omega
        have p0 := h5 k hlt
        clear h5 h7' h8'
        by_cases hz : 20 < (o.needs k).size
        · have hz' : (20 : Int) < ((o.needs k).size : Int) := by omega
          clear hz
          go_wp2
          go_ret
          exact ⟨⟨false, rfl, fun h => by cases h⟩, hx⟩
        · have hz' : ¬ (20 : Int) < ((o.needs k).size : Int) := by omega
          have HK : Hid (∀ i, i < k + 1 → (o.needs i).size ≤ 20) := uptoN_succ HN.out (by omega)
          clear hz
          go_wp2
          go_roundw
          case rel => exact ⟨k + 1, by omega, by go_num, trivial, HK⟩
          case measure => simp [intOf]; omega
      · have e : k = o.nN := by omega
        subst e
        clear h5'
        go_wp2
        go_loopw [4] (fun x wr => ∃ k : Nat, k ≤ o.nS ∧ x = .int .i64 k ∧ wr = Y ∧ Hid (∀ i, i < k → (o.sName i).size ≤ 20)) (fun x _ => o.nS - (intOf x).toNat)
        case atStart => exact ⟨0, Nat.zero_le _, rfl, rfl, fun i hi => by omega⟩
        case round =>
          obtain ⟨k, hk, rfl, hw, HS⟩ := hrel
          replace hw := hw.symm
          subst hw
          by_cases hlt : k < o.nS
          · rcases h7' with h0 | ⟨b1, o1, rfl, h7⟩
            · omega
            have p0 := (h7 k hlt).1
            clear h7 h8'
            by_cases hz : 20 < (o.sName k).size
            · have hz' : (20 : Int) < ((o.sName k).size : Int) := by omega
              clear hz
              go_wp2
              go_ret
              exact ⟨⟨false, rfl, fun h => by cases h⟩, hx⟩
            · have hz' : ¬ (20 : Int) < ((o.sName k).size : Int) := by omega
              have HK : Hid (∀ i, i < k + 1 → (o.sName i).size ≤ 20) := uptoN_succ HS.out (by omega)
              clear hz
              go_wp2
              go_roundw
              case rel => exact ⟨k + 1, by omega, by go_num, trivial, HK⟩
              case measure => simp [intOf]; omega
          · have e : k = o.nS := by omega
            subst e
            clear h7'
            go_wp2
            go_loopw [5] (fun x wr => ∃ k : Nat, k ≤ o.nT ∧ x = .int .i64 k ∧ wr = Y ∧ Hid (∀ i, i < k → (o.tName i).size ≤ 20)) (fun x _ => o.nT - (intOf x).toNat)
            case atStart => exact ⟨0, Nat.zero_le _, rfl, rfl, fun i hi => by omega⟩
            case round =>
              obtain ⟨k, hk, rfl, hw, HT⟩ := hrel
              replace hw := hw.symm
              subst hw
              by_cases hlt : k < o.nT
              · rcases h8' with h0 | ⟨b1, o1, rfl, h8⟩
                · omega
                have p0 := (h8 k hlt).2.2.2.1
                clear h8
                by_cases hz : 20 < (o.tName k).size
                · have hz' : (20 : Int) < ((o.tName k).size : Int) := by omega
                  clear hz
                  go_wp2
                  go_ret
                  exact ⟨⟨false, rfl, fun h => by cases h⟩, hx⟩
                · have hz' : ¬ (20 : Int) < ((o.tName k).size : Int) := by omega
                  have HK : Hid (∀ i, i < k + 1 → (o.tName i).size ≤ 20) := uptoN_succ HT.out (by omega)
                  clear hz
                  go_wp2
                  go_roundw
                  case rel => exact ⟨k + 1, by omega, by go_num, trivial, HK⟩
                  case measure => simp [intOf]; omega
              · have e : k = o.nT := by omega
                subst e
                go_wp2
                go_ret
                exact ⟨⟨true, rfl, fun _ => ⟨by omega, by omega, by omega, by omega, HN.out, HS.out, HT.out⟩⟩, hx⟩

end Go.Proofs.YtbbhjpbacobmjaaGreatDoor

namespace Go.Proofs.YtbbhjpbacobmjaaGreatDoor
open Go.RowKit

/-- a call that returned true (then they are few, and each is light) or false. -/
def LightsEnd (n : Nat) (O : Nat → ObjF) (e : Ending) : Prop := ∃ b, e = .returned (.bool b) ∧ (b = true → n ≤ 8 ∧ ∀ i, i < n → LightO (O i))

set_option maxRecDepth 100000 in
set_option maxHeartbeats 1000000 in
theorem lights_any (a : Option Addr) (n c : Nat) (V : Nat → ObjV) (O : Nat → ObjF) (w : World) (hr : ObjsRow w a n V O) (hf : ∀ i, i < n → ObjFit (O i)) :
    Calls Tryz.prog 9 #[.slice a n c] w fun e w' => LightsEnd n O e ∧ Below w.heap.size w w' := by
  by_cases h8 : 8 < n
  · have h8' : (8 : Int) < (n : Int) := by omega
    clear h8 hr hf
    go_enter Tryz.func9, Tryz.ntmps9
    go_wp2
    go_ret
    exact ⟨⟨false, rfl, fun h => by cases h⟩, Below.refl _ _⟩
  · have h8' : ¬ (8 : Int) < (n : Int) := by omega
    go_enter Tryz.func9, Tryz.ntmps9
    go_wp2
    go_loopw [3] (fun x wr => ∃ k : Nat, k ≤ n ∧ x = .int .i64 k ∧ Below w.heap.size w wr ∧ Hid (∀ i, i < k → LightO (O i))) (fun x _ => n - (intOf x).toNat)
    case atStart => exact ⟨0, Nat.zero_le _, rfl, Below.refl _ _, fun i hi => by omega⟩
    case round =>
      obtain ⟨k, hk, rfl, hb, HK⟩ := hrel
      by_cases hlt : k < n
      · rcases hr with h0 | ⟨bk, o, rfl, hc⟩
        · omega
        have H := (hc k hlt).later hb
        have c0 := H.c0
        have c1 := H.c1
        have c2 := H.c2
        have c3 := H.c3
        have HL := light_full (V k) (O k) wr H.here (hf k hlt)
        unfold ObjV.cells at HL
        clear hc hf H
        go_wp2_with fail
        refine HL.mono ?_
        rintro e w2 ⟨⟨b, rfl, hl⟩, hb2⟩
        have hB := hb.trans (hb2.mono hb.size)
        clear HL c0 c1 c2 c3 hb hb2
        cases b with
        | false =>
          go_wp2
          go_ret
          exact ⟨⟨false, rfl, fun h => by cases h⟩, hB⟩
        | true =>
          have HK' : Hid (∀ i, i < k + 1 → LightO (O i)) := uptoN_succ HK.out (hl rfl)
          clear hl
          go_wp2
          go_roundw
          case rel => exact ⟨k + 1, by omega, by go_num, hB, HK'⟩
          case measure => simp [intOf]; omega
      · have e : k = n := by omega
        subst e
        go_wp2
        go_ret
        exact ⟨⟨true, rfl, fun _ => ⟨by omega, HK.out⟩⟩, hb⟩
end Go.Proofs.YtbbhjpbacobmjaaGreatDoor

namespace Go.Proofs.YtbbhjpbacobmjaaGreatDoor
open Go.RowKit Go.Maps

/-- a world in which all that stood in W stands as it did. -/
def Later (W : World) : Type := { w : World // Below W.heap.size W w }
theorem later_some (W : World) : Nonempty (Later W) := ⟨⟨W, Below.refl _ _⟩⟩
theorem Later.cell {W : World} (x : Later W) {p : Addr} {v : Value} (h : W.cell? p = some v) : x.1.cell? p = some v := cell_later x.2 h
theorem quiet_later {P : Program} {id : Nat} {Q : Exit → Go.Act → World → Prop} {a : Go.Act} {w : World} {l : List Oper} (hm : P.follows .mixedOrders = true) (hB : Region.lexB .any l.toArray = true)
    (h : wpQuiet P l.toArray (fun w' => ∃ x : Later w, w' = x.1) (fun a' => ∀ w', (∃ x : Later w, w' = x.1) → Q .normal a' w') l a) : (Code.region id l.toArray true).wp P Q a w :=
  wp_region_quiet (C := fun w' => ∃ x : Later w, w' = x.1) hm hB ⟨⟨w.drew, (Below.refl _ _).drew⟩, rfl⟩ (by simpa using h)
/-- a callee that makes new memory alone, met in such a world. -/
theorem Calls.later_of {P : Program} {f : FuncId} {args : Array Value} {w : World} {x : Later w} {v : Value}
    (h : Calls P f args x.1 fun e w' => e = .returned v ∧ Below x.1.heap.size x.1 w') : Calls P f args x.1 fun e w'' => e = .returned v ∧ ∃ y : Later w, w'' = y.1 :=
  h.mono fun _ w' ⟨he, hb⟩ => ⟨he, ⟨w', x.2.trans (hb.mono x.2.size)⟩, rfl⟩
end Go.Proofs.YtbbhjpbacobmjaaGreatDoor

namespace Go.Proofs.YtbbhjpbacobmjaaGreatDoor
open Go.RowKit Go.Maps

theorem rows_names {w : World} {B : Nat} {u : Value} {N : List ByteArray} {n : Nat} (h : OwnTx w B u N) (hn : N.length = n) : ∃ a c, u = .slice a n c ∧ RowAt w a n fun i => .string (N.getD i ⟨#[]⟩) := by
  obtain ⟨a, c, hu, _, hr⟩ := ownTx_row h
  rw [hn] at hu hr
  exact ⟨a, c, hu, hr⟩
theorem names_len_of {rd : ByteArray → Nat × ObjF} {root : ByteArray} {m : Nat} (hO : OfIs rd root 0 m) : (namesAt rd root m).length = m := by
  generalize hF : (0 : Nat) = F at hO
  cases hO with
  | bad _ _ _ hf => exact absurd hF.symm hf
  | ok _ h hi => exact hi
theorem ofIs_all {rd : ByteArray → Nat × ObjF} {root : ByteArray} {m : Nat} (hO : OfIs rd root 0 m) : ReadTo rd root m := by
  generalize hF : (0 : Nat) = F at hO
  cases hO with
  | bad _ _ _ hf => exact absurd hF.symm hf
  | ok _ h hi => exact h
set_option maxRecDepth 100000 in
set_option maxHeartbeats 8000000 in
theorem scopes_any (w : World) (hE : Env w) : Calls Tryz.prog 7 #[] w fun e w' => e = .returned (.bool true) ∧ Below w.heap.size w w' := by
  have HN := new_any w
  have q0 : errV 0 = .nilIface := rfl
  go_enter Tryz.func7, Tryz.ntmps7
  go_wp2_with fail
  refine HN.mono ?_
  rintro e w1 ⟨p1, bm1, rfl, hp1, hbm1, hF1, hb⟩
  clear HN
  have HW := write_any w1 p1 bm1 (.map []) 0 bnA stA hF1 (by decide) (by decide)
  rw [write_sA] at HW
  go_wp2_with fail
  refine HW.mono ?_
  intro e w2 hEnd
  have he := hEnd.e
  rw [q0] at he
  subst he
  have hF2 := hEnd.yes rfl
  have hb2 := hb.trans (hEnd.turned.below hb.size hp1 hbm1)
  have HW2 := write_any w2 p1 bm1 sfA 1 bnB stB hF2 (by decide) (Nat.le_trans (Inv.put Inv.empty write_sA).size (by decide))
  rw [write_sB] at HW2
  clear HW hEnd hF1 hb
  go_wp2_with fail
  refine HW2.mono ?_
  intro e w3 hEnd
  have he := hEnd.e
  rw [q0] at he
  subst he
  have hF3 := hEnd.yes rfl
  have hb3 := hb2.trans (hEnd.turned.below hb2.size hp1 hbm1)
  obtain ⟨T, hT⟩ := texts_some sfB
  have HO := of_any w3 p1 bm1 sfB 2 T bnA hF3 inv_sB hT (hE.later hb3) (by decide)
  obtain ⟨hOf, hnn, e0, e1⟩ := of_s (rd_sA hT) (rd_sB hT)
  have hfd := found_s (rd_sA hT) (rd_sB hT)
  have hns : ∀ i, i < 2 → ((rdD sfB T) (nmAt (rdD sfB T) bnA i)).2.nS ≤ 1000000000 := fun i hi => by
    have h9 := (rd_ok (D := sfB) (T := T) (s := nmAt (rdD sfB T) bnA i) ((ofIs_all hOf) i hi).2).nS
    omega
  clear HW2 hEnd hF2 hF3 hb2
  go_wp2_with fail
  refine HO.mono ?_
  rintro e w4 ⟨he, hb4⟩
  have hb5 := hb3.trans (hb4.mono hb3.size)
  clear HO hb3 hb4
  cases he with
  | bad F i h hf => exact absurd (h.unique hOf).1 hf
  | ok i u x V h hu hx =>
    obtain ⟨_, rfl⟩ := h.unique hOf
    obtain ⟨ax, cx, rfl, _, hrow⟩ := hx.own.row hx.at'
    obtain ⟨au, cu, rfl, hrn⟩ := rows_names (n := 2) hu (by rw [hnn]; first | done | rfl)
    rw [hnn] at hrn
    have HF := find_any ax 2 cx V _ bnX w4 (by decide) hns hrow
    clear hu hx hOf h hns hT hnn
    go_wp2_with fail
    refine (show Calls _ _ _ _ _ from HF).mono ?_
    rintro e w6 ⟨⟨p, q, rfl, hF⟩, hb6⟩
    obtain ⟨rfl, rfl⟩ := hF.unique hfd
    clear HF hF hfd hrow
    have HS0 := fun W => same_nil 0 W
    have HST := fun (W : World) (hW : Below w4.heap.size w4 W) (a4 : Option Addr) (hr4 : RowAt W a4 2 fun i => .string ([bnA, bnB].getD i ⟨#[]⟩)) => sameTexts_true (fun i => [bnA, bnB].getD i ⟨#[]⟩) (fun i => [bnA, bnB].getD i ⟨#[]⟩) 2 au a4 cu 2 W (by decide) (hrn.later hW) hr4 (fun _ _ => rfl)
    have hb7 := hb5.trans (hb6.mono hb5.size)
    clear hrn
    go_wp2_with fail
    refine (show Calls _ _ _ _ _ from HS0 _).mono ?_
    rintro e w8 ⟨rfl, rfl⟩
    go_wp2_with fail
    refine (HST _ (hb6.trans (((Below.refl _ _).alloc (Nat.le_refl _) _).mono hb6.size)) _ (.inr ⟨_, _, rfl, fun i hi => ?_⟩)).mono ?_
    · have : i = 0 ∨ i = 1 := by omega
      rcases this with rfl | rfl <;> simp [go_sem]
    rintro e w9 ⟨rfl, kq, rfl⟩
    go_wp2
    go_ret
    exact ⟨rfl, below_drewN (hb7.alloc hb7.size _) _⟩
set_option maxRecDepth 100000 in
set_option maxHeartbeats 4000000 in
theorem sameObjects_true (n : Nat) (a a' : Option Addr) (c c' : Nat) (V V' : Nat → ObjV) (O O' : Nat → ObjF) (w : World) (hn : n ≤ 1000) (hS : ∀ i, i < n → SameO (O i) (O' i)) (hf : ∀ i, i < n → (O' i).nN ≤ 1000000000 ∧ (O' i).nW ≤ 1000000000 ∧ (O' i).nS ≤ 1000000000 ∧ (O' i).nT ≤ 1000000000) (hx : ObjsRow w a n V O) (hy : ObjsRow w a' n V' O') :
    Calls Tryz.prog 17 #[.slice a n c, .slice a' n c'] w fun e w' => e = .returned (.bool true) ∧ Below w.heap.size w w' := by
  go_enter Tryz.func17, Tryz.ntmps17
  go_wp2
  go_loopw [5] (fun y wr => ∃ i : Nat, i ≤ n ∧ y = .int .i64 i ∧ Below w.heap.size w wr) (fun y _ => n - (intOf y).toNat)
  case atStart => exact ⟨0, Nat.zero_le _, rfl, Below.refl _ _⟩
  case round =>
    obtain ⟨i, hi, rfl, hb⟩ := hrel
    by_cases hlt : i < n
    · rcases hx.later hb with h0 | ⟨bx, ox, rfl, hcx⟩
      · omega
      rcases hy.later hb with h0 | ⟨bY, oY, rfl, hcy⟩
      · omega
      have H1 := hcx i hlt
      have H2 := hcy i hlt
      have HSO := fun (W : World) (hW : Below wr.heap.size wr W) => sameObject_true (V i) (V' i) (O i) (O' i) W (H1.here.later hW) (H2.here.later hW) (hS i hlt) (hf i hlt)
      have c0 := H1.c0
      have c1 := H1.c1
      have c2 := H1.c2
      have c3 := H1.c3
      have d0 := H2.c0
      have d1 := H2.c1
      have d2 := H2.c2
      have d3 := H2.c3
      have hi0 : (0 : Int) ≤ (i : Int) := by omega
      have hi1 : (i : Int) < (n : Int) := by omega
      clear H1 H2 hcx hcy hx hy hS hf
      unfold ObjV.cells at HSO
      generalize V i = v at *
      generalize V' i = v' at *
      generalize O i = o at *
      generalize O' i = o' at *
      have hsome := later_some wr
      have x0 := fun x : Later wr => x.cell c0
      have x1 := fun x : Later wr => x.cell c1
      have x2 := fun x : Later wr => x.cell c2
      have x3 := fun x : Later wr => x.cell c3
      have y0 := fun x : Later wr => x.cell d0
      have y1 := fun x : Later wr => x.cell d1
      have y2 := fun x : Later wr => x.cell d2
      have y3 := fun x : Later wr => x.cell d3
      go_upto_region 6 with fail
      refine quiet_later (by kernel_rfl) (by kernel_rfl) ?_
      repeat (go_big_quiet_step (refine Calls.later_of (HSO _ (Subtype.property _))))
      refine wpQuiet_nil ?_
      intro _ hw'
      obtain ⟨x, rfl⟩ := hw'
      have hbx := hb.trans (x.2.mono hb.size)
      go_wp2
      go_roundw
      case rel => exact ⟨i + 1, by omega, by go_num, hbx⟩
      case measure => simp [intOf]; omega
    · go_wp2
      go_ret
      exact ⟨rfl, hb⟩
set_option maxRecDepth 100000 in
set_option maxHeartbeats 16000000 in
theorem scopeSays_walk (a : Option Addr) (n c : Nat) (X : Nat → ActF) (root : ByteArray) (al : Option Addr) (nl cl : Nat) (V : Nat → ObjV) (O : Nat → ObjF) (s : ByteArray) (w : World) (hE : Env w) (hr : ActsRow w a n X) (hf : ∀ i, i < n → ActFit (X i)) (hrl : ObjsRow w al nl V O) (hfl : ∀ i, i < nl → ObjFit (O i)) :
    Calls Tryz.prog 3 #[.slice a n c, .string root, .slice al nl cl, .string s] w fun e w' => e = .returned (.bool true) ∧ Below w.heap.size w w' := by
  have HC := scopes_any w hE
  go_enter Tryz.func3, Tryz.ntmps3
  go_wp2_with fail
  refine (show Calls _ _ _ _ _ from HC).mono ?_
  rintro e w1 ⟨rfl, hb1⟩
  clear HC
  have HL := lightActs_any a n c 30 X w1 (by decide) (hr.later hb1) hf
  clear hf
  go_wp2_with fail
  refine (show Calls _ _ _ _ _ from HL).mono ?_
  rintro e w2 ⟨⟨b, rfl, hlb⟩, hb2⟩
  clear HL
  have hb2' := hb1.trans (hb2.mono hb1.size)
  clear hb1 hb2
  cases b with
  | false =>
    clear hlb
    go_wp2
    go_ret
    exact ⟨rfl, hb2'⟩
  | true =>
  obtain ⟨h30, hsz⟩ := hlb rfl
  clear hlb
  by_cases hs : (50 : Int) < (root.size : Int)
  · go_wp2
    go_ret
    exact ⟨rfl, hb2'⟩
  have hroot : root.size ≤ maxLen := by simp only [maxLen]; omega
  have HLO := lights_any al nl cl V O w2 (hrl.later hb2') hfl
  go_wp2_with fail
  refine (show Calls _ _ _ _ _ from HLO).mono ?_
  rintro e w3 ⟨⟨b, rfl, hlb⟩, hb3⟩
  clear HLO
  have hb3' := hb2'.trans (hb3.mono hb2'.size)
  clear hb2' hb3
  cases b with
  | false =>
    clear hlb
    go_wp2
    go_ret
    exact ⟨rfl, hb3'⟩
  | true =>
  have hlig := hlb rfl
  clear hlb
  by_cases hs2 : (50 : Int) < (s.size : Int)
  · go_wp2
    go_ret
    exact ⟨rfl, hb3'⟩
  have HFi := filed_any a n c X w3 (hr.later hb3') (by omega) hsz
  clear hr hsz
  go_wp2_with fail
  refine (show Calls _ _ _ _ _ from HFi).mono ?_
  rintro e w4 ⟨⟨p, bm, q, D, L, k, rfl, hBo, hp, hbm⟩, hb4⟩
  clear HFi
  have hb4' := hb3'.trans (hb4.mono hb3'.size)
  obtain ⟨T, hT⟩ := texts_some D
  have HO := of_any w4 p bm D k T root hBo.f hBo.inv hT (hE.later hb4') hroot
  have hL6 := hBo.len
  have hfew := rd_few (T := T) hBo.inv
  go_wp2_with fail
  refine (show Calls _ _ _ _ _ from HO).mono ?_
  rintro e w5 ⟨hOE, hb5⟩
  clear HO
  have hb5' := hb4'.trans (hb5.mono hb4'.size)
  have HR := refScopeOf_any w3.heap.size w5 q L k D T root (hBo.later hb5).r (by omega) hBo.agree hBo.inv hT
  have HRf : ∀ W, Below w5.heap.size w5 W → ∃ f, True := fun _ _ => ⟨0, trivial⟩
  clear HRf
  obtain ⟨e5, he5⟩ : ∃ e5 : Ending, e5 = e := ⟨_, rfl⟩
  have hns : ∀ i, i < nl → (O i).nS ≤ 1000000000 := fun i hi => by have := (hlig.2 i hi).nS; omega
  have hnl : nl ≤ 1000000000 := by have := hlig.1; omega
  have hsame : ∀ m, OfIs (rdD D T) root 0 m → m ≤ 6 ∧ ∀ i, i < m → ((rdD D T) (nmAt (rdD D T) root i)).2.nN ≤ 1000000000 ∧ ((rdD D T) (nmAt (rdD D T) root i)).2.nW ≤ 1000000000 ∧ ((rdD D T) (nmAt (rdD D T) root i)).2.nS ≤ 1000000000 ∧ ((rdD D T) (nmAt (rdD D T) root i)).2.nT ≤ 1000000000 := fun m hO => ⟨(scope_of hO hfew).1.few, fun i hi => by
    have h9 := rd_ok (D := D) (T := T) (s := nmAt (rdD D T) root i) ((ofIs_all hO) i hi).2
    have := h9.nN
    have := h9.nW
    have := h9.nS
    have := h9.nT
    omega⟩
  clear hBo hT hfew hlig he5
  generalize rdD D T = rd at *
  cases hOE with
  | bad F i h hF =>
    obtain ⟨z, hz⟩ := errV_pos hF
    have HSm := fun W => same_self F W
    rw [hz] at HSm
    rw [hz]
    go_wp2_with fail
    refine (show Calls _ _ _ _ _ from HR).mono ?_
    rintro e w6 ⟨hRE, hb6⟩
    clear HR
    have hb6' := hb5'.trans (hb6.mono hb5'.size)
    cases hRE with
    | ok i' u x V' h' hu hx => exact absurd (h.unique h').1 hF
    | bad F' i' h' hF' =>
      obtain rfl := (h.unique h').1
      have HFd := find_any al nl cl V O s w6 hnl hns (hrl.later hb6')
      go_wp2_with fail
      refine (show Calls _ _ _ _ _ from HFd).mono ?_
      rintro e w7 ⟨⟨pa, pb, rfl, hFd⟩, hb7⟩
      clear HFd
      have hb7' := hb6'.trans (hb7.mono hb6'.size)
      have HRd := refFound_any al nl cl V O s w7 hnl hns (hrl.later hb7')
      go_wp2_with fail
      refine (show Calls _ _ _ _ _ from HRd).mono ?_
      rintro e w8 ⟨⟨pa', pb', rfl, hFd'⟩, hb8⟩
      clear HRd
      obtain ⟨rfl, rfl⟩ := hFd.unique hFd'
      have hb8' := hb7'.trans (hb8.mono hb7'.size)
      clear hFd hFd'
      go_wp2_with fail
      refine (show Calls _ _ _ _ _ from HSm _).mono ?_
      rintro e w9 ⟨rfl, rfl⟩
      have HST := fun W => sameTexts_zero none none 0 0 W
      go_wp2_with fail
      refine (show Calls _ _ _ _ _ from HST _).mono ?_
      rintro e w10 ⟨rfl, kk, rfl⟩
      have HSO := fun W => sameObjects_true 0 none none 0 0 V V O O W (by decide) (fun i hi => absurd hi (Nat.not_lt_zero _)) (fun i hi => absurd hi (Nat.not_lt_zero _)) (.inl rfl) (.inl rfl)
      go_wp2_with fail
      refine (show Calls _ _ _ _ _ from HSO _).mono ?_
      rintro e w11 ⟨rfl, hb11⟩
      have hbk := below_drewN hb8' kk
      have hb12 := hbk.trans (hb11.mono hbk.size)
      go_wp2
      go_ret
      exact ⟨rfl, hb12⟩
  | ok i u x V' h hu hx =>
    go_wp2_with fail
    refine (show Calls _ _ _ _ _ from HR).mono ?_
    rintro e w6 ⟨hRE, hb6⟩
    clear HR
    have hb6' := hb5'.trans (hb6.mono hb5'.size)
    cases hRE with
    | bad F' i' h' hF' => exact absurd (h'.unique h).1 hF'
    | ok i' u' x' V'' h' hu' hx' =>
      obtain ⟨_, rfl⟩ := h.unique h'
      obtain ⟨hm6, hbig⟩ := hsame i h
      have hnl' := names_len_of h
      obtain ⟨ax, cx, rfl, _, hrow⟩ := hx.own.row hx.at'
      obtain ⟨ax', cx', rfl, _, hrow'⟩ := hx'.own.row hx'.at'
      obtain ⟨au, cu, rfl, hrn⟩ := rows_names hu hnl'
      obtain ⟨au', cu', rfl, hrn'⟩ := rows_names hu' hnl'
      have hrow6 := hrow.later hb6
      have hrn6 := hrn.later hb6
      clear hsame hu hu' hx hx' hrow hrn h h' hnl'
      have HFd := find_any al nl cl V O s w6 hnl hns (hrl.later hb6')
      go_wp2_with fail
      refine (show Calls _ _ _ _ _ from HFd).mono ?_
      rintro e w7 ⟨⟨pa, pb, rfl, hFd⟩, hb7⟩
      clear HFd
      have hb7' := hb6'.trans (hb7.mono hb6'.size)
      have HRd := refFound_any al nl cl V O s w7 hnl hns (hrl.later hb7')
      go_wp2_with fail
      refine (show Calls _ _ _ _ _ from HRd).mono ?_
      rintro e w8 ⟨⟨pa', pb', rfl, hFd'⟩, hb8⟩
      clear HRd
      obtain ⟨rfl, rfl⟩ := hFd.unique hFd'
      have hb8' := hb7'.trans (hb8.mono hb7'.size)
      clear hFd hFd'
      have hb68 := hb7.trans (hb8.mono hb7.size)
      have HSm := fun W => same_nil 0 W
      go_wp2_with fail
      refine (show Calls _ _ _ _ _ from HSm _).mono ?_
      rintro e w9 ⟨rfl, rfl⟩
      have HST := sameTexts_true (fun j => (namesAt rd root i).getD j ⟨#[]⟩) (fun j => (namesAt rd root i).getD j ⟨#[]⟩) i au au' cu cu' w8 (by omega) (hrn6.later hb68) (hrn'.later hb68) (fun _ _ => rfl)
      go_wp2_with fail
      refine (show Calls _ _ _ _ _ from HST).mono ?_
      rintro e w10 ⟨rfl, kk, rfl⟩
      have hbk := below_drewN (Below.refl w8.heap.size w8) kk
      have hb6k := hb68.trans (hbk.mono hb68.size)
      have HSO := sameObjects_true i ax ax' cx cx' V' V'' (fun j => (rd (nmAt rd root j)).2) (fun j => (rd (nmAt rd root j)).2) (w8.drewN kk) (by omega) (fun j _ => SameO.refl _) hbig (hrow6.later hb6k) (hrow'.later hb6k)
      clear hrow6 hrow' hrn6 hrn' hbig HST
      go_wp2_with fail
      refine (show Calls _ _ _ _ _ from HSO).mono ?_
      rintro e w11 ⟨rfl, hb11⟩
      have hbq := below_drewN hb8' kk
      have hb12 := hbq.trans (hb11.mono hbq.size)
      clear HSO
      go_wp2
      go_ret
      exact ⟨rfl, hb12⟩
end Go.Proofs.YtbbhjpbacobmjaaGreatDoor
