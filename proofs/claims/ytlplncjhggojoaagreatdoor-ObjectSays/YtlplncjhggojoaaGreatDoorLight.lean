/-
  LightObject returns, for every object (true: it is light); memory that was there stays as it was.
-/
import Derived.Test.YtlplncjhggojoaaGreatDoorRows
import Derived.Test.YtlplncjhggojoaaGreatDoorAtAll
namespace Go.Proofs.YtlplncjhggojoaaGreatDoor
open Go.RowKit

/-- a call that returned true or false. -/
def IsBool (e : Ending) : Prop := ∃ b, e = .returned (.bool b)
/-- not too much. -/
structure LightO (o : ObjF) : Prop where
  nN : o.nN ≤ 6
  nW : o.nW ≤ 50
  nS : o.nS ≤ 10
  nT : o.nT ≤ 10
  needs : ∀ i, i < o.nN → (o.needs i).size ≤ 20
  syms : ∀ i, i < o.nS → (o.sName i).size ≤ 20
  ties : ∀ i, i < o.nT → (o.tName i).size ≤ 20
/-- a call that returned true (then it is light) or false. -/
def LightEnd (o : ObjF) (e : Ending) : Prop := ∃ b, e = .returned (.bool b) ∧ (b = true → LightO o)
theorem upto_succ {p : Nat → Prop} {k : Nat} (h : ∀ i, i < k → p i) (hk : p k) : ∀ i, i < k + 1 → p i := fun i hi => by
  by_cases e : i = k
  · subst e; exact hk
  · exact h i (by omega)

set_option maxRecDepth 100000 in
set_option maxHeartbeats 1000000 in
theorem light_full (v : ObjV) (o : ObjF) (w : World) (hA : ObjAt w v o) (_ : ObjFit o) :
    Calls Tryz.prog 5 #[.agg (v.cells o)] w fun e w' => LightEnd o e ∧ Below w.heap.size w w' := by
  obtain ⟨aN, cN, aW, cW, aS, cS, aT, cT⟩ := v
  unfold ObjV.cells
  have h5 : RowAt w aN o.nN fun i => .string (o.needs i) := hA.needs
  have h7 : SymsRow w aS o.nS o.sName o.sAt o.sWeak := hA.syms
  have h8 : TiesRow w aT o.nT o.tAt o.tKind o.tAdd o.tName o.tWeak := hA.ties
  have hx : Below w.heap.size w (w.alloc (.cells #[.slice aN o.nN cN, .slice aW o.nW cW, .slice aS o.nS cS, .slice aT o.nT cT] 27)) := (Below.refl _ _).alloc (Nat.le_refl _) _
  have c0 : (w.alloc (.cells #[.slice aN o.nN cN, .slice aW o.nW cW, .slice aS o.nS cS, .slice aT o.nT cT] 27)).cell? ⟨w.heap.size, 0, none⟩ = some (.slice aN o.nN cN) := by simp [go_sem]
  have c1 : (w.alloc (.cells #[.slice aN o.nN cN, .slice aW o.nW cW, .slice aS o.nS cS, .slice aT o.nT cT] 27)).cell? ⟨w.heap.size, 1, none⟩ = some (.slice aW o.nW cW) := by simp [go_sem]
  have c2 : (w.alloc (.cells #[.slice aN o.nN cN, .slice aW o.nW cW, .slice aS o.nS cS, .slice aT o.nT cT] 27)).cell? ⟨w.heap.size, 2, none⟩ = some (.slice aS o.nS cS) := by simp [go_sem]
  have c3 : (w.alloc (.cells #[.slice aN o.nN cN, .slice aW o.nW cW, .slice aS o.nS cS, .slice aT o.nT cT] 27)).cell? ⟨w.heap.size, 3, none⟩ = some (.slice aT o.nT cT) := by simp [go_sem]
  clear hA
  by_cases hc : 6 < o.nN ∨ 50 < o.nW ∨ 10 < o.nS ∨ 10 < o.nT
  · go_enter Tryz.func5, Tryz.ntmps5
    go_wp2
    all_goals first | (go_ret; exact ⟨⟨false, rfl, fun h => by cases h⟩, hx⟩) | (exfalso; omega)
  · have g1 : ¬ (6 : Int) < o.nN := by omega
    have g2 : ¬ (50 : Int) < o.nW := by omega
    have g3 : ¬ (10 : Int) < o.nS := by omega
    have g4 : ¬ (10 : Int) < o.nT := by omega
    clear hc
    have h5' := h5.later hx
    have h7' := h7.later hx
    have h8' := h8.later hx
    clear h5 h7 h8
    go_enter Tryz.func5, Tryz.ntmps5
    go_wp2
    generalize w.alloc (.cells #[.slice aN o.nN cN, .slice aW o.nW cW, .slice aS o.nS cS, .slice aT o.nT cT] 27) = Y at *
    go_loopw [3] (fun x wr => ∃ k : Nat, k ≤ o.nN ∧ x = .int .i64 k ∧ wr = Y ∧ Hid (∀ i, i < k → (o.needs i).size ≤ 20)) (fun x _ => o.nN - (intOf x).toNat)
    case atStart => exact ⟨0, Nat.zero_le _, rfl, rfl, fun i hi => by omega⟩
    case round =>
      obtain ⟨k, hk, rfl, hw, HN⟩ := hrel
      replace hw := hw.symm
      subst hw
      by_cases hlt : k < o.nN
      · rcases h5' with h0 | ⟨b1, o1, rfl, h5⟩
        · omega
        have p0 := h5 k hlt
        clear h5 h7' h8'
        by_cases hz : 20 < (o.needs k).size
        · have hz' : (20 : Int) < ((o.needs k).size : Int) := by omega
          clear hz
          go_wp2
          go_ret
          exact ⟨⟨false, rfl, fun h => by cases h⟩, hx⟩
        · have hz' : ¬ (20 : Int) < ((o.needs k).size : Int) := by omega
          have HK : Hid (∀ i, i < k + 1 → (o.needs i).size ≤ 20) := upto_succ HN.out (by omega)
          clear hz
          go_wp2
          go_roundw
          case rel => exact ⟨k + 1, by omega, by go_num, trivial, HK⟩
          case measure => simp [intOf]; omega
      · have e : k = o.nN := by omega
        subst e
        clear h5'
        go_wp2
        go_loopw [4] (fun x wr => ∃ k : Nat, k ≤ o.nS ∧ x = .int .i64 k ∧ wr = Y ∧ Hid (∀ i, i < k → (o.sName i).size ≤ 20)) (fun x _ => o.nS - (intOf x).toNat)
        case atStart => exact ⟨0, Nat.zero_le _, rfl, rfl, fun i hi => by omega⟩
        case round =>
          obtain ⟨k, hk, rfl, hw, HS⟩ := hrel
          replace hw := hw.symm
          subst hw
          by_cases hlt : k < o.nS
          · rcases h7' with h0 | ⟨b1, o1, rfl, h7⟩
            · omega
            have p0 := (h7 k hlt).1
            clear h7 h8'
            by_cases hz : 20 < (o.sName k).size
            · have hz' : (20 : Int) < ((o.sName k).size : Int) := by omega
              clear hz
              go_wp2
              go_ret
              exact ⟨⟨false, rfl, fun h => by cases h⟩, hx⟩
            · have hz' : ¬ (20 : Int) < ((o.sName k).size : Int) := by omega
              have HK : Hid (∀ i, i < k + 1 → (o.sName i).size ≤ 20) := upto_succ HS.out (by omega)
              clear hz
              go_wp2
              go_roundw
              case rel => exact ⟨k + 1, by omega, by go_num, trivial, HK⟩
              case measure => simp [intOf]; omega
          · have e : k = o.nS := by omega
            subst e
            clear h7'
            go_wp2
            go_loopw [5] (fun x wr => ∃ k : Nat, k ≤ o.nT ∧ x = .int .i64 k ∧ wr = Y ∧ Hid (∀ i, i < k → (o.tName i).size ≤ 20)) (fun x _ => o.nT - (intOf x).toNat)
            case atStart => exact ⟨0, Nat.zero_le _, rfl, rfl, fun i hi => by omega⟩
            case round =>
              obtain ⟨k, hk, rfl, hw, HT⟩ := hrel
              replace hw := hw.symm
              subst hw
              by_cases hlt : k < o.nT
              · rcases h8' with h0 | ⟨b1, o1, rfl, h8⟩
                · omega
                have p0 := (h8 k hlt).2.2.2.1
                clear h8
                by_cases hz : 20 < (o.tName k).size
                · have hz' : (20 : Int) < ((o.tName k).size : Int) := by omega
                  clear hz
                  go_wp2
                  go_ret
                  exact ⟨⟨false, rfl, fun h => by cases h⟩, hx⟩
                · have hz' : ¬ (20 : Int) < ((o.tName k).size : Int) := by omega
                  have HK : Hid (∀ i, i < k + 1 → (o.tName i).size ≤ 20) := upto_succ HT.out (by omega)
                  clear hz
                  go_wp2
                  go_roundw
                  case rel => exact ⟨k + 1, by omega, by go_num, trivial, HK⟩
                  case measure => simp [intOf]; omega
              · have e : k = o.nT := by omega
                subst e
                go_wp2
                go_ret
                exact ⟨⟨true, rfl, fun _ => ⟨by omega, by omega, by omega, by omega, HN.out, HS.out, HT.out⟩⟩, hx⟩

theorem light_any (v : ObjV) (o : ObjF) (w : World) (hA : ObjAt w v o) (hF : ObjFit o) :
    Calls Tryz.prog 5 #[.agg (v.cells o)] w fun e w' => IsBool e ∧ Below w.heap.size w w' :=
  (light_full v o w hA hF).mono fun _ _ ⟨⟨b, h, _⟩, hb⟩ => ⟨⟨b, h⟩, hb⟩
end Go.Proofs.YtlplncjhggojoaaGreatDoor
