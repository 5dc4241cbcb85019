/-
  LightObject returns, for every object; memory that was there stays as it was.
-/
import Derived.Test.YtchccaalinepnaaDoorSameObj
namespace Go.Proofs.YtchccaalinepnaaDoor
open Go.RowKit

/-- a call that returned true or false. -/
def IsBool (e : Ending) : Prop := ∃ b, e = .returned (.bool b)

set_option maxRecDepth 100000 in
set_option maxHeartbeats 1000000 in
theorem light_any (v : ObjV) (o : ObjF) (w : World) (hA : ObjAt w v o) (_ : ObjFit o) :
    Calls Tryd.prog 9 #[.agg (v.cells o)] w fun e w' => IsBool e ∧ Below w.heap.size w w' := by
  obtain ⟨aN, cN, aW, cW, aS, cS, aT, cT⟩ := v
  unfold ObjV.cells
  have h5 : RowAt w aN o.nN fun i => .string (o.needs i) := hA.needs
  have h7 : SymsRow w aS o.nS o.sName o.sAt o.sWeak := hA.syms
  have h8 : TiesRow w aT o.nT o.tAt o.tKind o.tAdd o.tName o.tWeak := hA.ties
  have hx : Below w.heap.size w (w.alloc (.cells #[.slice aN o.nN cN, .slice aW o.nW cW, .slice aS o.nS cS, .slice aT o.nT cT] 35)) := (Below.refl _ _).alloc (Nat.le_refl _) _
  have c0 : (w.alloc (.cells #[.slice aN o.nN cN, .slice aW o.nW cW, .slice aS o.nS cS, .slice aT o.nT cT] 35)).cell? ⟨w.heap.size, 0, none⟩ = some (.slice aN o.nN cN) := by simp [go_sem]
  have c1 : (w.alloc (.cells #[.slice aN o.nN cN, .slice aW o.nW cW, .slice aS o.nS cS, .slice aT o.nT cT] 35)).cell? ⟨w.heap.size, 1, none⟩ = some (.slice aW o.nW cW) := by simp [go_sem]
  have c2 : (w.alloc (.cells #[.slice aN o.nN cN, .slice aW o.nW cW, .slice aS o.nS cS, .slice aT o.nT cT] 35)).cell? ⟨w.heap.size, 2, none⟩ = some (.slice aS o.nS cS) := by simp [go_sem]
  have c3 : (w.alloc (.cells #[.slice aN o.nN cN, .slice aW o.nW cW, .slice aS o.nS cS, .slice aT o.nT cT] 35)).cell? ⟨w.heap.size, 3, none⟩ = some (.slice aT o.nT cT) := by simp [go_sem]
  clear hA
  by_cases hc : 6 < o.nN ∨ 50 < o.nW ∨ 10 < o.nS ∨ 10 < o.nT
  · go_enter Tryd.func9, Tryd.ntmps9
    go_wp2
    all_goals first | (go_ret; exact ⟨⟨_, rfl⟩, hx⟩) | (exfalso; omega)
  · have g1 : ¬ (6 : Int) < o.nN := by omega
    have g2 : ¬ (50 : Int) < o.nW := by omega
    have g3 : ¬ (10 : Int) < o.nS := by omega
    have g4 : ¬ (10 : Int) < o.nT := by omega
    clear hc
    have h5' := h5.later hx
    have h7' := h7.later hx
    have h8' := h8.later hx
    clear h5 h7 h8
    go_enter Tryd.func9, Tryd.ntmps9
    go_wp2
    generalize w.alloc (.cells #[.slice aN o.nN cN, .slice aW o.nW cW, .slice aS o.nS cS, .slice aT o.nT cT] 35) = Y at *
    go_loopw [3] (fun x wr => ∃ k : Nat, k ≤ o.nN ∧ x = .int .i64 k ∧ wr = Y) (fun x _ => o.nN - (intOf x).toNat)
    case atStart => exact ⟨0, Nat.zero_le _, rfl, rfl⟩
    case round =>
      obtain ⟨k, hk, rfl, hw⟩ := hrel
      replace hw := hw.symm
      subst hw
      by_cases hlt : k < o.nN
      · rcases h5' with h0 | ⟨b1, o1, rfl, h5⟩
        · omega
        have p0 := h5 k hlt
        clear h5 h7' h8'
        go_wp2
        all_goals first
          | (go_ret; exact ⟨⟨_, rfl⟩, hx⟩)
          | (go_roundw
             case rel => exact ⟨k + 1, by omega, by go_num, trivial⟩
             case measure => simp [intOf]; omega)
      · have e : k = o.nN := by omega
        subst e
        clear h5'
        go_wp2
        go_loopw [4] (fun x wr => ∃ k : Nat, k ≤ o.nS ∧ x = .int .i64 k ∧ wr = Y) (fun x _ => o.nS - (intOf x).toNat)
        case atStart => exact ⟨0, Nat.zero_le _, rfl, rfl⟩
        case round =>
          obtain ⟨k, hk, rfl, hw⟩ := hrel
          replace hw := hw.symm
          subst hw
          by_cases hlt : k < o.nS
          · rcases h7' with h0 | ⟨b1, o1, rfl, h7⟩
            · omega
            have p0 := (h7 k hlt).1
            clear h7 h8'
            go_wp2
            all_goals first
              | (go_ret; exact ⟨⟨_, rfl⟩, hx⟩)
              | (go_roundw
                 case rel => exact ⟨k + 1, by omega, by go_num, trivial⟩
                 case measure => simp [intOf]; omega)
          · have e : k = o.nS := by omega
            subst e
            clear h7'
            go_wp2
            go_loopw [5] (fun x wr => ∃ k : Nat, k ≤ o.nT ∧ x = .int .i64 k ∧ wr = Y) (fun x _ => o.nT - (intOf x).toNat)
            case atStart => exact ⟨0, Nat.zero_le _, rfl, rfl⟩
            case round =>
              obtain ⟨k, hk, rfl, hw⟩ := hrel
              replace hw := hw.symm
              subst hw
              by_cases hlt : k < o.nT
              · rcases h8' with h0 | ⟨b1, o1, rfl, h8⟩
                · omega
                have p0 := (h8 k hlt).2.2.2.1
                clear h8
                go_wp2
                all_goals first
                  | (go_ret; exact ⟨⟨_, rfl⟩, hx⟩)
                  | (go_roundw
                     case rel => exact ⟨k + 1, by omega, by go_num, trivial⟩
                     case measure => simp [intOf]; omega)
              · have e : k = o.nT := by omega
                subst e
                go_wp2
                go_ret
                exact ⟨⟨_, rfl⟩, hx⟩
end Go.Proofs.YtchccaalinepnaaDoor
