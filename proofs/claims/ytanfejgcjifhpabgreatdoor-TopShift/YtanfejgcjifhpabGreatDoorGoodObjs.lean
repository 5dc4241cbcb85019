/-
  What good of the laws returns, for every list of objects: where it is true, few, and each may be; memory that was there stays as it was.
-/
import Derived.Test.YtanfejgcjifhpabGreatDoorLightObjs
import Derived.Test.YtanfejgcjifhpabGreatDoorCheckObj
namespace Go.Proofs.YtanfejgcjifhpabGreatDoor
open Go.RowKit

def GoodIs (n : Nat) (O : Nat → ObjF) (e : Ending) : Prop := ∃ b, e = .returned (.bool b) ∧ (b = true → n ≤ 1000 ∧ ∀ i, i < n → objF (O i) = 0)
set_option maxRecDepth 100000 in
set_option maxHeartbeats 2000000 in
theorem good_any (a : Option Addr) (n c : Nat) (V : Nat → ObjV) (O : Nat → ObjF) (w : World) (hr : ObjsRow w a n V O) (hf : ∀ i, i < n → ObjFit (O i)) :
    Calls Tryz.prog 31 #[.slice a n c] w fun e w' => GoodIs n O e ∧ Below w.heap.size w w' := by
  have HL := lights_any a n c V O w hr hf
  go_enter Tryz.func31, Tryz.ntmps31
  go_wp2_with fail
  refine HL.mono ?_
  rintro e w1 ⟨hl, hb1⟩
  obtain ⟨b, rfl, hl2⟩ := hl
  clear HL
  cases b with
  | false =>
    go_wp2
    go_ret
    exact ⟨⟨false, rfl, fun h => (by cases h)⟩, hb1⟩
  | true =>
    have hn := (hl2 rfl).1
    clear hl2
    have hr1 := hr.later hb1
    go_wp2
    go_loopw [3] (fun y wr => ∃ i : Nat, i ≤ n ∧ y = .int .i64 i ∧ Hid (∀ j, j < i → objF (O j) = 0) ∧ Below w1.heap.size w1 wr) (fun y _ => n - (intOf y).toNat)
    case atStart => exact ⟨0, Nat.zero_le _, rfl, fun j hj => by omega, Below.refl _ _⟩
    case round =>
      obtain ⟨i, hi, rfl, HK, hb⟩ := hrel
      by_cases hlt : i < n
      · have hr2 := hr1.later hb
        rcases hr2 with h0 | ⟨bk, o, rfl, hc⟩
        · omega
        have H := hc i hlt
        have c0 := H.c0
        have c1 := H.c1
        have c2 := H.c2
        have c3 := H.c3
        have HC := checkObj_any (V i) (O i) wr H.here (hf i hlt)
        unfold ObjV.cells at HC
        have hb2 := hb1.trans (hb.mono hb1.size)
        clear H hc hr1
        by_cases hz : objF (O i) = 0
        · rw [hz] at HC
          have HK2 : Hid (∀ j, j < i + 1 → objF (O j) = 0) := fun j hj => by
            by_cases e : j = i
            · subst e; exact hz
            · exact HK.out j (by omega)
          have q0 : errV 0 = .nilIface := rfl
          rw [q0] at HC
          clear hz HK q0
          go_wp2_with fail
          refine HC.mono ?_
          rintro e w2 ⟨rfl, hb3⟩
          clear HC
          go_wp2
          go_roundw
          case rel => exact ⟨i + 1, by omega, by go_num, HK2, hb.trans (hb3.mono hb.size)⟩
          case measure => simp [intOf]; omega
        · obtain ⟨z, hzz⟩ : ∃ z : Int, errV (objF (O i)) = .iface 109 (.int .i64 z) := by
            cases hq : objF (O i) with
            | zero => exact absurd hq hz
            | succ f => exact ⟨_, rfl⟩
          rw [hzz] at HC
          clear hz HK hzz
          go_wp2_with fail
          refine HC.mono ?_
          rintro e w2 ⟨rfl, hb3⟩
          clear HC
          go_wp2
          go_ret
          exact ⟨⟨false, rfl, fun h => (by cases h)⟩, hb2.trans (hb3.mono hb2.size)⟩
      · have e : i = n := by omega
        subst e
        go_wp2
        go_ret
        exact ⟨⟨true, rfl, fun _ => ⟨by omega, HK.out⟩⟩, hb1.trans (hb.mono hb1.size)⟩
end Go.Proofs.YtanfejgcjifhpabGreatDoor
