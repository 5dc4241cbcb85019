/-
  LightObjects returns, for every row of objects (true: they are few, each is light); memory that was there stays as it was.
-/
import Derived.Test.YtanfejgcjifhpabGreatDoorLight
import Derived.Test.YtanfejgcjifhpabGreatDoorAtAll
namespace Go.Proofs.YtanfejgcjifhpabGreatDoor
open Go.RowKit

/-- a call that returned true (then they are few, and each is light) or false. -/
def LightsEnd (n : Nat) (O : Nat → ObjF) (e : Ending) : Prop := ∃ b, e = .returned (.bool b) ∧ (b = true → n ≤ 8 ∧ ∀ i, i < n → LightO (O i))

set_option maxRecDepth 100000 in
set_option maxHeartbeats 1000000 in
theorem lights_any (a : Option Addr) (n c : Nat) (V : Nat → ObjV) (O : Nat → ObjF) (w : World) (hr : ObjsRow w a n V O) (hf : ∀ i, i < n → ObjFit (O i)) :
    Calls Tryz.prog 64 #[.slice a n c] w fun e w' => LightsEnd n O e ∧ Below w.heap.size w w' := by
  by_cases h8 : 8 < n
  · have h8' : (8 : Int) < (n : Int) := by omega
    clear h8 hr hf
    go_enter Tryz.func64, Tryz.ntmps64
    go_wp2
    go_ret
    exact ⟨⟨false, rfl, fun h => by cases h⟩, Below.refl _ _⟩
  · have h8' : ¬ (8 : Int) < (n : Int) := by omega
    go_enter Tryz.func64, Tryz.ntmps64
    go_wp2
    go_loopw [3] (fun x wr => ∃ k : Nat, k ≤ n ∧ x = .int .i64 k ∧ Below w.heap.size w wr ∧ Hid (∀ i, i < k → LightO (O i))) (fun x _ => n - (intOf x).toNat)
    case atStart => exact ⟨0, Nat.zero_le _, rfl, Below.refl _ _, fun i hi => by omega⟩
    case round =>
      obtain ⟨k, hk, rfl, hb, HK⟩ := hrel
      by_cases hlt : k < n
      · rcases hr with h0 | ⟨bk, o, rfl, hc⟩
        · omega
        have H := (hc k hlt).later hb
        have c0 := H.c0
        have c1 := H.c1
        have c2 := H.c2
        have c3 := H.c3
        have HL := light_full (V k) (O k) wr H.here (hf k hlt)
        unfold ObjV.cells at HL
        clear hc hf H
        go_wp2_with fail
        refine HL.mono ?_
        rintro e w2 ⟨⟨b, rfl, hl⟩, hb2⟩
        have hB := hb.trans (hb2.mono hb.size)
        clear HL c0 c1 c2 c3 hb hb2
        cases b with
        | false =>
          go_wp2
          go_ret
          exact ⟨⟨false, rfl, fun h => by cases h⟩, hB⟩
        | true =>
          have HK' : Hid (∀ i, i < k + 1 → LightO (O i)) := upto_succ HK.out (hl rfl)
          clear hl
          go_wp2
          go_roundw
          case rel => exact ⟨k + 1, by omega, by go_num, hB, HK'⟩
          case measure => simp [intOf]; omega
      · have e : k = n := by omega
        subst e
        go_wp2
        go_ret
        exact ⟨⟨true, rfl, fun _ => ⟨by omega, HK.out⟩⟩, hb⟩
end Go.Proofs.YtanfejgcjifhpabGreatDoor
