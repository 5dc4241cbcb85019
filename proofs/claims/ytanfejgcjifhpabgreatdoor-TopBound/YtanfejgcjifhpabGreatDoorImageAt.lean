/-
  What At of package image returns, for parts that lie from 0 to 256; memory that was there stays as it was.
-/
import Derived.Test.YtanfejgcjifhpabGreatDoorImageSmall
namespace Go.Proofs.YtanfejgcjifhpabGreatDoor
open Go.RowKit

/-- a call of At that returned: the word of the first part that has it. -/
inductive AtEnd (n : Nat) (B : Nat → Int) (M : Nat → Nat) (X : Nat → Nat → Int) (at' : Int) : Ending → Prop
  | yes (i : Nat) (hi : i < n) (h : hasB B M at' i = true) (hf : ∀ j, j < i → hasB B M at' j = false) : AtEnd n B M X at' (.returned (.tuple #[.int .i64 (X i (at' - B i).toNat), .bool true]))
  | no (h : ∀ j, j < n → hasB B M at' j = false) : AtEnd n B M X at' (.returned (.tuple #[.int .i64 0, .bool false]))

set_option maxHeartbeats 2000000 in
theorem at_any (a : Option Addr) (n c : Nat) (nm : Nat → ByteArray) (B : Nat → Int) (A : Nat → Option Addr) (M C : Nat → Nat) (X : Nat → Nat → Int) (at' : Int) (w : World) (hn : n ≤ 1000) (hB : ∀ i, i < n → 0 ≤ B i ∧ B i ≤ 256) (hM : ∀ i, i < n → M i ≤ 1000) (hat : at' ≤ 9223372036854775807) (hr : PartRow w a n nm B A M C X) :
    Calls Tryz.prog 18 #[.slice a n c, .int .i64 at'] w fun e w' => AtEnd n B M X at' e ∧ Below w.heap.size w w' := by
  go_enter Tryz.func18, Tryz.ntmps18
  go_wp2
  go_loopw [11] (fun z wr => ∃ k : Nat, k ≤ n ∧ z = .int .i64 k ∧ Hid (∀ j, j < k → hasB B M at' j = false) ∧ Below w.heap.size w wr) (fun z _ => n - (intOf z).toNat)
  case atStart => exact ⟨0, Nat.zero_le _, rfl, fun j hj => by omega, Below.refl _ _⟩
  case round =>
    obtain ⟨k, hk, rfl, HK, hb⟩ := hrel
    by_cases hlt : k < n
    · have hr1 := hr.later hb
      rcases hr1 with h0 | ⟨bk, o, rfl, hc⟩
      · omega
      obtain ⟨c0, c1, c2, hrw⟩ := hc k hlt
      have hBk := hB k hlt
      have hMk := hM k hlt
      have hx : ∀ ob : Obj, Below w.heap.size w (wr.alloc ob) := fun ob => hb.alloc hb.size ob
      clear hc
      by_cases h1 : at' < B k
      · have HE : Hid (∀ j, j < k + 1 → hasB B M at' j = false) := fun j hj => by
          by_cases e : j = k
          · subst e; unfold hasB; rw [decide_eq_false (by omega), Bool.false_and]
          · exact HK.out j (by omega)
        clear HK
        go_wp2
        go_roundw
        case rel => exact ⟨k + 1, by omega, by go_num, HE, hx _⟩
        case measure => simp [intOf]; omega
      · obtain ⟨d, hd⟩ : ∃ d : Nat, at' = B k + d := ⟨(at' - B k).toNat, by omega⟩
        by_cases h2 : d < M k
        · rcases hrw with h0 | ⟨bw, ow, ha, hcw⟩
          · omega
          rw [ha] at c2
          have hcd := cell_later ((Below.refl wr.heap.size wr).alloc (Nat.le_refl _) (.cells #[.string (nm k), .int .i64 (B k), .slice (some ⟨bw, ow, none⟩) (M k) (C k)] 48)) (hcw d h2)
          have HE : Hid (hasB B M at' k = true) := by show _ = true; unfold hasB; rw [decide_eq_true (by omega), decide_eq_true (by omega)]; rfl
          have HD : Hid ((at' - B k).toNat = d) := by show _ = _; omega
          have hsub : at' - B k = (d : Int) := by omega
          have hat0 : 0 ≤ at' := by omega
          have hdm : (d : Int) ≤ 1000 := by omega
          clear hcw hd
          go_wp2
          go_ret2
          rw [← HD.out]
          exact ⟨.yes k hlt HE.out HK.out, hx _⟩
        · have HE : Hid (∀ j, j < k + 1 → hasB B M at' j = false) := fun j hj => by
            by_cases e : j = k
            · subst e; unfold hasB; rw [decide_eq_false (p := at' < B j + M j) (by omega), Bool.and_false]
            · exact HK.out j (by omega)
          have hsub : at' - B k = (d : Int) := by omega
          have hat0 : 0 ≤ at' := by omega
          have hdm : (d : Int) ≤ 9223372036854775807 := by omega
          clear HK hd
          go_wp2
          go_roundw
          case rel => exact ⟨k + 1, by omega, by go_num, HE, hx _⟩
          case measure => simp [intOf]; omega
    · have HE : Hid (∀ j, j < n → hasB B M at' j = false) := fun j hj => HK.out j (by omega)
      clear HK
      go_wp2
      go_ret2
      exact ⟨.no HE.out, hb⟩
end Go.Proofs.YtanfejgcjifhpabGreatDoor
