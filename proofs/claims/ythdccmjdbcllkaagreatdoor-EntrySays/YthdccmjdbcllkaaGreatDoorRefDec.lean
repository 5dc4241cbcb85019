/-
  What Decimal of the document's answer returns, for every number; memory that was there stays as it was.
-/
import Derived.Test.YthdccmjdbcllkaaGreatDoorPlain
import Derived.Test.YthdccmjdbcllkaaGreatDoorRefMay
import Derived.Deep.QuietTactic
import Derived.BigQuiet
import Derived.Deep.RegionWith
import Derived.Deep.RegionLaw
import Derived.Laws.IdiomStrings
namespace Go.Proofs.YthdccmjdbcllkaaGreatDoor
open Go.RowKit

theorem wr64 (n : Int) (h0 : -9223372036854775808 ≤ n) (h1 : n ≤ 9223372036854775807) : IntKind.i64.wrap n = n := by
  simp [IntKind.wrap, IntKind.bits, IntKind.signed]
  omega
theorem wr8 (n : Int) (h0 : 0 ≤ n) (h1 : n < 256) : IntKind.u8.wrap n = n := by
  simp [IntKind.wrap, IntKind.bits, IntKind.signed]
  omega
theorem after_alloc {w w' : World} {v : Value} {t : TypeId} (h : Below (w.alloc (.cells #[v] t)).heap.size (w.alloc (.cells #[v] t)) w') : w'.cell? ⟨w.heap.size, 0, none⟩ = some v := cell_later h (by simp [go_sem])
/-- a text of one digit. -/
def digB (d : Nat) : ByteArray := ⟨#[UInt8.ofNat (48 + d)]⟩
theorem conv_digit (d : Nat) (hd : d < 10) (w : World) (b : Nat) (hc : w.cell? ⟨b, 0, none⟩ = some (.int .u8 (48 + (d : Int)))) :
    (convert 124 9 (.slice (some ⟨b, 0, none⟩) 1 1)).run Tryz.prog w = .ok (.string (digB d)) w := by
  have e := run_convert_bytes_back (P := Tryz.prog) w 124 9 5 ⟨b, 0, none⟩ 1 [UInt8.ofNat (48 + d)] Tryz.underlying124 Tryz.underlying5 Tryz.underlying9 (by
    intro j hj
    simp at hj
    subst hj
    have e1 : (UInt8.ofNat (48 + d)).toNat = 48 + d := by rw [UInt8.toNat_ofNat']; omega
    simp only [List.getElem_cons_zero, e1]
    rw [show (⟨b, 0, none⟩ : Addr).add 0 = ⟨b, 0, none⟩ from rfl, hc]
    simp)
  exact e

set_option maxRecDepth 100000 in
theorem decimal_small (n : Nat) (h : n < 10) (w : World) :
    Calls Tryz.prog 35 #[.int .i64 (n : Int)] w fun e w' => (∃ t : ByteArray, e = .returned (.string t) ∧ t.data.toList = Lib.decDigits n) ∧ Below w.heap.size w w' := by
  have h0 : ¬ (n : Int) < 0 := by omega
  have h1 : (n : Int) < 10 := by omega
  have HC := conv_digit n h
  have hE : (digB n).data.toList = Lib.decDigits n := (Lib.decDigits_one h).symm
  have hB : ∀ ob : Obj, Below w.heap.size w (w.alloc ob) := fun ob => (Below.refl _ _).alloc (Nat.le_refl _) ob
  clear h
  go_enter Tryz.func35, Tryz.ntmps35
  go_wp2
  go_ret
  exact ⟨⟨_, rfl, hE⟩, hB _⟩
set_option maxRecDepth 100000 in
theorem decimal_nat (k : Nat) : ∀ (n : Nat), n ≤ k → n ≤ 9223372036854775807 → ∀ w : World,
    Calls Tryz.prog 35 #[.int .i64 (n : Int)] w fun e w' => (∃ t : ByteArray, e = .returned (.string t) ∧ t.data.toList = Lib.decDigits n) ∧ Below w.heap.size w w' := by
  induction k with
  | zero =>
    intro n hn _ w
    exact decimal_small n (by omega) w
  | succ k ih =>
    intro n hn hm w
    by_cases h : n < 10
    · exact decimal_small n h w
    · have h0 : ¬ (n : Int) < 0 := by omega
      have h1 : ¬ (n : Int) < 10 := by omega
      replace ih := ih (n / 10) (by omega) (by omega)
      have hq : (n : Int) / 10 = ((n / 10 : Nat) : Int) := by omega
      have hr : (n : Int).tmod 10 = ((n % 10 : Nat) : Int) := by rw [Int.tmod_eq_emod_of_nonneg (by omega)]; omega
      have hE : Hid (Lib.decDigits n = Lib.decDigits (n / 10) ++ (digB (n % 10)).data.toList) := by
        show Lib.decDigits n = _
        rw [Lib.decDigits, dif_neg h]
        rfl
      have HC := conv_digit (n % 10) (by omega)
      have hql : ((n / 10 : Nat) : Int) ≤ 9223372036854775807 := by omega
      have hrl : ((n % 10 : Nat) : Int) < 10 := by omega
      have hB : ∀ ob : Obj, Below w.heap.size w (w.alloc ob) := fun ob => (Below.refl _ _).alloc (Nat.le_refl _) ob
      have hw1 : IntKind.i64.wrap ((n / 10 : Nat) : Int) = ((n / 10 : Nat) : Int) := wr64 _ (by omega) (by omega)
      have hw2 : IntKind.i64.wrap (48 + ((n % 10 : Nat) : Int)) = 48 + ((n % 10 : Nat) : Int) := wr64 _ (by omega) (by omega)
      have hw3 : IntKind.u8.wrap (48 + ((n % 10 : Nat) : Int)) = 48 + ((n % 10 : Nat) : Int) := wr8 _ (by omega) (by omega)
      have hz : ∀ t : ByteArray, t.data.toList = Lib.decDigits (n / 10) → ¬ 9223372036854775807 < t.size + (digB (n % 10)).size := by
        intro t ht
        have h1 := decDigits_len 18 (n / 10) (by have : (10 : Nat) ^ (18 + 1) = 10000000000000000000 := by decide
                                                 omega)
        rw [← ht] at h1
        have h2 : t.data.toList.length = t.size := by simp
        have h3 : (digB (n % 10)).size = 1 := rfl
        omega
      generalize n / 10 = q at *
      generalize n % 10 = r at *
      clear hn h
      go_enter Tryz.func35, Tryz.ntmps35
      go_wp2
      go_region_law (go_simp; go_at_call 35; refine (ih _).mono ?_; rintro e w2 ⟨⟨t, rfl, ht⟩, hb⟩; have hzt := hz t ht; replace hb := undrew hb; first | (have hcv := HC w2 w.heap.size (after_alloc hb); replace hb := (hB _).trans (hb.mono (hB _).size)) | skip)
      all_goals
        go_wp2
        go_ret
        refine ⟨⟨_, rfl, by rw [hE.out, ← ht]; simp⟩, ?_⟩
        first | exact hb | exact hb.alloc hb.size _

theorem decimal_any (n : Int) (h0 : -9223372036854775807 ≤ n) (h1 : n ≤ 9223372036854775807) (w : World) :
    Calls Tryz.prog 35 #[.int .i64 n] w fun e w' => (∃ t : ByteArray, e = .returned (.string t) ∧ t.data.toList = Lib.itoa n) ∧ Below w.heap.size w w' := by
  by_cases hn : n < 0
  · have HD := decimal_nat n.natAbs n.natAbs (Nat.le_refl _) (by omega) w
    have e1 : ((n.natAbs : Nat) : Int) = -n := by omega
    rw [e1] at HD
    have hE : Hid (Lib.itoa n = 45 :: Lib.decDigits n.natAbs) := if_pos hn
    have hz : ∀ t : ByteArray, t.data.toList = Lib.decDigits n.natAbs → ¬ 9223372036854775807 < 1 + t.size := by
      intro t ht
      have h1 := decDigits_len 18 n.natAbs (by have : (10 : Nat) ^ (18 + 1) = 10000000000000000000 := by decide
                                               omega)
      rw [← ht] at h1
      have h2 : t.data.toList.length = t.size := by simp
      omega
    have hne : (n == -9223372036854775808) = false := by rw [beq_eq_false_iff_ne]; omega
    have hw : IntKind.i64.wrap (-n) = -n := wr64 _ (by omega) (by omega)
    clear e1
    go_enter Tryz.func35, Tryz.ntmps35
    go_wp2_with fail
    refine HD.mono ?_
    rintro e w2 ⟨⟨t, rfl, ht⟩, hb⟩
    have hzt := hz t ht
    clear HD hz
    go_wp2
    go_ret
    refine ⟨⟨_, rfl, by rw [hE.out, ← ht]; simp⟩, hb⟩
  · have HD := decimal_nat n.toNat n.toNat (Nat.le_refl _) (by omega) w
    have e1 : ((n.toNat : Nat) : Int) = n := by omega
    rw [e1] at HD
    have hE : Lib.itoa n = Lib.decDigits n.toNat := if_neg hn
    rw [hE]
    exact HD
end Go.Proofs.YthdccmjdbcllkaaGreatDoor
