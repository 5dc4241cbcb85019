/-
  The law TopFull returns true, for every list of sizes; memory that was there stays as it was.
-/
import Derived.Test.YtnbmnljknfgafabPlaceBases
import Derived.Test.YtnbmnljknfgafabPlainFull
import Derived.Test.YtnbmnljknfgafabSameNumbers
import Derived.Test.YtnbmnljknfgafabNumber
namespace Go.Proofs.Ytnbmnljknfgafab
open Go.RowKit

/-- two sizes, nothing taken. -/
theorem bases_two {sz tf tm : Nat → Int} {f : Nat} {b : Nat → Int} (h : BasesAre 2 sz 0 tf tm f b) (h0 : 1 ≤ sz 0 ∧ sz 0 ≤ 40) (h1 : 1 ≤ sz 1 ∧ sz 1 ≤ 40) : f = 0 ∧ b 0 = 0 ∧ b 1 = roundF (sz 0) := by
  have hs : ∀ j, j < 2 → 1 ≤ sz j ∧ sz j ≤ 40 := fun j hj => by
    have : j = 0 ∨ j = 1 := by omega
    rcases this with rfl | rfl
    · exact h0
    · exact h1
  have r0 := roundF_many h0.1 h0.2
  have r1 := roundF_many h1.1 h1.2
  have hsum : sumR sz 2 = roundF (sz 0) + roundF (sz 1) := by simp [sumR]
  rcases h.sum (by decide) hs with ⟨rfl, _⟩ | ⟨rfl, h2⟩
  · have := (laid_sum hs (h.laid rfl).2).1
    exact ⟨rfl, by rw [this 0 (by decide)]; rfl, by rw [this 1 (by decide)]; simp [sumR]⟩
  · omega

/-- the closed fact of two sizes. -/
theorem closed_two (x : Int) (h0 : 1 ≤ x) (h1 : x ≤ 40) (w : World) : Calls Try.prog 17 #[.slice (some ⟨w.heap.size, 0, none⟩) 2 2, .slice none 0 0] (w.alloc (.cells #[.int .i64 x, .int .i64 x] 3))
    fun e w' => (∃ (a : Option Addr) (c : Nat) (b : Nat → Int), e = .returned (.tuple #[.slice a 2 c, .nilIface]) ∧ b 0 = 0 ∧ b 1 = roundF x ∧ RowAt w' a 2 fun i => .int .i64 (b i)) ∧ Below w.heap.size w w' := by
  have hb : ∀ ob : Obj, Below w.heap.size w (w.alloc ob) := fun ob => (Below.refl _ _).alloc (Nat.le_refl _) ob
  refine (bases_any (fun _ => x) (fun _ => 0) (fun _ => 0) _ _ 2 2 0 0 _ (by decide) (by decide) ?_ (.inl rfl)).mono ?_
  · refine .inr ⟨_, _, rfl, fun i hi => ?_⟩
    have : i = 0 ∨ i = 1 := by omega
    rcases this with rfl | rfl
    · simp [go_sem]
    · simp [go_sem]
  · rintro e w' ⟨he, hb'⟩
    refine ⟨?_, (hb _).trans (hb'.mono (by simp))⟩
    cases he with
    | bad f b hf h => exact absurd (bases_two h ⟨h0, h1⟩ ⟨h0, h1⟩).1 hf
    | ok b v h hv =>
      obtain ⟨a, c, rfl, _, hr⟩ := rows_int hv
      obtain ⟨_, e0, e1⟩ := bases_two h ⟨h0, h1⟩ ⟨h0, h1⟩
      exact ⟨a, c, b, rfl, e0, e1, hr⟩
theorem same_two {w : World} {a : Option Addr} {c : Nat} {b : Nat → Int} {x : Int} (w1 : World) (hr : RowAt w1 a 2 fun i => .int .i64 (b i)) (hw : w = w1.alloc (.cells #[.int .i64 0, .int .i64 x] 3)) (e0 : b 0 = 0) (e1 : b 1 = x) :
    Calls Try.prog 20 #[.slice a 2 c, .slice (some ⟨w1.heap.size, 0, none⟩) 2 2] w fun e w' => e = .returned (.bool true) ∧ Below w1.heap.size w1 w' := by
  subst hw
  refine (sameNumbers_any b (fun i => if i = 0 then 0 else x) 2 2 a _ c 2 _ (by decide) (hr.later ((Below.refl _ _).alloc (Nat.le_refl _) _)) ?_).mono ?_
  · refine .inr ⟨_, _, rfl, fun i hi => ?_⟩
    have : i = 0 ∨ i = 1 := by omega
    rcases this with rfl | rfl
    · simp [go_sem]
    · simp [go_sem]
  · rintro e w' ⟨rfl, k, rfl⟩
    refine ⟨bool_ret (by simp [eqTo, e0, e1]), ?_⟩
    have : ∀ (k : Nat) (B : Nat) (a b : World), Below B a b → Below B a (b.drewN k) := fun k B a b h => ⟨h.os, h.tape, h.output, h.size, h.block⟩
    exact this _ _ _ _ ((Below.refl _ _).alloc (Nat.le_refl _) _)

set_option maxHeartbeats 4000000 in
theorem topFull_walk (sz : Nat → Int) (a : Option Addr) (n c : Nat) (w : World) (hn : n ≤ maxLen) (hr : RowAt w a n fun i => .int .i64 (sz i)) :
    Calls Try.prog 7 #[.slice a n c] w fun e w' => e = .returned (.bool true) ∧ Below w.heap.size w w' := by
  unfold maxLen at hn
  have HA := closed_two 40 (by decide) (by decide) w
  have HN := numberErr_any
  go_enter Try.func7, Try.ntmps7
  go_wp2_with fail
  refine HA.mono ?_
  rintro e w1 ⟨⟨a1, c1, b1, rfl, e0, e1, hr1⟩, hb⟩
  have HS := fun (w : World) hw => same_two (c := c1) (x := 48) (w := w) w1 hr1 hw e0 e1
  clear HA hr1 e0 e1
  go_wp2_with fail
  refine (HS _ rfl).mono ?_
  rintro e w2 ⟨rfl, hb2⟩
  replace hb := hb.trans (hb2.mono hb.size)
  clear HS hb2
  by_cases hn6 : 6 < n
  · have h6 : (6 : Int) < (n : Int) := by omega
    go_wp2
    go_ret
    exact ⟨rfl, hb⟩
  · have h6 : ¬ (6 : Int) < (n : Int) := by omega
    go_wp2
    go_loopw [5, 6] (fun x y wr => ∃ k : Nat, k ≤ n ∧ y = .int .i64 k ∧ x = .int .i64 (sumR sz k) ∧ wr = w2 ∧ ∀ j, j < k → 1 ≤ sz j ∧ sz j ≤ 40) (fun _ y _ => n - (intOf y).toNat)
    case atStart => exact ⟨0, Nat.zero_le _, rfl, rfl, rfl, fun j hj => by omega⟩
    case round =>
      obtain ⟨k, hk, rfl, rfl, hw, hs⟩ := hrel
      replace hw := hw.symm
      subst hw
      have hp := sumR_page hs
      by_cases hlt : k < n
      · have hr' := hr.later hb
        rcases hr' with h0 | ⟨bk, o, rfl, hc⟩
        · omega
        have hck := hc k hlt
        clear hc
        by_cases hz1 : sz k < 1
        · go_wp2
          go_ret
          exact ⟨rfl, hb⟩
        · by_cases hz2 : 40 < sz k
          · go_wp2
            go_ret
            exact ⟨rfl, hb⟩
          · have HR := fun (w : World) => round_any (sz k) w (by omega) (by omega)
            have hs' : ∀ j, j < k + 1 → 1 ≤ sz j ∧ sz j ≤ 40 := fun j hj => by
              by_cases e : j = k
              · subst e; omega
              · exact hs j (by omega)
            have hrk := roundF_many (n := sz k) (by omega) (by omega)
            have HE : Hid (sumR sz (k + 1) = sumR sz k + roundF (sz k)) := rfl
            go_wp2_with fail
            refine (HR _).mono ?_
            rintro e w' ⟨rfl, rfl⟩
            go_wp2
            go_roundw
            case rel => exact ⟨k + 1, by omega, by go_num, by rw [HE.out], trivial, hs'⟩
            case measure => simp [intOf]; omega
      · have e : k = n := by omega
        subst e
        have HB := bases_any sz (fun _ => 0) (fun _ => 0) a none k c 0 0 w2 (by unfold maxLen; omega) (by unfold maxLen; omega) (hr.later hb) (.inl rfl)
        go_wp2_with fail
        refine HB.mono ?_
        rintro e w3 ⟨he, hb3⟩
        replace hb := hb.trans (hb3.mono hb.size)
        clear HB hb3
        cases he with
        | bad f b hf h =>
          rcases h.sum (by omega) hs with ⟨h0, _⟩ | ⟨rfl, h2⟩
          · exact absurd h0 hf
          · have HQ := fun (w : World) => HN 8 w
            simp only [errV] at HQ ⊢
            clear h hs HN
            go_wp2_with fail
            refine (HQ _).mono ?_
            rintro e w' ⟨rfl, rfl⟩
            go_wp2
            go_ret
            exact ⟨ret_bool (by simp; omega), hb⟩
        | ok b v h hv =>
          rcases h.sum (by omega) hs with ⟨_, h2⟩ | ⟨h0, _⟩
          · have HQ := fun (w : World) => HN 0 w
            simp only [errV] at HQ
            clear h hs HN hv
            go_wp2_with fail
            refine (HQ _).mono ?_
            rintro e w' ⟨rfl, rfl⟩
            go_wp2
            go_ret
            exact ⟨ret_bool (by simp; omega), hb⟩
          · cases h0
end Go.Proofs.Ytnbmnljknfgafab
