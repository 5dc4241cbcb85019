/-
  The hash of three texts that the laws name, and the closed fact on the name main.
-/
import Derived.Test.YtchccaalinepnaaHashWalks
import Derived.Test.YtchccaalinepnaaNameFaultWalks
namespace Go.Proofs.Ytchccaalinepnaa
open Go.RowKit

theorem wrap64_nat (x : Nat) (h : x < 9223372036854775808) : wrap64 (x : Int) = (x : Int) := by unfold wrap64; omega

theorem hash_empty (w : World) : Calls Try.prog 11 #[.string ⟨#[]⟩] w fun e w' => e = .returned (.int .u32 0) ∧ w = w' := by
  refine (hash_any ⟨#[]⟩ w (by decide)).mono ?_
  rintro e w' ⟨rfl, rfl⟩
  exact ⟨ret_int (by decide), rfl⟩
theorem hash_a (w : World) : Calls Try.prog 11 #[.string ⟨#[97]⟩] w fun e w' => e = .returned (.int .u32 97) ∧ w = w' := by
  refine (hash_any ⟨#[97]⟩ w (by decide)).mono ?_
  rintro e w' ⟨rfl, rfl⟩
  exact ⟨ret_int (by decide), rfl⟩
theorem hash_main (w : World) : Calls Try.prog 11 #[.string ⟨#[109, 97, 105, 110]⟩] w fun e w' => e = .returned (.int .u32 473086) ∧ w = w' := by
  refine (hash_any ⟨#[109, 97, 105, 110]⟩ w (by decide)).mono ?_
  rintro e w' ⟨rfl, rfl⟩
  exact ⟨ret_int (by decide +kernel), rfl⟩
theorem check_main (w : World) : Calls Try.prog 9 #[.string ⟨#[109, 97, 105, 110]⟩] w fun e w' => e = .returned .nilIface ∧ w = w' := by
  refine (check_any ⟨#[109, 97, 105, 110]⟩ w (by decide)).mono ?_
  rintro e w' ⟨rfl, rfl⟩
  have h : nameF (ByteArray.mk #[109, 97, 105, 110]).data.toList = 0 := by decide
  rw [h]
  exact ⟨rfl, rfl⟩
theorem named_any (w : World) : Calls Try.prog 7 #[] w fun e w' => e = .returned (.bool true) ∧ w = w' := by
  go_enter Try.func7, Try.ntmps7
  go_wp2_with fail
  refine (check_main _).mono ?_
  rintro e w' ⟨rfl, rfl⟩
  go_wp2_with fail
  refine (same_nil 0 _).mono ?_
  rintro e w' ⟨rfl, rfl⟩
  go_wp2_with fail
  refine (hash_main _).mono ?_
  rintro e w' ⟨rfl, rfl⟩
  go_wp2
  go_ret
  exact ⟨rfl, rfl⟩
end Go.Proofs.Ytchccaalinepnaa
