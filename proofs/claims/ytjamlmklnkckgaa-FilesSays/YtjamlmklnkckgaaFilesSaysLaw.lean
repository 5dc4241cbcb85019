/-
  The law FilesSays returns true, for every row of acts; memory that was there stays as it was.
-/
import Derived.Test.YtjamlmklnkckgaaFiledWalk
namespace Go.Proofs.Ytjamlmklnkckgaa
open Go.RowKit Go.Maps

set_option maxRecDepth 100000 in
set_option maxHeartbeats 1000000 in
theorem filesSays_walk (a : Option Addr) (n c : Nat) (X : Nat → ActF) (w : World) (hr : ActsRow w a n X) (hf : ∀ i, i < n → ActFit (X i)) :
    Calls Try.prog 7 #[.slice a n c] w fun e w' => e = .returned (.bool true) ∧ Below w.heap.size w w' := by
  have HD := drawerL_any w
  go_enter Try.func7, Try.ntmps7
  go_wp2_with fail
  refine HD.mono ?_
  rintro e w1 ⟨rfl, hb⟩
  clear HD
  have HL := lightActs_any a n c 30 X w1 (by decide) (hr.later hb) hf
  clear hf
  go_wp2_with fail
  refine HL.mono ?_
  rintro e w2 ⟨⟨b, rfl, hl⟩, hb2⟩
  replace hb := hb.trans (hb2.mono hb.size)
  clear HL hb2
  cases b with
  | false =>
    clear hl hr
    go_wp2
    go_ret
    exact ⟨rfl, hb⟩
  | true =>
    obtain ⟨h30, hsz⟩ := hl rfl
    clear hl
    have HF := filed_any a n c X w2 (hr.later hb) (by omega) hsz
    clear hr
    go_wp2_with fail
    refine HF.mono ?_
    rintro e w3 ⟨⟨p, bm, q, D, L, k, rfl, _, _, _⟩, hb3⟩
    have hB := hb.trans (hb3.mono hb.size)
    clear HF
    go_wp2
    go_ret
    exact ⟨rfl, hB⟩
end Go.Proofs.Ytjamlmklnkckgaa
