/-
  What readLine does with a line that is of no kind: nothing, for every such line.
-/
import Derived.Test.YtanfejgcjifhpaaDoorReadTwo
import Derived.Deep.QuietTactic
import Derived.BigQuiet
import Derived.Deep.RegionWith
import Derived.Deep.RegionLaw
import Derived.Lib.SplitLaws
namespace Go.Proofs.YtanfejgcjifhpaaDoor
open Go.RowKit

theorem kind_of {k : ByteArray} {l : List UInt8} (h : k.toList = l) : k = ⟨l.toArray⟩ := by
  subst h
  rw [ByteArray.toList_eq]

set_option maxRecDepth 100000 in
set_option maxHeartbeats 2000000 in
theorem readLine_other (B bo : Nat) (vN vW vS vT : Value) (o : ObjF) (l : ByteArray) (wk : Bool) (l' k : ByteArray) (rest : List ByteArray) (w : World) (hE : Env w) (hR : Reading B w bo vN vW vS vT o)
    (hl' : l'.size ≤ 1000000) (hcut : Lib.hasPrefix l.data.toList [119, 101, 97, 107, 32] = wk) (htrim : (ByteArray.mk (Lib.trimPrefix l.data.toList [119, 101, 97, 107, 32]).toArray) = l')
    (hws : wordsOf l' = k :: rest)
    (n1 : k = ⟨#[110, 101, 101, 100]⟩ → rest.length ≠ 1) (n2 : k = ⟨#[119, 111, 114, 100]⟩ → rest.length ≠ 1) (n3 : k = ⟨#[115, 121, 109, 98, 111, 108]⟩ → rest.length ≠ 2)
    (n4 : k = ⟨#[98, 97, 115, 101]⟩ → rest.length ≠ 2) (n5 : k = ⟨#[119, 104, 111, 108, 101]⟩ → rest.length ≠ 3) (n6 : k = ⟨#[110, 101, 97, 114]⟩ → rest.length ≠ 3) :
    Calls Tryd.prog 37 #[.pointer (some ⟨bo, 0, none⟩), .string l] w fun e w' => e = .returned (.tuple #[]) ∧ (∃ v0 v1 v2 v3, Reading B w' bo v0 v1 v2 v3 o) ∧ Kept B bo w w' := by
  have HC := Tryd.strings_CutPrefix l ⟨#[119, 101, 97, 107, 32]⟩ w
  have e0 : (ByteArray.mk #[119, 101, 97, 107, 32]).data.toList = [119, 101, 97, 107, 32] := rfl
  rw [e0, hcut, htrim] at HC
  obtain ⟨m, hm⟩ := hE.maxLen
  have HS := Tryd.strings_Split l' ⟨#[32]⟩ m w (by omega) hm (by decide)
  have HWS : Lib.splitB ⟨#[32]⟩ 0 (Lib.countB l' ⟨#[32]⟩) l' = k :: rest := hws
  have hcnt : Lib.countB l' ⟨#[32]⟩ = rest.length := by
    have h := Lib.splitB_all ⟨#[32]⟩ (by decide) 0 _ l' rfl
    rw [HWS] at h
    simp only [List.length_cons] at h
    omega
  have hle : rest.length ≤ 1000000 := by
    have := Lib.countB_le ⟨#[32]⟩ (by decide) _ l' (Nat.le_refl _)
    omega
  rw [HWS, hcnt] at HS
  have harr : ((k :: rest).map Value.string).toArray[0]? = some (.string k) := rfl
  have hBw : B ≤ w.heap.size := hR.lo
  have hX : Below w.heap.size w (w.alloc (.cells ((k :: rest).map Value.string).toArray 9)) := (Below.refl _ _).alloc (Nat.le_refl _) _
  have hY := fun nq : Nat => below_drewN hX nq
  generalize ((k :: rest).map Value.string).toArray = arr at *
  generalize rest.length = n at *
  replace n1 : k.toList = [110, 101, 101, 100] → ((n : Int) == 1) = false := fun h => by
    have := n1 (kind_of h)
    simp only [beq_eq_false_iff_ne, ne_eq]
    omega
  replace n2 : k.toList = [119, 111, 114, 100] → ((n : Int) == 1) = false := fun h => by
    have := n2 (kind_of h)
    simp only [beq_eq_false_iff_ne, ne_eq]
    omega
  replace n3 : k.toList = [115, 121, 109, 98, 111, 108] → ((n : Int) == 2) = false := fun h => by
    have := n3 (kind_of h)
    simp only [beq_eq_false_iff_ne, ne_eq]
    omega
  replace n4 : k.toList = [98, 97, 115, 101] → ((n : Int) == 2) = false := fun h => by
    have := n4 (kind_of h)
    simp only [beq_eq_false_iff_ne, ne_eq]
    omega
  replace n5 : k.toList = [119, 104, 111, 108, 101] → ((n : Int) == 3) = false := fun h => by
    have := n5 (kind_of h)
    simp only [beq_eq_false_iff_ne, ne_eq]
    omega
  replace n6 : k.toList = [110, 101, 97, 114] → ((n : Int) == 3) = false := fun h => by
    have := n6 (kind_of h)
    simp only [beq_eq_false_iff_ne, ne_eq]
    omega
  clear e0 hcut htrim hcnt HWS hws hm hX
  go_enter Tryd.func37, Tryd.ntmps37
  go_wp2_with fail
  refine HC.mono ?_
  rintro e w' ⟨rfl, hw'⟩
  replace hw' := hw'.symm
  subst hw'
  go_wp2_with fail
  refine HS.mono ?_
  rintro e w' ⟨rfl, hw'⟩
  replace hw' := hw'.symm
  subst hw'
  clear HC HS
  go_wp2
  go_quiet (fail)
  replace hY := hY nq
  generalize (w.alloc (.cells arr 9)).drewN nq = Y at *
  go_wp2
  all_goals first
    | (go_end0; exact ⟨rfl, ⟨_, _, _, _, hR.below hY⟩, Kept.of hY hBw⟩)
    | exact absurd ‹((n : Int) == 1) = true› (by rw [n1 ‹_›]; decide)
    | exact absurd ‹((n : Int) == 1) = true› (by rw [n2 ‹_›]; decide)
    | exact absurd ‹((n : Int) == 2) = true› (by rw [n3 ‹_›]; decide)
    | exact absurd ‹((n : Int) == 2) = true› (by rw [n4 ‹_›]; decide)
    | exact absurd ‹((n : Int) == 3) = true› (by rw [n5 ‹_›]; decide)
    | exact absurd ‹((n : Int) == 3) = true› (by rw [n6 ‹_›]; decide)
end Go.Proofs.YtanfejgcjifhpaaDoor
