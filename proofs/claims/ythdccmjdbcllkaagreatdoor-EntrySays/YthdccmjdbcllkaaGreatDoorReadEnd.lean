/-
  What readLine does with a line of each kind, for every line; memory that was there stays as it was.
  What readLine does with a line that is of no kind: nothing, for every such line.
  What readLine does, for every line; memory that was there stays as it was.
-/
import Derived.Test.YthdccmjdbcllkaaGreatDoorReadTie
import Derived.Deep.QuietTactic
import Derived.BigQuiet
import Derived.Deep.RegionWith
import Derived.Deep.RegionLaw
import Derived.Lib.SplitLaws
import Derived.Test.YthdccmjdbcllkaaGreatDoorReadTwo
import Derived.Test.YthdccmjdbcllkaaGreatDoorReadThree
import Derived.Test.YthdccmjdbcllkaaGreatDoorReadBase
namespace Go.Proofs.YthdccmjdbcllkaaGreatDoor
open Go.RowKit

set_option maxRecDepth 100000 in
set_option maxHeartbeats 2000000 in
theorem readLine_whole (B bo : Nat) (vN vW vS vT : Value) (o : ObjF) (l : ByteArray) (wk : Bool) (l' a b c : ByteArray) (w : World) (hE : Env w) (hR : Reading B w bo vN vW vS vT o)
    (hl' : l'.size ≤ 1000000) (hcut : Lib.hasPrefix l.data.toList [119, 101, 97, 107, 32] = wk) (htrim : (ByteArray.mk (Lib.trimPrefix l.data.toList [119, 101, 97, 107, 32]).toArray) = l')
    (hws : wordsOf l' = [⟨#[119, 104, 111, 108, 101]⟩, a, b, c]) (ha : a.size ≤ 1000000) (hb : b.size ≤ 1000000) (hc : c.size ≤ 1000000) (hn : o.nT + 1 ≤ 1000000) :
    Calls Tryz.prog 99 #[.pointer (some ⟨bo, 0, none⟩), .string l] w fun e w' => e = .returned (.tuple #[]) ∧ (∃ v0 v1 v2 v3, Reading B w' bo v0 v1 v2 v3 (addTie o (numF a.data.toList) 2 (numF b.data.toList) c wk)) ∧ Kept B bo w w' := by
  have HC := Tryz.strings_CutPrefix l ⟨#[119, 101, 97, 107, 32]⟩ w
  have e0 : (ByteArray.mk #[119, 101, 97, 107, 32]).data.toList = [119, 101, 97, 107, 32] := rfl
  rw [e0, hcut, htrim] at HC
  obtain ⟨m, hm⟩ := hE.maxLen
  have HS := Tryz.strings_Split l' ⟨#[32]⟩ m w (by omega) hm (by decide)
  have HWS : Lib.splitB ⟨#[32]⟩ 0 (Lib.countB l' ⟨#[32]⟩) l' = [⟨#[119, 104, 111, 108, 101]⟩, a, b, c] := hws
  have hcnt : Lib.countB l' ⟨#[32]⟩ = 3 := by
    have h := Lib.splitB_all ⟨#[32]⟩ (by decide) 0 _ l' rfl
    rw [HWS] at h
    simp only [List.length_cons, List.length_nil] at h
    omega
  rw [HWS, hcnt] at HS
  simp only [List.map_cons, List.map_nil] at HS
  have hBw : B ≤ w.heap.size := hR.lo
  have hX : Below w.heap.size w (w.alloc (.cells #[.string ⟨#[119, 104, 111, 108, 101]⟩, .string a, .string b, .string c] 9)) := (Below.refl _ _).alloc (Nat.le_refl _) _
  have hY := fun nq : Nat => below_drewN hX nq
  have x0 := fun nq : Nat => (show ((w.alloc (.cells #[.string ⟨#[119, 104, 111, 108, 101]⟩, .string a, .string b, .string c] 9)).drewN nq).cell? ⟨w.heap.size, 1, none⟩ = some (.string a) by simp [go_sem])
  have x1 := fun nq : Nat => (show ((w.alloc (.cells #[.string ⟨#[119, 104, 111, 108, 101]⟩, .string a, .string b, .string c] 9)).drewN nq).cell? ⟨w.heap.size, 2, none⟩ = some (.string b) by simp [go_sem])
  have x2 := fun nq : Nat => (show ((w.alloc (.cells #[.string ⟨#[119, 104, 111, 108, 101]⟩, .string a, .string b, .string c] 9)).drewN nq).cell? ⟨w.heap.size, 3, none⟩ = some (.string c) by simp [go_sem])
  clear e0 hcut htrim hcnt HWS hws hm hX
  go_enter Tryz.func99, Tryz.ntmps99
  go_wp2_with fail
  refine HC.mono ?_
  rintro e w' ⟨rfl, hw'⟩
  replace hw' := hw'.symm
  subst hw'
  go_wp2_with fail
  refine HS.mono ?_
  rintro e w' ⟨rfl, hw'⟩
  replace hw' := hw'.symm
  subst hw'
  clear HC HS
  go_wp2
  go_quiet (fail)
  go_wp2
  replace hY := hY nq
  replace x0 := x0 nq
  replace x1 := x1 nq
  replace x2 := x2 nq
  generalize (w.alloc (.cells #[.string ⟨#[119, 104, 111, 108, 101]⟩, .string a, .string b, .string c] 9)).drewN nq = Y at *
  replace hR := hR.below hY
  replace hE := hE.later hY
  replace hY : Kept B bo w Y := Kept.of hY hBw
  have hC := hR.c3
  go_region_law (first | (refine step_run_append rfl _ _ 114 rfl _ _ _ rfl rfl happ ?_) | (go_simp; go_at_call 137; refine (namedTie_any _ _ _ _ a b c _ (by first | exact hE | exact hE.drew) (by assumption) (by assumption) (by assumption) (by exact x0) (by exact x1) (by exact x2)).mono ?_; rintro e w2 ⟨rfl, hb⟩; (try replace hb := below_undrew hb); replace hY := hY.trans (Kept.of hb hR.lo); replace hR := hR.below hb; replace hE := hE.later hb; replace x0 := cell_later hb x0; replace x1 := cell_later hb x1; replace x2 := cell_later hb x2; replace hC := hR.c3; clear hb; obtain ⟨g, cap, W, happ, g0, gz, hRn, hBn⟩ := hR.tieGrow hY (numF a.data.toList) 2 (numF b.data.toList) c wk hn; have qs : bo < w2.heap.size := hR.lt))
  all_goals
    go_wp2
    go_end0
    exact ⟨rfl, hRn, hBn⟩

set_option maxRecDepth 100000 in
set_option maxHeartbeats 2000000 in
theorem readLine_near (B bo : Nat) (vN vW vS vT : Value) (o : ObjF) (l : ByteArray) (wk : Bool) (l' a b c : ByteArray) (w : World) (hE : Env w) (hR : Reading B w bo vN vW vS vT o)
    (hl' : l'.size ≤ 1000000) (hcut : Lib.hasPrefix l.data.toList [119, 101, 97, 107, 32] = wk) (htrim : (ByteArray.mk (Lib.trimPrefix l.data.toList [119, 101, 97, 107, 32]).toArray) = l')
    (hws : wordsOf l' = [⟨#[110, 101, 97, 114]⟩, a, b, c]) (ha : a.size ≤ 1000000) (hb : b.size ≤ 1000000) (hc : c.size ≤ 1000000) (hn : o.nT + 1 ≤ 1000000) :
    Calls Tryz.prog 99 #[.pointer (some ⟨bo, 0, none⟩), .string l] w fun e w' => e = .returned (.tuple #[]) ∧ (∃ v0 v1 v2 v3, Reading B w' bo v0 v1 v2 v3 (addTie o (numF a.data.toList) 3 (numF b.data.toList) c wk)) ∧ Kept B bo w w' := by
  have HC := Tryz.strings_CutPrefix l ⟨#[119, 101, 97, 107, 32]⟩ w
  have e0 : (ByteArray.mk #[119, 101, 97, 107, 32]).data.toList = [119, 101, 97, 107, 32] := rfl
  rw [e0, hcut, htrim] at HC
  obtain ⟨m, hm⟩ := hE.maxLen
  have HS := Tryz.strings_Split l' ⟨#[32]⟩ m w (by omega) hm (by decide)
  have HWS : Lib.splitB ⟨#[32]⟩ 0 (Lib.countB l' ⟨#[32]⟩) l' = [⟨#[110, 101, 97, 114]⟩, a, b, c] := hws
  have hcnt : Lib.countB l' ⟨#[32]⟩ = 3 := by
    have h := Lib.splitB_all ⟨#[32]⟩ (by decide) 0 _ l' rfl
    rw [HWS] at h
    simp only [List.length_cons, List.length_nil] at h
    omega
  rw [HWS, hcnt] at HS
  simp only [List.map_cons, List.map_nil] at HS
  have hBw : B ≤ w.heap.size := hR.lo
  have hX : Below w.heap.size w (w.alloc (.cells #[.string ⟨#[110, 101, 97, 114]⟩, .string a, .string b, .string c] 9)) := (Below.refl _ _).alloc (Nat.le_refl _) _
  have hY := fun nq : Nat => below_drewN hX nq
  have x0 := fun nq : Nat => (show ((w.alloc (.cells #[.string ⟨#[110, 101, 97, 114]⟩, .string a, .string b, .string c] 9)).drewN nq).cell? ⟨w.heap.size, 1, none⟩ = some (.string a) by simp [go_sem])
  have x1 := fun nq : Nat => (show ((w.alloc (.cells #[.string ⟨#[110, 101, 97, 114]⟩, .string a, .string b, .string c] 9)).drewN nq).cell? ⟨w.heap.size, 2, none⟩ = some (.string b) by simp [go_sem])
  have x2 := fun nq : Nat => (show ((w.alloc (.cells #[.string ⟨#[110, 101, 97, 114]⟩, .string a, .string b, .string c] 9)).drewN nq).cell? ⟨w.heap.size, 3, none⟩ = some (.string c) by simp [go_sem])
  clear e0 hcut htrim hcnt HWS hws hm hX
  go_enter Tryz.func99, Tryz.ntmps99
  go_wp2_with fail
  refine HC.mono ?_
  rintro e w' ⟨rfl, hw'⟩
  replace hw' := hw'.symm
  subst hw'
  go_wp2_with fail
  refine HS.mono ?_
  rintro e w' ⟨rfl, hw'⟩
  replace hw' := hw'.symm
  subst hw'
  clear HC HS
  go_wp2
  go_quiet (fail)
  go_wp2
  replace hY := hY nq
  replace x0 := x0 nq
  replace x1 := x1 nq
  replace x2 := x2 nq
  generalize (w.alloc (.cells #[.string ⟨#[110, 101, 97, 114]⟩, .string a, .string b, .string c] 9)).drewN nq = Y at *
  replace hR := hR.below hY
  replace hE := hE.later hY
  replace hY : Kept B bo w Y := Kept.of hY hBw
  have hC := hR.c3
  go_region_law (first | (refine step_run_append rfl _ _ 114 rfl _ _ _ rfl rfl happ ?_) | (go_simp; go_at_call 137; refine (namedTie_any _ _ _ _ a b c _ (by first | exact hE | exact hE.drew) (by assumption) (by assumption) (by assumption) (by exact x0) (by exact x1) (by exact x2)).mono ?_; rintro e w2 ⟨rfl, hb⟩; (try replace hb := below_undrew hb); replace hY := hY.trans (Kept.of hb hR.lo); replace hR := hR.below hb; replace hE := hE.later hb; replace x0 := cell_later hb x0; replace x1 := cell_later hb x1; replace x2 := cell_later hb x2; replace hC := hR.c3; clear hb; obtain ⟨g, cap, W, happ, g0, gz, hRn, hBn⟩ := hR.tieGrow hY (numF a.data.toList) 3 (numF b.data.toList) c wk hn; have qs : bo < w2.heap.size := hR.lt))
  all_goals
    go_wp2
    go_end0
    exact ⟨rfl, hRn, hBn⟩
end Go.Proofs.YthdccmjdbcllkaaGreatDoor

namespace Go.Proofs.YthdccmjdbcllkaaGreatDoor
open Go.RowKit

theorem kind_of {k : ByteArray} {l : List UInt8} (h : k.toList = l) : k = ⟨l.toArray⟩ := by
  subst h
  rw [ByteArray.toList_eq]

set_option maxRecDepth 100000 in
set_option maxHeartbeats 2000000 in
theorem readLine_other (B bo : Nat) (vN vW vS vT : Value) (o : ObjF) (l : ByteArray) (wk : Bool) (l' k : ByteArray) (rest : List ByteArray) (w : World) (hE : Env w) (hR : Reading B w bo vN vW vS vT o)
    (hl' : l'.size ≤ 1000000) (hcut : Lib.hasPrefix l.data.toList [119, 101, 97, 107, 32] = wk) (htrim : (ByteArray.mk (Lib.trimPrefix l.data.toList [119, 101, 97, 107, 32]).toArray) = l')
    (hws : wordsOf l' = k :: rest)
    (n1 : k = ⟨#[110, 101, 101, 100]⟩ → rest.length ≠ 1) (n2 : k = ⟨#[119, 111, 114, 100]⟩ → rest.length ≠ 1) (n3 : k = ⟨#[115, 121, 109, 98, 111, 108]⟩ → rest.length ≠ 2)
    (n4 : k = ⟨#[98, 97, 115, 101]⟩ → rest.length ≠ 2) (n5 : k = ⟨#[119, 104, 111, 108, 101]⟩ → rest.length ≠ 3) (n6 : k = ⟨#[110, 101, 97, 114]⟩ → rest.length ≠ 3) :
    Calls Tryz.prog 99 #[.pointer (some ⟨bo, 0, none⟩), .string l] w fun e w' => e = .returned (.tuple #[]) ∧ (∃ v0 v1 v2 v3, Reading B w' bo v0 v1 v2 v3 o) ∧ Kept B bo w w' := by
  have HC := Tryz.strings_CutPrefix l ⟨#[119, 101, 97, 107, 32]⟩ w
  have e0 : (ByteArray.mk #[119, 101, 97, 107, 32]).data.toList = [119, 101, 97, 107, 32] := rfl
  rw [e0, hcut, htrim] at HC
  obtain ⟨m, hm⟩ := hE.maxLen
  have HS := Tryz.strings_Split l' ⟨#[32]⟩ m w (by omega) hm (by decide)
  have HWS : Lib.splitB ⟨#[32]⟩ 0 (Lib.countB l' ⟨#[32]⟩) l' = k :: rest := hws
  have hcnt : Lib.countB l' ⟨#[32]⟩ = rest.length := by
    have h := Lib.splitB_all ⟨#[32]⟩ (by decide) 0 _ l' rfl
    rw [HWS] at h
    simp only [List.length_cons] at h
    omega
  have hle : rest.length ≤ 1000000 := by
    have := Lib.countB_le ⟨#[32]⟩ (by decide) _ l' (Nat.le_refl _)
    omega
  rw [HWS, hcnt] at HS
  have harr : ((k :: rest).map Value.string).toArray[0]? = some (.string k) := rfl
  have hBw : B ≤ w.heap.size := hR.lo
  have hX : Below w.heap.size w (w.alloc (.cells ((k :: rest).map Value.string).toArray 9)) := (Below.refl _ _).alloc (Nat.le_refl _) _
  have hY := fun nq : Nat => below_drewN hX nq
  generalize ((k :: rest).map Value.string).toArray = arr at *
  generalize rest.length = n at *
  replace n1 : k.toList = [110, 101, 101, 100] → ((n : Int) == 1) = false := fun h => by
    have := n1 (kind_of h)
    simp only [beq_eq_false_iff_ne, ne_eq]
    omega
  replace n2 : k.toList = [119, 111, 114, 100] → ((n : Int) == 1) = false := fun h => by
    have := n2 (kind_of h)
    simp only [beq_eq_false_iff_ne, ne_eq]
    omega
  replace n3 : k.toList = [115, 121, 109, 98, 111, 108] → ((n : Int) == 2) = false := fun h => by
    have := n3 (kind_of h)
    simp only [beq_eq_false_iff_ne, ne_eq]
    omega
  replace n4 : k.toList = [98, 97, 115, 101] → ((n : Int) == 2) = false := fun h => by
    have := n4 (kind_of h)
    simp only [beq_eq_false_iff_ne, ne_eq]
    omega
  replace n5 : k.toList = [119, 104, 111, 108, 101] → ((n : Int) == 3) = false := fun h => by
    have := n5 (kind_of h)
    simp only [beq_eq_false_iff_ne, ne_eq]
    omega
  replace n6 : k.toList = [110, 101, 97, 114] → ((n : Int) == 3) = false := fun h => by
    have := n6 (kind_of h)
    simp only [beq_eq_false_iff_ne, ne_eq]
    omega
  clear e0 hcut htrim hcnt HWS hws hm hX
  go_enter Tryz.func99, Tryz.ntmps99
  go_wp2_with fail
  refine HC.mono ?_
  rintro e w' ⟨rfl, hw'⟩
  replace hw' := hw'.symm
  subst hw'
  go_wp2_with fail
  refine HS.mono ?_
  rintro e w' ⟨rfl, hw'⟩
  replace hw' := hw'.symm
  subst hw'
  clear HC HS
  go_wp2
  go_quiet (fail)
  replace hY := hY nq
  generalize (w.alloc (.cells arr 9)).drewN nq = Y at *
  go_wp2
  all_goals first
    | (go_end0; exact ⟨rfl, ⟨_, _, _, _, hR.below hY⟩, Kept.of hY hBw⟩)
    | exact absurd ‹((n : Int) == 1) = true› (by rw [n1 ‹_›]; decide)
    | exact absurd ‹((n : Int) == 1) = true› (by rw [n2 ‹_›]; decide)
    | exact absurd ‹((n : Int) == 2) = true› (by rw [n3 ‹_›]; decide)
    | exact absurd ‹((n : Int) == 2) = true› (by rw [n4 ‹_›]; decide)
    | exact absurd ‹((n : Int) == 3) = true› (by rw [n5 ‹_›]; decide)
    | exact absurd ‹((n : Int) == 3) = true› (by rw [n6 ‹_›]; decide)
end Go.Proofs.YthdccmjdbcllkaaGreatDoor

namespace Go.Proofs.YthdccmjdbcllkaaGreatDoor
open Go.RowKit

theorem splitB_size (sep : ByteArray) : ∀ (k : Nat) (s x : ByteArray), x ∈ Lib.splitB sep 0 k s → x.size ≤ s.size
  | 0, s, x, h => by
    rw [Lib.splitB_zero, List.mem_singleton] at h
    rw [h]; exact Nat.le_refl _
  | k + 1, s, x, h => by
    unfold Lib.splitB at h
    split at h
    · rw [List.mem_singleton] at h
      rw [h]; exact Nat.le_refl _
    · rcases List.mem_cons.1 h with h | h
      · rw [h]; simp; omega
      · have := splitB_size sep k _ x h
        have h2 : (s.extract ((Lib.indexB s sep).toNat + sep.size) s.size).size ≤ s.size := by simp
        omega

def kNeed : ByteArray := ⟨#[110, 101, 101, 100]⟩
def kWord : ByteArray := ⟨#[119, 111, 114, 100]⟩
def kSymbol : ByteArray := ⟨#[115, 121, 109, 98, 111, 108]⟩
def kBase : ByteArray := ⟨#[98, 97, 115, 101]⟩
def kWhole : ByteArray := ⟨#[119, 104, 111, 108, 101]⟩
def kNear : ByteArray := ⟨#[110, 101, 97, 114]⟩
/-- an object, with what a line's words say besides. -/
def wordsF (o : ObjF) (wk : Bool) : List ByteArray → ObjF
  | [k, a] => if k = kNeed then addNeed o a else if k = kWord then addWord o (numF a.data.toList) else o
  | [k, a, b] => if k = kSymbol then addSym o a (numF b.data.toList) wk else if k = kBase then addTie o (numF a.data.toList) 1 (numF b.data.toList) ⟨#[]⟩ wk else o
  | [k, a, b, c] => if k = kWhole then addTie o (numF a.data.toList) 2 (numF b.data.toList) c wk else if k = kNear then addTie o (numF a.data.toList) 3 (numF b.data.toList) c wk else o
  | _ => o
def isWeak (l : ByteArray) : Bool := Lib.hasPrefix l.data.toList [119, 101, 97, 107, 32]
def unWeak (l : ByteArray) : ByteArray := ⟨(Lib.trimPrefix l.data.toList [119, 101, 97, 107, 32]).toArray⟩
def lineF (o : ObjF) (l : ByteArray) : ObjF := wordsF o (isWeak l) (wordsOf (unWeak l))

theorem unWeak_size (l : ByteArray) : (unWeak l).size ≤ l.size := by
  have h : (Lib.trimPrefix l.data.toList [119, 101, 97, 107, 32]).length ≤ l.data.toList.length := by
    unfold Lib.trimPrefix
    split <;> simp
  have e : (unWeak l).size = (Lib.trimPrefix l.data.toList [119, 101, 97, 107, 32]).length := by simp [unWeak, ByteArray.size]
  have e2 : l.data.toList.length = l.size := by simp
  omega

theorem wordsF_counts (o : ObjF) (wk : Bool) (xs : List ByteArray) (n : Nat) (h : o.nN ≤ n ∧ o.nW ≤ n ∧ o.nS ≤ n ∧ o.nT ≤ n) : (wordsF o wk xs).nN ≤ n + 1 ∧ (wordsF o wk xs).nW ≤ n + 1 ∧ (wordsF o wk xs).nS ≤ n + 1 ∧ (wordsF o wk xs).nT ≤ n + 1 := by
  unfold wordsF
  split
  · split
    · simp only [addNeed]; omega
    · split
      · simp only [addWord]; omega
      · omega
  · split
    · simp only [addSym]; omega
    · split
      · simp only [addTie]; omega
      · omega
  · split
    · simp only [addTie]; omega
    · split
      · simp only [addTie]; omega
      · omega
  · omega

theorem len_two {α : Type} {l : List α} (h : l.length = 2) : ∃ a b, l = [a, b] := by
  match l, h with
  | [a, b], _ => exact ⟨a, b, rfl⟩
theorem len_three {α : Type} {l : List α} (h : l.length = 3) : ∃ a b c, l = [a, b, c] := by
  match l, h with
  | [a, b, c], _ => exact ⟨a, b, c, rfl⟩

theorem readLine_any (B bo : Nat) (vN vW vS vT : Value) (o : ObjF) (l : ByteArray) (w : World) (hE : Env w) (hR : Reading B w bo vN vW vS vT o) (hl : l.size ≤ 1000000) (hn : o.nN + 1 ≤ 1000000 ∧ o.nW + 1 ≤ 1000000 ∧ o.nS + 1 ≤ 1000000 ∧ o.nT + 1 ≤ 1000000) :
    Calls Tryz.prog 99 #[.pointer (some ⟨bo, 0, none⟩), .string l] w fun e w' => e = .returned (.tuple #[]) ∧ (∃ v0 v1 v2 v3, Reading B w' bo v0 v1 v2 v3 (lineF o l)) ∧ Kept B bo w w' := by
  have hu := unWeak_size l
  have hsz : ∀ x ∈ wordsOf (unWeak l), x.size ≤ 1000000 := fun x hx => by
    have := splitB_size _ _ _ _ hx
    omega
  unfold lineF
  have hne : wordsOf (unWeak l) ≠ [] := by
    intro h
    have h2 := Lib.splitB_all ⟨#[32]⟩ (by decide) 0 _ (unWeak l) rfl
    unfold wordsOf at h
    rw [h] at h2
    simp at h2
  obtain ⟨k, rest, hws⟩ := List.exists_cons_of_ne_nil hne
  rw [hws] at hsz ⊢
  by_cases h1 : k = kNeed ∧ rest.length = 1
  · obtain ⟨rfl, h1⟩ := h1
    obtain ⟨a, rfl⟩ := List.length_eq_one_iff.1 h1
    exact readLine_need B bo vN vW vS vT o l (isWeak l) (unWeak l) a w hE hR (by omega) rfl rfl hws (hsz a (by simp)) hn.1
  by_cases h2 : k = kWord ∧ rest.length = 1
  · obtain ⟨rfl, h2⟩ := h2
    obtain ⟨a, rfl⟩ := List.length_eq_one_iff.1 h2
    exact readLine_word B bo vN vW vS vT o l (isWeak l) (unWeak l) a w hE hR (by omega) rfl rfl hws (hsz a (by simp)) hn.2.1
  by_cases h3 : k = kSymbol ∧ rest.length = 2
  · obtain ⟨rfl, h3⟩ := h3
    obtain ⟨a, b, rfl⟩ := len_two h3
    exact readLine_symbol B bo vN vW vS vT o l (isWeak l) (unWeak l) a b w hE hR (by omega) rfl rfl hws (hsz a (by simp)) (hsz b (by simp)) hn.2.2.1
  by_cases h4 : k = kBase ∧ rest.length = 2
  · obtain ⟨rfl, h4⟩ := h4
    obtain ⟨a, b, rfl⟩ := len_two h4
    exact readLine_base B bo vN vW vS vT o l (isWeak l) (unWeak l) a b w hE hR (by omega) rfl rfl hws (hsz a (by simp)) (hsz b (by simp)) hn.2.2.2
  by_cases h5 : k = kWhole ∧ rest.length = 3
  · obtain ⟨rfl, h5⟩ := h5
    obtain ⟨a, b, c, rfl⟩ := len_three h5
    exact readLine_whole B bo vN vW vS vT o l (isWeak l) (unWeak l) a b c w hE hR (by omega) rfl rfl hws (hsz a (by simp)) (hsz b (by simp)) (hsz c (by simp)) hn.2.2.2
  by_cases h6 : k = kNear ∧ rest.length = 3
  · obtain ⟨rfl, h6⟩ := h6
    obtain ⟨a, b, c, rfl⟩ := len_three h6
    exact readLine_near B bo vN vW vS vT o l (isWeak l) (unWeak l) a b c w hE hR (by omega) rfl rfl hws (hsz a (by simp)) (hsz b (by simp)) (hsz c (by simp)) hn.2.2.2
  have hF : wordsF o (isWeak l) (k :: rest) = o := by
    match rest with
    | [] => rfl
    | [a] =>
      simp only [wordsF]
      rw [if_neg (fun e => h1 ⟨e, rfl⟩), if_neg (fun e => h2 ⟨e, rfl⟩)]
    | [a, b] =>
      simp only [wordsF]
      rw [if_neg (fun e => h3 ⟨e, rfl⟩), if_neg (fun e => h4 ⟨e, rfl⟩)]
    | [a, b, c] =>
      simp only [wordsF]
      rw [if_neg (fun e => h5 ⟨e, rfl⟩), if_neg (fun e => h6 ⟨e, rfl⟩)]
    | _ :: _ :: _ :: _ :: _ => rfl
  rw [hF]
  exact readLine_other B bo vN vW vS vT o l (isWeak l) (unWeak l) k rest w hE hR (by omega) rfl rfl hws (fun e h => h1 ⟨e, h⟩) (fun e h => h2 ⟨e, h⟩) (fun e h => h3 ⟨e, h⟩) (fun e h => h4 ⟨e, h⟩) (fun e h => h5 ⟨e, h⟩) (fun e h => h6 ⟨e, h⟩)
end Go.Proofs.YthdccmjdbcllkaaGreatDoor
