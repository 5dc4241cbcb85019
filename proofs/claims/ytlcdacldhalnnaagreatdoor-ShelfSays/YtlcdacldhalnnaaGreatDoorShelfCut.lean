/-
  The lines of a text, one by one: what the iterator of package shelf's cut hands to a loop.
-/
import Derived.RangeFuncNested
import Derived.RangeFuncBound
import Derived.RangeFuncCalls
import Derived.RangeFuncLeaves
import Derived.RangeFuncBox
import Derived.Shelf.Abstract
import Derived.Shelf.RegionOpen
import Derived.WalkKit
import Derived.OwnWalkIn
import Derived.TacticsInMore
import Derived.LoopNIn
import Derived.LoopIn
import Derived.Maps.AppendAt
import Derived.Test.YtlcdacldhalnnaaGreatDoorShelfRows
import Derived.Test.YtlcdacldhalnnaaGreatDoorShelf
namespace Go.Proofs.YtlcdacldhalnnaaGreatDoor
open Go.RowKit Go.Shelf

attribute [local go_sem] Oper.semAt_some

/-- a line that is an entry's. -/
abbrev Ln := { x : ByteArray // (parseE x).1 = 0 ∧ x.size ≤ 1000 }
def upto (X : Nat → Ln) (k : Nat) : List Ln := (List.range k).map X
theorem upto_succ (X : Nat → Ln) (k : Nat) : upto X (k + 1) = upto X k ++ [X k] := by simp [upto, List.range_succ]
theorem upto_len (X : Nat → Ln) (k : Nat) : (upto X k).length = k := by simp [upto]
theorem upto_prefix (X : Nat → Ln) : ∀ {i k : Nat}, i ≤ k → upto X i <+: upto X k
  | i, 0, h => by obtain rfl : i = 0 := by omega
                  exact List.prefix_refl _
  | i, k + 1, h => by
    by_cases e : i = k + 1
    · subst e; exact List.prefix_refl _
    · rw [upto_succ]
      exact (upto_prefix X (by omega : i ≤ k)).trans (List.prefix_append _ _)
/-- what a round keeps: all below n₀, and the text. -/
def KpC (n₀ Bn : Nat) (W W' : World) : Prop := Below n₀ W W' ∧ W'.heap[Bn]? = W.heap[Bn]?
theorem KpC.trans {n₀ Bn : Nat} {A B C : World} (h : KpC n₀ Bn A B) (g : KpC n₀ Bn B C) : KpC n₀ Bn A C := ⟨h.1.trans g.1, g.2.trans h.2⟩
theorem KpC.put {n₀ Bn m : Nat} (h1 : n₀ ≤ m) (h2 : Bn < m) (W : World) (l : Nat) (o o' : Obj) (hl : m ≤ l) (_ : W.heap[l]? = some o) (_ : o.isCells = false) (_ : o.isWalk = false) : KpC n₀ Bn W (W.putObj l o') :=
  ⟨⟨rfl, rfl, rfl, by simp, fun k hk => World.putObj_heap_other (by omega)⟩, World.putObj_heap_other (by omega)⟩
set_option maxRecDepth 100000 in
set_option maxHeartbeats 4000000 in
theorem cut1_in (n : Nat) (hn : 2 ≤ n) (l Bn n₀ k : Nat) (X : Nat → Ln) (E : Nat → EntF) (T : ByteArray) (hT : T.data.toList = linesE E k) (hTs : T.size ≤ 2256) (hX : ∀ i, i < k → EntOk (E i) ∧ (X i).1 = ⟨(lineE (E i)).toArray⟩) (J Jx : List Ln → World → Prop)
    (hY : ∀ pre x W, J pre W → pre.length < k → YieldAt Fence.wide (n - 1) Tryz.prog l #[.string x.1] W fun e W' =>
      (e = .returned (.bool true) ∧ J (pre ++ [x]) W' ∧ KpC n₀ Bn W W') ∨ (e = .returned (.bool false) ∧ Jx (pre ++ [x]) W'))
    (W : World) (hBn : Boxed W Bn 9 (.string T)) (h0 : J [] W) :
    CallsIn Fence.wide n Tryz.prog 70 #[.func (.yield l) #[] #[], .pointer (some ⟨Bn, 0, none⟩)] W fun e W' => (∃ v, e = .returned v) ∧
      ((∃ ys, ys = upto X k ∧ J ys W') ∨ (∃ pre, pre <+: upto X k ∧ Jx pre W')) := by
  refine callsIn_of_wp Tryz.func70 rfl trivial ?_ rfl
  simp only [Tryz.ntmps70, List.size_toArray, List.length_cons, List.length_nil, Nat.reduceAdd, Nat.reduceSub, Array.replicate_succ, Array.replicate_zero, List.push_toArray, List.append_toArray, List.nil_append, List.cons_append]
  gi_wp2
  gi_loopw [3] (fun p wr => ∃ i : Nat, i ≤ k ∧ p = .int .i64 ((linesE E i).length : Int) ∧ Boxed wr Bn 9 (.string T) ∧ J (upto X i) wr)
    (fun p _ => T.size - (intOf p).toNat)
  case atStart => exact ⟨0, Nat.zero_le _, rfl, hBn, h0⟩
  case round =>
    obtain ⟨i, hi, rfl, hB, hJ⟩ := hrel
    have hc := hB.cell
    have hsz : T.size = (linesE E k).length := by rw [← hT]; simp
    by_cases hlt : i < k
    · obtain ⟨hOk, hXi⟩ := hX i hlt
      obtain ⟨r, hr1, hr2, hr3⟩ := linesE_cut hlt hOk
      have hp := lineE_pos (E i)
      obtain ⟨m, hm⟩ : ∃ m, (lineE (E i)).length = m + 1 := ⟨(lineE (E i)).length - 1, by omega⟩
      have hlen : T.size = (linesE E i).length + (m + 1 + r.length) := by rw [hsz, hr3]; simp [hm]
      have HU : Hid (upto X (i + 1) = upto X i ++ [X i]) := upto_succ X i
      have HN : Hid (((linesE E (i + 1)).length : Int) = ((linesE E i).length : Int) + (m : Int) + 1) := by show ((linesE E (i + 1)).length : Int) = _; rw [linesE_succ]; simp [hm]; omega
      have HXD : Hid ((T.extract (linesE E i).length T.size).data.toList = lineE (E i) ++ r) := by
        show (T.extract (linesE E i).length T.size).data.toList = _
        rw [Lib.extract_data, hT, hr1, List.take_of_length_le (by simp [hm]; omega)]
      have HXL : Hid (T.extract (linesE E i).length ((linesE E i).length + m + 1) = (X i).1) := by
        show T.extract (linesE E i).length ((linesE E i).length + m + 1) = _
        rw [hXi]
        apply ByteArray.ext
        apply Array.ext'
        rw [Lib.extract_data, hT, hr1, show (linesE E i).length + m + 1 - (linesE E i).length = (lineE (E i)).length by omega]
        simp
      have hiv : Lib.indexByte (lineE (E i) ++ r) 10 = (m : Int) := by rw [hr2, hm]; simp
      have HI : ∀ w, Calls Tryz.prog 71 #[.string (T.extract (linesE E i).length T.size), .int .u8 10] w fun e w' => e = .returned (.int .i64 (m : Int)) ∧ w' = w := fun w => by
        have := Tryz.strings_IndexByte (T.extract (linesE E i).length T.size) 10 w
        rw [HXD.out, show ((10 : Int).toNat.toUInt8) = 10 from rfl, hiv] at this
        exact this
      obtain ⟨fn, tmps, assign, body, hy, hR⟩ := hY (upto X i) (X i) wr hJ (by rw [upto_len]; exact hlt)
      have HLEN : Hid (T.size = (linesE E i).length + (m + 1 + r.length)) := hlen
      have h1 : ((linesE E i).length : Int) < (T.size : Int) := by omega
      have h2 : ((linesE E i).length : Int) + (m : Int) + 1 ≤ (T.size : Int) := by omega
      have h3 : (0 : Int) ≤ ((linesE E i).length : Int) := by omega
      have h4 : (0 : Int) ≤ (m : Int) := by omega
      have h5 : (T.size : Int) ≤ 2256 := by omega
      have HMP : Hid (upto X i <+: upto X k ∧ upto X (i + 1) <+: upto X k) := ⟨upto_prefix X (by omega), upto_prefix X (by omega)⟩
      clear hr1 hr2 hr3 hm hlen hp hsz hOk hXi hiv HXD hT hX hY hJ
      generalize hA : (linesE E i).length = A at *
      have HA : Hid ((linesE E i).length = A) := hA
      clear hA
      rw [← HXL.out] at hy
      gi_wp2
      refine ⟨trivial, fun _ => by omega, ?_⟩
      refine (callsIn_wide.2 (show Calls _ _ _ _ _ from HI _)).mono ?_
      rintro e w' ⟨rfl, hw⟩
      subst hw
      clear HI
      gi_wp2
      refine ⟨fun _ => by omega, hR.mono ?_⟩
      rintro e W3 (⟨rfl, hJ3, hk3⟩ | ⟨rfl, hJx3⟩)
      · rw [← HU.out] at hJ3
        have hB3 : Boxed W3 Bn 9 (.string T) := hk3.2.trans hB
        clear hR hy hB hc
        gi_wp2
        go_roundw
        case rel => exact ⟨i + 1, by omega, by rw [HN.out], hB3, hJ3⟩
        case measure => simp [intOf]; omega
      · rw [← HU.out] at hJx3
        gi_wp2
        refine bodyPost_ret (results_none rfl _ _ _) rfl ?_
        exact ⟨⟨_, rfl⟩, .inr ⟨_, HMP.out.2, hJx3⟩⟩
    · obtain rfl : i = k := by omega
      have h1 : ¬ ((linesE E i).length : Int) < (T.size : Int) := by omega
      clear hsz hlt
      gi_wp2
      go_end0
      exact ⟨⟨_, rfl⟩, .inl hJ⟩
/-- cut hands back the iterator, and the text in a box. -/
theorem cut_in (n : Nat) (T : ByteArray) (w : World) :
    CallsIn Fence.wide n Tryz.prog 53 #[.string T] w fun e w' => e = .returned (.func (.func 70) #[] #[.pointer (some ⟨w.heap.size, 0, none⟩)]) ∧ w' = w.alloc (.cells #[.string T] 9) := by
  refine callsIn_of_wp Tryz.func53 rfl trivial ?_ rfl
  simp only [Tryz.ntmps53, List.size_toArray, List.length_cons, List.length_nil, Nat.reduceAdd, Nat.reduceSub, Array.replicate_succ, Array.replicate_zero, List.push_toArray, List.append_toArray, List.nil_append, List.cons_append]
  gi_wp2
  go_ret
  exact ⟨rfl, rfl⟩
theorem cut_stops (n : Nat) (hn : 2 ≤ n) (Bn n₀ k : Nat) (X : Nat → Ln) (E : Nat → EntF) (T : ByteArray) (hT : T.data.toList = linesE E k) (hTs : T.size ≤ 2256) (hX : ∀ i, i < k → EntOk (E i) ∧ (X i).1 = ⟨(lineE (E i)).toArray⟩) (w : World) (hBn : Boxed w Bn 9 (.string T)) :
    SeqStopsK Fence.wide n Tryz.prog 70 #[.pointer (some ⟨Bn, 0, none⟩)] (fun x : Ln => #[Value.string x.1]) (KpC n₀ Bn) (fun ys => ys = upto X k) (fun pre => pre <+: upto X k) k w := fun l J Jx W hW _ _ hY h0 =>
  cut1_in n hn l Bn n₀ k X E T hT hTs hX J Jx hY W ((hW.block Bn hBn.lt).trans hBn) h0
end Go.Proofs.YtlcdacldhalnnaaGreatDoor
