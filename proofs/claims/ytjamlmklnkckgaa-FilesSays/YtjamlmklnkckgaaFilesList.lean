/-
  What List of package files returns, for all files: the map's names, rising; memory that was there stays as it was.
-/
import Derived.Test.YtjamlmklnkckgaaFilesWalks
import Derived.Test.YtjamlmklnkckgaaGrow
import Derived.Test.YtjamlmklnkckgaaShelf
import Derived.Maps.RangeWalk
import Derived.Sort.KeysCollected
import Derived.Sort.OwnSorted
namespace Go.Proofs.Ytjamlmklnkckgaa
open Go.RowKit Go.Maps Go.Sort

/-- the names, rising. -/
def namesF (D : DataW Unit) : List (List UInt8) := (strKeys D).mergeSort leB

/-- a call of List that returned. -/
structure ListEnd (w : World) (D : DataW Unit) (e : Ending) (w' : World) : Prop where
  v : ∃ v, e = .returned v ∧ w'.ownsRow w.heap.size 9 1 v (namesF D).length ((namesF D).map encStr)
  below : Below w.heap.size w w'

theorem strGrow2 {B : Nat} {w : World} {v : Value} {n : Nat} {cs : List Value} (u : Value) (hu : u.oneCell' = true) (hB : B ≤ w.heap.size) (h : w.ownsRow B 9 1 v n cs) (hn : n + 1 ≤ 1000000) :
    ∃ v' W, (Builtin.append_ #[63, 63] 63 #[v, .slice (some ⟨w.heap.size, 0, none⟩) 1 1]).run Try.prog (w.alloc (.cells #[u] 9)) = .ok v' W ∧ Grown B 9 1 (w.alloc (.cells #[u] 9)) v (n + 1) (cs ++ [u]) v' W :=
  append_from 63 9 1 16 (.string ⟨#[]⟩) (by kernel_rfl) (by kernel_rfl) (by rfl) (by decide) B _ v n cs (h.alloc _) (some ⟨w.heap.size, 0, none⟩) 1 1 [u] rfl
    (.inr ⟨_, _, rfl, fun j x hj => by
      cases j with
      | zero => simp at hj; subst hj; simp [go_sem]
      | succ j => simp at hj⟩) (fun x hx => by simp at hx; subst hx; exact hu) (by simp; omega) hn (by decide)

set_option maxRecDepth 100000 in
set_option maxHeartbeats 1000000 in
theorem list_any (w : World) (p bm : Nat) (D : DataW Unit) (k : Nat) (h : FilesAt w p bm D k) (hz : Maps.size D ≤ 1000) :
    Calls Try.prog 26 #[.pointer (some ⟨p, 0, none⟩)] w fun e w' => ListEnd w D e w' := by
  have hown := h.own
  have hbl := hown.lt
  have c0 := h.c0
  go_enter Try.func26, Try.ntmps26
  go_wp2_with (first
    | (at_range; refine wpList_range_own _ rfl _ 91 rfl 9 95 keysStr Try.underlying91 _ bm _ _ rfl hown ?_; intro w0 hrg0 hg0 hs0)
    | go_in)
  go_frame
  go_loopw [3] (fun v wr => ∃ (left : Lit → Bool) (cnt : Nat) (ss : List (List UInt8)), wr.ranges Try.prog 9 fileElem bm w.heap.size (Maps.size D) D left cnt ∧ ss.length + cnt ≤ Maps.size D ∧
      wr.ownsRow w.heap.size 9 1 v ss.length (ss.map encStr) ∧ Collected D left ss ∧ Below w.heap.size w wr)
    (fun _ wr => wr.rangeLeft bm w.heap.size)
  case atStart =>
    exact ⟨_, _, [], hrg0, by simp, World.ownsRow_nil _ _ _ _, Collected.start D, (Below.refl _ _).grown hg0 (Nat.le_refl _) (fun j hj => by cases hj)⟩
  case round =>
    obtain ⟨left, cnt, ss, hrg, hcs, hrow, hC, hnx⟩ := hrel
    go_wp2_with (first
      | (at_next; refine wpList_next_ranges _ rfl _ rfl 9 keysStr fileElem encStr (fun q : ByteArray × Int => .agg #[.string q.1, .int .i64 q.2]) (fun key kl hk => by obtain ⟨x, hx, _⟩ := Maps.keyOf_str Try.underlying9 hk; exact ⟨x, hx⟩) (fun v y hv => by obtain ⟨t, n, rfl, _⟩ := fileElem_inv hv; exact ⟨(t, n), rfl⟩) bm w.heap.size _ _ _ _ rfl hrg ?_ ?_)
      | go_in)
    · intro hc0 hl0
      have hperm := hC.perm hown keysStr Try.underlying9 hl0
      have HN : Hid (namesF D = ss.mergeSort leB) := (mergeSort_of_perm hperm).symm
      rcases hrow.2 with ⟨rfl, hn0⟩ | ⟨g, cap, cur, rfl, hbase, hb, h1, h2, h3, h4⟩
      · have hs0 : ss = [] := List.eq_nil_of_length_eq_zero hn0
        subst hs0
        have HS := Try.slices_Sort_string_none none 0 wr
        clear hrg hC hperm hrow
        go_wp2_with fail
        refine HS.mono ?_
        rintro e w' ⟨rfl, hw⟩
        replace hw := hw.symm
        subst hw
        go_wp2
        go_ret
        exact ⟨⟨.slice none 0 0, rfl, by rw [HN.out, List.mergeSort_nil]; exact World.ownsRow_nil _ _ _ _⟩, hnx⟩
      · have hH : Holds encStr wr g 0 ss.toArray := holds_of_block hb (by simpa using h4)
        have hgl : g < wr.heap.size := (Array.getElem?_eq_some_iff.1 hb).1
        have HS := Try.slices_Sort_string g 0 cap ss wr hH hgl (by omega)
        clear hrg hC hperm hrow hH
        go_wp2_with fail
        refine HS.mono ?_
        rintro e w' ⟨rfl, nn, os, hw⟩
        have hown' := ownsRow_sorted (n := nn) (os := os) (ts := ss.mergeSort leB) (by simp) hbase hb h1 h2 h3
        have hnx' := hnx.grown (grownBy_sorted (n := nn) (os := os) (g := g) (ss.mergeSort leB).toArray) hnx.size (fun j hj => by cases hj; exact hbase)
        rw [← hw] at hown' hnx'
        clear hw HS
        go_wp2
        go_ret
        refine ⟨⟨.slice (some ⟨g, 0, none⟩) ss.length cap, rfl, ?_⟩, hnx'⟩
        rw [HN.out, List.length_mergeSort]
        exact hown'
    · intro x ct cn kl yd yp w2 cnt2 hkey hlk hv hat hrg2 hlt hg2 hs2 hen
      obtain ⟨x', ex, rfl, _⟩ := Maps.keyOf_str Try.underlying9 hkey
      obtain rfl : x = x' := encStr_inj ex
      have hrow2 := hrow.kept hg2 (Or.inr (row_ne_iter hrow hrg).symm)
      have hB2 : w.heap.size ≤ w2.heap.size := Nat.le_trans hnx.size hg2.size
      have hnx2 := hnx.grown hg2 hnx.size (fun j hj => by cases hj; exact Nat.le_refl _)
      clear hs2
      obtain ⟨v', w3, happ, hG⟩ := strGrow2 (encStr x) (by simp [Value.oneCell']) hB2 hrow2 (by omega)
      have hen' := hen
      go_wp2_with (at_builtin; refine list_run rfl _ _ 63 rfl _ _ _ rfl rfl happ ?_)
      have hrg3 := (hrg2.alloc (.cells #[encStr x] 9)).kept hG.grown (row_ne_low hrow2 hbl) (row_ne_iter hrow2 hrg2)
      go_roundw
      case rel =>
        refine ⟨_, cnt2, ss ++ [x], hrg3, by simp; omega, ?_, hC.step hlk hat, ?_⟩
        · have := hG.own
          simpa using this
        · exact (hnx2.alloc hB2 _).trans hG.below
      case measure => rw [hrg3.left_eq, hrg.left_eq]; exact hlt
end Go.Proofs.Ytjamlmklnkckgaa
