/-
  What sizes and wordsOf of package image return, for every list of objects; memory that was there stays as it was.
  Rows of patches of the call's own, read.
  What Put of package patch returns, for every list of lists of numbers and every list of patches: a copy, patched; or that there is no such word; memory that was there stays as it was.
  What Put of package patch returns: the walk.
  What Lay of package image returns: parts, their words patched; or the number of the error; memory that was there stays as it was.
  Plain words on what is reckoned for a root, with nothing of the program's memory: who belongs to it, where they lie, what hangs on that; that there is just one answer.
  What Reckon of package image returns, over any files and any root: names, objects, bases and patches, or the number of the error; memory that was there stays as it was.
  What Load of package image returns, over any files and any root: the parts, laid and bound, or the number of the error; memory that was there stays as it was.
  What Loaded of the document returns, for all files and every root: the parts, bound, and their patches; or the number of the error; memory that was there stays as it was.
-/
import Derived.Test.YtbbhjpbacobmjaaGreatDoorPlaceOne
import Derived.Test.YtbbhjpbacobmjaaGreatDoorAtAll
import Derived.Test.YtbbhjpbacobmjaaGreatDoorPatchOne
import Derived.Deep.QuietTactic
import Derived.BigQuiet
import Derived.RegionTactic
import Derived.BigRegion
import Derived.Deep.RegionLaw
import Derived.Test.YtbbhjpbacobmjaaGreatDoorScopeOne
import Derived.Test.YtbbhjpbacobmjaaGreatDoorPlain
import Derived.Deep.Onto
import Derived.Test.YtbbhjpbacobmjaaGreatDoorEarly
namespace Go.Proofs.YtbbhjpbacobmjaaGreatDoor
open Go.RowKit

set_option maxHeartbeats 2000000 in
theorem sizes_any (a : Option Addr) (n c : Nat) (V : Nat → ObjV) (O : Nat → ObjF) (w : World) (hn : n ≤ 1000) (hm : ∀ i, i < n → (O i).nW ≤ maxLen) (hr : ObjsRow w a n V O) :
    Calls Tryz.prog 70 #[.slice a n c] w fun e w' => (∃ v, e = .returned v ∧ w'.ownsRow w.heap.size 3 1 v n (joinC (intC fun i => ((O i).nW : Int)) n)) ∧ Below w.heap.size w w' := by
  go_enter Tryz.func70, Tryz.ntmps70
  go_wp2
  go_loopw [3, 8] (fun x z wr => ∃ (k : Nat) (v : Value), k ≤ n ∧ z = .int .i64 k ∧ x = v ∧ wr.ownsRow w.heap.size 3 1 v k (joinC (intC fun i => ((O i).nW : Int)) k) ∧ Below w.heap.size w wr) (fun _ z _ => n - (intOf z).toNat)
  case atStart => exact ⟨0, .slice none 0 0, Nat.zero_le _, rfl, rfl, World.ownsRow_nil _ _ _ _, Below.refl _ _⟩
  case round =>
    obtain ⟨k, v, hk, rfl, rfl, ho, hb⟩ := hrel
    by_cases hlt : k < n
    · have hr1 := hr.later hb
      rcases hr1 with h0 | ⟨bk, o, rfl, hc⟩
      · omega
      have H := hc k hlt
      have c0 := H.c0
      have c1 := H.c1
      have c2 := H.c2
      have c3 := H.c3
      have hmk := hm k hlt
      unfold maxLen at hmk
      have hB := hb.size
      clear hc H
      obtain ⟨v1, W1, happ1, hG1⟩ := growInt (w := wr.alloc (.cells #[.slice (V k).aN (O k).nN (V k).cN, .slice (V k).aW (O k).nW (V k).cW, .slice (V k).aS (O k).nS (V k).cS, .slice (V k).aT (O k).nT (V k).cT] 62)) ((O k).nW : Int) (by simp; omega) (ho.alloc _) (by omega)
      have e1 : (wr.alloc (.cells #[.slice (V k).aN (O k).nN (V k).cN, .slice (V k).aW (O k).nW (V k).cW, .slice (V k).aS (O k).nS (V k).cS, .slice (V k).aT (O k).nT (V k).cT] 62)).heap.size = wr.heap.size + 1 := by simp
      rw [e1] at happ1
      have ho1 := hG1.own
      rw [joinInt (b' := fun i => ((O i).nW : Int)) (fun i _ => rfl) rfl] at ho1
      have hb1 : Below w.heap.size w W1 := ((hb.alloc hB _).alloc (by simp; omega) _).trans hG1.below
      clear hG1 ho e1 hb
      go_wp2_with (at_builtin; refine list_run rfl (.tmp 12) (.tmp 16) 51 rfl u3 (.slice (some ⟨wr.heap.size + 1, 0, none⟩) 1 1) _ rfl rfl happ1 ?_)
      go_roundw
      case rel => exact ⟨k + 1, v1, by omega, by go_num, rfl, ho1, hb1⟩
      case measure => simp [intOf]; omega
    · have e : k = n := by omega
      subst e
      go_wp2
      go_ret
      exact ⟨⟨_, rfl, ho⟩, hb⟩

/-- the cell of an object's words. -/
def wdC (V : Nat → ObjV) (O : Nat → ObjF) (i : Nat) : List Value := [.slice (V i).aW (O i).nW (V i).cW]
theorem wdC_len (V : Nat → ObjV) (O : Nat → ObjF) (i : Nat) : (wdC V O i).length = 1 := rfl
/-- one list more. -/
theorem growWd {B : Nat} {w : World} {v : Value} {n : Nat} {xs : List Value} (a : Option Addr) (m c : Nat) (hB : B ≤ w.heap.size) (h : w.ownsRow B 51 1 v n xs) (hn : n < 1000000) :
    ∃ v' W, (Builtin.append_ #[183, 183] 183 #[v, .slice (some ⟨w.heap.size, 0, none⟩) 1 1]).run Tryz.prog (w.alloc (.cells #[.slice a m c] 51)) = .ok v' W ∧ Grown B 51 1 (w.alloc (.cells #[.slice a m c] 51)) v (n + 1) (xs ++ [.slice a m c]) v' W :=
  append_from 183 51 1 24 (.slice none 0 0) (by kernel_rfl) (by kernel_rfl) (by rfl) (by decide) B _ v n _ (h.alloc _) (some ⟨w.heap.size, 0, none⟩) 1 1 [.slice a m c] rfl
    (.inr ⟨_, _, rfl, fun j u hj => by
      match j, hj with
      | 0, hj => simp at hj; subst hj; simp [go_sem]
      | j + 1, hj => simp at hj⟩) (fun u hu => by simp at hu; subst hu; rfl) (by simp; omega) (by omega) (by decide)
theorem rows_wd {w : World} {B : Nat} {e : TypeId} {v : Value} {n : Nat} {V : Nat → ObjV} {O : Nat → ObjF} (h : w.ownsRow B e 1 v n (joinC (wdC V O) n)) (hA : ∀ i, i < n → ObjAt w (V i) (O i)) : ∃ a c, v = .slice a n c ∧ n ≤ c ∧ ListsRow w a n (fun i => (V i).aW) (fun i => (O i).nW) (fun i => (V i).cW) (fun i j => (O i).words j) := by
  obtain ⟨a, c, rfl, hc⟩ := owns_shape h
  refine ⟨a, c, rfl, hc, ?_⟩
  by_cases h0 : n = 0
  · exact .inl h0
  · have key : ∀ i, i < n → ∃ g, a = some ⟨g, 0, none⟩ ∧ B ≤ g ∧ w.cell? ⟨g, i, none⟩ = some (.slice (V i).aW (O i).nW (V i).cW) := fun i hi =>
      owns_cell h (by have := joinC_at (g := wdC V O) (s := 1) (n := n) (i := i) (j := 0) (fun i _ => wdC_len V O i) hi (by omega); simpa [wdC] using this)
    obtain ⟨g, ha, _, _⟩ := key 0 (by omega)
    refine .inr ⟨g, 0, ha, fun i hi => ⟨?_, (hA i hi).words⟩⟩
    obtain ⟨g1, ha1, _, h1⟩ := key i hi
    rw [ha] at ha1
    injection ha1 with ha1
    injection ha1 with ha1
    subst ha1
    simpa using h1

set_option maxHeartbeats 2000000 in
theorem wordsOf_any (a : Option Addr) (n c : Nat) (V : Nat → ObjV) (O : Nat → ObjF) (w : World) (hn : n ≤ 1000) (hr : ObjsRow w a n V O) :
    Calls Tryz.prog 102 #[.slice a n c] w fun e w' => (∃ v, e = .returned v ∧ w'.ownsRow w.heap.size 51 1 v n (joinC (wdC V O) n)) ∧ Below w.heap.size w w' := by
  go_enter Tryz.func102, Tryz.ntmps102
  go_wp2
  go_loopw [3, 8] (fun x z wr => ∃ (k : Nat) (v : Value), k ≤ n ∧ z = .int .i64 k ∧ x = v ∧ wr.ownsRow w.heap.size 51 1 v k (joinC (wdC V O) k) ∧ Below w.heap.size w wr) (fun _ z _ => n - (intOf z).toNat)
  case atStart => exact ⟨0, .slice none 0 0, Nat.zero_le _, rfl, rfl, World.ownsRow_nil _ _ _ _, Below.refl _ _⟩
  case round =>
    obtain ⟨k, v, hk, rfl, rfl, ho, hb⟩ := hrel
    by_cases hlt : k < n
    · have hr1 := hr.later hb
      rcases hr1 with h0 | ⟨bk, o, rfl, hc⟩
      · omega
      have H := hc k hlt
      have c0 := H.c0
      have c1 := H.c1
      have c2 := H.c2
      have c3 := H.c3
      have hB := hb.size
      clear hc H
      obtain ⟨v1, W1, happ1, hG1⟩ := growWd (w := wr.alloc (.cells #[.slice (V k).aN (O k).nN (V k).cN, .slice (V k).aW (O k).nW (V k).cW, .slice (V k).aS (O k).nS (V k).cS, .slice (V k).aT (O k).nT (V k).cT] 62)) (V k).aW (O k).nW (V k).cW (by simp; omega) (ho.alloc _) (by omega)
      have e1 : (wr.alloc (.cells #[.slice (V k).aN (O k).nN (V k).cN, .slice (V k).aW (O k).nW (V k).cW, .slice (V k).aS (O k).nS (V k).cS, .slice (V k).aT (O k).nT (V k).cT] 62)).heap.size = wr.heap.size + 1 := by simp
      rw [e1] at happ1
      have ho1 : W1.ownsRow w.heap.size 51 1 v1 (k + 1) (joinC (wdC V O) (k + 1)) := hG1.own
      have hb1 : Below w.heap.size w W1 := ((hb.alloc hB _).alloc (by simp; omega) _).trans hG1.below
      clear hG1 ho e1 hb
      go_wp2_with (at_builtin; refine list_run rfl (.tmp 12) (.tmp 15) 183 rfl u3 (.slice (some ⟨wr.heap.size + 1, 0, none⟩) 1 1) _ rfl rfl happ1 ?_)
      go_roundw
      case rel => exact ⟨k + 1, v1, by omega, by go_num, rfl, ho1, hb1⟩
      case measure => simp [intOf]; omega
    · have e : k = n := by omega
      subst e
      go_wp2
      go_ret
      exact ⟨⟨_, rfl, ho⟩, hb⟩

/-- the n parts behind 'a': name, base, words. -/
def PartRow (w : World) (a : Option Addr) (n : Nat) (nm : Nat → ByteArray) (B : Nat → Int) (A : Nat → Option Addr) (M C : Nat → Nat) (X : Nat → Nat → Int) : Prop :=
  n = 0 ∨ ∃ bk o, a = some ⟨bk, o, none⟩ ∧ ∀ i, i < n → w.cell? ⟨bk, o + i * 3, none⟩ = some (.string (nm i)) ∧ w.cell? ⟨bk, o + i * 3 + 1, none⟩ = some (.int .i64 (B i)) ∧ w.cell? ⟨bk, o + i * 3 + 2, none⟩ = some (.slice (A i) (M i) (C i)) ∧ RowAt w (A i) (M i) fun j => .int .i64 (X i j)
theorem PartRow.later {w w' : World} {a : Option Addr} {n : Nat} {nm : Nat → ByteArray} {B : Nat → Int} {A : Nat → Option Addr} {M C : Nat → Nat} {X : Nat → Nat → Int} (h : PartRow w a n nm B A M C X) (hb : Below w.heap.size w w') : PartRow w' a n nm B A M C X := by
  rcases h with h | ⟨bk, o, ha, hc⟩
  · exact .inl h
  · exact .inr ⟨bk, o, ha, fun i hi => ⟨cell_later hb (hc i hi).1, cell_later hb (hc i hi).2.1, cell_later hb (hc i hi).2.2.1, (hc i hi).2.2.2.later hb⟩⟩
/-- a part has a place. -/
def hasB (B : Nat → Int) (M : Nat → Nat) (at' : Int) (i : Nat) : Bool := decide (B i ≤ at') && decide (at' < B i + M i)
end Go.Proofs.YtbbhjpbacobmjaaGreatDoor

namespace Go.Proofs.YtbbhjpbacobmjaaGreatDoor
open Go.RowKit

/-- a list of patches, by places. -/
def pP (l : List (Nat × Int × Int)) (i : Nat) : Int := ((l.getD i (0, 0, 0)).1 : Int)
def pT (l : List (Nat × Int × Int)) (i : Nat) : Int := (l.getD i (0, 0, 0)).2.1
def pV (l : List (Nat × Int × Int)) (i : Nat) : Int := (l.getD i (0, 0, 0)).2.2
theorem joinPat (l : List (Nat × Int × Int)) : ∀ k, k ≤ l.length → patsC (l.take k) = joinC (fun i => patC (l.getD i (0, 0, 0))) k := by
  intro k
  induction k with
  | zero => intro _; rfl
  | succ k ih =>
    intro hk
    rw [List.take_succ_eq_append_getElem (by omega)]
    show patsC (l.take k ++ [l[k]]) = joinC _ k ++ patC (l.getD k (0, 0, 0))
    have e1 : patsC (l.take k ++ [l[k]]) = patsC (l.take k) ++ patC l[k] := by unfold patsC; rw [List.flatMap_append]; simp only [List.flatMap_cons, List.flatMap_nil, List.append_nil]
    rw [e1, ih (by omega)]
    congr 2
    rw [List.getD_eq_getElem?_getD, List.getElem?_eq_getElem (by omega : k < l.length)]
    rfl
theorem patsC_join (l : List (Nat × Int × Int)) : patsC l = joinC (fun i => patC (l.getD i (0, 0, 0))) l.length := by
  have := joinPat l l.length (Nat.le_refl _)
  rwa [List.take_length] at this
theorem patC_len (x : Nat × Int × Int) : (patC x).length = 3 := rfl
theorem rows_pat {w : World} {B : Nat} {e : TypeId} {v : Value} {l : List (Nat × Int × Int)} (h : w.ownsRow B e 3 v l.length (patsC l)) : ∃ a c, v = .slice a l.length c ∧ l.length ≤ c ∧ PatRow w a l.length (pP l) (pT l) (pV l) := by
  obtain ⟨a, c, rfl, hc⟩ := owns_shape h
  refine ⟨a, c, rfl, hc, ?_⟩
  by_cases h0 : l.length = 0
  · exact .inl h0
  · rw [patsC_join] at h
    have key : ∀ i, i < l.length → ∀ j u, (patC (l.getD i (0, 0, 0)))[j]? = some u → j < 3 → ∃ g, a = some ⟨g, 0, none⟩ ∧ B ≤ g ∧ w.cell? ⟨g, i * 3 + j, none⟩ = some u := fun i hi j u hu hj =>
      owns_cell h (by rw [joinC_at (s := 3) (fun i _ => patC_len _) hi hj]; exact hu)
    obtain ⟨g, ha, _, _⟩ := key 0 (by omega) 0 _ rfl (by omega)
    refine .inr ⟨g, 0, ha, fun i hi => ?_⟩
    have get : ∀ j u, (patC (l.getD i (0, 0, 0)))[j]? = some u → j < 3 → w.cell? ⟨g, i * 3 + j, none⟩ = some u := fun j u hu hj => by
      obtain ⟨g', ha', _, hc'⟩ := key i hi j u hu hj
      rw [ha] at ha'
      injection ha' with ha'
      injection ha' with ha'
      subst ha'
      exact hc'
    exact ⟨by rw [Nat.zero_add]; exact get 0 _ rfl (by omega), by rw [Nat.zero_add]; exact get 1 _ rfl (by omega), by rw [Nat.zero_add]; exact get 2 _ rfl (by omega)⟩
end Go.Proofs.YtbbhjpbacobmjaaGreatDoor

namespace Go.Proofs.YtbbhjpbacobmjaaGreatDoor
open Go.RowKit

theorem isPlaceP_any (a n : Int) (w : World) : Calls Tryz.prog 133 #[.int .i64 a, .int .i64 n] w fun e w' => e = .returned (.bool (isPlaceF a n)) ∧ w' = w := by
  by_cases h1 : 0 ≤ a
  all_goals by_cases h2 : a < n
  all_goals
    go_enter Tryz.func133, Tryz.ntmps133
    go_wp2
    go_ret
    exact ⟨ret_bool (by simp [isPlaceF] <;> omega), rfl⟩

/-- the cells of numbers that lie anywhere. -/
theorem int_cells {w : World} {a : Option Addr} {n : Nat} {f : Nat → Int} (h : RowAt w a n fun i => .int .i64 (f i)) : n = 0 ∨ ∃ b o, a = some ⟨b, o, none⟩ ∧ ∀ j u, (joinC (intC f) n)[j]? = some u → w.cell? ⟨b, o + j, none⟩ = some u := by
  rcases h with h | ⟨b, o, ha, hc⟩
  · exact .inl h
  · refine .inr ⟨b, o, ha, fun j u hj => ?_⟩
    have hlt : j < n := by
      have := (List.getElem?_eq_some_iff.1 hj).1
      rw [joinC_len (fun i _ => intC_len f i)] at this
      omega
    have hj' := joinC_at (g := intC f) (s := 1) (n := n) (i := j) (j := 0) (fun i _ => intC_len f i) hlt (by omega)
    simp only [Nat.mul_one, Nat.add_zero] at hj'
    rw [hj'] at hj
    simp [intC] at hj
    rw [← hj]
    exact hc j hlt
theorem int_one {f : Nat → Int} {n : Nat} : ∀ u ∈ joinC (intC f) n, u.oneCell' = true := fun u hu => by
  obtain ⟨i, _, h⟩ := joinC_mem hu
  simp [intC] at h
  subst h
  rfl

set_option maxHeartbeats 1000000 in
theorem cloneInt_any (f : Nat → Int) (a : Option Addr) (n c : Nat) (w : World) (hn : n ≤ 1000000) (hr : RowAt w a n fun i => .int .i64 (f i)) :
    Calls Tryz.prog 132 #[.slice a n c] w fun e w' => (∃ v', e = .returned v' ∧ w'.ownsRow w.heap.size 3 1 v' n (joinC (intC f) n)) ∧ Below w.heap.size w w' := by
  have q : ∀ (w : World) (a : Option Addr) (n c n' c' : Nat), (binOp .eql 51 (.slice a n c) (.slice none n' c')).run Tryz.prog w = .ok (.bool a.isNone) w := fun w a n c n' c' => Lib.run_eql_slice_nil w _ _ a n c n' c' Tryz.underlying51
  cases a with
  | none =>
    have h0 : n = 0 := by
      rcases hr with h | ⟨b, o, h, _⟩
      · exact h
      · cases h
    subst h0
    go_enter Tryz.func132, Tryz.ntmps132
    go_wp2
    go_ret
    exact ⟨⟨_, rfl, World.ownsRow_nil _ _ _ _⟩, Below.refl _ _⟩
  | some ad =>
    obtain ⟨v', W, happ, hG⟩ := append_from 51 3 1 8 (.int .i64 0) (by kernel_rfl) (by kernel_rfl) (by rfl) (by decide) w.heap.size (w.alloc (.cells #[] 3)) (.slice (some ⟨w.heap.size, 0, none⟩) 0 0) 0 []
      (World.ownsRow_made w #[] 0 (Nat.le_refl _) (Nat.zero_le _) rfl) (some ad) n c (joinC (intC f) n) (by rw [joinC_len (fun i _ => intC_len f i)]) (int_cells (hr.later ((Below.refl _ _).alloc (Nat.le_refl _) _))) int_one (by simp) (by omega) (by decide)
    clear hr
    go_enter Tryz.func132, Tryz.ntmps132
    go_wp2_with (at_builtin; refine list_run rfl _ _ 51 rfl _ _ _ rfl rfl happ ?_)
    go_ret
    exact ⟨⟨v', rfl, by simpa using hG.own⟩, ((Below.refl _ _).alloc (Nat.le_refl _) _).trans hG.below⟩

/-- an owned row that isn't empty: its block. -/
theorem owns_block {w : World} {B : Nat} {e : TypeId} {n c : Nat} {a : Option Addr} {b : Nat → Int} (h : w.ownsRow B e 1 (.slice a n c) n (joinC (intC b) n)) (hn : 0 < n) :
    ∃ g, a = some ⟨g, 0, none⟩ ∧ B ≤ g ∧ (∀ j, j < n → w.cell? ⟨g, j, none⟩ = some (.int .i64 (b j))) ∧ ∀ j, w.frozen? ⟨g, j, none⟩ = false := by
  have hc : ∀ j, j < n → ∃ g, a = some ⟨g, 0, none⟩ ∧ B ≤ g ∧ w.cell? ⟨g, j, none⟩ = some (.int .i64 (b j)) := fun i hi =>
    owns_cell h (by have := joinC_at (g := intC b) (s := 1) (n := n) (i := i) (j := 0) (fun i _ => intC_len b i) hi (by omega); simpa [intC] using this)
  rcases h.2 with ⟨_, h0⟩ | ⟨g, cap, cur, hv, hB, hg, _⟩
  · omega
  · injection hv with h1 h2 h3
    refine ⟨g, h1, hB, fun j hj => ?_, fun j => by simp [World.frozen?, hg]⟩
    obtain ⟨g', ha, _, h'⟩ := hc j hj
    rw [h1] at ha
    injection ha with ha
    injection ha with ha
    subst ha
    exact h'
/-- one place is another. -/
def updF {α : Type} (f : Nat → α) (k : Nat) (x : α) : Nat → α := fun i => if i = k then x else f i
theorem updF_new {α : Type} {f : Nat → α} {k : Nat} {x : α} : updF f k x k = x := if_pos rfl
theorem updF_old {α : Type} {f : Nat → α} {k : Nat} {x : α} {i : Nat} (h : i ≠ k) : updF f k x i = f i := if_neg h
/-- one list more. -/
theorem OutAt.more {w w1 : World} {B g k : Nat} {M : Nat → Nat} {A : Nat → Option Addr} {C G : Nat → Nat} {X : Nat → Nat → Int} {e : TypeId} {a' : Option Addr} {c' : Nat} {u : Value} (h : OutAt w B g k M A C G X) (hb : Below w.heap.size w w1) (hB : B ≤ w.heap.size)
    (hc : w1.cell? ⟨g, k, none⟩ = some u) (ho : w1.ownsRow w.heap.size e 1 (.slice a' (M k) c') (M k) (joinC (intC (X k)) (M k))) :
    ∃ A' C' G', OutAt (w1.setCell ⟨g, k, none⟩ (.slice a' (M k) c')) B g (k + 1) M A' C' G' X := by
  have h1 := h.later hb
  obtain ⟨gk, hgk⟩ : ∃ gk, 0 < M k → a' = some ⟨gk, 0, none⟩ ∧ w.heap.size ≤ gk ∧ (∀ j, j < M k → w1.cell? ⟨gk, j, none⟩ = some (.int .i64 (X k j))) ∧ ∀ j, w1.frozen? ⟨gk, j, none⟩ = false := by
    by_cases hm : 0 < M k
    · obtain ⟨gk, hh⟩ := owns_block ho hm
      exact ⟨gk, fun _ => hh⟩
    · exact ⟨0, fun h => absurd h hm⟩
  have lts : ∀ i, i < k → 0 < M i → G i < w.heap.size := fun i hi hm => World.block_lt_of_cell? _ _ (h.row i hi 0 hm)
  refine ⟨updF A k a', updF C k c', updF G k gk, h.hB, ?_, ?_, ?_, ?_, ?_, ?_, ?_, ?_, ?_⟩
  · simpa [World.setCell] using h1.lt
  · intro i hi
    by_cases e : i = k
    · subst e
      rw [World.cell?_setCell_same _ _ _ hc, updF_new, updF_new]
    · rw [World.cell?_setCell_other _ _ _ _ (by intro e2; injection e2 with _ e2 _; exact e e2.symm), updF_old e, updF_old e]
      exact h1.top i (by omega)
  · intro i; rw [World.frozen?_setCell]; exact h1.free i
  · intro i hi hm
    by_cases e : i = k
    · subst e; rw [updF_new, updF_new]; exact (hgk hm).1
    · rw [updF_old e, updF_old e]; exact h1.adr i (by omega) hm
  · intro i hi hm
    by_cases e : i = k
    · subst e; rw [updF_new]; exact Nat.le_trans hB (hgk hm).2.1
    · rw [updF_old e]; exact h1.own i (by omega) hm
  · intro i hi hm
    by_cases e : i = k
    · subst e; rw [updF_new]; have := (hgk hm).2.1; have := h.lt; omega
    · rw [updF_old e]; exact h1.ne i (by omega) hm
  · intro i hi j hj
    by_cases e : i = k
    · subst e
      rw [updF_new]
      have hh := hgk (by omega)
      rw [World.cell?_setCell_other _ _ _ _ (by intro e2; injection e2 with e2 _ _; have := hh.2.1; have := h.lt; omega)]
      exact hh.2.2.1 j hj
    · rw [updF_old e, World.cell?_setCell_other _ _ _ _ (by intro e2; injection e2 with e2 _ _; exact h1.ne i (by omega) (by omega) e2.symm)]
      exact h1.row i (by omega) j hj
  · intro i hi hm j
    rw [World.frozen?_setCell]
    by_cases e : i = k
    · subst e; rw [updF_new]; exact (hgk hm).2.2.2 j
    · rw [updF_old e]; exact h1.rfree i (by omega) hm j
  · intro i j hi hj hij hmi hmj
    by_cases e : i = k
    · subst e
      rw [updF_new, updF_old (fun e => hij e.symm)]
      have := (hgk hmi).2.1
      have := lts j (by omega) hmj
      omega
    · by_cases e2 : j = k
      · subst e2
        rw [updF_old e, updF_new]
        have := (hgk hmj).2.1
        have := lts i (by omega) hmi
        omega
      · rw [updF_old e, updF_old e2]; exact h1.apart i j (by omega) (by omega) hij hmi hmj
theorem OutAt.none {w : World} {B g : Nat} (hB : B ≤ g) (hg : g < w.heap.size) (hf : ∀ i, w.frozen? ⟨g, i, none⟩ = false) (M : Nat → Nat) (X : Nat → Nat → Int) : OutAt w B g 0 M (fun _ => none) (fun _ => 0) (fun _ => 0) X :=
  ⟨hB, hg, fun i hi => by omega, hf, fun i hi => by omega, fun i hi => by omega, fun i hi => by omega, fun i hi => by omega, fun i hi => by omega, fun i j hi => by omega⟩

/-- a call of Put that returned. -/
inductive PutEnd (w : World) (B n : Nat) (M : Nat → Nat) (X : Nat → Nat → Int) (np : Nat) (p t v : Nat → Int) : Ending → Prop
  | bad (h : BadAt (fun k => patOk n M (p k) (t k)) np) : PutEnd w B n M X np p t v (.returned (.tuple #[.slice none 0 0, errV 1]))
  | ok (g : Nat) (A : Nat → Option Addr) (C G : Nat → Nat) (h : AllOk (fun k => patOk n M (p k) (t k)) np) (ho : OutAt w B g n M A C G (putF X p t v np)) : PutEnd w B n M X np p t v (.returned (.tuple #[.slice (some ⟨g, 0, none⟩) n n, .nilIface]))
end Go.Proofs.YtbbhjpbacobmjaaGreatDoor

namespace Go.Proofs.YtbbhjpbacobmjaaGreatDoor
open Go.RowKit

set_option maxHeartbeats 4000000 in
theorem put_any (a a' : Option Addr) (n c np c' : Nat) (A : Nat → Option Addr) (M C : Nat → Nat) (X : Nat → Nat → Int) (p t v : Nat → Int) (w : World) (hn : n ≤ 1000) (hM : ∀ i, i < n → M i ≤ 1000) (hnp : np ≤ 1000) (hr : ListsRow w a n A M C X) (hp : PatRow w a' np p t v) :
    Calls Tryz.prog 101 #[.slice a n c, .slice a' np c'] w fun e w' => PutEnd w' w.heap.size n M X np p t v e ∧ Below w.heap.size w w' := by
  have hmk := fun (w : World) => run_make_row' (P := Tryz.prog) 183 51 (.slice none 0 0) 24 Tryz.underlying183 (by kernel_rfl) rfl .i64 .i64 n (by omega) (by omega) w
  have hrow := World.rowIs_made w (.slice none 0 0) n 51
  have hb0 : Below w.heap.size w (w.alloc (.cells (madeCells #[.slice none 0 0] n) 51)) := (Below.refl _ _).alloc (Nat.le_refl _) _
  have hlt0 : w.heap.size < (w.alloc (.cells (madeCells #[.slice none 0 0] n) 51)).heap.size := by simp
  go_enter Tryz.func101, Tryz.ntmps101
  go_wp2
  clear hmk
  generalize w.alloc (.cells (madeCells #[.slice none 0 0] n) 51) = w0 at *
  go_loopw [16] (fun x wr => ∃ (k : Nat) (A' : Nat → Option Addr) (C' G : Nat → Nat), k ≤ n ∧ x = .int .i64 k ∧ OutAt wr w.heap.size w.heap.size k M A' C' G X ∧ (∀ i, i < n → ∃ u, wr.cell? ⟨w.heap.size, i, none⟩ = some u) ∧ Below w.heap.size w wr) (fun x _ => n - (intOf x).toNat)
  case atStart => exact ⟨0, _, _, _, Nat.zero_le _, rfl, OutAt.none (Nat.le_refl _) hlt0 hrow.frozen _ _, fun i hi => ⟨_, hrow.cell hi⟩, hb0⟩
  case round =>
    clear hrow hb0 hlt0
    obtain ⟨k, A', C', G, hk, rfl, hO, hcs, hb⟩ := hrel
    by_cases hlt : k < n
    · have hr1 := hr.later hb
      rcases hr1 with h0 | ⟨bk, o, rfl, hc⟩
      · omega
      have hck := (hc k hlt).1
      have HC := cloneInt_any (X k) (A k) (M k) (C k) wr (by have := hM k hlt; omega) (hc k hlt).2
      clear hc
      go_wp2_with fail
      refine HC.mono ?_
      rintro e w2 ⟨⟨v', rfl, ho⟩, hb2⟩
      clear HC
      obtain ⟨a2, c2, rfl, _⟩ := owns_shape ho
      obtain ⟨u, hu⟩ := hcs k hlt
      have hu2 := cell_later hb2 hu
      have hz := (hO.later hb2).free k
      obtain ⟨A2, C2, G2, hO2⟩ := hO.more hb2 hb.size hu2 ho
      have hcs2 : ∀ i, i < n → ∃ u, (w2.setCell ⟨w.heap.size, k, none⟩ (.slice a2 (M k) c2)).cell? ⟨w.heap.size, i, none⟩ = some u := fun i hi => by
        obtain ⟨u, hu⟩ := hcs i hi
        exact cell?_setCell_some (cell_later hb2 hu)
      have hb3 : Below w.heap.size w (w2.setCell ⟨w.heap.size, k, none⟩ (.slice a2 (M k) c2)) := (hb.trans (hb2.mono hb.size)).setCell (Nat.le_refl _) _
      clear hO hcs hu hb hb2 ho
      go_wp2
      go_roundw
      case rel => exact ⟨k + 1, A2, C2, G2, by omega, by go_num, hO2, hcs2, hb3⟩
      case measure => simp [intOf]; omega
    · have e : k = n := by omega
      subst e
      clear hcs
      go_wp2
      go_loopw [29] (fun x wr => ∃ j : Nat, j ≤ np ∧ x = .int .i64 j ∧ OutAt wr w.heap.size w.heap.size k M A' C' G (putF X p t v j) ∧ Hid (∀ i, i < j → patOk k M (p i) (t i) = true) ∧ Below w.heap.size w wr) (fun x _ => np - (intOf x).toNat)
      case atStart => exact ⟨0, Nat.zero_le _, rfl, hO, fun i hi => by omega, hb⟩
      case round =>
        clear hO hb
        obtain ⟨j, hj, rfl, hO, HP, hb⟩ := hrel
        by_cases hlj : j < np
        · have hp1 := hp.later hb
          rcases hp1 with h0 | ⟨bp, op, rfl, hc⟩
          · omega
          obtain ⟨p0, p1, p2⟩ := hc j hlj
          clear hc
          have hq : ∀ ob : Obj, Below wr.heap.size wr (wr.alloc ob) := fun ob => (Below.refl _ _).alloc (Nat.le_refl _) ob
          have HI := isPlaceP_any
          cases h1 : isPlaceF (p j) (k : Int) with
          | false =>
            have HE : Hid (BadAt (fun i => patOk k M (p i) (t i)) np) := ⟨j, hlj, by simp [patOk, h1]⟩
            have HI1 := fun (w : World) => HI (p j) (k : Int) w
            simp only [h1] at HI1
            clear h1 HI
            go_wp2
            go_quiet ((go_at_call 133; exact Calls.quiet_of_same (HI1 _)))
            go_wp2
            go_ret2
            exact ⟨.bad HE.out, below_drewN (hb.alloc hb.size _) _⟩
          | true =>
            obtain ⟨x, hx, hxk⟩ : ∃ x : Nat, p j = x ∧ x < k := by
              simp [isPlaceF] at h1
              exact ⟨(p j).toNat, by omega, by omega⟩
            have HI1 := fun (w : World) => HI (x : Int) (k : Int) w
            rw [hx] at h1 p0
            simp only [h1] at HI1
            clear h1
            have htop : ∀ ob, (wr.alloc ob).cell? ⟨w.heap.size, x, none⟩ = some (.slice (A' x) (M x) (C' x)) := fun ob => cell_later (hq ob) (hO.top x hxk)
            have hMx := hM x hxk
            cases h2 : isPlaceF (t j) (M x : Int) with
            | false =>
              have HE : Hid (BadAt (fun i => patOk k M (p i) (t i)) np) := ⟨j, hlj, by simp [patOk, hx, h2]⟩
              have HI2 := fun (w : World) => HI (t j) (M x : Int) w
              simp only [h2] at HI2
              clear h2 HI
              go_wp2
              go_quiet ((first | (go_at_call_of 133 (Value.int IntKind.i64 (x : Int)); exact Calls.quiet_of_same (HI1 _)) | (go_at_call_of 133 (Value.int IntKind.i64 (t j)); exact Calls.quiet_of_same (HI2 _))))
              go_wp2
              go_ret2
              exact ⟨.bad HE.out, below_drewN (hb.alloc hb.size _) _⟩
            | true =>
              obtain ⟨y, hy, hyk⟩ : ∃ y : Nat, t j = y ∧ y < M x := by
                simp [isPlaceF] at h2
                exact ⟨(t j).toNat, by omega, by omega⟩
              have HE : Hid (∀ i, i < j + 1 → patOk k M (p i) (t i) = true) := fun i hi => by
                by_cases e : i = j
                · subst e
                  simp [patOk, hx, hy, isPlaceF, hxk, hyk]
                · exact HP.out i (by omega)
              have HI2 := fun (w : World) => HI (y : Int) (M x : Int) w
              rw [hy] at h2 p1
              simp only [h2] at HI2
              clear h2 HI
              have hO1 := fun ob => (hO.later (hq ob)).put hxk hyk (v j)
              have hadr := hO.adr x hxk (by omega)
              rw [hadr] at htop
              have hcy : ∀ ob, (wr.alloc ob).cell? ⟨G x, y, none⟩ = some (.int .i64 (putF X p t v j x y)) := fun ob => cell_later (hq ob) (hO.row x hxk y hyk)
              have hzy : ∀ ob, (wr.alloc ob).frozen? ⟨G x, y, none⟩ = false := fun ob => (hO.later (hq ob)).rfree x hxk (by omega) y
              have hown := hO.own x hxk (by omega)
              have hpf : ∀ i i', putF X p t v (j + 1) i i' = if i = x ∧ i' = y then v j else putF X p t v j i i' := fun i i' => by
                simp only [putF, hx, hy]
                by_cases e : i = x ∧ i' = y
                · rw [if_pos e, if_pos (by omega)]
                · rw [if_neg e, if_neg (by omega)]
              have HPF : Hid (∀ i i', putF X p t v (j + 1) i i' = if i = x ∧ i' = y then v j else putF X p t v j i i') := hpf
              clear hpf hO hx hy hadr
              go_wp2
              go_quiet ((first | (go_at_call_of 133 (Value.int IntKind.i64 (x : Int)); exact Calls.quiet_of_same (HI1 _)) | (go_at_call_of 133 (Value.int IntKind.i64 (y : Int)); exact Calls.quiet_of_same (HI2 _))))
              go_wp2
              go_region
              go_wp2
              go_roundw
              case rel => exact ⟨j + 1, by omega, by go_num, ((hO1 _).congr fun i _ i' _ => (HPF.out i i').symm).later (below_drewN (Below.refl _ _) _), HE, below_drewN ((hb.alloc hb.size _).setCell hown _) _⟩
              case measure => simp [intOf]; omega
        · have e : j = np := by omega
          subst e
          go_wp2
          go_ret2
          exact ⟨.ok _ _ _ _ HP.out hO, hb⟩
end Go.Proofs.YtbbhjpbacobmjaaGreatDoor

namespace Go.Proofs.YtbbhjpbacobmjaaGreatDoor
open Go.RowKit

/-- a part's three cells. -/
def partC (nm : Nat → ByteArray) (B : Nat → Int) (A : Nat → Option Addr) (M C : Nat → Nat) (i : Nat) : List Value := [.string (nm i), .int .i64 (B i), .slice (A i) (M i) (C i)]
theorem growPart {B0 : Nat} {w : World} {v : Value} {n : Nat} {xs : List Value} (s : ByteArray) (x : Int) (a : Option Addr) (m c : Nat) (hB : B0 ≤ w.heap.size) (h : w.ownsRow B0 58 3 v n xs) (hn : n < 1000) :
    ∃ v' W, (Builtin.append_ #[44, 44] 44 #[v, .slice (some ⟨w.heap.size, 0, none⟩) 1 1]).run Tryz.prog (w.alloc (.cells #[.string s, .int .i64 x, .slice a m c] 58)) = .ok v' W ∧ Grown B0 58 3 (w.alloc (.cells #[.string s, .int .i64 x, .slice a m c] 58)) v (n + 1) (xs ++ [.string s, .int .i64 x, .slice a m c]) v' W :=
  append_from 44 58 3 48 (.agg #[.string ⟨#[]⟩, .int .i64 0, .slice none 0 0]) (by kernel_rfl) (by kernel_rfl) (by rfl) (by decide) B0 _ v n _ (h.alloc _) (some ⟨w.heap.size, 0, none⟩) 1 1 [.string s, .int .i64 x, .slice a m c] rfl
    (.inr ⟨_, _, rfl, fun j u hj => by
      match j, hj with
      | 0, hj => simp at hj; subst hj; simp [go_sem]
      | 1, hj => simp at hj; subst hj; simp [go_sem]
      | 2, hj => simp at hj; subst hj; simp [go_sem]
      | j + 3, hj => simp at hj⟩) (fun u hu => by simp at hu; rcases hu with rfl | rfl | rfl <;> rfl) (by simp; omega) (by omega) (by decide)

/-- a call of Lay that returned. -/
inductive LayEnd (w : World) (B0 n : Nat) (nm : Nat → ByteArray) (B : Nat → Int) (O : Nat → ObjF) (np : Nat) (p t v : Nat → Int) : Ending → Prop
  | bad (h : BadAt (fun k => patOk n (fun i => (O i).nW) (p k) (t k)) np) : LayEnd w B0 n nm B O np p t v (.returned (.tuple #[.slice none 0 0, errV 1]))
  | ok (u : Value) (g : Nat) (A : Nat → Option Addr) (C G : Nat → Nat) (h : AllOk (fun k => patOk n (fun i => (O i).nW) (p k) (t k)) np) (ho : OutAt w B0 g n (fun i => (O i).nW) A C G (putF (fun i j => (O i).words j) p t v np))
      (hu : w.ownsRow B0 58 3 u n (joinC (partC nm B A (fun i => (O i).nW) C) n)) : LayEnd w B0 n nm B O np p t v (.returned (.tuple #[u, .nilIface]))

set_option maxRecDepth 100000 in
set_option maxHeartbeats 4000000 in
theorem lay_any (an ab al ap : Option Addr) (n cn cb cl np cp : Nat) (nm : Nat → ByteArray) (B : Nat → Int) (V : Nat → ObjV) (O : Nat → ObjF) (p t v : Nat → Int) (w : World) (hn : n ≤ 1000) (hM : ∀ i, i < n → (O i).nW ≤ 1000) (hnp : np ≤ 1000)
    (hrn : RowAt w an n fun i => .string (nm i)) (hrb : RowAt w ab n fun i => .int .i64 (B i)) (hro : ObjsRow w al n V O) (hrp : PatRow w ap np p t v) :
    Calls Tryz.prog 65 #[.slice an n cn, .slice ab n cb, .slice al n cl, .slice ap np cp] w fun e w' => LayEnd w' w.heap.size n nm B O np p t v e ∧ Below w.heap.size w w' := by
  have HW := wordsOf_any al n cl V O w hn hro
  have h1 : ((n : Int) != (n : Int)) = false := by simp
  go_enter Tryz.func65, Tryz.ntmps65
  go_wp2_with fail
  refine HW.mono ?_
  rintro e w1 ⟨⟨v1, rfl, ho1⟩, hb1⟩
  have hA : ∀ i, i < n → ObjAt w1 (V i) (O i) := fun i hi => by
    rcases hro with h0 | ⟨bk, o, _, hc⟩
    · omega
    · exact (hc i hi).here.later hb1
  obtain ⟨a1, c1, rfl, _, hl1⟩ := rows_wd ho1 hA
  have HP := put_any a1 ap n c1 np cp (fun i => (V i).aW) (fun i => (O i).nW) (fun i => (V i).cW) (fun i j => (O i).words j) p t v w1 hn hM hnp hl1 (hrp.later hb1)
  clear HW ho1 hA hl1 hro hrp
  go_wp2_with fail
  refine HP.mono ?_
  rintro e w2 ⟨he, hb2⟩
  have hb3 := hb1.trans (hb2.mono hb1.size)
  clear HP
  cases he with
  | bad h =>
    have q1 : errV 1 = .iface 127 (.int .i64 1) := rfl
    rw [q1]
    go_wp2
    go_ret2
    rw [← q1]
    exact ⟨.bad h, hb3⟩
  | ok g A C G h ho =>
    have hrn2 := hrn.later hb3
    have hrb2 := hrb.later hb3
    clear hrn hrb hb2
    go_wp2
    go_loopw [12, 40] (fun x z wr => ∃ (k : Nat) (u : Value), k ≤ n ∧ z = .int .i64 k ∧ x = u ∧ wr.ownsRow w2.heap.size 58 3 u k (joinC (partC nm B A (fun i => (O i).nW) C) k) ∧ Below w2.heap.size w2 wr) (fun _ z _ => n - (intOf z).toNat)
    case atStart => exact ⟨0, .slice none 0 0, Nat.zero_le _, rfl, rfl, World.ownsRow_nil _ _ _ _, Below.refl _ _⟩
    case round =>
      obtain ⟨k, u, hk, rfl, rfl, hu, hb⟩ := hrel
      by_cases hlt : k < n
      · have hrn3 := hrn2.later hb
        have hrb3 := hrb2.later hb
        have htop := (ho.later hb).top k hlt
        rcases hrn3 with h0 | ⟨bn, on, rfl, hcn⟩
        · omega
        rcases hrb3 with h0 | ⟨bb, ob, rfl, hcb⟩
        · omega
        have d0 := hcn k hlt
        have d1 := hcb k hlt
        have hB := hb.size
        have hu' : wr.drew.ownsRow w2.heap.size 58 3 u12 k (joinC (partC nm B A (fun i => (O i).nW) C) k) := hu
        obtain ⟨v3, W3, happ, hG⟩ := growPart (w := wr.drew) (nm k) (B k) (A k) (O k).nW (C k) hB hu' (by omega)
        have hu3 : W3.ownsRow w2.heap.size 58 3 v3 (k + 1) (joinC (partC nm B A (fun i => (O i).nW) C) (k + 1)) := hG.own
        have hb4 : Below w2.heap.size w2 W3 := (hb.drew.alloc hB _).trans hG.below
        clear hcn hcb hG hu hu' hb
        go_wp2
        go_region_law (refine step_run rfl (.tmp 45) (.tmp 56) 44 rfl u12 (.slice (some ⟨wr.heap.size, 0, none⟩) 1 1) _ rfl rfl happ ?_)
        all_goals
          go_wp2
          go_roundw
          case rel => exact ⟨k + 1, v3, by omega, by go_num, rfl, hu3, hb4⟩
          case measure => simp [intOf]; omega
      · have e : k = n := by omega
        subst e
        have hBz : w.heap.size ≤ w2.heap.size := hb3.size
        have hu2 : wr.ownsRow w.heap.size 58 3 u12 k (joinC (partC nm B A (fun i => (O i).nW) C) k) := ⟨hu.1, by
          rcases hu.2 with h | ⟨g, cap, cur, h1, h2, h3⟩
          · exact .inl h
          · exact .inr ⟨g, cap, cur, h1, Nat.le_trans hBz h2, h3⟩⟩
        have ho2 := ho.later hb
        have hw1 := hb1.size
        go_wp2
        go_ret2
        exact ⟨.ok _ g A C G h { ho2 with hB := Nat.le_trans hw1 ho2.hB, own := fun i hi hm => Nat.le_trans hw1 (ho2.own i hi hm) } hu2, hb3.trans (hb.mono hb3.size)⟩
end Go.Proofs.YtbbhjpbacobmjaaGreatDoor

namespace Go.Proofs.YtbbhjpbacobmjaaGreatDoor
open Go.RowKit Go.Maps

/-- the j-th object of a root. -/
abbrev obAt (rd : ByteArray → Nat × ObjF) (root : ByteArray) (j : Nat) : ObjF := (rd (nmAt rd root j)).2
abbrev szAt (rd : ByteArray → Nat × ObjF) (root : ByteArray) (j : Nat) : Int := ((obAt rd root j).nW : Int)
/-- the number of the error of what can't be reckoned. -/
inductive ReckIs (rd : ByteArray → Nat × ObjF) (root : ByteArray) : Nat → Prop
  | of {F : Nat} (i : Nat) (h : OfIs rd root F i) (hf : F ≠ 0) : ReckIs rd root F
  | bases {F : Nat} (m : Nat) (B : Nat → Int) (h : OfIs rd root 0 m) (hb : BasesAre m (szAt rd root) 0 (fun _ => 0) (fun _ => 0) F B) (hf : F ≠ 0) : ReckIs rd root F
  | all {F : Nat} (m : Nat) (B : Nat → Int) (P Q : ByteArray → Int) (h : OfIs rd root 0 m) (hb : BasesAre m (szAt rd root) 0 (fun _ => 0) (fun _ => 0) 0 B) (hz : ∀ j, m ≤ j → B j = 0) (hP : Finds (symsF m (obAt rd root)) P Q) (he : allF m (obAt rd root) P Q m B = F) (hf : F ≠ 0) : ReckIs rd root F
/-- what was reckoned. -/
structure Reckoned (rd : ByteArray → Nat × ObjF) (root : ByteArray) (m : Nat) (B : Nat → Int) (P Q : ByteArray → Int) : Prop where
  of : OfIs rd root 0 m
  bases : BasesAre m (szAt rd root) 0 (fun _ => 0) (fun _ => 0) 0 B
  zero : ∀ j, m ≤ j → B j = 0
  finds : Finds (symsF m (obAt rd root)) P Q
  all : allF m (obAt rd root) P Q m B = 0
theorem Finds.uniq {L : SymsF} {P Q P' Q' : ByteArray → Int} (h : Finds L P Q) (h' : Finds L P' Q') : P = P' ∧ Q = Q' :=
  ⟨funext fun s => (h'.eq (h.is s)).1, funext fun s => (h'.eq (h.is s)).2⟩
theorem bases_fun {m : Nat} {sz : Nat → Int} {B B' : Nat → Int} (h : BasesAre m sz 0 (fun _ => 0) (fun _ => 0) 0 B) (h' : BasesAre m sz 0 (fun _ => 0) (fun _ => 0) 0 B') (hz : ∀ j, m ≤ j → B j = 0) (hz' : ∀ j, m ≤ j → B' j = 0) : B = B' :=
  funext fun j => by
    by_cases e : j < m
    · exact (h.unique h').2 rfl j e
    · rw [hz j (by omega), hz' j (by omega)]
theorem ReckIs.unique {rd : ByteArray → Nat × ObjF} {root : ByteArray} {F G : Nat} (h : ReckIs rd root F) (h' : ReckIs rd root G) : F = G := by
  cases h with
  | of i h hf =>
    cases h' with
    | of i' h' hf' => exact (h.unique h').1
    | bases m' B' h' hb' hf' => exact absurd (h.unique h').1 hf
    | all m' B' P' Q' h' hb' hz' hP' he' hf' => exact absurd (h.unique h').1 hf
  | bases m B h hb hf =>
    cases h' with
    | of i' h' hf' => exact absurd (h'.unique h).1 hf'
    | bases m' B' h' hb' hf' =>
      obtain ⟨_, rfl⟩ := h.unique h'
      exact (hb.unique hb').1
    | all m' B' P' Q' h' hb' hz' hP' he' hf' =>
      obtain ⟨_, rfl⟩ := h.unique h'
      exact absurd (hb.unique hb').1 hf
  | all m B P Q h hb hz hP he hf =>
    cases h' with
    | of i' h' hf' => exact absurd (h'.unique h).1 hf'
    | bases m' B' h' hb' hf' =>
      obtain ⟨_, rfl⟩ := h.unique h'
      exact absurd (hb'.unique hb).1 hf'
    | all m' B' P' Q' h' hb' hz' hP' he' hf' =>
      obtain ⟨_, rfl⟩ := h.unique h'
      obtain rfl := bases_fun hb hb' hz hz'
      obtain ⟨rfl, rfl⟩ := hP.uniq hP'
      exact he.symm.trans he'
theorem ReckIs.not {rd : ByteArray → Nat × ObjF} {root : ByteArray} {F m : Nat} {B : Nat → Int} {P Q : ByteArray → Int} (h : ReckIs rd root F) (h' : Reckoned rd root m B P Q) : False := by
  cases h with
  | of i h hf => exact hf (h.unique h'.of).1
  | bases m B h hb hf =>
    obtain ⟨_, rfl⟩ := h.unique h'.of
    exact hf (hb.unique h'.bases).1
  | all m B P Q h hb hz hP he hf =>
    obtain ⟨_, rfl⟩ := h.unique h'.of
    obtain rfl := bases_fun hb h'.bases hz h'.zero
    obtain ⟨rfl, rfl⟩ := hP.uniq h'.finds
    exact hf (he.symm.trans h'.all)
theorem Reckoned.unique {rd : ByteArray → Nat × ObjF} {root : ByteArray} {m m' : Nat} {B B' : Nat → Int} {P Q P' Q' : ByteArray → Int} (h : Reckoned rd root m B P Q) (h' : Reckoned rd root m' B' P' Q') : m = m' ∧ B = B' ∧ P = P' ∧ Q = Q' := by
  obtain ⟨_, rfl⟩ := h.of.unique h'.of
  obtain rfl := bases_fun h.bases h'.bases h.zero h'.zero
  obtain ⟨rfl, rfl⟩ := h.finds.uniq h'.finds
  exact ⟨rfl, rfl, rfl, rfl⟩
/-- its patches. -/
abbrev patsAt (rd : ByteArray → Nat × ObjF) (root : ByteArray) (m : Nat) (B : Nat → Int) (P Q : ByteArray → Int) : List (Nat × Int × Int) := patsTo (obAt rd root) P Q B m
/-- each patch is of one of the parts, and of one of its words. -/
theorem patsOf_mem {O : Nat → ObjF} {P Q : ByteArray → Int} {B : Nat → Int} {i k : Nat} {x : Nat × Int × Int} (h : x ∈ patsOf O P Q B i k) : ∃ q, q < k ∧ x = (i, (O i).tAt q, (tieW O P Q B i q).2) := by
  induction k with
  | zero => cases h
  | succ k ih =>
    rcases List.mem_append.1 h with h | h
    · obtain ⟨q, hq, e⟩ := ih h
      exact ⟨q, by omega, e⟩
    · exact ⟨k, by omega, by simpa using h⟩
theorem patsTo_mem {O : Nat → ObjF} {P Q : ByteArray → Int} {B : Nat → Int} {m : Nat} {x : Nat × Int × Int} (h : x ∈ patsTo O P Q B m) : ∃ i q, i < m ∧ q < (O i).nT ∧ x = (i, (O i).tAt q, (tieW O P Q B i q).2) := by
  induction m with
  | zero => cases h
  | succ m ih =>
    rcases List.mem_append.1 h with h | h
    · obtain ⟨i, q, hi, hq, e⟩ := ih h
      exact ⟨i, q, by omega, hq, e⟩
    · obtain ⟨q, hq, e⟩ := patsOf_mem h
      exact ⟨m, q, by omega, hq, e⟩
/-- bases that are 0 behind the last one. -/
def cutB (m : Nat) (b : Nat → Int) : Nat → Int := fun j => if j < m then b j else 0
theorem cutB_is {m : Nat} {b : Nat → Int} {j : Nat} (h : j < m) : b j = cutB m b j := (if_pos h).symm
theorem cutB_zero {m : Nat} {b : Nat → Int} (j : Nat) (h : m ≤ j) : cutB m b j = 0 := if_neg (by omega)
theorem BasesAre.cut {m : Nat} {sz tf tm b : Nat → Int} {nt : Nat} (h : BasesAre m sz nt tf tm 0 b) : BasesAre m sz nt tf tm 0 (cutB m b) := by
  obtain ⟨h0, hl⟩ := h.laid rfl
  exact .ok _ h0 fun j hj => (hl j hj).congr fun i hi => cutB_is (by omega)
end Go.Proofs.YtbbhjpbacobmjaaGreatDoor

namespace Go.Proofs.YtbbhjpbacobmjaaGreatDoor
open Go.RowKit Go.Maps

theorem results_tmp5 {fn : Func} {t u v x y : Tmp} (h : fn.results = #[.tmp t, .tmp u, .tmp v, .tmp x, .tmp y]) (tmps : Array Value) (P : Program) (w : World) :
    (results fn tmps).run P w = .ok (.tuple #[tmps.getD t undef, tmps.getD u undef, tmps.getD v undef, tmps.getD x undef, tmps.getD y undef]) w := by
  simp [results, h]
/-- a call of Reckon that returned. -/
inductive ReckEnd (w : World) (B0 : Nat) (rd : ByteArray → Nat × ObjF) (root : ByteArray) : Ending → Prop
  | bad (F : Nat) (h : ReckIs rd root F) (hf : F ≠ 0) : ReckEnd w B0 rd root (.returned (.tuple #[.slice none 0 0, .slice none 0 0, .slice none 0 0, .slice none 0 0, errV F]))
  | ok (m : Nat) (B : Nat → Int) (P Q : ByteArray → Int) (u x b p : Value) (V : Nat → ObjV) (h : Reckoned rd root m B P Q) (hu : OwnTx w B0 u (namesAt rd root m)) (hx : ObjsIn w B0 x m V (obAt rd root))
      (hb : w.ownsRow B0 3 1 b m (joinC (intC B) m)) (hp : w.ownsRow B0 136 3 p (patsAt rd root m B P Q).length (patsC (patsAt rd root m B P Q))) : ReckEnd w B0 rd root (.returned (.tuple #[u, x, b, p, .nilIface]))
theorem ObjsIn.below {w w' : World} {B n : Nat} {x : Value} {V : Nat → ObjV} {O : Nat → ObjF} (h : ObjsIn w B x n V O) (hb : Below w.heap.size w w') : ObjsIn w' B x n V O := ⟨owns_below h.own hb, fun j hj => (h.at' j hj).later hb⟩
theorem ObjsIn.base {w : World} {B B' n : Nat} {x : Value} {V : Nat → ObjV} {O : Nat → ObjF} (h : ObjsIn w B x n V O) (hb : B' ≤ B) : ObjsIn w B' x n V O := ⟨World.ownsRow.mono h.own hb, h.at'⟩

set_option maxRecDepth 100000 in
set_option maxHeartbeats 4000000 in
theorem reckon_any (w : World) (p bm : Nat) (D : DataW Unit) (k : Nat) (T : ByteArray → ByteArray) (root : ByteArray) (h : FilesAt w p bm D k) (hI : Inv D k) (hT : Texts D T) (hE : Env w) (hroot : root.size ≤ maxLen) :
    Calls Tryz.prog 22 #[.pointer (some ⟨p, 0, none⟩), .string root] w fun e w' => ReckEnd w' w.heap.size (rdD D T) root e ∧ Below w.heap.size w w' := by
  have HO := of_any w p bm D k T root h hI hT hE hroot
  have hfew := rd_few (T := T) hI
  go_enter Tryz.func22, Tryz.ntmps22
  go_wp2_with fail
  refine HO.mono ?_
  rintro e w1 ⟨he, hb1⟩
  clear HO h hT hE hroot hI
  cases he with
  | bad F i h hf =>
    obtain ⟨z, hz⟩ := errV_pos hf
    rw [hz]
    go_wp2
    (try simp only [Exit.inBlock, Exit.then])
    refine bodyPost_ret (results_tmp5 rfl _ _ _) rfl ?_
    rw [← hz]
    exact ⟨.bad F (.of i h hf) hf, hb1⟩
  | ok m u x V h hu hx =>
    obtain ⟨hS, hlen, hnm⟩ := scope_of h hfew
    have hok : ∀ j, j < m → ObjOk (obAt (rdD D T) root j) := fun j hj => rd_ok (by rw [hS.read j hj])
    have hm6 := hS.few
    clear hS hfew hlen hnm
    obtain ⟨xa, xc, rfl, _, hrow⟩ := hx.own.row hx.at'
    have HZ := sizes_any xa m xc V (obAt (rdD D T) root) w1 (by omega) (fun i hi => by have := (hok i hi).nW; unfold maxLen; omega) hrow
    go_wp2_with fail
    refine HZ.mono ?_
    rintro e w2 ⟨⟨v2, rfl, ho2⟩, hb2⟩
    have hb12 := hb1.trans (hb2.mono hb1.size)
    obtain ⟨a2, c2, rfl, _, hr2⟩ := rows_int ho2
    have HB := bases_any (szAt (rdD D T) root) (fun _ => 0) (fun _ => 0) a2 none m c2 0 0 w2 (by unfold maxLen; omega) (by unfold maxLen; omega) hr2 (.inl rfl)
    have hu2 := owns_below hu hb2
    have hx2 := hx.below hb2
    clear HZ ho2 hr2 hu hx hrow
    go_wp2_with fail
    refine HB.mono ?_
    rintro e w3 ⟨he, hb3⟩
    have hb13 := hb12.trans (hb3.mono hb12.size)
    have hu3 := owns_below hu2 hb3
    have hx3 := hx2.below hb3
    clear HB hu2 hx2
    cases he with
    | bad F B hf hB =>
      obtain ⟨z, hz⟩ := errV_pos hf
      rw [hz]
      go_wp2
      (try simp only [Exit.inBlock, Exit.then])
      refine bodyPost_ret (results_tmp5 rfl _ _ _) rfl ?_
      rw [← hz]
      exact ⟨.bad F (.bases m B h hB hf) hf, hb13⟩
    | ok B v3 hB hv3 =>
      obtain ⟨P, Q, hP⟩ := finds_some (symsF m (obAt (rdD D T) root))
      have hBc := hB.cut
      have hz := fun j => cutB_zero (m := m) (b := B) j
      rw [joinC_congr (h := intC (cutB m B)) (fun i hi => by unfold intC; rw [← cutB_is (b := B) hi])] at hv3
      clear hB
      generalize cutB m B = B' at *
      obtain ⟨xa, xc, hxe, _, hrow⟩ := hx3.own.row hx3.at'
      cases hxe
      obtain ⟨a3, c3, rfl, _, hr3⟩ := rows_int hv3
      have HA := all_any xa a3 m xc m c3 V (obAt (rdD D T) root) B' P Q w3 (by omega) (by unfold maxLen; omega) hrow hr3 hok hP
      clear hr3 hrow
      go_wp2_with fail
      refine HA.mono ?_
      rintro e w4 ⟨he, hb4⟩
      have hb14 := hb13.trans (hb4.mono hb13.size)
      have hu4 := owns_below hu3 hb4
      have hx4 := hx3.below hb4
      have hv4 := owns_below hv3 hb4
      clear HA hu3 hx3 hv3
      cases he with
      | bad hf =>
        obtain ⟨z, hz2⟩ := errV_pos hf
        rw [hz2]
        go_wp2
        (try simp only [Exit.inBlock, Exit.then])
        refine bodyPost_ret (results_tmp5 rfl _ _ _) rfl ?_
        rw [← hz2]
        exact ⟨.bad _ (.all m B' P Q h hBc hz hP rfl hf) hf, hb14⟩
      | ok hf v4 ho4 =>
        go_wp2
        (try simp only [Exit.inBlock, Exit.then])
        refine bodyPost_ret (results_tmp5 rfl _ _ _) rfl ?_
        exact ⟨.ok m B' P Q _ _ _ _ V ⟨h, hBc, hz, hP, hf⟩ hu4 hx4 (World.ownsRow.mono hv4 hb12.size) (World.ownsRow.mono ho4 hb13.size), hb14⟩
end Go.Proofs.YtbbhjpbacobmjaaGreatDoor

namespace Go.Proofs.YtbbhjpbacobmjaaGreatDoor
open Go.RowKit Go.Maps

/-- the words of all parts, bound. -/
abbrev boundW (rd : ByteArray → Nat × ObjF) (root : ByteArray) (m : Nat) (B : Nat → Int) (P Q : ByteArray → Int) : Nat → Nat → Int :=
  putF (fun i j => (obAt rd root i).words j) (pP (patsAt rd root m B P Q)) (pT (patsAt rd root m B P Q)) (pV (patsAt rd root m B P Q)) (patsAt rd root m B P Q).length
/-- parts of the call's own. -/
structure PartsIn (w : World) (B0 : Nat) (v : Value) (n : Nat) (nm : Nat → ByteArray) (B : Nat → Int) (M : Nat → Nat) (X : Nat → Nat → Int) (g : Nat) (A : Nat → Option Addr) (C G : Nat → Nat) : Prop where
  out : OutAt w B0 g n M A C G X
  own : w.ownsRow B0 58 3 v n (joinC (partC nm B A M C) n)
/-- a call of Load that returned. -/
inductive LoadEnd (w : World) (B0 : Nat) (rd : ByteArray → Nat × ObjF) (root : ByteArray) : Ending → Prop
  | bad (F : Nat) (h : ReckIs rd root F) (hf : F ≠ 0) : LoadEnd w B0 rd root (.returned (.tuple #[.slice none 0 0, errV F]))
  | ok (m : Nat) (B : Nat → Int) (P Q : ByteArray → Int) (u : Value) (g : Nat) (A : Nat → Option Addr) (C G : Nat → Nat) (h : Reckoned rd root m B P Q)
      (hu : PartsIn w B0 u m (nmAt rd root) B (fun i => (obAt rd root i).nW) (boundW rd root m B P Q) g A C G) : LoadEnd w B0 rd root (.returned (.tuple #[u, .nilIface]))
theorem pats_ok {O : Nat → ObjF} {P Q : ByteArray → Int} {B : Nat → Int} {m : Nat} (h : ∀ j, j < m → ObjOk (O j)) : AllOk (fun k => patOk m (fun i => (O i).nW) (pP (patsTo O P Q B m) k) (pT (patsTo O P Q B m) k)) (patsTo O P Q B m).length := fun k hk => by
  have hm : (patsTo O P Q B m).getD k (0, 0, 0) ∈ patsTo O P Q B m := by
    rw [List.getD_eq_getElem?_getD, List.getElem?_eq_getElem hk]
    exact List.getElem_mem hk
  obtain ⟨i, q, hi, hq, e⟩ := patsTo_mem hm
  have ht := (h i hi).ties q hq
  show (isPlaceF ((patsTo O P Q B m).getD k (0, 0, 0)).1 (m : Int) && isPlaceF ((patsTo O P Q B m).getD k (0, 0, 0)).2.1 ((O (((patsTo O P Q B m).getD k (0, 0, 0)).1 : Int).toNat).nW : Int)) = true
  rw [e]
  show (isPlaceF (i : Int) (m : Int) && isPlaceF ((O i).tAt q) ((O (i : Int).toNat).nW : Int)) = true
  rw [Int.toNat_natCast]
  simp only [isPlaceF, Bool.and_eq_true, decide_eq_true_eq]
  omega

set_option maxRecDepth 100000 in
set_option maxHeartbeats 4000000 in
theorem load_any (w : World) (p bm : Nat) (D : DataW Unit) (k : Nat) (T : ByteArray → ByteArray) (root : ByteArray) (h : FilesAt w p bm D k) (hI : Inv D k) (hT : Texts D T) (hE : Env w) (hroot : root.size ≤ maxLen) :
    Calls Tryz.prog 19 #[.pointer (some ⟨p, 0, none⟩), .string root] w fun e w' => LoadEnd w' w.heap.size (rdD D T) root e ∧ Below w.heap.size w w' := by
  have HR := reckon_any w p bm D k T root h hI hT hE hroot
  have hfew := rd_few (T := T) hI
  go_enter Tryz.func19, Tryz.ntmps19
  go_wp2_with fail
  refine HR.mono ?_
  rintro e w1 ⟨he, hb1⟩
  clear HR h hT hE hroot hI
  cases he with
  | bad F h hf =>
    obtain ⟨z, hz⟩ := errV_pos hf
    rw [hz]
    go_wp2
    go_ret2
    rw [← hz]
    exact ⟨.bad F h hf, hb1⟩
  | ok m B P Q u x b p V h hu hx hb hp =>
    obtain ⟨hS, hlen, hnm⟩ := scope_of h.of hfew
    have hok : ∀ j, j < m → ObjOk (obAt (rdD D T) root j) := fun j hj => rd_ok (by rw [hS.read j hj])
    have hm6 := hS.few
    obtain ⟨xa, xc, rfl, _, hrow⟩ := hx.own.row hx.at'
    obtain ⟨ua, uc, rfl, _, hur⟩ := ownTx_row hu
    obtain ⟨ba, bc, rfl, _, hbr⟩ := rows_int hb
    obtain ⟨pa, pc, rfl, _, hpr⟩ := rows_pat hp
    rw [hlen] at hur ⊢
    have hur2 : RowAt w1 ua m fun i => .string (nmAt (rdD D T) root i) := by
      rcases hur with h0 | ⟨bk, o, ha, hc⟩
      · exact .inl h0
      · exact .inr ⟨bk, o, ha, fun i hi => by rw [hc i hi]; show some (Value.string _) = _; rw [hnm i hi]⟩
    have hnp : (patsAt (rdD D T) root m B P Q).length ≤ 1000 := by
      have := patsTo_le (O := obAt (rdD D T) root) P Q B (i := m) fun j hj => (hok j hj).nT
      show (patsTo (obAt (rdD D T) root) P Q B m).length ≤ 1000
      omega
    have HL := lay_any ua ba xa pa m uc bc xc (patsAt (rdD D T) root m B P Q).length pc (nmAt (rdD D T) root) B V (obAt (rdD D T) root) _ _ _ w1 (by omega) (fun i hi => by have := (hok i hi).nW; omega) hnp hur2 hbr hrow hpr
    have hpo := pats_ok (P := P) (Q := Q) (B := B) hok
    clear hur hur2 hbr hpr hrow hp hb hu hx hS hlen hnm hfew
    go_wp2_with fail
    refine HL.mono ?_
    rintro e w2 ⟨he, hb2⟩
    have hb12 := hb1.trans (hb2.mono hb1.size)
    clear HL
    cases he with
    | bad hbad => exact (hbad.not hpo).elim
    | ok u g A C G hal ho hu =>
      go_wp2
      go_ret2
      exact ⟨.ok m B P Q _ g A C G h ⟨{ ho with hB := Nat.le_trans hb1.size ho.hB, own := fun i hi hm => Nat.le_trans hb1.size (ho.own i hi hm) }, World.ownsRow.mono hu hb1.size⟩, hb12⟩
end Go.Proofs.YtbbhjpbacobmjaaGreatDoor

namespace Go.Proofs.YtbbhjpbacobmjaaGreatDoor
open Go.RowKit Go.Maps

theorem joinInt_map (f : Nat → Int) (n : Nat) : joinC (intC f) n = (List.range n).map fun i => Value.int .i64 (f i) := by
  induction n with
  | zero => rfl
  | succ n ih =>
    show joinC (intC f) n ++ intC f n = _
    rw [ih, List.range_succ, List.map_append]
    rfl
/-- a number of a row of the call's own becomes another one. -/
theorem ownInt_put {w : World} {B n c g y : Nat} {f f' : Nat → Int} (h : w.ownsRow B 3 1 (.slice (some ⟨g, 0, none⟩) n c) n (joinC (intC f) n)) (hy : y < n) (v : Int) (e : ∀ j, f' j = if j = y then v else f j) :
    (w.setCell ⟨g, y, none⟩ (.int .i64 v)).ownsRow B 3 1 (.slice (some ⟨g, 0, none⟩) n c) n (joinC (intC f') n) := by
  obtain ⟨_, h⟩ := h
  rcases h with ⟨e0, _⟩ | ⟨g', cap, cur, hv, hb, hg, hnc, hcm, hcs, htk⟩
  · cases e0
  · injection hv with hv1 hv2 hv3
    injection hv1 with hv1
    injection hv1 with hv1
    subst hv1
    subst hv3
    refine ⟨by rw [joinInt_map]; simp, .inr ⟨g, c, cur.set! y (.int .i64 v), rfl, hb, ?_, hnc, hcm, by simp [hcs], ?_⟩⟩
    · show (w.heap.modify g _)[g]? = _
      rw [Array.getElem?_modify, if_pos rfl, hg]
      rfl
    · have e1 : (cur.set! y (.int .i64 v)).toList = cur.toList.set y (.int .i64 v) := by simp
      rw [e1, List.take_set, htk, joinInt_map, joinInt_map]
      refine List.ext_getElem (by simp) fun i h1 h2 => ?_
      simp only [List.getElem_set, List.getElem_map, List.getElem_range, e]
      by_cases q : i = y
      · subst q; simp
      · rw [if_neg (fun h => q h.symm), if_neg q]
/-- parts of the call's own, by rows. -/
structure RPs (w : World) (B : Nat) (v : Value) (n : Nat) (nm : Nat → ByteArray) (Bs : Nat → Int) (A : Nat → Option Addr) (M C : Nat → Nat) (X : Nat → Nat → Int) : Prop where
  own : w.ownsRow B 58 3 v n (joinC (partC nm Bs A M C) n)
  row : ∀ i, i < n → w.ownsRow B 3 1 (.slice (A i) (M i) (C i)) (M i) (joinC (intC (X i)) (M i))
theorem RPs.later {w w' : World} {B : Nat} {v : Value} {n : Nat} {nm : Nat → ByteArray} {Bs : Nat → Int} {A : Nat → Option Addr} {M C : Nat → Nat} {X : Nat → Nat → Int} (h : RPs w B v n nm Bs A M C X) (hb : Below w.heap.size w w') : RPs w' B v n nm Bs A M C X := ⟨owns_below h.own hb, fun i hi => owns_below (h.row i hi) hb⟩
theorem RPs.base {w : World} {B B' : Nat} {v : Value} {n : Nat} {nm : Nat → ByteArray} {Bs : Nat → Int} {A : Nat → Option Addr} {M C : Nat → Nat} {X : Nat → Nat → Int} (h : RPs w B v n nm Bs A M C X) (hB : B' ≤ B) : RPs w B' v n nm Bs A M C X := ⟨World.ownsRow.mono h.own hB, fun i hi => World.ownsRow.mono (h.row i hi) hB⟩
/-- such parts, read. -/
theorem RPs.rows {w : World} {B : Nat} {v : Value} {n : Nat} {nm : Nat → ByteArray} {Bs : Nat → Int} {A : Nat → Option Addr} {M C : Nat → Nat} {X : Nat → Nat → Int} (h : RPs w B v n nm Bs A M C X) : ∃ a c, v = .slice a n c ∧ n ≤ c ∧ PartRow w a n nm Bs A M C X := by
  obtain ⟨a, c, rfl, hc⟩ := owns_shape h.own
  refine ⟨a, c, rfl, hc, ?_⟩
  by_cases h0 : n = 0
  · exact .inl h0
  · have key : ∀ i, i < n → ∀ j u, (partC nm Bs A M C i)[j]? = some u → j < 3 → ∃ g, a = some ⟨g, 0, none⟩ ∧ B ≤ g ∧ w.cell? ⟨g, i * 3 + j, none⟩ = some u := fun i hi j u hu hj =>
      owns_cell h.own (by rw [joinC_at (s := 3) (fun i _ => rfl) hi hj]; exact hu)
    obtain ⟨g0, ha, _, _⟩ := key 0 (by omega) 0 _ rfl (by omega)
    refine .inr ⟨g0, 0, ha, fun i hi => ?_⟩
    have get : ∀ j u, (partC nm Bs A M C i)[j]? = some u → j < 3 → w.cell? ⟨g0, i * 3 + j, none⟩ = some u := fun j u hu hj => by
      obtain ⟨g', ha', _, hc'⟩ := key i hi j u hu hj
      rw [ha] at ha'
      injection ha' with ha'
      injection ha' with ha'
      subst ha'
      exact hc'
    obtain ⟨a', c', e, _, hr⟩ := rows_int (h.row i hi)
    injection e with e1 _ _
    rw [← e1] at hr
    exact ⟨by rw [Nat.zero_add]; exact get 0 _ rfl (by omega), by rw [Nat.zero_add]; exact get 1 _ rfl (by omega), by rw [Nat.zero_add]; exact get 2 _ rfl (by omega), hr⟩
/-- a call of Loaded that returned. -/
inductive RLoadEnd (w : World) (B0 : Nat) (rd : ByteArray → Nat × ObjF) (root : ByteArray) : Ending → Prop
  | bad (F : Nat) (h : ReckIs rd root F) (hf : F ≠ 0) : RLoadEnd w B0 rd root (.returned (.tuple #[.slice none 0 0, .slice none 0 0, .int .i64 (F : Int)]))
  | ok (m : Nat) (Bs : Nat → Int) (P Q : ByteArray → Int) (u v : Value) (A : Nat → Option Addr) (C : Nat → Nat) (h : Reckoned rd root m Bs P Q) (hu : RPs w B0 u m (nmAt rd root) Bs A (fun i => (obAt rd root i).nW) C (boundW rd root m Bs P Q))
      (hv : w.ownsRow B0 136 3 v (patsAt rd root m Bs P Q).length (patsC (patsAt rd root m Bs P Q))) : RLoadEnd w B0 rd root (.returned (.tuple #[u, v, .int .i64 0]))
theorem int_cellsL {w : World} {a : Option Addr} {n : Nat} {f : Nat → Int} (h : RowAt w a n fun i => .int .i64 (f i)) : n = 0 ∨ ∃ b o, a = some ⟨b, o, none⟩ ∧ ∀ j u, (joinC (intC f) n)[j]? = some u → w.cell? ⟨b, o + j, none⟩ = some u := by
  rcases h with h | ⟨b, o, ha, hc⟩
  · exact .inl h
  · refine .inr ⟨b, o, ha, fun j u hj => ?_⟩
    rw [joinInt_map] at hj
    have hlt : j < n := by have := (List.getElem?_eq_some_iff.1 hj).1; simpa using this
    rw [List.getElem?_map, List.getElem?_eq_getElem (by simpa using hlt)] at hj
    simp at hj
    subst hj
    exact hc j hlt
/-- append of numbers onto nothing: a new row. -/
theorem ints_new (w : World) (a : Option Addr) (n c : Nat) (f : Nat → Int) (hr : RowAt w a n fun i => .int .i64 (f i)) (hn : n ≤ 1000) :
    ∃ v' W, (Builtin.append_ #[51, 51] 51 #[.slice none 0 0, .slice a n c]).run Tryz.prog w = .ok v' W ∧ W.ownsRow w.heap.size 3 1 v' n (joinC (intC f) n) ∧ Below w.heap.size w W := by
  obtain ⟨v', W, happ, hG⟩ := append_from 51 3 1 8 (.int .i64 0) (by kernel_rfl) (by kernel_rfl) (by rfl) (by decide) w.heap.size w (.slice none 0 0) 0 []
      (World.ownsRow_nil _ _ _ _) a n c (joinC (intC f) n) (by rw [joinC_len (fun i _ => intC_len f i)]) (int_cellsL hr) (fun u hu => by
        rw [joinInt_map] at hu
        obtain ⟨i, _, rfl⟩ := List.mem_map.1 hu
        rfl) (Nat.le_refl _) (by omega) (by decide)
  exact ⟨v', W, happ, by simpa using hG.own, hG.below⟩
theorem patOk_place {n : Nat} {M : Nat → Nat} {p t : Int} (h : patOk n M p t = true) : ∃ x y : Nat, p = x ∧ t = y ∧ x < n ∧ y < M x := by
  simp [patOk, isPlaceF] at h
  obtain ⟨⟨h1, h2⟩, h3, h4⟩ := h
  exact ⟨p.toNat, t.toNat, by omega, by omega, by omega, by omega⟩

set_option maxRecDepth 100000 in
set_option maxHeartbeats 8000000 in
theorem refLoaded_any (B : Nat) (w : World) (q : Nat) (L : List FileR) (k : Nat) (D : DataW Unit) (T : ByteArray → ByteArray) (root : ByteArray) (h : RAt B w q L k) (hL : L.length ≤ 1000) (hA : Agree D L) (hI : Inv D k) (hT : Texts D T) :
    Calls Tryz.prog 20 #[.pointer (some ⟨q, 0, none⟩), .string root] w fun e w' => RLoadEnd w' w.heap.size (rdD D T) root e ∧ Below w.heap.size w w' := by
  have HO := refScopeOf_any B w q L k D T root h hL hA hI hT
  have hfew := rd_few (T := T) hI
  have HOK : Hid (∀ s, (rdD D T s).1 = 0 → ObjOk (rdD D T s).2) := fun s h => rd_ok h
  clear h hL hA hT hI
  generalize rdD D T = rd at *
  go_enter Tryz.func20, Tryz.ntmps20
  go_wp2_with fail
  refine (show Calls _ _ _ _ _ from HO).mono ?_
  rintro e w1 ⟨he, hb1⟩
  clear HO
  cases he with
  | bad F i h hf =>
    have hpos : (0 : Int) < (F : Int) := by omega
    have HF : Hid (RLoadEnd w1 w.heap.size rd root (.returned (.tuple #[.slice none 0 0, .slice none 0 0, .int .i64 (F : Int)]))) := .bad F (.of i h hf) hf
    clear h hf hfew
    go_wp2
    go_ret3
    exact ⟨HF.out, hb1⟩
  | ok m u x V h hu hx =>
    obtain ⟨hS, hlen, hnm⟩ := scope_of h hfew
    have hok : ∀ j, j < m → ObjOk (obAt rd root j) := fun j hj => HOK.out _ (by rw [hS.read j hj])
    have hm6 := hS.few
    have hgetN : ∀ j, j < m → (namesAt rd root m).getD j ⟨#[]⟩ = nmAt rd root j := fun j hj => by
      have hr : ReadTo rd root m := by
        generalize hF : (0 : Nat) = F at h
        cases h with
        | bad _ _ _ hf => exact absurd hF.symm hf
        | ok _ h hi => exact h
      rw [List.getD_eq_getElem?_getD, names_get (Nat.le_of_lt hj) (hr j hj).1]
      rfl
    clear hS hfew hnm HOK
    obtain ⟨xa, xc, rfl, _, hrow⟩ := hx.own.row hx.at'
    go_wp2
    go_loopw [10, 11] (fun y10 y11 wr => ∃ (i : Nat) (v : Value), i ≤ m ∧ y11 = .int .i64 i ∧ y10 = v ∧ wr.ownsRow w1.heap.size 3 1 v i (joinC (intC (szAt rd root)) i) ∧ Below w1.heap.size w1 wr) (fun _ y11 _ => m - (intOf y11).toNat)
    case atStart => exact ⟨0, .slice none 0 0, Nat.zero_le _, rfl, rfl, World.ownsRow_nil _ _ _ _, Below.refl _ _⟩
    case round =>
      obtain ⟨i, v, hi, rfl, rfl, ho, hb⟩ := hrel
      by_cases hlt : i < m
      · rcases hrow.later hb with h0 | ⟨bk, o, rfl, hc⟩
        · omega
        have c1 := (hc i hlt).c1
        have hi0 : (0 : Int) ≤ (i : Int) := by omega
        have hi1 : (i : Int) < (m : Int) := by omega
        have hw4 : (rd (nmAt rd root i)).2.nW ≤ 40 := (hok i hlt).nW
        obtain ⟨v1, W1, happ1, hG1⟩ := growInt (w := wr) (((rd (nmAt rd root i)).2.nW : Nat) : Int) hb.size ho (by omega)
        have ho1 := hG1.own
        rw [joinInt (b' := szAt rd root) (fun i _ => rfl) rfl] at ho1
        have hb2 : Below w1.heap.size w1 W1 := (hb.alloc hb.size _).trans hG1.below
        clear hG1 ho hb hc
        dsimp only at c1
        generalize (rd (nmAt rd root i)).2 = ob at *
        go_wp2_with (at_builtin; refine list_run rfl (.tmp 34) (.tmp 41) 51 rfl u10 (.slice (some ⟨wr.heap.size, 0, none⟩) 1 1) _ rfl rfl happ1 ?_)
        go_roundw
        case rel => exact ⟨i + 1, v1, by omega, by go_num, rfl, ho1, hb2⟩
        case measure => simp [intOf]; omega
      · obtain rfl : i = m := by omega
        have hb12 := hb1.trans (hb.mono hb1.size)
        obtain ⟨a2, c2, rfl, _, hr2⟩ := rows_int ho
        have HB := refBases_any (szAt rd root) (fun _ => 0) (fun _ => 0) a2 none i c2 0 0 wr (by unfold maxLen; omega) (by unfold maxLen; omega) hr2 (.inl rfl)
        have hu2 := owns_below hu hb
        have hx2 := hx.below hb
        clear hu hx ho hr2 hrow
        go_wp2_with fail
        refine (show Calls _ _ _ _ _ from HB).mono ?_
        rintro e w3 ⟨he, hb3⟩
        have hb13 := hb12.trans (hb3.mono hb12.size)
        have hu3 := owns_below hu2 hb3
        have hx3 := hx2.below hb3
        clear HB hu2 hx2
        cases he with
        | bad F Bs hf hB =>
          have hpos : (0 : Int) < (F : Int) := by omega
          have HF : Hid (RLoadEnd w3 w.heap.size rd root (.returned (.tuple #[.slice none 0 0, .slice none 0 0, .int .i64 (F : Int)]))) := .bad F (.bases i Bs h hB hf) hf
          clear h hf hB hok hgetN hu3 hx3 hb3
          go_wp2
          go_ret3
          exact ⟨HF.out, hb13⟩
        | ok Bs v3 hB hv3 =>
          obtain ⟨P, Q, hP⟩ := finds_some (symsF i (obAt rd root))
          have hBc := hB.cut
          have hz := fun j => cutB_zero (m := i) (b := Bs) j
          rw [joinC_congr (h := intC (cutB i Bs)) (fun j hj => by unfold intC; rw [← cutB_is (b := Bs) hj])] at hv3
          clear hB
          generalize cutB i Bs = B' at *
          obtain ⟨xa, xc, hxe, _, hrow⟩ := hx3.own.row hx3.at'
          cases hxe
          obtain ⟨a3, c3, rfl, _, hr3⟩ := rows_int hv3
          have HA := refPatches_any xa a3 i xc i c3 V (obAt rd root) B' P Q w3 (by omega) (by unfold maxLen; omega) hrow hr3 hok hP
          clear hr3 hrow
          go_wp2_with fail
          refine (show Calls _ _ _ _ _ from HA).mono ?_
          rintro e w4 ⟨he, hb4⟩
          have hb14 := hb13.trans (hb4.mono hb13.size)
          have hu4 := owns_below hu3 hb4
          have hx4 := hx3.below hb4
          have hv4 := owns_below hv3 hb4
          clear HA hu3 hx3 hv3
          cases he with
          | bad hf =>
            have HF : Hid (RLoadEnd w4 w.heap.size rd root (.returned (.tuple #[.slice none 0 0, .slice none 0 0, .int .i64 (((allF i (obAt rd root) P Q i B' : Nat)) : Int)]))) := .bad _ (.all i B' P Q h hBc hz hP rfl hf) hf
            have hpos : (0 : Int) < ((allF i (obAt rd root) P Q i B' : Nat) : Int) := by omega
            clear h hBc hz hP hok hgetN hu4 hx4 hv4 hb4 hf
            generalize allF i (obAt rd root) P Q i B' = F at *
            go_wp2
            go_ret3
            exact ⟨HF.out, hb14⟩
          | ok hf v4 ho4 =>
            have hReck : Reckoned rd root i B' P Q := ⟨h, hBc, hz, hP, hf⟩
            have hall := pats_ok (O := obAt rd root) (P := P) (Q := Q) (B := B') (m := i) hok
            have hlenP : (patsTo (obAt rd root) P Q B' i).length ≤ 6 * i := patsTo_le (O := obAt rd root) P Q B' (i := i) fun j hj => (hok j hj).nT
            have hw40 : ∀ j, j < i → (obAt rd root j).nW ≤ 40 := fun j hj => (hok j hj).nW
            have HFIN : Hid (∀ (W : World) (u v : Value) (A : Nat → Option Addr) (C : Nat → Nat), RPs W w.heap.size u i (nmAt rd root) B' A (fun j => (obAt rd root j).nW) C (fun a b => putF (fun a b => (obAt rd root a).words b) (pP (patsTo (obAt rd root) P Q B' i)) (pT (patsTo (obAt rd root) P Q B' i)) (pV (patsTo (obAt rd root) P Q B' i)) (patsTo (obAt rd root) P Q B' i).length a b) → W.ownsRow w.heap.size 136 3 v (patsTo (obAt rd root) P Q B' i).length (patsC (patsTo (obAt rd root) P Q B' i)) → RLoadEnd W w.heap.size rd root (.returned (.tuple #[u, v, .int .i64 0]))) := fun W u v A C hu hv => .ok i B' P Q u v A C hReck hu hv
            obtain ⟨xa4, xc4, hxe4, _, hrow40⟩ := hx4.own.row hx4.at'
            cases hxe4
            have hrow4 : ObjsRow w4 xa i V (obAt rd root) := hrow40
            clear hrow40
            obtain ⟨a4, c4, e4, _, hr4⟩ := rows_int hv4
            cases e4
            obtain ⟨aq, cq, rfl, _, hrq⟩ := rows_pat ho4
            obtain ⟨au, cu, rfl, _, hru⟩ := ownTx_row hu4
            rw [hlen] at hru
            rw [hlen]
            clear h hBc hz hP hf hok hReck hx4 hv4 hu4
            have hPO := ho4
            clear ho4
            generalize patsTo (obAt rd root) P Q B' i = pl at *
            generalize obAt rd root = O at *
            go_wp2
            go_loopw [14, 15, 16, 17] (fun y14 y15 _ _ wx => ∃ (r : Nat) (v : Value) (A : Nat → Option Addr) (C : Nat → Nat), r ≤ i ∧ y15 = .int .i64 r ∧ y14 = v ∧ RPs wx w4.heap.size v r (nmAt rd root) B' A (fun j => (O j).nW) C (fun a b => putF (fun a b => (O a).words b) (pP pl) (pT pl) (pV pl) pl.length a b) ∧ Below w4.heap.size w4 wx) (fun _ y15 _ _ _ => i - (intOf y15).toNat)
            case atStart => exact ⟨0, .slice none 0 0, fun _ => none, fun _ => 0, Nat.zero_le _, rfl, rfl, ⟨World.ownsRow_nil _ _ _ _, fun j hj => by omega⟩, Below.refl _ _⟩
            case round =>
              obtain ⟨r, v, A, C, hr, rfl, rfl, hRP, hbr⟩ := hrel
              by_cases hlr : r < i
              · rcases hrow4.later hbr with h0 | ⟨bk, o, rfl, hc⟩
                · omega
                rcases hru.later hbr with h0 | ⟨bu, fu, rfl, hcu⟩
                · omega
                rcases hr4.later hbr with h0 | ⟨b4, f4, rfl, hc4⟩
                · omega
                have H := hc r hlr
                have c1 := H.c1
                have cn : wr.cell? ⟨bu, fu + r, none⟩ = some (.string (nmAt rd root r)) := by rw [hcu r hlr]; show some (Value.string _) = some (Value.string _); rw [hgetN r hlr]
                have cb : wr.cell? ⟨b4, f4 + r, none⟩ = some (.int .i64 (B' r)) := hc4 r hlr
                have hr0 : (0 : Int) ≤ (r : Int) := by omega
                have hr1 : (r : Int) < (i : Int) := by omega
                have hw := hw40 r hlr
                obtain ⟨v1, W1, happ1, hO1, hbW1⟩ := ints_new wr (V r).aW (O r).nW (V r).cW (fun j => (O r).words j) H.here.words (by omega)
                obtain ⟨aw, cw, rfl, _⟩ := owns_shape hO1
                have hBr : w4.heap.size ≤ wr.heap.size := hbr.size
                clear H hc hcu hc4
                obtain ⟨wq, rfl⟩ : ∃ W, W = wr := ⟨_, rfl⟩
                obtain ⟨vo, rfl⟩ : ∃ v, v = u14 := ⟨_, rfl⟩
                go_wp2_with (at_builtin; refine list_run rfl (.const (.slice none 0 0)) (.tmp 70) 51 rfl (.slice none 0 0) (.slice (V r).aW (O r).nW (V r).cW) _ rfl rfl happ1 ?_)
                clear happ1 c1
                go_loopw [17] (fun y17 wy => ∃ z : Nat, z ≤ pl.length ∧ y17 = .int .i64 z ∧ wy.ownsRow wq.heap.size 3 1 (.slice aw (O r).nW cw) (O r).nW (joinC (intC fun j => putF (fun a b => (O a).words b) (pP pl) (pT pl) (pV pl) z r j) (O r).nW) ∧ Below wq.heap.size wq wy) (fun y17 _ => pl.length - (intOf y17).toNat)
                case atStart => exact ⟨0, Nat.zero_le _, rfl, hO1, hbW1⟩
                case round =>
                  clear hO1 hbW1
                  obtain ⟨z, hz, rfl, hOz, hbz⟩ := hrel
                  have hb4z := hbr.trans (hbz.mono hbr.size)
                  by_cases hlz : z < pl.length
                  · rcases hrq.later hb4z with h0 | ⟨bp, op, rfl, hcp⟩
                    · omega
                    obtain ⟨p0, p1, p2⟩ := hcp z hlz
                    have hz0 : (0 : Int) ≤ (z : Int) := by omega
                    have hz1 : (z : Int) < (pl.length : Int) := by omega
                    clear hcp
                    by_cases e1 : pP pl z = (r : Int)
                    · have e1' : (pP pl z == (r : Int)) = true := by simp [e1]
                      obtain ⟨x, y, hx, hy, hxi, hyM⟩ := patOk_place (hall z hlz)
                      obtain rfl : x = r := by omega
                      rw [hy] at p1
                      obtain ⟨gw, hgw, hgB, hcy⟩ : ∃ gw, aw = some ⟨gw, 0, none⟩ ∧ wq.heap.size ≤ gw ∧ wr.cell? ⟨gw, y, none⟩ = some (.int .i64 (putF (fun a b => (O a).words b) (pP pl) (pT pl) (pV pl) z x y)) := owns_cell hOz (by rw [joinInt_map, List.getElem?_map, List.getElem?_eq_getElem (by simpa using hyM)]; simp)
                      subst hgw
                      have hfz : wr.frozen? ⟨gw, y, none⟩ = false := by
                        rcases hOz.2 with ⟨e0, _⟩ | ⟨g', cap, cur, hv, _, hg, _⟩
                        · cases e0
                        · injection hv with hv1 _ _
                          injection hv1 with hv1
                          injection hv1 with hv1
                          subst hv1
                          simp [World.frozen?, hg]
                      have hO2 := ownInt_put hOz hyM (pV pl z) (f' := fun j => putF (fun a b => (O a).words b) (pP pl) (pT pl) (pV pl) (z + 1) x j) (fun j => by
                        show (if pP pl z = (x : Int) ∧ pT pl z = (j : Int) then pV pl z else putF (fun a b => (O a).words b) (pP pl) (pT pl) (pV pl) z x j) = _
                        by_cases e : j = y
                        · rw [if_pos ⟨e1, by rw [hy, e]⟩, if_pos e]
                        · rw [if_neg (fun h => e (by have := h.2; omega)), if_neg e])
                      have hb2 := hbz.setCell (p := ⟨gw, y, none⟩) hgB (.int .i64 (pV pl z))
                      have hy0 : (0 : Int) ≤ (y : Int) := by omega
                      have hy1 : (y : Int) < ((O x).nW : Int) := by omega
                      clear e1 hx hy hOz hbz hb4z
                      go_wp2
                      go_region
                      go_wp2
                      go_roundw
                      case rel => exact ⟨z + 1, by omega, by go_num, hO2, below_drewN hb2 _⟩
                      case measure => simp [intOf]; omega
                    · have e1' : (pP pl z == (r : Int)) = false := by rw [beq_eq_false_iff_ne]; exact e1
                      have hO2 : wr.ownsRow wq.heap.size 3 1 (.slice aw (O r).nW cw) (O r).nW (joinC (intC fun j => putF (fun a b => (O a).words b) (pP pl) (pT pl) (pV pl) (z + 1) r j) (O r).nW) := by
                        rw [joinC_congr (h := intC fun j => putF (fun a b => (O a).words b) (pP pl) (pT pl) (pV pl) z r j) (fun j _ => by unfold intC; simp only [putF]; rw [if_neg (fun h => e1 h.1)])]
                        exact hOz
                      clear e1 hOz
                      go_wp2
                      go_roundw
                      case rel => exact ⟨z + 1, by omega, by go_num, hO2, hbz⟩
                      case measure => simp [intOf]; omega
                  · obtain rfl : z = pl.length := by omega
                    have cn' := cell_later hbz cn
                    have cb' := cell_later hbz cb
                    clear cn cb hrq hrow4 hru hr4
                    have hRPz := hRP.later hbz
                    clear hRP
                    go_upto_region 25 with fail
                    have hOz' : wr.drew.ownsRow wq.heap.size 3 1 (.slice aw (O r).nW cw) (O r).nW (joinC (intC fun j => putF (fun a b => (O a).words b) (pP pl) (pT pl) (pV pl) pl.length r j) (O r).nW) := hOz
                    have hRPd : RPs wr.drew w4.heap.size vo r (nmAt rd root) B' A (fun j => (O j).nW) C (fun a b => putF (fun a b => (O a).words b) (pP pl) (pT pl) (pV pl) pl.length a b) := ⟨hRPz.own, hRPz.row⟩
                    have hbd := hbz.trans ((Below.refl _ wr).drew.mono hbz.size)
                    have hSS : (fun w' : World => w'.cell? ⟨bu, fu + r, none⟩ = some (.string (nmAt rd root r)) ∧ w'.cell? ⟨b4, f4 + r, none⟩ = some (.int .i64 (B' r))) wr.drew := ⟨cn', cb'⟩
                    refine wp_region_G (fun w' : World => w'.cell? ⟨bu, fu + r, none⟩ = some (.string (nmAt rd root r)) ∧ w'.cell? ⟨b4, f4 + r, none⟩ = some (.int .i64 (B' r))) 12 14 (by kernel_rfl) rfl ?_
                    clear hOz hRPz hbz cn' cb' hb4z
                    generalize wr.drew = wd at *
                    refine takeW 0 (v := ?v1) rfl (by kernel_rfl) (by kernel_rfl) (by kernel_rfl) (by kernel_rfl) (fun _ _ _ h => h) (.inr hSS) (.inl ⟨by rfl, fun w => ?hy1⟩) ?rest1
                    case hy1 => (go_simp <;> with_reducible rfl)
                    simp only [Go.Act.put, List.setIfInBounds_toArray, List.set_cons_zero, List.set_cons_succ]
                    refine takeW 1 (v := ?v2) rfl (by kernel_rfl) (by kernel_rfl) (by kernel_rfl) (by kernel_rfl) (fun _ _ _ h => h) (.inr hSS) (.inl ⟨by rfl, fun w => ?hy2⟩) ?rest2
                    case hy2 => (go_simp <;> with_reducible rfl)
                    simp only [Go.Act.put, List.setIfInBounds_toArray, List.set_cons_zero, List.set_cons_succ]
                    refine takeW 2 (v := ?v3) rfl (by kernel_rfl) (by kernel_rfl) (by kernel_rfl) (by kernel_rfl) (fun _ _ _ h => h) (.inr hSS) (.inl ⟨by rfl, fun w => ?hy3⟩) ?rest3
                    case hy3 => (go_simp <;> with_reducible rfl)
                    simp only [Go.Act.put, List.setIfInBounds_toArray, List.set_cons_zero, List.set_cons_succ]
                    refine takeW 3 (v := ?v4) rfl (by kernel_rfl) (by kernel_rfl) (by kernel_rfl) (by kernel_rfl) (fun _ _ _ h => h) (.inr hSS) (.inl ⟨by rfl, fun w => ?hy4⟩) ?rest4
                    case hy4 => (go_simp <;> with_reducible rfl)
                    simp only [Go.Act.put, List.setIfInBounds_toArray, List.set_cons_zero, List.set_cons_succ]
                    refine takeW 5 (v := ?v5) rfl (by kernel_rfl) (by kernel_rfl) (by kernel_rfl) (by kernel_rfl) (fun _ _ _ h => h) (.inr hSS) (.inl ⟨by rfl, fun w => ?hy5⟩) ?rest5
                    case hy5 => (go_simp <;> with_reducible rfl)
                    simp only [Go.Act.put, List.setIfInBounds_toArray, List.set_cons_zero, List.set_cons_succ]
                    refine takeW 6 (v := ?v6) rfl (by kernel_rfl) (by kernel_rfl) (by kernel_rfl) (by kernel_rfl) (fun _ _ _ h => h) (.inr hSS) (.inl ⟨by rfl, fun w => ?hy6⟩) ?rest6
                    case hy6 => (go_simp <;> with_reducible rfl)
                    simp only [Go.Act.put, List.setIfInBounds_toArray, List.set_cons_zero, List.set_cons_succ]
                    refine takeW 7 (v := ?v7) rfl (by kernel_rfl) (by kernel_rfl) (by kernel_rfl) (by kernel_rfl) (fun _ _ _ h => h) (.inr hSS) (.inl ⟨by rfl, fun w => ?hy7⟩) ?rest7
                    case hy7 => (go_simp <;> with_reducible rfl)
                    simp only [Go.Act.put, List.setIfInBounds_toArray, List.set_cons_zero, List.set_cons_succ]
                    refine takeW 9 (v := ?v8) rfl (by kernel_rfl) (by kernel_rfl) (by kernel_rfl) (by kernel_rfl) (fun _ _ _ h => h) (.inr hSS) (.inl ⟨by rfl, fun w => ?hy8⟩) ?rest8
                    case hy8 => (go_simp <;> with_reducible rfl)
                    simp only [Go.Act.put, List.setIfInBounds_toArray, List.set_cons_zero, List.set_cons_succ]
                    refine takeR 4 [11, 10] (v := ?v9) rfl (by kernel_rfl) (by kernel_rfl) (by kernel_rfl) (by kernel_rfl) (by kernel_rfl) (fun _ _ _ h => h) hSS (.inl ⟨by rfl, fun w hSw => ?hy9⟩) ?rest9
                    case hy9 => ((try dsimp only at hSw); go_simp <;> with_reducible rfl)
                    simp only [Go.Act.put, List.setIfInBounds_toArray, List.set_cons_zero, List.set_cons_succ]
                    refine takeR 8 [11, 10] (v := ?v10) rfl (by kernel_rfl) (by kernel_rfl) (by kernel_rfl) (by kernel_rfl) (by kernel_rfl) (fun _ _ _ h => h) hSS (.inl ⟨by rfl, fun w hSw => ?hy10⟩) ?rest10
                    case hy10 => ((try dsimp only at hSw); go_simp <;> with_reducible rfl)
                    simp only [Go.Act.put, List.setIfInBounds_toArray, List.set_cons_zero, List.set_cons_succ]
                    refine takeW 10 (v := ?v11) rfl (by kernel_rfl) (by kernel_rfl) (by kernel_rfl) (by kernel_rfl) (fun _ _ _ h => h) (.inr hSS) (.inl ⟨by rfl, fun w => ?hy11⟩) ?rest11
                    case hy11 => (go_simp <;> with_reducible rfl)
                    simp only [Go.Act.put, List.setIfInBounds_toArray, List.set_cons_zero, List.set_cons_succ]
                    obtain ⟨v2, W2, happ2, hG2⟩ := growPart (w := wd) (nmAt rd root r) (B' r) aw (O r).nW cw (Nat.le_trans hBr hbd.size) hRPd.own (by omega)
                    have hbal : Below wd.heap.size wd (wd.alloc (.cells #[.string (nmAt rd root r), .int .i64 (B' r), .slice aw (O r).nW cw] 58)) := (Below.refl _ _).alloc (Nat.le_refl _) _
                    have hRP3 : RPs W2 w4.heap.size v2 (r + 1) (nmAt rd root) B' (fun j => if j = r then aw else A j) (fun j => (O j).nW) (fun j => if j = r then cw else C j) (fun a b => putF (fun a b => (O a).words b) (pP pl) (pT pl) (pV pl) pl.length a b) := by
                      refine ⟨?_, fun j hj => ?_⟩
                      · show W2.ownsRow w4.heap.size 58 3 v2 (r + 1) (joinC (partC (nmAt rd root) B' (fun j => if j = r then aw else A j) (fun j => (O j).nW) (fun j => if j = r then cw else C j)) r ++ partC (nmAt rd root) B' (fun j => if j = r then aw else A j) (fun j => (O j).nW) (fun j => if j = r then cw else C j) r)
                        rw [joinC_congr (h := partC (nmAt rd root) B' A (fun j => (O j).nW) C) (fun j hj => by unfold partC; simp only [if_neg (show j ≠ r by omega)])]
                        have := hG2.own
                        unfold partC
                        simp only [if_pos]
                        exact this
                      · by_cases e : j = r
                        · subst e
                          simp only [if_pos]
                          exact World.ownsRow.mono ((hOz'.alloc _).kept hG2.grown (ownsSep hOz' hRPd.own (by decide))) hBr
                        · simp only [if_neg e]
                          exact ((hRPd.row j (by omega)).alloc _).kept hG2.grown (ownsSep (hRPd.row j (by omega)) hRPd.own (by decide))
                    have hb5 : Below w4.heap.size w4 W2 := ((hbr.trans (hbd.mono hbr.size)).trans (hbal.mono (Nat.le_trans hBr hbd.size))).trans hG2.below
                    clear hG2
                    refine onlyG 11 rfl (by kernel_rfl) (fun K hK => ?_)
                    go_wp2_with fail
                    refine hK _ _ ⟨cell_later hbal hSS.1, cell_later hbal hSS.2⟩ ?_
                    clear hK hSS hbal hOz' hRPd hbd
                    refine lastG 12 rfl (by kernel_rfl) (by kernel_rfl) (fun K hK => ?_)
                    go_wp2_with (at_builtin; refine list_run rfl (.tmp 97) (.tmp 108) 44 rfl _ _ _ rfl rfl happ2 ?_)
                    refine hK _ _ ?_
                    clear hK happ2
                    refine takeW 13 (v := ?v14) rfl (by kernel_rfl) (by kernel_rfl) (by kernel_rfl) (by kernel_rfl) (fun _ _ _ h => h) (.inl (by kernel_rfl)) (.inl ⟨by rfl, fun w => ?hy14⟩) ?rest14
                    case hy14 => (go_simp <;> with_reducible rfl)
                    simp only [Go.Act.put, List.setIfInBounds_toArray, List.set_cons_zero, List.set_cons_succ]
                    refine doneG (by kernel_rfl) ?_ _
                    go_wp2
                    go_roundw
                    case rel => exact ⟨r + 1, v2, _, _, by omega, by go_num, rfl, hRP3, hb5⟩
                    case measure => simp [intOf]; omega
              · obtain rfl : r = i := by omega
                have hpo := World.ownsRow.mono (owns_below hPO hbr) hb13.size
                have hFN : Hid (RLoadEnd wr w.heap.size rd root (.returned (.tuple #[u14, .slice aq pl.length cq, .int .i64 0]))) := HFIN.out wr u14 (.slice aq pl.length cq) A C (hRP.base hb14.size) hpo
                have hbz := hb14.trans (hbr.mono hb14.size)
                clear HFIN hRP hpo hPO hrq hrow4 hru hr4 hbr
                go_wp2
                go_ret3
                exact ⟨hFN.out, hbz⟩
end Go.Proofs.YtbbhjpbacobmjaaGreatDoor
