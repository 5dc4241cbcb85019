/-
  What sizes and wordsOf of package image return, for every list of objects; memory that was there stays as it was.
-/
import Derived.Test.YtidabcoodolddaaGreatDoorGrowInts
import Derived.Test.YtidabcoodolddaaGreatDoorAtAll
namespace Go.Proofs.YtidabcoodolddaaGreatDoor
open Go.RowKit

set_option maxHeartbeats 2000000 in
theorem sizes_any (a : Option Addr) (n c : Nat) (V : Nat → ObjV) (O : Nat → ObjF) (w : World) (hn : n ≤ 1000) (hm : ∀ i, i < n → (O i).nW ≤ maxLen) (hr : ObjsRow w a n V O) :
    Calls Tryz.prog 54 #[.slice a n c] w fun e w' => (∃ v, e = .returned v ∧ w'.ownsRow w.heap.size 3 1 v n (joinC (intC fun i => ((O i).nW : Int)) n)) ∧ Below w.heap.size w w' := by
  go_enter Tryz.func54, Tryz.ntmps54
  go_wp2
  go_loopw [3, 8] (fun x z wr => ∃ (k : Nat) (v : Value), k ≤ n ∧ z = .int .i64 k ∧ x = v ∧ wr.ownsRow w.heap.size 3 1 v k (joinC (intC fun i => ((O i).nW : Int)) k) ∧ Below w.heap.size w wr) (fun _ z _ => n - (intOf z).toNat)
  case atStart => exact ⟨0, .slice none 0 0, Nat.zero_le _, rfl, rfl, World.ownsRow_nil _ _ _ _, Below.refl _ _⟩
  case round =>
    obtain ⟨k, v, hk, rfl, rfl, ho, hb⟩ := hrel
    by_cases hlt : k < n
    · have hr1 := hr.later hb
      rcases hr1 with h0 | ⟨bk, o, rfl, hc⟩
      · omega
      have H := hc k hlt
      have c0 := H.c0
      have c1 := H.c1
      have c2 := H.c2
      have c3 := H.c3
      have hmk := hm k hlt
      unfold maxLen at hmk
      have hB := hb.size
      clear hc H
      obtain ⟨v1, W1, happ1, hG1⟩ := growInt (w := wr.alloc (.cells #[.slice (V k).aN (O k).nN (V k).cN, .slice (V k).aW (O k).nW (V k).cW, .slice (V k).aS (O k).nS (V k).cS, .slice (V k).aT (O k).nT (V k).cT] 93)) ((O k).nW : Int) (by simp; omega) (ho.alloc _) (by omega)
      have e1 : (wr.alloc (.cells #[.slice (V k).aN (O k).nN (V k).cN, .slice (V k).aW (O k).nW (V k).cW, .slice (V k).aS (O k).nS (V k).cS, .slice (V k).aT (O k).nT (V k).cT] 93)).heap.size = wr.heap.size + 1 := by simp
      rw [e1] at happ1
      have ho1 := hG1.own
      rw [joinInt (b' := fun i => ((O i).nW : Int)) (fun i _ => rfl) rfl] at ho1
      have hb1 : Below w.heap.size w W1 := ((hb.alloc hB _).alloc (by simp; omega) _).trans hG1.below
      clear hG1 ho e1 hb
      go_wp2_with (at_builtin; refine list_run rfl (.tmp 12) (.tmp 16) 45 rfl u3 (.slice (some ⟨wr.heap.size + 1, 0, none⟩) 1 1) _ rfl rfl happ1 ?_)
      go_roundw
      case rel => exact ⟨k + 1, v1, by omega, by go_num, rfl, ho1, hb1⟩
      case measure => simp [intOf]; omega
    · have e : k = n := by omega
      subst e
      go_wp2
      go_ret
      exact ⟨⟨_, rfl, ho⟩, hb⟩

/-- the cell of an object's words. -/
def wdC (V : Nat → ObjV) (O : Nat → ObjF) (i : Nat) : List Value := [.slice (V i).aW (O i).nW (V i).cW]
theorem wdC_len (V : Nat → ObjV) (O : Nat → ObjF) (i : Nat) : (wdC V O i).length = 1 := rfl
/-- one list more. -/
theorem growWd {B : Nat} {w : World} {v : Value} {n : Nat} {xs : List Value} (a : Option Addr) (m c : Nat) (hB : B ≤ w.heap.size) (h : w.ownsRow B 45 1 v n xs) (hn : n < 1000000) :
    ∃ v' W, (Builtin.append_ #[126, 126] 126 #[v, .slice (some ⟨w.heap.size, 0, none⟩) 1 1]).run Tryz.prog (w.alloc (.cells #[.slice a m c] 45)) = .ok v' W ∧ Grown B 45 1 (w.alloc (.cells #[.slice a m c] 45)) v (n + 1) (xs ++ [.slice a m c]) v' W :=
  append_from 126 45 1 24 (.slice none 0 0) (by kernel_rfl) (by kernel_rfl) (by rfl) (by decide) B _ v n _ (h.alloc _) (some ⟨w.heap.size, 0, none⟩) 1 1 [.slice a m c] rfl
    (.inr ⟨_, _, rfl, fun j u hj => by
      match j, hj with
      | 0, hj => simp at hj; subst hj; simp [go_sem]
      | j + 1, hj => simp at hj⟩) (fun u hu => by simp at hu; subst hu; rfl) (by simp; omega) (by omega) (by decide)
theorem rows_wd {w : World} {B : Nat} {e : TypeId} {v : Value} {n : Nat} {V : Nat → ObjV} {O : Nat → ObjF} (h : w.ownsRow B e 1 v n (joinC (wdC V O) n)) (hA : ∀ i, i < n → ObjAt w (V i) (O i)) : ∃ a c, v = .slice a n c ∧ n ≤ c ∧ ListsRow w a n (fun i => (V i).aW) (fun i => (O i).nW) (fun i => (V i).cW) (fun i j => (O i).words j) := by
  obtain ⟨a, c, rfl, hc⟩ := owns_shape h
  refine ⟨a, c, rfl, hc, ?_⟩
  by_cases h0 : n = 0
  · exact .inl h0
  · have key : ∀ i, i < n → ∃ g, a = some ⟨g, 0, none⟩ ∧ B ≤ g ∧ w.cell? ⟨g, i, none⟩ = some (.slice (V i).aW (O i).nW (V i).cW) := fun i hi =>
      owns_cell h (by have := joinC_at (g := wdC V O) (s := 1) (n := n) (i := i) (j := 0) (fun i _ => wdC_len V O i) hi (by omega); simpa [wdC] using this)
    obtain ⟨g, ha, _, _⟩ := key 0 (by omega)
    refine .inr ⟨g, 0, ha, fun i hi => ⟨?_, (hA i hi).words⟩⟩
    obtain ⟨g1, ha1, _, h1⟩ := key i hi
    rw [ha] at ha1
    injection ha1 with ha1
    injection ha1 with ha1
    subst ha1
    simpa using h1

set_option maxHeartbeats 2000000 in
theorem wordsOf_any (a : Option Addr) (n c : Nat) (V : Nat → ObjV) (O : Nat → ObjF) (w : World) (hn : n ≤ 1000) (hr : ObjsRow w a n V O) :
    Calls Tryz.prog 57 #[.slice a n c] w fun e w' => (∃ v, e = .returned v ∧ w'.ownsRow w.heap.size 45 1 v n (joinC (wdC V O) n)) ∧ Below w.heap.size w w' := by
  go_enter Tryz.func57, Tryz.ntmps57
  go_wp2
  go_loopw [3, 8] (fun x z wr => ∃ (k : Nat) (v : Value), k ≤ n ∧ z = .int .i64 k ∧ x = v ∧ wr.ownsRow w.heap.size 45 1 v k (joinC (wdC V O) k) ∧ Below w.heap.size w wr) (fun _ z _ => n - (intOf z).toNat)
  case atStart => exact ⟨0, .slice none 0 0, Nat.zero_le _, rfl, rfl, World.ownsRow_nil _ _ _ _, Below.refl _ _⟩
  case round =>
    obtain ⟨k, v, hk, rfl, rfl, ho, hb⟩ := hrel
    by_cases hlt : k < n
    · have hr1 := hr.later hb
      rcases hr1 with h0 | ⟨bk, o, rfl, hc⟩
      · omega
      have H := hc k hlt
      have c0 := H.c0
      have c1 := H.c1
      have c2 := H.c2
      have c3 := H.c3
      have hB := hb.size
      clear hc H
      obtain ⟨v1, W1, happ1, hG1⟩ := growWd (w := wr.alloc (.cells #[.slice (V k).aN (O k).nN (V k).cN, .slice (V k).aW (O k).nW (V k).cW, .slice (V k).aS (O k).nS (V k).cS, .slice (V k).aT (O k).nT (V k).cT] 93)) (V k).aW (O k).nW (V k).cW (by simp; omega) (ho.alloc _) (by omega)
      have e1 : (wr.alloc (.cells #[.slice (V k).aN (O k).nN (V k).cN, .slice (V k).aW (O k).nW (V k).cW, .slice (V k).aS (O k).nS (V k).cS, .slice (V k).aT (O k).nT (V k).cT] 93)).heap.size = wr.heap.size + 1 := by simp
      rw [e1] at happ1
      have ho1 : W1.ownsRow w.heap.size 45 1 v1 (k + 1) (joinC (wdC V O) (k + 1)) := hG1.own
      have hb1 : Below w.heap.size w W1 := ((hb.alloc hB _).alloc (by simp; omega) _).trans hG1.below
      clear hG1 ho e1 hb
      go_wp2_with (at_builtin; refine list_run rfl (.tmp 12) (.tmp 15) 126 rfl u3 (.slice (some ⟨wr.heap.size + 1, 0, none⟩) 1 1) _ rfl rfl happ1 ?_)
      go_roundw
      case rel => exact ⟨k + 1, v1, by omega, by go_num, rfl, ho1, hb1⟩
      case measure => simp [intOf]; omega
    · have e : k = n := by omega
      subst e
      go_wp2
      go_ret
      exact ⟨⟨_, rfl, ho⟩, hb⟩

/-- the n parts behind 'a': name, base, words. -/
def PartRow (w : World) (a : Option Addr) (n : Nat) (nm : Nat → ByteArray) (B : Nat → Int) (A : Nat → Option Addr) (M C : Nat → Nat) (X : Nat → Nat → Int) : Prop :=
  n = 0 ∨ ∃ bk o, a = some ⟨bk, o, none⟩ ∧ ∀ i, i < n → w.cell? ⟨bk, o + i * 3, none⟩ = some (.string (nm i)) ∧ w.cell? ⟨bk, o + i * 3 + 1, none⟩ = some (.int .i64 (B i)) ∧ w.cell? ⟨bk, o + i * 3 + 2, none⟩ = some (.slice (A i) (M i) (C i)) ∧ RowAt w (A i) (M i) fun j => .int .i64 (X i j)
theorem PartRow.later {w w' : World} {a : Option Addr} {n : Nat} {nm : Nat → ByteArray} {B : Nat → Int} {A : Nat → Option Addr} {M C : Nat → Nat} {X : Nat → Nat → Int} (h : PartRow w a n nm B A M C X) (hb : Below w.heap.size w w') : PartRow w' a n nm B A M C X := by
  rcases h with h | ⟨bk, o, ha, hc⟩
  · exact .inl h
  · exact .inr ⟨bk, o, ha, fun i hi => ⟨cell_later hb (hc i hi).1, cell_later hb (hc i hi).2.1, cell_later hb (hc i hi).2.2.1, (hc i hi).2.2.2.later hb⟩⟩
/-- a part has a place. -/
def hasB (B : Nat → Int) (M : Nat → Nat) (at' : Int) (i : Nat) : Bool := decide (B i ≤ at') && decide (at' < B i + M i)
end Go.Proofs.YtidabcoodolddaaGreatDoor
