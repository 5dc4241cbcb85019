/-
  What Lay of package image returns: parts, their words patched; or the number of the error; memory that was there stays as it was.
-/
import Derived.Test.YtidabcoodolddaaGreatDoorImageSmall
import Derived.Test.YtidabcoodolddaaGreatDoorPutBoth
import Derived.Deep.RegionLaw
import Derived.RegionTactic
import Derived.BigRegion
namespace Go.Proofs.YtidabcoodolddaaGreatDoor
open Go.RowKit

/-- a part's three cells. -/
def partC (nm : Nat → ByteArray) (B : Nat → Int) (A : Nat → Option Addr) (M C : Nat → Nat) (i : Nat) : List Value := [.string (nm i), .int .i64 (B i), .slice (A i) (M i) (C i)]
theorem growPart {B0 : Nat} {w : World} {v : Value} {n : Nat} {xs : List Value} (s : ByteArray) (x : Int) (a : Option Addr) (m c : Nat) (hB : B0 ≤ w.heap.size) (h : w.ownsRow B0 86 3 v n xs) (hn : n < 1000) :
    ∃ v' W, (Builtin.append_ #[30, 30] 30 #[v, .slice (some ⟨w.heap.size, 0, none⟩) 1 1]).run Tryz.prog (w.alloc (.cells #[.string s, .int .i64 x, .slice a m c] 86)) = .ok v' W ∧ Grown B0 86 3 (w.alloc (.cells #[.string s, .int .i64 x, .slice a m c] 86)) v (n + 1) (xs ++ [.string s, .int .i64 x, .slice a m c]) v' W :=
  append_from 30 86 3 48 (.agg #[.string ⟨#[]⟩, .int .i64 0, .slice none 0 0]) (by kernel_rfl) (by kernel_rfl) (by rfl) (by decide) B0 _ v n _ (h.alloc _) (some ⟨w.heap.size, 0, none⟩) 1 1 [.string s, .int .i64 x, .slice a m c] rfl
    (.inr ⟨_, _, rfl, fun j u hj => by
      match j, hj with
      | 0, hj => simp at hj; subst hj; simp [go_sem]
      | 1, hj => simp at hj; subst hj; simp [go_sem]
      | 2, hj => simp at hj; subst hj; simp [go_sem]
      | j + 3, hj => simp at hj⟩) (fun u hu => by simp at hu; rcases hu with rfl | rfl | rfl <;> rfl) (by simp; omega) (by omega) (by decide)

/-- a call of Lay that returned. -/
inductive LayEnd (w : World) (B0 n : Nat) (nm : Nat → ByteArray) (B : Nat → Int) (O : Nat → ObjF) (np : Nat) (p t v : Nat → Int) : Ending → Prop
  | bad (h : BadAt (fun k => patOk n (fun i => (O i).nW) (p k) (t k)) np) : LayEnd w B0 n nm B O np p t v (.returned (.tuple #[.slice none 0 0, errV 1]))
  | ok (u : Value) (g : Nat) (A : Nat → Option Addr) (C G : Nat → Nat) (h : AllOk (fun k => patOk n (fun i => (O i).nW) (p k) (t k)) np) (ho : OutAt w B0 g n (fun i => (O i).nW) A C G (putF (fun i j => (O i).words j) p t v np))
      (hu : w.ownsRow B0 86 3 u n (joinC (partC nm B A (fun i => (O i).nW) C) n)) : LayEnd w B0 n nm B O np p t v (.returned (.tuple #[u, .nilIface]))

set_option maxRecDepth 100000 in
set_option maxHeartbeats 4000000 in
theorem lay_any (an ab al ap : Option Addr) (n cn cb cl np cp : Nat) (nm : Nat → ByteArray) (B : Nat → Int) (V : Nat → ObjV) (O : Nat → ObjF) (p t v : Nat → Int) (w : World) (hn : n ≤ 1000) (hM : ∀ i, i < n → (O i).nW ≤ 1000) (hnp : np ≤ 1000)
    (hrn : RowAt w an n fun i => .string (nm i)) (hrb : RowAt w ab n fun i => .int .i64 (B i)) (hro : ObjsRow w al n V O) (hrp : PatRow w ap np p t v) :
    Calls Tryz.prog 35 #[.slice an n cn, .slice ab n cb, .slice al n cl, .slice ap np cp] w fun e w' => LayEnd w' w.heap.size n nm B O np p t v e ∧ Below w.heap.size w w' := by
  have HW := wordsOf_any al n cl V O w hn hro
  have h1 : ((n : Int) != (n : Int)) = false := by simp
  go_enter Tryz.func35, Tryz.ntmps35
  go_wp2_with fail
  refine HW.mono ?_
  rintro e w1 ⟨⟨v1, rfl, ho1⟩, hb1⟩
  have hA : ∀ i, i < n → ObjAt w1 (V i) (O i) := fun i hi => by
    rcases hro with h0 | ⟨bk, o, _, hc⟩
    · omega
    · exact (hc i hi).here.later hb1
  obtain ⟨a1, c1, rfl, _, hl1⟩ := rows_wd ho1 hA
  have HP := put_any a1 ap n c1 np cp (fun i => (V i).aW) (fun i => (O i).nW) (fun i => (V i).cW) (fun i j => (O i).words j) p t v w1 hn hM hnp hl1 (hrp.later hb1)
  clear HW ho1 hA hl1 hro hrp
  go_wp2_with fail
  refine HP.mono ?_
  rintro e w2 ⟨he, hb2⟩
  have hb3 := hb1.trans (hb2.mono hb1.size)
  clear HP
  cases he with
  | bad h =>
    have q1 : errV 1 = .iface 82 (.int .i64 1) := rfl
    rw [q1]
    go_wp2
    go_ret2
    rw [← q1]
    exact ⟨.bad h, hb3⟩
  | ok g A C G h ho =>
    have hrn2 := hrn.later hb3
    have hrb2 := hrb.later hb3
    clear hrn hrb hb2
    go_wp2
    go_loopw [12, 40] (fun x z wr => ∃ (k : Nat) (u : Value), k ≤ n ∧ z = .int .i64 k ∧ x = u ∧ wr.ownsRow w2.heap.size 86 3 u k (joinC (partC nm B A (fun i => (O i).nW) C) k) ∧ Below w2.heap.size w2 wr) (fun _ z _ => n - (intOf z).toNat)
    case atStart => exact ⟨0, .slice none 0 0, Nat.zero_le _, rfl, rfl, World.ownsRow_nil _ _ _ _, Below.refl _ _⟩
    case round =>
      obtain ⟨k, u, hk, rfl, rfl, hu, hb⟩ := hrel
      by_cases hlt : k < n
      · have hrn3 := hrn2.later hb
        have hrb3 := hrb2.later hb
        have htop := (ho.later hb).top k hlt
        rcases hrn3 with h0 | ⟨bn, on, rfl, hcn⟩
        · omega
        rcases hrb3 with h0 | ⟨bb, ob, rfl, hcb⟩
        · omega
        have d0 := hcn k hlt
        have d1 := hcb k hlt
        have hB := hb.size
        have hu' : wr.drew.ownsRow w2.heap.size 86 3 u12 k (joinC (partC nm B A (fun i => (O i).nW) C) k) := hu
        obtain ⟨v3, W3, happ, hG⟩ := growPart (w := wr.drew) (nm k) (B k) (A k) (O k).nW (C k) hB hu' (by omega)
        have hu3 : W3.ownsRow w2.heap.size 86 3 v3 (k + 1) (joinC (partC nm B A (fun i => (O i).nW) C) (k + 1)) := hG.own
        have hb4 : Below w2.heap.size w2 W3 := (hb.drew.alloc hB _).trans hG.below
        clear hcn hcb hG hu hu' hb
        go_wp2
        go_region_law (refine step_run rfl (.tmp 45) (.tmp 56) 30 rfl u12 (.slice (some ⟨wr.heap.size, 0, none⟩) 1 1) _ rfl rfl happ ?_)
        all_goals
          go_wp2
          go_roundw
          case rel => exact ⟨k + 1, v3, by omega, by go_num, rfl, hu3, hb4⟩
          case measure => simp [intOf]; omega
      · have e : k = n := by omega
        subst e
        have hBz : w.heap.size ≤ w2.heap.size := hb3.size
        have hu2 : wr.ownsRow w.heap.size 86 3 u12 k (joinC (partC nm B A (fun i => (O i).nW) C) k) := ⟨hu.1, by
          rcases hu.2 with h | ⟨g, cap, cur, h1, h2, h3⟩
          · exact .inl h
          · exact .inr ⟨g, cap, cur, h1, Nat.le_trans hBz h2, h3⟩⟩
        have ho2 := ho.later hb
        have hw1 := hb1.size
        go_wp2
        go_ret2
        exact ⟨.ok _ g A C G h { ho2 with hB := Nat.le_trans hw1 ho2.hB, own := fun i hi hm => Nat.le_trans hw1 (ho2.own i hi hm) } hu2, hb3.trans (hb.mono hb3.size)⟩
end Go.Proofs.YtidabcoodolddaaGreatDoor
