/-
  What Round, Apart, inWindow and check of package place return, for every argument that is asked of them; memory that was there stays as it was.
  Rows of numbers and rows of ranges of the call's own, that grow by one; what each place of them holds; a list of ranges, cloned.
  What sizes and wordsOf of package image return, for every list of objects; memory that was there stays as it was.
  What scope.Find returns, for every list of objects and every text: who is found (E2); memory that was there stays as it was.
  What checkBases, where and word of package patch return, for objects that may be, and their bases; memory that was there stays as it was.
  What All of package patch returns, for objects that may be, and any bases: all patches in order, or the number of the error; memory that was there stays as it was.
  Rows of patches of the call's own, read.
-/
import Derived.Test.YtbbhjpbacobmjaaGreatDoorErr
import Derived.Test.YtbbhjpbacobmjaaGreatDoorAtAll
import Derived.Test.YtbbhjpbacobmjaaGreatDoorPlain
import Derived.Lib.SliceRun
import Derived.Test.YtbbhjpbacobmjaaGreatDoorRows
import Derived.Deep.QuietTactic
import Derived.BigQuiet
namespace Go.Proofs.YtbbhjpbacobmjaaGreatDoor
open Go.RowKit

/-- the n ranges behind 'a'. -/
def RngRow (w : World) (a : Option Addr) (n : Nat) (f m : Nat → Int) : Prop :=
  n = 0 ∨ ∃ bk o, a = some ⟨bk, o, none⟩ ∧ ∀ i, i < n → w.cell? ⟨bk, o + i * 2, none⟩ = some (.int .i64 (f i)) ∧ w.cell? ⟨bk, o + i * 2 + 1, none⟩ = some (.int .i64 (m i))
theorem RngRow.later {w w' : World} {a : Option Addr} {n : Nat} {f m : Nat → Int} (h : RngRow w a n f m) (hb : Below w.heap.size w w') : RngRow w' a n f m := by
  rcases h with h | ⟨bk, o, ha, hc⟩
  · exact .inl h
  · exact .inr ⟨bk, o, ha, fun i hi => ⟨cell_later hb (hc i hi).1, cell_later hb (hc i hi).2⟩⟩

end Go.Proofs.YtbbhjpbacobmjaaGreatDoor

namespace Go.Proofs.YtbbhjpbacobmjaaGreatDoor
open Go.RowKit

def intC (b : Nat → Int) (i : Nat) : List Value := [.int .i64 (b i)]
theorem intC_len (b : Nat → Int) (i : Nat) : (intC b i).length = 1 := rfl

end Go.Proofs.YtbbhjpbacobmjaaGreatDoor

namespace Go.Proofs.YtbbhjpbacobmjaaGreatDoor
open Go.RowKit

/-- the n parts behind 'a': name, base, words. -/
def PartRow (w : World) (a : Option Addr) (n : Nat) (nm : Nat → ByteArray) (B : Nat → Int) (A : Nat → Option Addr) (M C : Nat → Nat) (X : Nat → Nat → Int) : Prop :=
  n = 0 ∨ ∃ bk o, a = some ⟨bk, o, none⟩ ∧ ∀ i, i < n → w.cell? ⟨bk, o + i * 3, none⟩ = some (.string (nm i)) ∧ w.cell? ⟨bk, o + i * 3 + 1, none⟩ = some (.int .i64 (B i)) ∧ w.cell? ⟨bk, o + i * 3 + 2, none⟩ = some (.slice (A i) (M i) (C i)) ∧ RowAt w (A i) (M i) fun j => .int .i64 (X i j)
theorem PartRow.later {w w' : World} {a : Option Addr} {n : Nat} {nm : Nat → ByteArray} {B : Nat → Int} {A : Nat → Option Addr} {M C : Nat → Nat} {X : Nat → Nat → Int} (h : PartRow w a n nm B A M C X) (hb : Below w.heap.size w w') : PartRow w' a n nm B A M C X := by
  rcases h with h | ⟨bk, o, ha, hc⟩
  · exact .inl h
  · exact .inr ⟨bk, o, ha, fun i hi => ⟨cell_later hb (hc i hi).1, cell_later hb (hc i hi).2.1, cell_later hb (hc i hi).2.2.1, (hc i hi).2.2.2.later hb⟩⟩
end Go.Proofs.YtbbhjpbacobmjaaGreatDoor

namespace Go.Proofs.YtbbhjpbacobmjaaGreatDoor
open Go.RowKit

/-- a call that returned whom it found. -/
def FoundEnd (L : SymsF) (s : ByteArray) (e : Ending) : Prop := ∃ p q : Int, e = .returned (.tuple #[.int .i64 p, .int .i64 q]) ∧ IsFound L s p q

set_option maxRecDepth 100000 in
set_option maxHeartbeats 4000000 in
theorem find_any (a : Option Addr) (n c : Nat) (V : Nat → ObjV) (O : Nat → ObjF) (s : ByteArray) (w : World) (hn : n ≤ 1000000000) (hm : ∀ i, i < n → (O i).nS ≤ 1000000000) (hr : ObjsRow w a n V O) :
    Calls Tryz.prog 13 #[.slice a n c, .string s] w fun e w' => FoundEnd (symsF n O) s e ∧ Below w.heap.size w w' := by
  go_enter Tryz.func13, Tryz.ntmps13
  go_wp2
  go_loopw [6, 7, 14] (fun x y z wr => ∃ (i : Nat) (p q : Int), i ≤ n ∧ z = .int .i64 i ∧ x = .int .i64 p ∧ y = .int .i64 q ∧ SoFar (symsF n O) s i 0 p q ∧ Below w.heap.size w wr) (fun _ _ z _ => n - (intOf z).toNat)
  case atStart => exact ⟨0, -1, -1, Nat.zero_le _, rfl, rfl, rfl, SoFar.start _ _, Below.refl _ _⟩
  case round =>
    obtain ⟨i, p, q, hi, rfl, rfl, rfl, HS, hb⟩ := hrel
    by_cases hlt : i < n
    · rcases hr with h0 | ⟨bk, o, rfl, hc⟩
      · omega
      have H := (hc i hlt).later hb
      have hmi := hm i hlt
      have c0 := H.c0
      have c1 := H.c1
      have c2 := H.c2
      have c3 := H.c3
      have hsy := hc i hlt |>.here.syms
      have hx : ∀ ob : Obj, Below w.heap.size w (wr.alloc ob) := fun ob => hb.alloc hb.size ob
      clear hc hm H
      go_wp2
      go_loopw [6, 7, 22] (fun x y z w2 => ∃ (k : Nat) (p q : Int), k ≤ (O i).nS ∧ z = .int .i64 k ∧ x = .int .i64 p ∧ y = .int .i64 q ∧ SoFar (symsF n O) s i k p q ∧ Below w.heap.size w w2) (fun _ _ z _ => (O i).nS - (intOf z).toNat)
      case atStart => exact ⟨0, p, q, Nat.zero_le _, rfl, rfl, rfl, HS, hx _⟩
      case round =>
        clear HS c0 c1 c2 c3 hx hb
        obtain ⟨k, p2, q2, hk, rfl, rfl, rfl, HS, hb⟩ := hrel
        by_cases hlk : k < (O i).nS
        · rcases hsy with h0 | ⟨b2, o2, ha2, hs2⟩
          · omega
          have d0 := cell_later hb (hs2 k hlk).1
          have d1 := cell_later hb (hs2 k hlk).2.1
          have d2 := cell_later hb (hs2 k hlk).2.2
          rw [ha2]
          have hx : ∀ ob : Obj, Below w.heap.size w (wr.alloc ob) := fun ob => hb.alloc hb.size ob
          clear hs2
          by_cases hnm : (O i).sName k = s
          · have hh : Hit (symsF n O) s i k := ⟨hlt, hlk, hnm⟩
            have ht : (((O i).sName k).toList == s.toList) = true := by rw [toList_beq, decide_eq_true hnm]
            clear hnm
            cases hwk : (O i).sWeak k with
            | false =>
              have HF := HS.strong hh (show (symsF n O).wk i k = false from hwk)
              rw [hwk] at d2
              clear hwk HS hh
              go_wp2
              go_ret2
              exact ⟨⟨i, k, rfl, HF⟩, hx _⟩
            | true =>
              rw [hwk] at d2
              rcases HS.shape with ⟨rfl, rfl⟩ | ⟨x, y, rfl, rfl, _, _⟩
              · have HF := HS.first hh (show (symsF n O).wk i k = true from hwk)
                clear hwk HS hh
                go_wp2
                go_roundw
                case rel => exact ⟨k + 1, i, k, by omega, by go_num, rfl, rfl, HF, hx _⟩
                case measure => simp [intOf]; omega
              · have HF := HS.more (show (symsF n O).wk i k = true from hwk)
                have hz : ((x : Int) == -1) = false := by rw [beq_eq_false_iff_ne]; omega
                clear hwk HS hh
                go_wp2
                go_roundw
                case rel => exact ⟨k + 1, x, y, by omega, by go_num, rfl, rfl, HF, hx _⟩
                case measure => simp [intOf]; omega
          · have HO := HS.other (show (symsF n O).nm i k ≠ s from hnm)
            have ht : (((O i).sName k).toList == s.toList) = false := by rw [toList_beq, decide_eq_false hnm]
            clear hnm HS
            go_wp2
            go_roundw
            case rel => exact ⟨k + 1, p2, q2, by omega, by go_num, rfl, rfl, HO, hx _⟩
            case measure => simp [intOf]; omega
        · have e : k = (O i).nS := by omega
          subst e
          have HN := SoFar.next (i := i) (show SoFar (symsF n O) s i ((symsF n O).m i) p2 q2 from HS)
          go_wp2
          go_roundw
          case rel => exact ⟨i + 1, p2, q2, by omega, by go_num, rfl, rfl, HN, hb⟩
          case measure => simp [intOf]; omega
    · have e : i = n := by omega
      subst e
      go_wp2
      go_ret2
      exact ⟨⟨p, q, rfl, HS.done⟩, hb⟩
end Go.Proofs.YtbbhjpbacobmjaaGreatDoor

namespace Go.Proofs.YtbbhjpbacobmjaaGreatDoor
open Go.RowKit

/-- objects that may be, and where they lie. -/
structure PatIn (w : World) (al : Option Addr) (n : Nat) (V : Nat → ObjV) (O : Nat → ObjF) (ab : Option Addr) (B : Nat → Int) : Prop where
  objs : ObjsRow w al n V O
  bases : RowAt w ab n fun i => .int .i64 (B i)
  good : ∀ i, i < n → ObjOk (O i)
  inW : ∀ i, i < n → 0 ≤ B i ∧ B i ≤ 256
  few : n ≤ 1000
theorem PatIn.later {w w' : World} {al : Option Addr} {n : Nat} {V : Nat → ObjV} {O : Nat → ObjF} {ab : Option Addr} {B : Nat → Int} (h : PatIn w al n V O ab B) (hb : Below w.heap.size w w') : PatIn w' al n V O ab B :=
  ⟨h.objs.later hb, h.bases.later hb, h.good, h.inW, h.few⟩

end Go.Proofs.YtbbhjpbacobmjaaGreatDoor

namespace Go.Proofs.YtbbhjpbacobmjaaGreatDoor
open Go.RowKit

/-- a patch's three cells. -/
def patC (x : Nat × Int × Int) : List Value := [.int .i64 (x.1 : Int), .int .i64 x.2.1, .int .i64 x.2.2]
def patsC (l : List (Nat × Int × Int)) : List Value := l.flatMap patC
/-- a call of All that returned. -/
inductive AllEnd (w : World) (B : Nat) (l : List (Nat × Int × Int)) (F : Nat) : Ending → Prop
  | bad (hf : F ≠ 0) : AllEnd w B l F (.returned (.tuple #[.slice none 0 0, errV F]))
  | ok (hf : F = 0) (v : Value) (hv : w.ownsRow B 136 3 v l.length (patsC l)) : AllEnd w B l F (.returned (.tuple #[v, .nilIface]))

end Go.Proofs.YtbbhjpbacobmjaaGreatDoor

namespace Go.Proofs.YtbbhjpbacobmjaaGreatDoor
open Go.RowKit

/-- a list of patches, by places. -/
def pP (l : List (Nat × Int × Int)) (i : Nat) : Int := ((l.getD i (0, 0, 0)).1 : Int)
def pT (l : List (Nat × Int × Int)) (i : Nat) : Int := (l.getD i (0, 0, 0)).2.1
def pV (l : List (Nat × Int × Int)) (i : Nat) : Int := (l.getD i (0, 0, 0)).2.2
end Go.Proofs.YtbbhjpbacobmjaaGreatDoor
