/-
  What free of package place returns, for every list of ranges: the least page that is free, or that there is none; memory that was there stays as it was.
  What Bases of package place returns, for all sizes and all that is taken: the bases that the document asks for, or the number of the error; memory that was there stays as it was.
  What Put of package patch returns, for every list of lists of numbers and every list of patches: a copy, patched; or that there is no such word; memory that was there stays as it was.
  What Put of package patch returns: the walk.
  What Lay of package image returns: parts, their words patched; or the number of the error; memory that was there stays as it was.
  Plain words on what is reckoned for a root, with nothing of the program's memory: who belongs to it, where they lie, what hangs on that; that there is just one answer.
  What Reckon of package image returns, over any files and any root: names, objects, bases and patches, or the number of the error; memory that was there stays as it was.
  What Load of package image returns, over any files and any root: the parts, laid and bound, or the number of the error; memory that was there stays as it was.
-/
import Derived.Test.YtbbhjpbacobmjaaGreatDoorPlaceOne
import Derived.Test.YtbbhjpbacobmjaaGreatDoorAtAll
import Derived.Deep.QuietTactic
import Derived.BigQuiet
import Derived.RegionTactic
import Derived.BigRegion
import Derived.Deep.RegionLaw
import Derived.Test.YtbbhjpbacobmjaaGreatDoorScopeOne
import Derived.Test.YtbbhjpbacobmjaaGreatDoorPlain
import Derived.Deep.Onto
namespace Go.Proofs.YtbbhjpbacobmjaaGreatDoor
open Go.RowKit

/-- a call of free that returned. -/
inductive FreeEnd (f m : Nat → Int) (n : Nat) (many : Int) : Ending → Prop
  | yes (k : Nat) (h : IsBase f m n many k) : FreeEnd f m n many (.returned (.tuple #[.agg #[.int .i64 (16 * (k : Int)), .int .i64 many], .bool true]))
  | no (h : NoBase f m n many) : FreeEnd f m n many (.returned (.tuple #[.agg #[.int .i64 0, .int .i64 0], .bool false]))

end Go.Proofs.YtbbhjpbacobmjaaGreatDoor

namespace Go.Proofs.YtbbhjpbacobmjaaGreatDoor
open Go.RowKit

/-- a call of Bases that returned. -/
inductive BasesEnd (w : World) (B ns : Nat) (sz : Nat → Int) (nt : Nat) (tf tm : Nat → Int) : Ending → Prop
  | bad (f : Nat) (b : Nat → Int) (hf : f ≠ 0) (h : BasesAre ns sz nt tf tm f b) : BasesEnd w B ns sz nt tf tm (.returned (.tuple #[.slice none 0 0, errV f]))
  | ok (b : Nat → Int) (v : Value) (h : BasesAre ns sz nt tf tm 0 b) (hv : w.ownsRow B 3 1 v ns (joinC (intC b) ns)) : BasesEnd w B ns sz nt tf tm (.returned (.tuple #[v, .nilIface]))

theorem errV_pos {f : Nat} (h : f ≠ 0) : ∃ n : Int, errV f = .iface 127 (.int .i64 n) := by
  cases f with
  | zero => exact absurd rfl h
  | succ f => exact ⟨_, rfl⟩

end Go.Proofs.YtbbhjpbacobmjaaGreatDoor

namespace Go.Proofs.YtbbhjpbacobmjaaGreatDoor
open Go.RowKit

/-- an owned row that isn't empty: its block. -/
theorem owns_block {w : World} {B : Nat} {e : TypeId} {n c : Nat} {a : Option Addr} {b : Nat → Int} (h : w.ownsRow B e 1 (.slice a n c) n (joinC (intC b) n)) (hn : 0 < n) :
    ∃ g, a = some ⟨g, 0, none⟩ ∧ B ≤ g ∧ (∀ j, j < n → w.cell? ⟨g, j, none⟩ = some (.int .i64 (b j))) ∧ ∀ j, w.frozen? ⟨g, j, none⟩ = false := by
  have hc : ∀ j, j < n → ∃ g, a = some ⟨g, 0, none⟩ ∧ B ≤ g ∧ w.cell? ⟨g, j, none⟩ = some (.int .i64 (b j)) := fun i hi =>
    owns_cell h (by have := joinC_at (g := intC b) (s := 1) (n := n) (i := i) (j := 0) (fun i _ => intC_len b i) hi (by omega); simpa [intC] using this)
  rcases h.2 with ⟨_, h0⟩ | ⟨g, cap, cur, hv, hB, hg, _⟩
  · omega
  · injection hv with h1 h2 h3
    refine ⟨g, h1, hB, fun j hj => ?_, fun j => by simp [World.frozen?, hg]⟩
    obtain ⟨g', ha, _, h'⟩ := hc j hj
    rw [h1] at ha
    injection ha with ha
    injection ha with ha
    subst ha
    exact h'
/-- one place is another. -/
def updF {α : Type} (f : Nat → α) (k : Nat) (x : α) : Nat → α := fun i => if i = k then x else f i
theorem updF_new {α : Type} {f : Nat → α} {k : Nat} {x : α} : updF f k x k = x := if_pos rfl
theorem updF_old {α : Type} {f : Nat → α} {k : Nat} {x : α} {i : Nat} (h : i ≠ k) : updF f k x i = f i := if_neg h
/-- one list more. -/
theorem OutAt.more {w w1 : World} {B g k : Nat} {M : Nat → Nat} {A : Nat → Option Addr} {C G : Nat → Nat} {X : Nat → Nat → Int} {e : TypeId} {a' : Option Addr} {c' : Nat} {u : Value} (h : OutAt w B g k M A C G X) (hb : Below w.heap.size w w1) (hB : B ≤ w.heap.size)
    (hc : w1.cell? ⟨g, k, none⟩ = some u) (ho : w1.ownsRow w.heap.size e 1 (.slice a' (M k) c') (M k) (joinC (intC (X k)) (M k))) :
    ∃ A' C' G', OutAt (w1.setCell ⟨g, k, none⟩ (.slice a' (M k) c')) B g (k + 1) M A' C' G' X := by
  have h1 := h.later hb
  obtain ⟨gk, hgk⟩ : ∃ gk, 0 < M k → a' = some ⟨gk, 0, none⟩ ∧ w.heap.size ≤ gk ∧ (∀ j, j < M k → w1.cell? ⟨gk, j, none⟩ = some (.int .i64 (X k j))) ∧ ∀ j, w1.frozen? ⟨gk, j, none⟩ = false := by
    by_cases hm : 0 < M k
    · obtain ⟨gk, hh⟩ := owns_block ho hm
      exact ⟨gk, fun _ => hh⟩
    · exact ⟨0, fun h => absurd h hm⟩
  have lts : ∀ i, i < k → 0 < M i → G i < w.heap.size := fun i hi hm => World.block_lt_of_cell? _ _ (h.row i hi 0 hm)
  refine ⟨updF A k a', updF C k c', updF G k gk, h.hB, ?_, ?_, ?_, ?_, ?_, ?_, ?_, ?_, ?_⟩
  · simpa [World.setCell] using h1.lt
  · intro i hi
    by_cases e : i = k
    · subst e
      rw [World.cell?_setCell_same _ _ _ hc, updF_new, updF_new]
    · rw [World.cell?_setCell_other _ _ _ _ (by intro e2; injection e2 with _ e2 _; exact e e2.symm), updF_old e, updF_old e]
      exact h1.top i (by omega)
  · intro i; rw [World.frozen?_setCell]; exact h1.free i
  · intro i hi hm
    by_cases e : i = k
    · subst e; rw [updF_new, updF_new]; exact (hgk hm).1
    · rw [updF_old e, updF_old e]; exact h1.adr i (by omega) hm
  · intro i hi hm
    by_cases e : i = k
    · subst e; rw [updF_new]; exact Nat.le_trans hB (hgk hm).2.1
    · rw [updF_old e]; exact h1.own i (by omega) hm
  · intro i hi hm
    by_cases e : i = k
    · subst e; rw [updF_new]; have := (hgk hm).2.1; have := h.lt; omega
    · rw [updF_old e]; exact h1.ne i (by omega) hm
  · intro i hi j hj
    by_cases e : i = k
    · subst e
      rw [updF_new]
      have hh := hgk (by omega)
      rw [World.cell?_setCell_other _ _ _ _ (by intro e2; injection e2 with e2 _ _; have := hh.2.1; have := h.lt; omega)]
      exact hh.2.2.1 j hj
    · rw [updF_old e, World.cell?_setCell_other _ _ _ _ (by intro e2; injection e2 with e2 _ _; exact h1.ne i (by omega) (by omega) e2.symm)]
      exact h1.row i (by omega) j hj
  · intro i hi hm j
    rw [World.frozen?_setCell]
    by_cases e : i = k
    · subst e; rw [updF_new]; exact (hgk hm).2.2.2 j
    · rw [updF_old e]; exact h1.rfree i (by omega) hm j
  · intro i j hi hj hij hmi hmj
    by_cases e : i = k
    · subst e
      rw [updF_new, updF_old (fun e => hij e.symm)]
      have := (hgk hmi).2.1
      have := lts j (by omega) hmj
      omega
    · by_cases e2 : j = k
      · subst e2
        rw [updF_old e, updF_new]
        have := (hgk hmj).2.1
        have := lts i (by omega) hmi
        omega
      · rw [updF_old e, updF_old e2]; exact h1.apart i j (by omega) (by omega) hij hmi hmj
theorem OutAt.none {w : World} {B g : Nat} (hB : B ≤ g) (hg : g < w.heap.size) (hf : ∀ i, w.frozen? ⟨g, i, none⟩ = false) (M : Nat → Nat) (X : Nat → Nat → Int) : OutAt w B g 0 M (fun _ => none) (fun _ => 0) (fun _ => 0) X :=
  ⟨hB, hg, fun i hi => by omega, hf, fun i hi => by omega, fun i hi => by omega, fun i hi => by omega, fun i hi => by omega, fun i hi => by omega, fun i j hi => by omega⟩

/-- a call of Put that returned. -/
inductive PutEnd (w : World) (B n : Nat) (M : Nat → Nat) (X : Nat → Nat → Int) (np : Nat) (p t v : Nat → Int) : Ending → Prop
  | bad (h : BadAt (fun k => patOk n M (p k) (t k)) np) : PutEnd w B n M X np p t v (.returned (.tuple #[.slice none 0 0, errV 1]))
  | ok (g : Nat) (A : Nat → Option Addr) (C G : Nat → Nat) (h : AllOk (fun k => patOk n M (p k) (t k)) np) (ho : OutAt w B g n M A C G (putF X p t v np)) : PutEnd w B n M X np p t v (.returned (.tuple #[.slice (some ⟨g, 0, none⟩) n n, .nilIface]))
end Go.Proofs.YtbbhjpbacobmjaaGreatDoor

namespace Go.Proofs.YtbbhjpbacobmjaaGreatDoor
open Go.RowKit

end Go.Proofs.YtbbhjpbacobmjaaGreatDoor

namespace Go.Proofs.YtbbhjpbacobmjaaGreatDoor
open Go.RowKit

/-- a part's three cells. -/
def partC (nm : Nat → ByteArray) (B : Nat → Int) (A : Nat → Option Addr) (M C : Nat → Nat) (i : Nat) : List Value := [.string (nm i), .int .i64 (B i), .slice (A i) (M i) (C i)]
/-- a call of Lay that returned. -/
inductive LayEnd (w : World) (B0 n : Nat) (nm : Nat → ByteArray) (B : Nat → Int) (O : Nat → ObjF) (np : Nat) (p t v : Nat → Int) : Ending → Prop
  | bad (h : BadAt (fun k => patOk n (fun i => (O i).nW) (p k) (t k)) np) : LayEnd w B0 n nm B O np p t v (.returned (.tuple #[.slice none 0 0, errV 1]))
  | ok (u : Value) (g : Nat) (A : Nat → Option Addr) (C G : Nat → Nat) (h : AllOk (fun k => patOk n (fun i => (O i).nW) (p k) (t k)) np) (ho : OutAt w B0 g n (fun i => (O i).nW) A C G (putF (fun i j => (O i).words j) p t v np))
      (hu : w.ownsRow B0 58 3 u n (joinC (partC nm B A (fun i => (O i).nW) C) n)) : LayEnd w B0 n nm B O np p t v (.returned (.tuple #[u, .nilIface]))

end Go.Proofs.YtbbhjpbacobmjaaGreatDoor

namespace Go.Proofs.YtbbhjpbacobmjaaGreatDoor
open Go.RowKit Go.Maps

/-- the j-th object of a root. -/
abbrev obAt (rd : ByteArray → Nat × ObjF) (root : ByteArray) (j : Nat) : ObjF := (rd (nmAt rd root j)).2
abbrev szAt (rd : ByteArray → Nat × ObjF) (root : ByteArray) (j : Nat) : Int := ((obAt rd root j).nW : Int)
/-- the number of the error of what can't be reckoned. -/
inductive ReckIs (rd : ByteArray → Nat × ObjF) (root : ByteArray) : Nat → Prop
  | of {F : Nat} (i : Nat) (h : OfIs rd root F i) (hf : F ≠ 0) : ReckIs rd root F
  | bases {F : Nat} (m : Nat) (B : Nat → Int) (h : OfIs rd root 0 m) (hb : BasesAre m (szAt rd root) 0 (fun _ => 0) (fun _ => 0) F B) (hf : F ≠ 0) : ReckIs rd root F
  | all {F : Nat} (m : Nat) (B : Nat → Int) (P Q : ByteArray → Int) (h : OfIs rd root 0 m) (hb : BasesAre m (szAt rd root) 0 (fun _ => 0) (fun _ => 0) 0 B) (hz : ∀ j, m ≤ j → B j = 0) (hP : Finds (symsF m (obAt rd root)) P Q) (he : allF m (obAt rd root) P Q m B = F) (hf : F ≠ 0) : ReckIs rd root F
/-- what was reckoned. -/
structure Reckoned (rd : ByteArray → Nat × ObjF) (root : ByteArray) (m : Nat) (B : Nat → Int) (P Q : ByteArray → Int) : Prop where
  of : OfIs rd root 0 m
  bases : BasesAre m (szAt rd root) 0 (fun _ => 0) (fun _ => 0) 0 B
  zero : ∀ j, m ≤ j → B j = 0
  finds : Finds (symsF m (obAt rd root)) P Q
  all : allF m (obAt rd root) P Q m B = 0
theorem Finds.uniq {L : SymsF} {P Q P' Q' : ByteArray → Int} (h : Finds L P Q) (h' : Finds L P' Q') : P = P' ∧ Q = Q' :=
  ⟨funext fun s => (h'.eq (h.is s)).1, funext fun s => (h'.eq (h.is s)).2⟩
theorem bases_fun {m : Nat} {sz : Nat → Int} {B B' : Nat → Int} (h : BasesAre m sz 0 (fun _ => 0) (fun _ => 0) 0 B) (h' : BasesAre m sz 0 (fun _ => 0) (fun _ => 0) 0 B') (hz : ∀ j, m ≤ j → B j = 0) (hz' : ∀ j, m ≤ j → B' j = 0) : B = B' :=
  funext fun j => by
    by_cases e : j < m
    · exact (h.unique h').2 rfl j e
    · rw [hz j (by omega), hz' j (by omega)]
theorem ReckIs.unique {rd : ByteArray → Nat × ObjF} {root : ByteArray} {F G : Nat} (h : ReckIs rd root F) (h' : ReckIs rd root G) : F = G := by
  cases h with
  | of i h hf =>
    cases h' with
    | of i' h' hf' => exact (h.unique h').1
    | bases m' B' h' hb' hf' => exact absurd (h.unique h').1 hf
    | all m' B' P' Q' h' hb' hz' hP' he' hf' => exact absurd (h.unique h').1 hf
  | bases m B h hb hf =>
    cases h' with
    | of i' h' hf' => exact absurd (h'.unique h).1 hf'
    | bases m' B' h' hb' hf' =>
      obtain ⟨_, rfl⟩ := h.unique h'
      exact (hb.unique hb').1
    | all m' B' P' Q' h' hb' hz' hP' he' hf' =>
      obtain ⟨_, rfl⟩ := h.unique h'
      exact absurd (hb.unique hb').1 hf
  | all m B P Q h hb hz hP he hf =>
    cases h' with
    | of i' h' hf' => exact absurd (h'.unique h).1 hf'
    | bases m' B' h' hb' hf' =>
      obtain ⟨_, rfl⟩ := h.unique h'
      exact absurd (hb'.unique hb).1 hf'
    | all m' B' P' Q' h' hb' hz' hP' he' hf' =>
      obtain ⟨_, rfl⟩ := h.unique h'
      obtain rfl := bases_fun hb hb' hz hz'
      obtain ⟨rfl, rfl⟩ := hP.uniq hP'
      exact he.symm.trans he'
theorem ReckIs.not {rd : ByteArray → Nat × ObjF} {root : ByteArray} {F m : Nat} {B : Nat → Int} {P Q : ByteArray → Int} (h : ReckIs rd root F) (h' : Reckoned rd root m B P Q) : False := by
  cases h with
  | of i h hf => exact hf (h.unique h'.of).1
  | bases m B h hb hf =>
    obtain ⟨_, rfl⟩ := h.unique h'.of
    exact hf (hb.unique h'.bases).1
  | all m B P Q h hb hz hP he hf =>
    obtain ⟨_, rfl⟩ := h.unique h'.of
    obtain rfl := bases_fun hb h'.bases hz h'.zero
    obtain ⟨rfl, rfl⟩ := hP.uniq h'.finds
    exact hf (he.symm.trans h'.all)
theorem Reckoned.unique {rd : ByteArray → Nat × ObjF} {root : ByteArray} {m m' : Nat} {B B' : Nat → Int} {P Q P' Q' : ByteArray → Int} (h : Reckoned rd root m B P Q) (h' : Reckoned rd root m' B' P' Q') : m = m' ∧ B = B' ∧ P = P' ∧ Q = Q' := by
  obtain ⟨_, rfl⟩ := h.of.unique h'.of
  obtain rfl := bases_fun h.bases h'.bases h.zero h'.zero
  obtain ⟨rfl, rfl⟩ := h.finds.uniq h'.finds
  exact ⟨rfl, rfl, rfl, rfl⟩
/-- its patches. -/
abbrev patsAt (rd : ByteArray → Nat × ObjF) (root : ByteArray) (m : Nat) (B : Nat → Int) (P Q : ByteArray → Int) : List (Nat × Int × Int) := patsTo (obAt rd root) P Q B m
/-- bases that are 0 behind the last one. -/
def cutB (m : Nat) (b : Nat → Int) : Nat → Int := fun j => if j < m then b j else 0
theorem cutB_is {m : Nat} {b : Nat → Int} {j : Nat} (h : j < m) : b j = cutB m b j := (if_pos h).symm
theorem BasesAre.cut {m : Nat} {sz tf tm b : Nat → Int} {nt : Nat} (h : BasesAre m sz nt tf tm 0 b) : BasesAre m sz nt tf tm 0 (cutB m b) := by
  obtain ⟨h0, hl⟩ := h.laid rfl
  exact .ok _ h0 fun j hj => (hl j hj).congr fun i hi => cutB_is (by omega)
end Go.Proofs.YtbbhjpbacobmjaaGreatDoor

namespace Go.Proofs.YtbbhjpbacobmjaaGreatDoor
open Go.RowKit Go.Maps

/-- a call of Reckon that returned. -/
inductive ReckEnd (w : World) (B0 : Nat) (rd : ByteArray → Nat × ObjF) (root : ByteArray) : Ending → Prop
  | bad (F : Nat) (h : ReckIs rd root F) (hf : F ≠ 0) : ReckEnd w B0 rd root (.returned (.tuple #[.slice none 0 0, .slice none 0 0, .slice none 0 0, .slice none 0 0, errV F]))
  | ok (m : Nat) (B : Nat → Int) (P Q : ByteArray → Int) (u x b p : Value) (V : Nat → ObjV) (h : Reckoned rd root m B P Q) (hu : OwnTx w B0 u (namesAt rd root m)) (hx : ObjsIn w B0 x m V (obAt rd root))
      (hb : w.ownsRow B0 3 1 b m (joinC (intC B) m)) (hp : w.ownsRow B0 136 3 p (patsAt rd root m B P Q).length (patsC (patsAt rd root m B P Q))) : ReckEnd w B0 rd root (.returned (.tuple #[u, x, b, p, .nilIface]))
theorem ObjsIn.below {w w' : World} {B n : Nat} {x : Value} {V : Nat → ObjV} {O : Nat → ObjF} (h : ObjsIn w B x n V O) (hb : Below w.heap.size w w') : ObjsIn w' B x n V O := ⟨owns_below h.own hb, fun j hj => (h.at' j hj).later hb⟩
theorem ObjsIn.base {w : World} {B B' n : Nat} {x : Value} {V : Nat → ObjV} {O : Nat → ObjF} (h : ObjsIn w B x n V O) (hb : B' ≤ B) : ObjsIn w B' x n V O := ⟨World.ownsRow.mono h.own hb, h.at'⟩

end Go.Proofs.YtbbhjpbacobmjaaGreatDoor

namespace Go.Proofs.YtbbhjpbacobmjaaGreatDoor
open Go.RowKit Go.Maps

/-- the words of all parts, bound. -/
abbrev boundW (rd : ByteArray → Nat × ObjF) (root : ByteArray) (m : Nat) (B : Nat → Int) (P Q : ByteArray → Int) : Nat → Nat → Int :=
  putF (fun i j => (obAt rd root i).words j) (pP (patsAt rd root m B P Q)) (pT (patsAt rd root m B P Q)) (pV (patsAt rd root m B P Q)) (patsAt rd root m B P Q).length
/-- parts of the call's own. -/
structure PartsIn (w : World) (B0 : Nat) (v : Value) (n : Nat) (nm : Nat → ByteArray) (B : Nat → Int) (M : Nat → Nat) (X : Nat → Nat → Int) (g : Nat) (A : Nat → Option Addr) (C G : Nat → Nat) : Prop where
  out : OutAt w B0 g n M A C G X
  own : w.ownsRow B0 58 3 v n (joinC (partC nm B A M C) n)
/-- a call of Load that returned. -/
inductive LoadEnd (w : World) (B0 : Nat) (rd : ByteArray → Nat × ObjF) (root : ByteArray) : Ending → Prop
  | bad (F : Nat) (h : ReckIs rd root F) (hf : F ≠ 0) : LoadEnd w B0 rd root (.returned (.tuple #[.slice none 0 0, errV F]))
  | ok (m : Nat) (B : Nat → Int) (P Q : ByteArray → Int) (u : Value) (g : Nat) (A : Nat → Option Addr) (C G : Nat → Nat) (h : Reckoned rd root m B P Q)
      (hu : PartsIn w B0 u m (nmAt rd root) B (fun i => (obAt rd root i).nW) (boundW rd root m B P Q) g A C G) : LoadEnd w B0 rd root (.returned (.tuple #[u, .nilIface]))
end Go.Proofs.YtbbhjpbacobmjaaGreatDoor
