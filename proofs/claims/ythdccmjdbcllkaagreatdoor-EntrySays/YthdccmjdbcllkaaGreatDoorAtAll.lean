/-
  A slice in memory, read by a function of its places: what a walk is told of it. Plain words on two such functions.
  An object in memory: what its four slices hold; what stays of it as memory grows.
  A row of objects in memory: what its places hold; what stays of it as memory grows; its symbols in plain words.
  Lists of lists of numbers in memory; patches in memory; rows of the call's own that are patched: what stays of them as memory grows and as one place is written.
  Rows of the call's own that grow: append of whatever slice, said once for all element types; at a step of a region that draws its order, and at one that doesn't.
-/
import Derived.WalkKit
import Derived.ProofKit
import Derived.WalkLawsBesides
import Derived.Below
import Derived.WalkSpells
import Derived.Test.YthdccmjdbcllkaaGreatDoorPlain
import Derived.Deep.OwnRows
import Derived.Test.YthdccmjdbcllkaaGreatDoorRows
import Derived.Laws.AppendOwn
import Derived.Deep.RegionLaw
namespace Go.Proofs.YthdccmjdbcllkaaGreatDoor
open Go.RowKit

/-- the n places behind 'a' hold what f says (n = 0: nothing is said of 'a'). -/
def RowAt (w : World) (a : Option Addr) (n : Nat) (f : Nat → Value) : Prop :=
  n = 0 ∨ ∃ b o, a = some ⟨b, o, none⟩ ∧ ∀ i, i < n → w.cell? ⟨b, o + i, none⟩ = some (f i)

theorem RowAt.drewN {w : World} {a : Option Addr} {n : Nat} {f : Nat → Value} (h : RowAt w a n f) (k : Nat) : RowAt (w.drewN k) a n f := by
  rcases h with h | ⟨b, o, ha, hc⟩
  · exact .inl h
  · exact .inr ⟨b, o, ha, fun i hi => by simpa using hc i hi⟩

theorem RowAt.later {w w' : World} {a : Option Addr} {n : Nat} {f : Nat → Value} (h : RowAt w a n f) (hb : Below w.heap.size w w') : RowAt w' a n f := by
  rcases h with h | ⟨b, o, ha, hc⟩
  · exact .inl h
  · exact .inr ⟨b, o, ha, fun i hi => cell_later hb (hc i hi)⟩

/-- are two functions alike at the first n places? -/
def eqTo {α : Type} [DecidableEq α] (f g : Nat → α) : Nat → Bool
  | 0 => true
  | k + 1 => eqTo f g k && decide (f k = g k)
theorem eqTo_succ {α : Type} [DecidableEq α] {f g : Nat → α} {k : Nat} (h : eqTo f g k = true) (e : f k = g k) : eqTo f g (k + 1) = true := by simp [eqTo, h, e]
theorem eqTo_stop {α : Type} [DecidableEq α] {f g : Nat → α} {k n : Nat} (e : f k ≠ g k) (h : k < n) : eqTo f g n = false := by
  induction n with
  | zero => omega
  | succ n ih =>
    by_cases hk : k = n
    · subst hk; simp [eqTo, e]
    · simp [eqTo, ih (by omega)]
theorem eqTo_iff {α : Type} [DecidableEq α] {f g : Nat → α} {n : Nat} : eqTo f g n = true ↔ ∀ i, i < n → f i = g i := by
  induction n with
  | zero => simp [eqTo]
  | succ n ih =>
    simp only [eqTo, Bool.and_eq_true, decide_eq_true_eq, ih]
    constructor
    · rintro ⟨h, e⟩ i hi
      by_cases hk : i = n
      · subst hk; exact e
      · exact h i (by omega)
    · intro h
      exact ⟨fun i hi => h i (by omega), h n (by omega)⟩
end Go.Proofs.YthdccmjdbcllkaaGreatDoor

namespace Go.Proofs.YthdccmjdbcllkaaGreatDoor
open Go.RowKit

/-- the n symbols behind 'a'. -/
def SymsRow (w : World) (a : Option Addr) (n : Nat) (s : Nat → ByteArray) (v : Nat → Int) (b : Nat → Bool) : Prop :=
  n = 0 ∨ ∃ bk o, a = some ⟨bk, o, none⟩ ∧ ∀ i, i < n → w.cell? ⟨bk, o + i * 3, none⟩ = some (.string (s i)) ∧ w.cell? ⟨bk, o + i * 3 + 1, none⟩ = some (.int .i64 (v i)) ∧ w.cell? ⟨bk, o + i * 3 + 2, none⟩ = some (.bool (b i))
/-- the n ties behind 'a'. -/
def TiesRow (w : World) (a : Option Addr) (n : Nat) (x k d : Nat → Int) (s : Nat → ByteArray) (b : Nat → Bool) : Prop :=
  n = 0 ∨ ∃ bk o, a = some ⟨bk, o, none⟩ ∧ ∀ i, i < n → w.cell? ⟨bk, o + i * 5, none⟩ = some (.int .i64 (x i)) ∧ w.cell? ⟨bk, o + i * 5 + 1, none⟩ = some (.int .i64 (k i)) ∧ w.cell? ⟨bk, o + i * 5 + 2, none⟩ = some (.int .i64 (d i)) ∧ w.cell? ⟨bk, o + i * 5 + 3, none⟩ = some (.string (s i)) ∧ w.cell? ⟨bk, o + i * 5 + 4, none⟩ = some (.bool (b i))

theorem SymsRow.later {w w' : World} {a : Option Addr} {n : Nat} {s : Nat → ByteArray} {v : Nat → Int} {b : Nat → Bool} (h : SymsRow w a n s v b) (hb : Below w.heap.size w w') : SymsRow w' a n s v b := by
  rcases h with h | ⟨bk, o, ha, hc⟩
  · exact .inl h
  · exact .inr ⟨bk, o, ha, fun i hi => ⟨cell_later hb (hc i hi).1, cell_later hb (hc i hi).2.1, cell_later hb (hc i hi).2.2⟩⟩
theorem TiesRow.later {w w' : World} {a : Option Addr} {n : Nat} {x k d : Nat → Int} {s : Nat → ByteArray} {b : Nat → Bool} (h : TiesRow w a n x k d s b) (hb : Below w.heap.size w w') : TiesRow w' a n x k d s b := by
  rcases h with h | ⟨bk, o, ha, hc⟩
  · exact .inl h
  · exact .inr ⟨bk, o, ha, fun i hi => ⟨cell_later hb (hc i hi).1, cell_later hb (hc i hi).2.1, cell_later hb (hc i hi).2.2.1, cell_later hb (hc i hi).2.2.2.1, cell_later hb (hc i hi).2.2.2.2⟩⟩

/-- where an object's four slices lie. -/
structure ObjV where
  aN : Option Addr
  cN : Nat
  aW : Option Addr
  cW : Nat
  aS : Option Addr
  cS : Nat
  aT : Option Addr
  cT : Nat
/-- the four slices. -/
def ObjV.cells (v : ObjV) (o : ObjF) : Array Value := #[.slice v.aN o.nN v.cN, .slice v.aW o.nW v.cW, .slice v.aS o.nS v.cS, .slice v.aT o.nT v.cT]
/-- what they hold is that object. -/
structure ObjAt (w : World) (v : ObjV) (o : ObjF) : Prop where
  needs : RowAt w v.aN o.nN fun i => .string (o.needs i)
  words : RowAt w v.aW o.nW fun i => .int .i64 (o.words i)
  syms : SymsRow w v.aS o.nS o.sName o.sAt o.sWeak
  ties : TiesRow w v.aT o.nT o.tAt o.tKind o.tAdd o.tName o.tWeak
  capN : o.nN ≤ v.cN
  capS : o.nS ≤ v.cS
theorem ObjAt.later {w w' : World} {v : ObjV} {o : ObjF} (h : ObjAt w v o) (hb : Below w.heap.size w w') : ObjAt w' v o :=
  ⟨h.needs.later hb, h.words.later hb, h.syms.later hb, h.ties.later hb, h.capN, h.capS⟩
/-- texts are no longer than texts may be, numbers are numbers. -/
structure ObjFit (o : ObjF) : Prop where
  lN : o.nN ≤ maxLen
  lW : o.nW ≤ maxLen
  lS : o.nS ≤ maxLen
  lT : o.nT ≤ maxLen
  needs : ∀ i, i < o.nN → (o.needs i).size ≤ maxLen
  words : ∀ i, i < o.nW → (Lit.int .i64 (o.words i)).wf = true
  syms : ∀ i, i < o.nS → (o.sName i).size ≤ maxLen ∧ (Lit.int .i64 (o.sAt i)).wf = true
  ties : ∀ i, i < o.nT → (o.tName i).size ≤ maxLen ∧ (Lit.int .i64 (o.tAt i)).wf = true ∧ (Lit.int .i64 (o.tKind i)).wf = true ∧ (Lit.int .i64 (o.tAdd i)).wf = true
end Go.Proofs.YthdccmjdbcllkaaGreatDoor

namespace Go.Proofs.YthdccmjdbcllkaaGreatDoor
open Go.RowKit

/-- the four slices of an object that lies at a place. -/
structure ObjHere (w : World) (bk o : Nat) (v : ObjV) (x : ObjF) : Prop where
  c0 : w.cell? ⟨bk, o, none⟩ = some (.slice v.aN x.nN v.cN)
  c1 : w.cell? ⟨bk, o + 1, none⟩ = some (.slice v.aW x.nW v.cW)
  c2 : w.cell? ⟨bk, o + 2, none⟩ = some (.slice v.aS x.nS v.cS)
  c3 : w.cell? ⟨bk, o + 3, none⟩ = some (.slice v.aT x.nT v.cT)
  here : ObjAt w v x
theorem ObjHere.later {w w' : World} {bk o : Nat} {v : ObjV} {x : ObjF} (h : ObjHere w bk o v x) (hb : Below w.heap.size w w') : ObjHere w' bk o v x :=
  ⟨cell_later hb h.c0, cell_later hb h.c1, cell_later hb h.c2, cell_later hb h.c3, h.here.later hb⟩
/-- the n objects behind 'a'. -/
def ObjsRow (w : World) (a : Option Addr) (n : Nat) (V : Nat → ObjV) (O : Nat → ObjF) : Prop :=
  n = 0 ∨ ∃ bk o, a = some ⟨bk, o, none⟩ ∧ ∀ i, i < n → ObjHere w bk (o + i * 4) (V i) (O i)
theorem ObjsRow.later {w w' : World} {a : Option Addr} {n : Nat} {V : Nat → ObjV} {O : Nat → ObjF} (h : ObjsRow w a n V O) (hb : Below w.heap.size w w') : ObjsRow w' a n V O := by
  rcases h with h | ⟨bk, o, ha, hc⟩
  · exact .inl h
  · exact .inr ⟨bk, o, ha, fun i hi => (hc i hi).later hb⟩
/-- their symbols. -/
def symsF (n : Nat) (O : Nat → ObjF) : SymsF := ⟨n, fun i => (O i).nS, fun i => (O i).sName, fun i => (O i).sWeak⟩
end Go.Proofs.YthdccmjdbcllkaaGreatDoor

namespace Go.Proofs.YthdccmjdbcllkaaGreatDoor
open Go.RowKit

/-- the n patches behind 'a'. -/
def PatRow (w : World) (a : Option Addr) (n : Nat) (p t v : Nat → Int) : Prop :=
  n = 0 ∨ ∃ bk o, a = some ⟨bk, o, none⟩ ∧ ∀ i, i < n → w.cell? ⟨bk, o + i * 3, none⟩ = some (.int .i64 (p i)) ∧ w.cell? ⟨bk, o + i * 3 + 1, none⟩ = some (.int .i64 (t i)) ∧ w.cell? ⟨bk, o + i * 3 + 2, none⟩ = some (.int .i64 (v i))
theorem PatRow.later {w w' : World} {a : Option Addr} {n : Nat} {p t v : Nat → Int} (h : PatRow w a n p t v) (hb : Below w.heap.size w w') : PatRow w' a n p t v := by
  rcases h with h | ⟨bk, o, ha, hc⟩
  · exact .inl h
  · exact .inr ⟨bk, o, ha, fun i hi => ⟨cell_later hb (hc i hi).1, cell_later hb (hc i hi).2.1, cell_later hb (hc i hi).2.2⟩⟩
/-- the n lists behind 'a': how long each is, what each holds. -/
def ListsRow (w : World) (a : Option Addr) (n : Nat) (A : Nat → Option Addr) (M C : Nat → Nat) (X : Nat → Nat → Int) : Prop :=
  n = 0 ∨ ∃ bk o, a = some ⟨bk, o, none⟩ ∧ ∀ i, i < n → w.cell? ⟨bk, o + i, none⟩ = some (.slice (A i) (M i) (C i)) ∧ RowAt w (A i) (M i) fun j => .int .i64 (X i j)
theorem ListsRow.later {w w' : World} {a : Option Addr} {n : Nat} {A : Nat → Option Addr} {M C : Nat → Nat} {X : Nat → Nat → Int} (h : ListsRow w a n A M C X) (hb : Below w.heap.size w w') : ListsRow w' a n A M C X := by
  rcases h with h | ⟨bk, o, ha, hc⟩
  · exact .inl h
  · exact .inr ⟨bk, o, ha, fun i hi => ⟨cell_later hb (hc i hi).1, (hc i hi).2.later hb⟩⟩

/-- is there such a word? -/
def patOk (n : Nat) (M : Nat → Nat) (p t : Int) : Bool := isPlaceF p n && isPlaceF t (M p.toNat)
/-- the words behind the first k patches. -/
def putF (X : Nat → Nat → Int) (p t v : Nat → Int) : Nat → Nat → Nat → Int
  | 0, i, j => X i j
  | k + 1, i, j => if p k = i ∧ t k = j then v k else putF X p t v k i j
/-- the first one that is not so. -/
def BadAt (f : Nat → Bool) (n : Nat) : Prop := ∃ k, k < n ∧ f k = false
def AllOk (f : Nat → Bool) (n : Nat) : Prop := ∀ k, k < n → f k = true
theorem BadAt.not {f : Nat → Bool} {n : Nat} (h : BadAt f n) (h' : AllOk f n) : False := by
  obtain ⟨k, hk, e⟩ := h
  rw [h' k hk] at e; cases e

/-- rows of the call's own, from block B on: 'g' holds the lists, G i the i-th one's words. -/
structure OutAt (w : World) (B g n : Nat) (M : Nat → Nat) (A : Nat → Option Addr) (C G : Nat → Nat) (X : Nat → Nat → Int) : Prop where
  hB : B ≤ g
  lt : g < w.heap.size
  top : ∀ i, i < n → w.cell? ⟨g, i, none⟩ = some (.slice (A i) (M i) (C i))
  free : ∀ i, w.frozen? ⟨g, i, none⟩ = false
  adr : ∀ i, i < n → 0 < M i → A i = some ⟨G i, 0, none⟩
  own : ∀ i, i < n → 0 < M i → B ≤ G i
  ne : ∀ i, i < n → 0 < M i → G i ≠ g
  row : ∀ i, i < n → ∀ j, j < M i → w.cell? ⟨G i, j, none⟩ = some (.int .i64 (X i j))
  rfree : ∀ i, i < n → 0 < M i → ∀ j, w.frozen? ⟨G i, j, none⟩ = false
  apart : ∀ i j, i < n → j < n → i ≠ j → 0 < M i → 0 < M j → G i ≠ G j
theorem OutAt.later {w w' : World} {B g n : Nat} {M : Nat → Nat} {A : Nat → Option Addr} {C G : Nat → Nat} {X : Nat → Nat → Int} (h : OutAt w B g n M A C G X) (hb : Below w.heap.size w w') : OutAt w' B g n M A C G X where
  hB := h.hB
  lt := Nat.lt_of_lt_of_le h.lt hb.size
  top := fun i hi => cell_later hb (h.top i hi)
  free := fun i => by rw [hb.frozen (p := ⟨g, i, none⟩) h.lt]; exact h.free i
  adr := h.adr
  own := h.own
  ne := h.ne
  row := fun i hi j hj => cell_later hb (h.row i hi j hj)
  rfree := fun i hi hm j => by
    have := World.block_lt_of_cell? _ _ (h.row i hi 0 hm)
    rw [hb.frozen (p := ⟨G i, j, none⟩) this]; exact h.rfree i hi hm j
  apart := h.apart
/-- one word is written. -/
theorem OutAt.put {w : World} {B g n : Nat} {M : Nat → Nat} {A : Nat → Option Addr} {C G : Nat → Nat} {X : Nat → Nat → Int} (h : OutAt w B g n M A C G X) {x y : Nat} (hx : x < n) (hy : y < M x) (v : Int) :
    OutAt (w.setCell ⟨G x, y, none⟩ (.int .i64 v)) B g n M A C G fun i j => if i = x ∧ j = y then v else X i j where
  hB := h.hB
  lt := by simpa [World.setCell] using h.lt
  top := fun i hi => by
    rw [World.cell?_setCell_other _ _ _ _ (by intro e; injection e with e _ _; exact h.ne x hx (by omega) e)]; exact h.top i hi
  free := fun i => by rw [World.frozen?_setCell]; exact h.free i
  adr := h.adr
  own := h.own
  ne := h.ne
  row := fun i hi j hj => by
    by_cases e : i = x ∧ j = y
    · obtain ⟨rfl, rfl⟩ := e
      rw [World.cell?_setCell_same _ _ _ (h.row i hi j hj)]; simp
    · rw [World.cell?_setCell_other _ _ _ _ ?_, if_neg e]
      · exact h.row i hi j hj
      · intro e2
        injection e2 with e2 e3 _
        by_cases hix : i = x
        · subst hix; exact e ⟨rfl, e3.symm⟩
        · exact h.apart i x hi hx hix (by omega) (by omega) e2.symm
  rfree := fun i hi hm j => by rw [World.frozen?_setCell]; exact h.rfree i hi hm j
  apart := h.apart
theorem OutAt.congr {w : World} {B g n : Nat} {M : Nat → Nat} {A : Nat → Option Addr} {C G : Nat → Nat} {X Y : Nat → Nat → Int} (h : OutAt w B g n M A C G X) (e : ∀ i, i < n → ∀ j, j < M i → X i j = Y i j) : OutAt w B g n M A C G Y :=
  { h with row := fun i hi j hj => by rw [← e i hi j hj]; exact h.row i hi j hj }
end Go.Proofs.YthdccmjdbcllkaaGreatDoor

namespace Go.Proofs.YthdccmjdbcllkaaGreatDoor
open Go.RowKit

/-- cells of the first k, one behind the other. -/
def joinC (g : Nat → List Value) : Nat → List Value
  | 0 => []
  | k + 1 => joinC g k ++ g k
theorem joinC_congr {g h : Nat → List Value} {n : Nat} (e : ∀ i, i < n → g i = h i) : joinC g n = joinC h n := by
  induction n with
  | zero => rfl
  | succ n ih => simp only [joinC, ih (fun i hi => e i (by omega)), e n (by omega)]
theorem joinC_len {g : Nat → List Value} {s n : Nat} (e : ∀ i, i < n → (g i).length = s) : (joinC g n).length = n * s := by
  induction n with
  | zero => simp [joinC]
  | succ n ih => simp only [joinC, List.length_append, ih (fun i hi => e i (by omega)), e n (by omega), Nat.add_mul]; omega
theorem joinC_at {g : Nat → List Value} {s n i j : Nat} (e : ∀ i, i < n → (g i).length = s) (hi : i < n) (hj : j < s) : (joinC g n)[i * s + j]? = (g i)[j]? := by
  induction n with
  | zero => omega
  | succ n ih =>
    have hl := joinC_len (g := g) (s := s) (n := n) (fun i hi => e i (by omega))
    simp only [joinC]
    by_cases h : i = n
    · subst h
      rw [List.getElem?_append_right (by omega), hl]
      congr 1
      omega
    · have hlt : i * s + j < n * s := by
        have h1 : (i + 1) * s ≤ n * s := Nat.mul_le_mul_right s (by omega)
        rw [Nat.add_mul] at h1
        omega
      rw [List.getElem?_append_left (by omega)]
      exact ih (fun i hi => e i (by omega)) (by omega)
theorem joinC_add {g : Nat → List Value} (n m : Nat) : joinC g (n + m) = joinC g n ++ joinC (fun i => g (n + i)) m := by
  induction m with
  | zero => simp [joinC]
  | succ m ih =>
    show joinC g (n + m) ++ g (n + m) = _
    rw [ih]; simp [joinC]
theorem joinC_mem {g : Nat → List Value} {n : Nat} {u : Value} (h : u ∈ joinC g n) : ∃ i, i < n ∧ u ∈ g i := by
  induction n with
  | zero => simp [joinC] at h
  | succ n ih =>
    simp only [joinC, List.mem_append] at h
    rcases h with h | h
    · obtain ⟨i, hi, hu⟩ := ih h; exact ⟨i, by omega, hu⟩
    · exact ⟨n, by omega, h⟩
theorem add_at (b o j : Nat) : (⟨b, o, none⟩ : Addr).add j = ⟨b, o + j, none⟩ := by cases j <;> simp [Addr.add]

/-- what an owned row's cells are. -/
theorem owns_cell {w : World} {B : Nat} {e : TypeId} {s n : Nat} {a : Option Addr} {m c : Nat} {xs : List Value} (h : w.ownsRow B e s (.slice a m c) n xs) {j : Nat} {u : Value} (hj : xs[j]? = some u) :
    ∃ g, a = some ⟨g, 0, none⟩ ∧ B ≤ g ∧ w.cell? ⟨g, j, none⟩ = some u := by
  have hlen := h.1
  rcases h.2 with ⟨hv, rfl⟩ | ⟨g, cap, cur, hv, hB, hg, _, _, hcs, ht⟩
  · have : xs = [] := List.eq_nil_of_length_eq_zero (by simpa using hlen)
    subst this
    simp at hj
  · injection hv with h1 h2 h3
    refine ⟨g, h1, hB, ?_⟩
    rw [← ht] at hj
    have hlt : j < n * s := by
      have := (List.getElem?_eq_some_iff.1 hj).1
      simp at this
      omega
    rw [List.getElem?_take_of_lt hlt] at hj
    simp [World.cell?, hg]
    simpa using hj
theorem owns_shape {w : World} {B : Nat} {e : TypeId} {s n : Nat} {v : Value} {xs : List Value} (h : w.ownsRow B e s v n xs) : ∃ a c, v = .slice a n c ∧ n ≤ c := by
  rcases h.2 with ⟨rfl, rfl⟩ | ⟨g, cap, cur, rfl, _, _, hc, _⟩
  · exact ⟨_, _, rfl, Nat.le_refl _⟩
  · exact ⟨_, _, rfl, hc⟩
theorem owns_below {w w' : World} {B : Nat} {e : TypeId} {s n : Nat} {v : Value} {xs : List Value} (h : w.ownsRow B e s v n xs) (hb : Below w.heap.size w w') : w'.ownsRow B e s v n xs := by
  refine h.kept (row := none) ⟨hb.os, hb.tape, hb.output, hb.size, fun k hk _ => hb.block k hk⟩ ?_
  cases hv : v.ownBlock <;> simp
/-- memory ahead of B stays when an owned row grows. -/
theorem below_grown {B : Nat} {w w' : World} {e : TypeId} {s n : Nat} {v : Value} {xs : List Value} (h : w.ownsRow B e s v n xs) (hB : B ≤ w.heap.size) (hg : w.grownBy w' v.ownBlock) : Below B w w' :=
  (Below.refl B w).grown hg hB (fun k hk => (h.lt k hk).1)

/-- what becomes of append: it goes on with a row of the call's own that holds both. -/
structure Grown (B : Nat) (e : TypeId) (s : Nat) (w : World) (v : Value) (n : Nat) (xs : List Value) (v' : Value) (W : World) : Prop where
  own : W.ownsRow B e s v' n xs
  grown : w.grownBy W v.ownBlock
  below : Below B w W

theorem append_none (t e ty : TypeId) (size bytes : Nat) (z : Value) (ht : Tryz.prog.underlying t = some (.slice e)) (hinfo : (Tryz.prog.info? e).map (fun i => (i.zero, i.size, i.bytes)) = some (some z, size, bytes))
    (B : Nat) (w : World) (v : Value) (n c : Nat) (xs : List Value) (hown : w.ownsRow B e size v n xs) :
    (Builtin.append_ #[t, t] ty #[v, .slice none 0 c]).run Tryz.prog w = .ok v w := by
  obtain ⟨i, hi, hzz⟩ := Option.map_eq_some_iff.1 hinfo
  simp only [Prod.mk.injEq] at hzz
  obtain ⟨hz, hs, hb⟩ := hzz
  rcases hown.2 with ⟨rfl, rfl⟩ | ⟨g, cap, cur, rfl, hbg, hg, hnc, hcm, hcs, htake⟩
  · simp [Builtin.append_, run_underlying ht, sizeOf, typeInfo, hi, Builtin.lenOf, Builtin.firstCells]
  · simp [Builtin.append_, run_underlying ht, sizeOf, typeInfo, hi, Builtin.lenOf, Builtin.firstCells, hnc, storeCells]

/-- append of whatever slice onto a row of the call's own. -/
theorem append_from (t e : TypeId) (size bytes : Nat) (z : Value) (ht : Tryz.prog.underlying t = some (.slice e)) (hinfo : (Tryz.prog.info? e).map (fun i => (i.zero, i.size, i.bytes)) = some (some z, size, bytes)) (hzs : z.cells.size = size) (hsz : 0 < size)
    (B : Nat) (w : World) (v : Value) (n : Nat) (xs : List Value) (hown : w.ownsRow B e size v n xs) (a : Option Addr) (m c : Nat) (news : List Value) (hl : news.length = m * size)
    (hsrc : m = 0 ∨ ∃ b o, a = some ⟨b, o, none⟩ ∧ ∀ j u, news[j]? = some u → w.cell? ⟨b, o + j, none⟩ = some u) (h1 : ∀ u ∈ news, u.oneCell' = true) (hB : B ≤ w.heap.size) (hn : n + m ≤ 1000000) (hby : bytes ≤ 1000) :
    ∃ v' W, (Builtin.append_ #[t, t] t #[v, .slice a m c]).run Tryz.prog w = .ok v' W ∧ Grown B e size w v (n + m) (xs ++ news) v' W := by
  obtain ⟨i, hi, hzz⟩ := Option.map_eq_some_iff.1 hinfo
  simp only [Prod.mk.injEq] at hzz
  obtain ⟨hz, hs, hb⟩ := hzz
  have hbnd : (n + m) * bytes ≤ 140737488355328 := by
    have : (n + m) * bytes ≤ 1000000 * 1000 := Nat.mul_le_mul hn hby
    omega
  have fin : ∀ (ad : Addr), (∀ j u, news[j]? = some u → w.cell? (ad.add j) = some u) → ∃ v' W, (Builtin.append_ #[t, t] t #[v, .slice (some ad) m c]).run Tryz.prog w = .ok v' W ∧ Grown B e size w v (n + m) (xs ++ news) v' W := fun ad hc => by
    obtain ⟨v', W, h2, h3, h4, _⟩ := run_append_own (P := Tryz.prog) w B t t e i z size bytes ht hi hz hs hb hzs hsz v n xs hown ad m c news hl hc h1 (by simp only [maxLen]; omega) hbnd hB
    exact ⟨v', W, h2, h3, h4, below_grown hown hB h4⟩
  cases a with
  | none =>
    rcases hsrc with rfl | ⟨b, o, h, _⟩
    · have : news = [] := List.eq_nil_of_length_eq_zero (by simpa using hl)
      subst this
      exact ⟨v, w, append_none t e t size bytes z ht hinfo B w v n c xs hown, by simpa using hown, ⟨rfl, rfl, rfl, Nat.le_refl _, fun _ _ _ => rfl⟩, Below.refl _ _⟩
    · cases h
  | some ad =>
    refine fin ad ?_
    rcases hsrc with rfl | ⟨b, o, h, hc⟩
    · have : news = [] := List.eq_nil_of_length_eq_zero (by simpa using hl)
      subst this
      intro j u hj
      simp at hj
    · injection h with h
      subst h
      intro j u hj
      rw [add_at]
      exact hc j u hj

/-- append at a step of a region that draws its order. -/
theorem step_own {P : Program} {ops : Array Oper} {o : Oper} {a : Act} {w : World} {K : Act → World → Prop} {Q : Exit → Act → World → Prop} {E : Prop} {R : Value → World → Prop}
    (hg : o.guard = none) (s x : Operand) (t : TypeId) (hop : o.op = Op.call { callee := Callee.builtin Builtin.append, args := #[s, x], argTypes := #[t, t] }) (v sl : Value)
    (hs : a.eval s = v) (hx : a.eval x = sl) (hrun : ∃ v' W, (Builtin.append_ #[t, t] o.type #[v, sl]).run P w = .ok v' W ∧ R v' W) (hK : ∀ v' W, R v' W → K (a.put o.dst v') W) :
    if Region.wanted o (yielded ops a.tmps) = true then Oper.wp P o a w K Q else E := by
  obtain ⟨v', W, hrun, hR⟩ := hrun
  have hw : Region.wanted o (yielded ops a.tmps) = true := by simp [Region.wanted, hg]
  rw [if_pos hw]
  unfold Oper.wp
  simp [execOp, hop, resolve, invoke, builtin, hs, hx, hrun, Result.andThen]
  exact hK _ _ hR
theorem step_run {P : Program} {ops : Array Oper} {o : Oper} {a : Act} {w W : World} {K : Act → World → Prop} {Q : Exit → Act → World → Prop} {E : Prop}
    (hg : o.guard = none) (s x : Operand) (t : TypeId) (hop : o.op = Op.call { callee := Callee.builtin Builtin.append, args := #[s, x], argTypes := #[t, t] }) (v sl v' : Value)
    (hs : a.eval s = v) (hx : a.eval x = sl) (hrun : (Builtin.append_ #[t, t] o.type #[v, sl]).run P w = .ok v' W) (hK : K (a.put o.dst v') W) :
    if Region.wanted o (yielded ops a.tmps) = true then Oper.wp P o a w K Q else E :=
  step_own (R := fun u X => u = v' ∧ X = W) hg s x t hop v sl hs hx ⟨v', W, hrun, rfl, rfl⟩ (by rintro _ _ ⟨rfl, rfl⟩; exact hK)
theorem list_run {P : Program} {ops : Array Oper} {rest : List Oper} {o : Oper} {a : Act} {w W : World} {Q : Exit → Act → World → Prop} (hg : o.guard = none) (s x : Operand) (t : TypeId)
    (hop : o.op = Op.call { callee := Callee.builtin Builtin.append, args := #[s, x], argTypes := #[t, t] }) (v sl v' : Value)
    (hs : a.eval s = v) (hx : a.eval x = sl) (hrun : (Builtin.append_ #[t, t] o.type #[v, sl]).run P w = .ok v' W) (h : wpList P ops Q rest (a.put o.dst v') W) : wpList P ops Q (o :: rest) a w :=
  wpList_plain hg fun _ hK => by
    unfold Oper.wp
    simp [execOp, hop, resolve, invoke, builtin, hs, hx, hrun, Result.andThen]
    exact hK _ _ h
/-- append at a step of plain code. -/
theorem list_own {P : Program} {ops : Array Oper} {rest : List Oper} {o : Oper} {a : Act} {w : World} {Q : Exit → Act → World → Prop} {R : Value → World → Prop} (hg : o.guard = none) (s x : Operand) (t : TypeId)
    (hop : o.op = Op.call { callee := Callee.builtin Builtin.append, args := #[s, x], argTypes := #[t, t] }) (v sl : Value)
    (hs : a.eval s = v) (hx : a.eval x = sl) (hrun : ∃ v' W, (Builtin.append_ #[t, t] o.type #[v, sl]).run P w = .ok v' W ∧ R v' W) (h : ∀ v' W, R v' W → wpList P ops Q rest (a.put o.dst v') W) : wpList P ops Q (o :: rest) a w := by
  obtain ⟨v', W, hrun, hR⟩ := hrun
  exact wpList_plain hg fun _ hK => by
    unfold Oper.wp
    simp [execOp, hop, resolve, invoke, builtin, hs, hx, hrun, Result.andThen]
    exact hK _ _ (h _ _ hR)
end Go.Proofs.YthdccmjdbcllkaaGreatDoor
