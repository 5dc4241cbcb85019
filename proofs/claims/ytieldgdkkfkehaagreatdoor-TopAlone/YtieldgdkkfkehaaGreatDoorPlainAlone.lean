/-
  Plain words: an object that needs nobody is alone; what is reckoned for it is what its own ties ask for.
-/
import Derived.Test.YtieldgdkkfkehaaGreatDoorPlainOther
import Derived.Test.YtieldgdkkfkehaaGreatDoorPlainTop
namespace Go.Proofs.YtieldgdkkfkehaaGreatDoor
open Go.RowKit Go.Maps

theorem SameO.symm {a b : ObjF} (h : SameO a b) : SameO b a :=
  ⟨h.nN.symm, h.nW.symm, h.nS.symm, h.nT.symm, fun i hi => (h.needs i (by rw [← h.nN]; exact hi)).symm, fun i hi => (h.words i (by rw [← h.nW]; exact hi)).symm,
    fun i hi => by obtain ⟨h1, h2, h3⟩ := h.syms i (by rw [← h.nS]; exact hi); exact ⟨h1.symm, h2.symm, h3.symm⟩,
    fun i hi => by obtain ⟨h1, h2, h3, h4, h5⟩ := h.ties i (by rw [← h.nT]; exact hi); exact ⟨h1.symm, h2.symm, h3.symm, h4.symm, h5.symm⟩⟩
theorem hit_so {a b : ObjF} (h : SameO a b) {s : ByteArray} {i k : Nat} (hh : Hit (symsF 1 fun _ => a) s i k) : Hit (symsF 1 fun _ => b) s i k ∧ (symsF 1 fun _ => b).wk i k = (symsF 1 fun _ => a).wk i k := by
  have hk : k < a.nS := hh.lk
  have hk' : k < b.nS := by rw [← h.nS]; exact hk
  obtain ⟨e1, _, e3⟩ := h.syms k hk'
  have hn : a.sName k = s := hh.eq
  exact ⟨⟨hh.li, hk', by show b.sName k = s; rw [← e1]; exact hn⟩, e3.symm⟩
theorem found_so {a b : ObjF} (h : SameO a b) {s : ByteArray} {p q : Int} (hf : IsFound (symsF 1 fun _ => a) s p q) : IsFound (symsF 1 fun _ => b) s p q := by
  have h' := h.symm
  cases hf with
  | strong i k hh hw hb => exact .strong i k (hit_so h hh).1 (by rw [(hit_so h hh).2]; exact hw) fun x y hxy hbf => by rw [(hit_so h (hit_so h' hxy).1).2]; exact hb x y (hit_so h' hxy).1 hbf
  | weak i k hh hf hw => exact .weak i k (hit_so h hh).1 (fun x y hxy => hf x y (hit_so h' hxy).1) fun x y hxy => by rw [(hit_so h (hit_so h' hxy).1).2]; exact hw x y (hit_so h' hxy).1
  | none hn => exact .none fun x y hxy => hn x y (hit_so h' hxy).1
theorem finds_so {a b : ObjF} (h : SameO a b) {P Q : ByteArray → Int} (hf : Finds (symsF 1 fun _ => a) P Q) : Finds (symsF 1 fun _ => b) P Q := ⟨fun s => found_so h (hf.is s)⟩
theorem tie_so {a b : ObjF} (h : SameO a b) {P Q : ByteArray → Int} (hf : Finds (symsF 1 fun _ => a) P Q) (B : Nat → Int) {k : Nat} (hk : k < b.nT) : tieW (fun _ => a) P Q B 0 k = tieW (fun _ => b) P Q B 0 k := by
  obtain ⟨e1, e2, e3, e4, e5⟩ := h.ties k hk
  unfold tieW whereF
  dsimp only
  rw [e1, e2, e3, e4, e5]
  split
  · rfl
  · split
    · rename_i hp
      rcases hf.shape (b.tName k) with ⟨h1, _⟩ | ⟨x, y, h1, h2, h3, h4, _⟩
      · rw [h1] at hp; omega
      · have h4' : y < a.nS := h4
        rw [h1, h2, Int.toNat_natCast, Int.toNat_natCast, (h.syms y (by rw [← h.nS]; exact h4')).2.1]
    · rfl
theorem patsOf_so {a b : ObjF} (h : SameO a b) {P Q : ByteArray → Int} (hf : Finds (symsF 1 fun _ => a) P Q) (B : Nat → Int) : ∀ k, k ≤ b.nT → patsOf (fun _ => a) P Q B 0 k = patsOf (fun _ => b) P Q B 0 k
  | 0, _ => rfl
  | k + 1, hk => by
    simp only [patsOf]
    rw [patsOf_so h hf B k (by omega), tie_so h hf B (by omega), (h.ties k (by omega)).1]
theorem pats_so {a b : ObjF} (h : SameO a b) {P Q : ByteArray → Int} (hf : Finds (symsF 1 fun _ => a) P Q) (B : Nat → Int) : patsTo (fun _ => a) P Q B 1 = patsTo (fun _ => b) P Q B 1 := by
  show [] ++ patsOf (fun _ => a) P Q B 0 a.nT = [] ++ patsOf (fun _ => b) P Q B 0 b.nT
  rw [h.nT, patsOf_so h hf B b.nT (Nat.le_refl _)]
theorem all_so {a b : ObjF} (h : SameO a b) {P Q : ByteArray → Int} (hf : Finds (symsF 1 fun _ => a) P Q) (B : Nat → Int) : allF 1 (fun _ => a) P Q 1 B = allF 1 (fun _ => b) P Q 1 B := by
  have key : tiesF (fun _ => a) P Q B 1 = tiesF (fun _ => b) P Q B 1 := by
    show seqF 0 (faultTo (fun k => (tieW (fun _ => a) P Q B 0 k).1) a.nT) = seqF 0 (faultTo (fun k => (tieW (fun _ => b) P Q B 0 k).1) b.nT)
    rw [h.nT, faultTo_same fun k hk => by rw [tie_so h hf B hk]]
  unfold allF
  rw [key]
theorem bases_alone {n : Int} (h1 : 1 ≤ n) (h2 : n ≤ 40) : BasesAre 1 (fun _ => n) 0 (fun _ => 0) (fun _ => 0) 0 (fun _ => 0) := by
  refine .ok _ ?_ fun j hj => ?_
  · unfold placeF
    rw [if_neg (by omega), if_neg, if_neg]
    · intro e; simp [anyTo] at e
    · intro e
      obtain ⟨i, _, hi⟩ := anyTo_iff.1 e
      have : n < 1 ∨ 40 < n := of_decide_eq_true hi
      omega
  · have : j = 0 := by omega
    subst this
    have := roundF_many h1 h2
    exact ⟨0, by decide, by show 16 * ((0 : Nat) : Int) + roundF n ≤ 256; omega, rfl, fun j hj => by omega⟩
section
variable {rd : ByteArray → Nat × ObjF} {root : ByteArray} {o : ObjF}
theorem ob_alone (_ : SameO (rd root).2 o) : ∀ i, i < 1 → (fun _ => (rd root).2) i = obAt rd root i := fun i hi => by
  have : i = 0 := by omega
  subst this
  rfl
theorem sz_alone (h : SameO (rd root).2 o) (hok : ObjOk o) : BasesAre 1 (szAt rd root) 0 (fun _ => 0) (fun _ => 0) 0 (fun _ => 0) := by
  refine bases_same (bases_alone (n := (o.nW : Int)) (by have := hok.nW0; omega) (by have := hok.nW; omega)) fun i hi => ?_
  have : i = 0 := by omega
  subst this
  show (o.nW : Int) = ((rd root).2.nW : Int)
  rw [h.nW]
theorem finds_alone (h : SameO (rd root).2 o) {P Q P' Q' : ByteArray → Int} (hf : Finds (symsF 1 (obAt rd root)) P Q) (hf' : Finds (symsF 1 fun _ => o) P' Q') : Finds (symsF 1 fun _ => (rd root).2) P Q ∧ P = P' ∧ Q = Q' := by
  have h1 := finds_same (ob_alone h) hf
  exact ⟨h1, (finds_so h h1).uniq hf'⟩
theorem alone_bad (hO : OfIs rd root 0 1) (h : SameO (rd root).2 o) (hok : ObjOk o) {P' Q' : ByteArray → Int} (hf' : Finds (symsF 1 fun _ => o) P' Q') {F : Nat} (hR : ReckIs rd root F) : F = allF 1 (fun _ => o) P' Q' 1 (fun _ => 0) := by
  cases hR with
  | of i h1 hf => exact absurd (h1.unique hO).1 hf
  | bases m B h1 hb hf =>
    obtain ⟨_, rfl⟩ := h1.unique hO
    exact absurd (hb.unique (sz_alone h hok)).1 hf
  | all m B P Q h1 hb hz hP he hf =>
    obtain ⟨_, rfl⟩ := h1.unique hO
    obtain rfl := bases_fun hb (sz_alone h hok) hz (fun _ _ => rfl)
    obtain ⟨g1, rfl, rfl⟩ := finds_alone h hP hf'
    rw [← he, ← all_so h g1, all_same (ob_alone h) hP]
theorem alone_ok (hO : OfIs rd root 0 1) (h : SameO (rd root).2 o) (hok : ObjOk o) {P' Q' : ByteArray → Int} (hf' : Finds (symsF 1 fun _ => o) P' Q') {m : Nat} {B : Nat → Int} {P Q : ByteArray → Int} (hR : Reckoned rd root m B P Q) :
    m = 1 ∧ B = (fun _ => 0) ∧ allF 1 (fun _ => o) P' Q' 1 (fun _ => 0) = 0 ∧ ∀ j, j < o.nW → boundW rd root m B P Q 0 j = putF (fun _ j => o.words j) (pP (patsTo (fun _ => o) P' Q' (fun _ => 0) 1)) (pT (patsTo (fun _ => o) P' Q' (fun _ => 0) 1)) (pV (patsTo (fun _ => o) P' Q' (fun _ => 0) 1)) (patsTo (fun _ => o) P' Q' (fun _ => 0) 1).length 0 j := by
  obtain ⟨_, rfl⟩ := hR.of.unique hO
  obtain rfl := bases_fun hR.bases (sz_alone h hok) hR.zero (fun _ _ => rfl)
  obtain ⟨g1, rfl, rfl⟩ := finds_alone h hR.finds hf'
  have ep : patsTo (fun _ => o) P Q (fun _ => 0) 1 = patsAt rd root 1 (fun _ => 0) P Q := by rw [← pats_so h g1, patsTo_same (ob_alone h) hR.finds _ 1 (Nat.le_refl _)]
  refine ⟨rfl, rfl, by rw [← all_so h g1, all_same (ob_alone h) hR.finds]; exact hR.all, fun j hj => ?_⟩
  rw [ep]
  have key : ∀ n, putF (fun i j => (obAt rd root i).words j) (pP (patsAt rd root 1 (fun _ => 0) P Q)) (pT (patsAt rd root 1 (fun _ => 0) P Q)) (pV (patsAt rd root 1 (fun _ => 0) P Q)) n 0 j = putF (fun _ j => o.words j) (pP (patsAt rd root 1 (fun _ => 0) P Q)) (pT (patsAt rd root 1 (fun _ => 0) P Q)) (pV (patsAt rd root 1 (fun _ => 0) P Q)) n 0 j := fun n => by
    induction n with
    | zero => exact h.words j hj
    | succ n ih => simp only [putF]; rw [ih]
  exact key _
end
end Go.Proofs.YtieldgdkkfkehaaGreatDoor
