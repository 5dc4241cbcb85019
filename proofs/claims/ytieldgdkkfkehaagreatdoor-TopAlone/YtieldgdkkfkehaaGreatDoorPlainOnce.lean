/-
  Plain words: parts that are laid lie apart, inside; so a place is had of one part at most. Parts of a call's own, read.
-/
import Derived.Test.YtieldgdkkfkehaaGreatDoorImageLoad
namespace Go.Proofs.YtieldgdkkfkehaaGreatDoor
open Go.RowKit Go.Maps

theorem held_none (t b : Nat → Int) (i : Nat) : heldF t 0 b i = b i := by
  unfold heldF
  rw [if_neg (by omega)]
  rfl
theorem bases_apart {m : Nat} {sz B : Nat → Int} (h : BasesAre m sz 0 (fun _ => 0) (fun _ => 0) 0 B) :
    (∀ i, i < m → 1 ≤ sz i ∧ sz i ≤ 40) ∧ (∀ i, i < m → 0 ≤ B i ∧ B i + sz i ≤ 256) ∧ ∀ i j, i < j → j < m → B i + sz i ≤ B j ∨ B j + sz j ≤ B i := by
  obtain ⟨h0, hl⟩ := h.laid rfl
  obtain ⟨_, _, hs, _⟩ := placeF_zero h0
  refine ⟨hs, fun i hi => ?_, fun i j hij hj => ?_⟩
  · obtain ⟨k, hk, hb⟩ := hl i hi
    have h1 := hb.inside
    have h2 := roundF_many (hs i hi).1 (hs i hi).2
    omega
  · obtain ⟨k, hk, hb⟩ := hl j hj
    have h1 := meetsB_false.1 hb.free i (by omega)
    rw [held_none, held_none, ← hk] at h1
    have h2 := roundF_many (hs i (by omega)).1 (hs i (by omega)).2
    have h3 := roundF_many (hs j hj).1 (hs j hj).2
    unfold apartB at h1
    have := of_decide_eq_true h1
    omega
theorem has_once {m : Nat} {M : Nat → Nat} {B : Nat → Int} (h : BasesAre m (fun i => (M i : Int)) 0 (fun _ => 0) (fun _ => 0) 0 B) {x : Int} {i j : Nat} (hi : i < m) (hj : j < m) (h1 : hasB B M x i = true) (h2 : hasB B M x j = true) : i = j := by
  obtain ⟨_, _, ha⟩ := bases_apart h
  unfold hasB at h1 h2
  simp only [Bool.and_eq_true, decide_eq_true_eq] at h1 h2
  rcases Nat.lt_trichotomy i j with e | e | e
  · have := ha i j e hj; omega
  · exact e
  · have := ha j i e hi; omega
/-- how many of the first k are so? -/
def cntTo (p : Nat → Bool) : Nat → Nat
  | 0 => 0
  | k + 1 => cntTo p k + (if p k = true then 1 else 0)
theorem cntTo_none {p : Nat → Bool} {k : Nat} (h : ∀ j, j < k → p j = false) : cntTo p k = 0 := by
  induction k with
  | zero => rfl
  | succ k ih => simp only [cntTo]; rw [ih fun j hj => h j (by omega), h k (by omega)]; rfl
theorem cntTo_one {p : Nat → Bool} {i : Nat} (h : p i = true) {k : Nat} (hu : ∀ j, j < k → p j = true → j = i) : cntTo p k = if i < k then 1 else 0 := by
  induction k with
  | zero => rfl
  | succ k ih =>
    simp only [cntTo]
    rw [ih fun j hj => hu j (by omega)]
    by_cases e : k = i
    · subst e
      simp [h]
    · have hp : p k = false := by
        cases hp : p k with
        | false => rfl
        | true => exact absurd (hu k (by omega) hp) e
      by_cases hk : i < k
      · have : i < k + 1 := by omega
        simp [hp, hk, this]
      · have : ¬ i < k + 1 := by omega
        simp [hp, hk, this]
theorem parts_row {w : World} {B0 : Nat} {v : Value} {n : Nat} {nm : Nat → ByteArray} {B : Nat → Int} {M : Nat → Nat} {X : Nat → Nat → Int} {g : Nat} {A : Nat → Option Addr} {C G : Nat → Nat} (h : PartsIn w B0 v n nm B M X g A C G) :
    ∃ a c, v = .slice a n c ∧ n ≤ c ∧ PartRow w a n nm B A M C X := by
  obtain ⟨a, c, rfl, hc⟩ := owns_shape h.own
  refine ⟨a, c, rfl, hc, ?_⟩
  by_cases h0 : n = 0
  · exact .inl h0
  · have key : ∀ i, i < n → ∀ j u, (partC nm B A M C i)[j]? = some u → j < 3 → ∃ g, a = some ⟨g, 0, none⟩ ∧ B0 ≤ g ∧ w.cell? ⟨g, i * 3 + j, none⟩ = some u := fun i hi j u hu hj =>
      owns_cell h.own (by rw [joinC_at (s := 3) (fun i _ => rfl) hi hj]; exact hu)
    obtain ⟨g0, ha, _, _⟩ := key 0 (by omega) 0 _ rfl (by omega)
    refine .inr ⟨g0, 0, ha, fun i hi => ?_⟩
    have get : ∀ j u, (partC nm B A M C i)[j]? = some u → j < 3 → w.cell? ⟨g0, i * 3 + j, none⟩ = some u := fun j u hu hj => by
      obtain ⟨g', ha', _, hc'⟩ := key i hi j u hu hj
      rw [ha] at ha'
      injection ha' with ha'
      injection ha' with ha'
      subst ha'
      exact hc'
    refine ⟨by rw [Nat.zero_add]; exact get 0 _ rfl (by omega), by rw [Nat.zero_add]; exact get 1 _ rfl (by omega), by rw [Nat.zero_add]; exact get 2 _ rfl (by omega), ?_⟩
    by_cases hm : M i = 0
    · exact .inl hm
    · exact .inr ⟨G i, 0, h.out.adr i hi (by omega), fun j hj => by rw [Nat.zero_add]; exact h.out.row i hi j hj⟩
end Go.Proofs.YtieldgdkkfkehaaGreatDoor
