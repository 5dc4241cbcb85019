/-
  The closed fact patches returns true; rows of patches of the call's own, read.
-/
import Derived.Test.YtnbmnljknfgafabPatchAll
import Derived.Test.YtnbmnljknfgafabSamePats
import Derived.Test.YtnbmnljknfgafabSame
namespace Go.Proofs.Ytnbmnljknfgafab
open Go.RowKit

/-- a list of patches, by places. -/
def pP (l : List (Nat × Int × Int)) (i : Nat) : Int := ((l.getD i (0, 0, 0)).1 : Int)
def pT (l : List (Nat × Int × Int)) (i : Nat) : Int := (l.getD i (0, 0, 0)).2.1
def pV (l : List (Nat × Int × Int)) (i : Nat) : Int := (l.getD i (0, 0, 0)).2.2
theorem joinPat (l : List (Nat × Int × Int)) : ∀ k, k ≤ l.length → patsC (l.take k) = joinC (fun i => patC (l.getD i (0, 0, 0))) k := by
  intro k
  induction k with
  | zero => intro _; rfl
  | succ k ih =>
    intro hk
    rw [List.take_succ_eq_append_getElem (by omega)]
    show patsC (l.take k ++ [l[k]]) = joinC _ k ++ patC (l.getD k (0, 0, 0))
    have e1 : patsC (l.take k ++ [l[k]]) = patsC (l.take k) ++ patC l[k] := by unfold patsC; rw [List.flatMap_append]; simp only [List.flatMap_cons, List.flatMap_nil, List.append_nil]
    rw [e1, ih (by omega)]
    congr 2
    rw [List.getD_eq_getElem?_getD, List.getElem?_eq_getElem (by omega : k < l.length)]
    rfl
theorem patsC_join (l : List (Nat × Int × Int)) : patsC l = joinC (fun i => patC (l.getD i (0, 0, 0))) l.length := by
  have := joinPat l l.length (Nat.le_refl _)
  rwa [List.take_length] at this
theorem patC_len (x : Nat × Int × Int) : (patC x).length = 3 := rfl
theorem rows_pat {w : World} {B : Nat} {e : TypeId} {v : Value} {l : List (Nat × Int × Int)} (h : w.ownsRow B e 3 v l.length (patsC l)) : ∃ a c, v = .slice a l.length c ∧ l.length ≤ c ∧ PatRow w a l.length (pP l) (pT l) (pV l) := by
  obtain ⟨a, c, rfl, hc⟩ := owns_shape h
  refine ⟨a, c, rfl, hc, ?_⟩
  by_cases h0 : l.length = 0
  · exact .inl h0
  · rw [patsC_join] at h
    have key : ∀ i, i < l.length → ∀ j u, (patC (l.getD i (0, 0, 0)))[j]? = some u → j < 3 → ∃ g, a = some ⟨g, 0, none⟩ ∧ B ≤ g ∧ w.cell? ⟨g, i * 3 + j, none⟩ = some u := fun i hi j u hu hj =>
      owns_cell h (by rw [joinC_at (s := 3) (fun i _ => patC_len _) hi hj]; exact hu)
    obtain ⟨g, ha, _, _⟩ := key 0 (by omega) 0 _ rfl (by omega)
    refine .inr ⟨g, 0, ha, fun i hi => ?_⟩
    have get : ∀ j u, (patC (l.getD i (0, 0, 0)))[j]? = some u → j < 3 → w.cell? ⟨g, i * 3 + j, none⟩ = some u := fun j u hu hj => by
      obtain ⟨g', ha', _, hc'⟩ := key i hi j u hu hj
      rw [ha] at ha'
      injection ha' with ha'
      injection ha' with ha'
      subst ha'
      exact hc'
    exact ⟨by rw [Nat.zero_add]; exact get 0 _ rfl (by omega), by rw [Nat.zero_add]; exact get 1 _ rfl (by omega), by rw [Nat.zero_add]; exact get 2 _ rfl (by omega)⟩

/-- the closed fact's objects. -/
def factO (i : Nat) : ObjF :=
  if i = 0 then ⟨0, fun _ => ⟨#[120]⟩, 1, fun _ => 0, 0, fun _ => ⟨#[120]⟩, fun _ => 0, fun _ => false, 1, fun _ => 0, fun _ => 2, fun _ => 2, fun _ => ⟨#[120]⟩, fun _ => false⟩
  else ⟨0, fun _ => ⟨#[120]⟩, 2, fun j => if j = 0 then 7 else 8, 1, fun _ => ⟨#[120]⟩, fun _ => 1, fun _ => false, 0, fun _ => 0, fun _ => 0, fun _ => 0, fun _ => ⟨#[120]⟩, fun _ => false⟩
def factV (s : Nat) (i : Nat) : ObjV := if i = 0 then ⟨none, 0, some ⟨s, 0, none⟩, 1, none, 0, some ⟨s + 1, 0, none⟩, 1⟩ else ⟨none, 0, some ⟨s + 1 + 1, 0, none⟩, 2, some ⟨s + 1 + 1 + 1, 0, none⟩, 1, none, 0⟩
def factB (i : Nat) : Int := if i = 0 then 0 else 16
theorem fact_ok (i : Nat) : ObjOk (factO i) := by
  unfold factO
  split
  · exact objOk (by decide)
  · exact objOk (by decide)
theorem fact_found {P Q : ByteArray → Int} (h : Finds (symsF 2 factO) P Q) : P ⟨#[120]⟩ = 1 ∧ Q ⟨#[120]⟩ = 0 := by
  have h2 : IsFound (symsF 2 factO) ⟨#[120]⟩ ((1 : Nat) : Int) ((0 : Nat) : Int) :=
    .strong 1 0 ⟨by decide, by decide, rfl⟩ rfl fun a b hh e => by
      have ha : a = 0 := by unfold Bef at e; omega
      subst ha
      have := hh.lk
      simp [symsF, factO] at this
  have := h.eq h2
  exact ⟨this.1.symm, this.2.symm⟩
theorem fact_tie {P Q : ByteArray → Int} (h : Finds (symsF 2 factO) P Q) : tieW factO P Q factB 0 0 = (0, 19) := by
  obtain ⟨e1, e2⟩ := fact_found h
  simp [tieW, whereF, factO, e1, e2, factB, hangF, isWordF]
theorem fact_all {P Q : ByteArray → Int} (h : Finds (symsF 2 factO) P Q) : allF 2 factO P Q 2 factB = 0 ∧ patsTo factO P Q factB 2 = [(0, 0, 19)] := by
  have e := fact_tie h
  have n0 : (factO 0).nT = 1 := rfl
  have n1 : (factO 1).nT = 0 := rfl
  constructor
  · unfold allF tiesF
    rw [if_neg (by decide), if_neg (by decide)]
    simp [faultTo, n0, n1, e, seqF]
  · simp only [patsTo, n0, n1, patsOf, e, List.nil_append, List.append_nil]
    rfl

/-- the closed fact's world. -/
abbrev factW (w : World) : World :=
  (((((w.alloc (.cells #[.int .i64 0] 3)).alloc (.cells #[.int .i64 0, .int .i64 2, .int .i64 2, .string ⟨#[120]⟩, .bool false] 68)).alloc (.cells #[.int .i64 7, .int .i64 8] 3)).alloc (.cells #[.string ⟨#[120]⟩, .int .i64 1, .bool false] 32)).alloc
    (.cells #[.slice none 0 0, .slice (some ⟨w.heap.size, 0, none⟩) 1 1, .slice none 0 0, .slice (some ⟨w.heap.size + 1, 0, none⟩) 1 1, .slice none 0 0, .slice (some ⟨w.heap.size + 1 + 1, 0, none⟩) 2 2, .slice (some ⟨w.heap.size + 1 + 1 + 1, 0, none⟩) 1 1, .slice none 0 0] 28)).alloc (.cells #[.int .i64 0, .int .i64 16] 3)
theorem fact_below (w : World) : Below w.heap.size w (factW w) := by
  refine Below.alloc (Below.alloc (Below.alloc (Below.alloc (Below.alloc (Below.alloc (Below.refl _ _) ?_ _) ?_ _) ?_ _) ?_ _) ?_ _) ?_ _
  all_goals simp <;> omega
theorem fact_row (w : World) : ObjsRow (factW w) (some ⟨w.heap.size + 1 + 1 + 1 + 1, 0, none⟩) 2 (factV w.heap.size) factO := by
  refine .inr ⟨_, _, rfl, fun i hi => ?_⟩
  have : i = 0 ∨ i = 1 := by omega
  rcases this with rfl | rfl
  · refine ⟨by simp [go_sem, factV, factO], by simp [go_sem, factV, factO], by simp [go_sem, factV, factO], by simp [go_sem, factV, factO], ⟨.inl rfl, .inr ⟨w.heap.size, 0, rfl, fun j hj => ?_⟩, .inl rfl, .inr ⟨w.heap.size + 1, 0, rfl, fun j hj => ?_⟩, Nat.le_refl _, Nat.le_refl _⟩⟩
    · have e : j = 0 := by have : j < 1 := hj; omega
      subst e
      simp [go_sem, factO]
    · have e : j = 0 := by have : j < 1 := hj; omega
      subst e
      exact ⟨by simp [go_sem, factO], by simp [go_sem, factO], by simp [go_sem, factO], by simp [go_sem, factO], by simp [go_sem, factO]⟩
  · refine ⟨by simp [go_sem, factV, factO], by simp [go_sem, factV, factO], by simp [go_sem, factV, factO], by simp [go_sem, factV, factO], ⟨.inl rfl, .inr ⟨w.heap.size + 1 + 1, 0, rfl, fun j hj => ?_⟩, .inr ⟨w.heap.size + 1 + 1 + 1, 0, rfl, fun j hj => ?_⟩, .inl rfl, Nat.le_refl _, Nat.le_refl _⟩⟩
    · have e : j = 0 ∨ j = 1 := by have : j < 2 := hj; omega
      rcases e with rfl | rfl
      · simp [go_sem, factO]
      · simp [go_sem, factO]
    · have e : j = 0 := by have : j < 1 := hj; omega
      subst e
      exact ⟨by simp [go_sem, factO], by simp [go_sem, factO], by simp [go_sem, factO]⟩
theorem closed_all (w : World) : Calls Try.prog 23 #[.slice (some ⟨w.heap.size + 1 + 1 + 1 + 1, 0, none⟩) 2 2, .slice (some ⟨w.heap.size + 1 + 1 + 1 + 1 + 1, 0, none⟩) 2 2] (factW w)
    fun e w' => (∃ (a : Option Addr) (c : Nat), e = .returned (.tuple #[.slice a 1 c, .nilIface]) ∧ PatRow w' a 1 (fun _ => 0) (fun _ => 0) (fun _ => 19)) ∧ Below w.heap.size w w' := by
  obtain ⟨P, Q, hP⟩ := finds_some (symsF 2 factO)
  obtain ⟨e0, e1⟩ := fact_all hP
  refine (all_any _ _ 2 2 2 2 (factV w.heap.size) factO factB P Q _ (by decide) (by decide) (fact_row w) ?_ (fun i _ => fact_ok i) hP).mono ?_
  · refine .inr ⟨_, _, rfl, fun i hi => ?_⟩
    have : i = 0 ∨ i = 1 := by omega
    rcases this with rfl | rfl
    · simp [go_sem, factB]
    · simp [go_sem, factB]
  · rintro e w' ⟨he, hb⟩
    rw [e0, e1] at he
    refine ⟨?_, (fact_below w).trans (hb.mono (fact_below w).size)⟩
    cases he with
    | bad hf => exact absurd rfl hf
    | ok _ v hv =>
      obtain ⟨a, c, rfl, _, hr⟩ := rows_pat hv
      refine ⟨a, c, rfl, ?_⟩
      rcases hr with h0 | ⟨b, o, ha, hc⟩
      · cases h0
      · refine .inr ⟨b, o, ha, fun i hi => ?_⟩
        have := hc i hi
        have e : i = 0 := by omega
        subst e
        simpa [pP, pT, pV] using this

theorem patches_any (w : World) : Calls Try.prog 21 #[] w fun e w' => e = .returned (.bool true) ∧ Below w.heap.size w w' := by
  have HA := closed_all w
  have HE := fun (w : World) => same_errV 0 0 w
  simp only [errV] at HE
  go_enter Try.func21, Try.ntmps21
  go_wp2_with fail
  refine HA.mono ?_
  rintro e w1 ⟨⟨a, c, rfl, hr⟩, hb⟩
  have HS := fun (w : World) (hb : Below w1.heap.size w1 w) (a2 : Option Addr) (hr2 : PatRow w a2 1 (fun _ => 0) (fun _ => 0) (fun _ => 19)) => samePats_true (fun _ => 0) (fun _ => 0) (fun _ => 19) 1 a a2 c 1 w (by decide) (hr.later hb) hr2
  clear HA hr
  go_wp2_with fail
  refine (HE _).mono ?_
  rintro e w' ⟨rfl, rfl⟩
  go_wp2_with fail
  refine (HS _ ((Below.refl _ _).alloc (Nat.le_refl _) _) _ ?_).mono ?_
  · refine .inr ⟨_, _, rfl, fun i hi => ?_⟩
    have e : i = 0 := by omega
    subst e
    exact ⟨by simp [go_sem], by simp [go_sem], by simp [go_sem]⟩
  · rintro e w2 ⟨rfl, kq, rfl⟩
    clear HS HE
    go_wp2
    go_ret
    exact ⟨rfl, below_drewN (hb.alloc hb.size _) _⟩
end Go.Proofs.Ytnbmnljknfgafab
