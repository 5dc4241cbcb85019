/-
  Plain words: what was made of a root passes for an entry.
-/
import Derived.Test.YtppokhbhmnhhbaaGreatDoorPlainStale
import Derived.Test.YtppokhbhmnhhbaaGreatDoorPlainEntry
import Derived.Test.YtppokhbhmnhhbaaGreatDoorPlainBounds
namespace Go.Proofs.YtppokhbhmnhhbaaGreatDoor
open Go.RowKit Go.Maps

/-- each file's stamp is 1 or more. -/
def StampsPos (D : DataW Unit) : Prop := ∀ s t n, Maps.has D (keyB s) = true → D.atKey (keyB s) (fileD [] 0) = fileD t n → 1 ≤ n
theorem StampsPos.empty : StampsPos (.map []) := fun s t n h _ => by simp [Maps.has] at h
theorem StampsPos.put {D : DataW Unit} {k : Nat} {s : ByteArray} {t : List UInt8} (hI : Inv D k) (h : StampsPos D) : StampsPos (D.put (keyB s) (fileD t ((k : Int) + 1))) := fun x t' n hx ha => by
  by_cases e : x = s
  · subst e
    rw [atKey_put_same hI.tidy.isMap (keyB_key x)] at ha
    have := fileD_stamp ha
    omega
  · rw [has_put_other (fun q => e (keyB_inj' q))] at hx
    rw [atKey_put_other (fun q => e (keyB_inj' q))] at ha
    exact h x t' n hx ha
theorem StampsPos.del {D : DataW Unit} {s : ByteArray} (h : StampsPos D) : StampsPos (D.del (keyB s)) := fun x t' n hx ha => by
  by_cases e : x = s
  · subst e; rw [has_del_same] at hx; cases hx
  · rw [has_del_other (fun q => e (keyB_inj' q))] at hx
    rw [atKey_del_other (fun q => e (keyB_inj' q))] at ha
    exact h x t' n hx ha
theorem doneD_pos {q : DataW Unit × Nat} {X : Nat → ActF} (hI : Inv q.1 q.2) (h : StampsPos q.1) (m : Nat) : StampsPos (doneD q X m).1 := by
  induction m with
  | zero => exact h
  | succ m ih =>
    have hIm := (doneD_inv (X := X) (q := q) hI m).1
    show StampsPos (actD (doneD q X m) (X m)).1
    unfold actD
    by_cases h1 : (X m).kind = kWrite
    · rw [if_pos h1]
      by_cases h2 : writeF (doneD q X m).1 (doneD q X m).2 (X m).s (X m).t = 0
      · rw [if_pos h2]; exact ih.put hIm
      · rw [if_neg h2]; exact ih
    · rw [if_neg h1]
      by_cases h2 : (X m).kind = kRemove
      · rw [if_pos h2]; exact ih.del
      · rw [if_neg h2]; exact ih
theorem hang_word {kind base at' add : Int} {wh : Option Int} (h : (hangF kind base at' add wh).1 = 0) : isWordF (hangF kind base at' add wh).2 = true := by
  unfold hangF at *
  cases wh with
  | none => cases h
  | some p =>
    dsimp only at *
    by_cases hk : kind = 3
    · rw [if_pos hk] at *
      by_cases hp : p + add - (base + at') < -500 ∨ 500 < p + add - (base + at')
      · rw [if_pos hp] at h; cases h
      · rw [if_neg hp]
        simp [isWordF]; omega
    · rw [if_neg hk] at *
      by_cases hw : isWordF (p + add) = true
      · rw [if_pos hw]; exact hw
      · rw [if_neg hw] at h; cases h
theorem base_ok {m : Nat} {sz : Nat → Int} {B : Nat → Int} (h : BasesAre m sz 0 (fun _ => 0) (fun _ => 0) 0 B) {j : Nat} (hj : j < m) (h1 : 1 ≤ sz j) (h2 : sz j ≤ 40) : 0 ≤ B j ∧ B j < 256 ∧ B j % 16 = 0 := by
  have key : ∀ F, BasesAre m sz 0 (fun _ => 0) (fun _ => 0) F B → F = 0 → Laid (fun _ => 0) (fun _ => 0) 0 sz B j := fun F h hF => by
    cases h with
    | bad _ h => exact absurd hF h
    | full _ _ => cases hF
    | ok _ _ hl => exact hl j hj
  obtain ⟨k, hk, hb⟩ := key 0 h rfl
  have hin := hb.inside
  have hr := roundF_many h1 h2
  omega
/-- the entry that was made. -/
def madeE (rd : ByteArray → Nat × ObjF) (S : ByteArray → Int) (root : ByteArray) (m : Nat) (B : Nat → Int) (l : List (Nat × Int × Int)) : EntF := ⟨root, m, nmAt rd root, fun j => S (nmAt rd root j), B, l.length, pP l, pT l, pV l⟩
theorem faultTo_none {g : Nat → Nat} {n : Nat} (h : ∀ i, i < n → g i = 0) : faultTo g n = 0 := by
  induction n with
  | zero => rfl
  | succ n ih => exact faultTo_ok (ih fun i hi => h i (by omega)) (h n (by omega))
theorem made_entF {D : DataW Unit} {k : Nat} {T : ByteArray → ByteArray} {S : ByteArray → Int} {root : ByteArray} {m : Nat} {B : Nat → Int} {P Q : ByteArray → Int} (hI : Inv D k) (hN : NamesOk D) (hP : StampsPos D) (hS : Stamps D S) (hk : k ≤ 1000000) (h : Reckoned (rdD D T) root m B P Q) :
    entF (madeE (rdD D T) S root m B (patsAt (rdD D T) root m B P Q)) = 0 := by
  obtain ⟨hSc, _, _⟩ := scope_of h.of (rd_few (T := T) hI)
  have hhas := made_has hI h.of
  have hok : ∀ j, j < m → ObjOk (obAt (rdD D T) root j) := fun j hj => rd_ok (D := D) (T := T) (s := nmAt (rdD D T) root j) (by rw [hSc.read j hj])
  have hlen : (patsAt (rdD D T) root m B P Q).length ≤ 6 * m := patsTo_le (O := obAt (rdD D T) root) P Q B (i := m) fun j hj => (hok j hj).nT
  have hm := hSc.few
  have hp := hSc.pos
  unfold entF madeE
  have e1 : nameF root.data.toList = 0 := by have := hN _ (hhas 0 hp); rwa [hSc.root] at this
  have e2 : mayBeB (m : Int) ((patsAt (rdD D T) root m B P Q).length : Int) = true := by unfold mayBeB; exact decide_eq_true (by omega)
  rw [e1, seqF_zero]
  dsimp only
  rw [if_pos e2, seqF_zero]
  have e3 : partsF (madeE (rdD D T) S root m B (patsAt (rdD D T) root m B P Q)) m = 0 := faultTo_none fun i hi => by
    show stampedF (nmAt (rdD D T) root i) (S (nmAt (rdD D T) root i)) (B i) = 0
    unfold stampedF
    obtain ⟨t, n, ha, _⟩ := hI.st _ (hhas i hi)
    have h1 := hP _ t n (hhas i hi) ha
    have h2 := hS.is _ t n (hhas i hi) ha
    have h3 := stamp_le hI hS (hhas i hi)
    have hb := base_ok h.bases hi (by show (1 : Int) ≤ ((obAt (rdD D T) root i).nW : Int); have := (hok i hi).nW0; omega) (by show ((obAt (rdD D T) root i).nW : Int) ≤ 40; have := (hok i hi).nW; omega)
    rw [hN _ (hhas i hi), seqF_zero, if_neg (by omega), if_neg (by omega)]
  have e4 : patchesF (madeE (rdD D T) S root m B (patsAt (rdD D T) root m B P Q)) (patsAt (rdD D T) root m B P Q).length = 0 := faultTo_none fun i hi => by
    show patchedF m (pP (patsAt (rdD D T) root m B P Q) i) (pT (patsAt (rdD D T) root m B P Q) i) (pV (patsAt (rdD D T) root m B P Q) i) = 0
    have hmem : (patsAt (rdD D T) root m B P Q).getD i (0, 0, 0) ∈ patsAt (rdD D T) root m B P Q := by
      rw [List.getD_eq_getElem?_getD, List.getElem?_eq_getElem hi]
      exact List.getElem_mem hi
    obtain ⟨a, q, ha, hq, e⟩ := patsTo_mem hmem
    have ht := (hok a ha).ties q hq
    have hw := hang_word (allF_none h.all ha hq)
    unfold patchedF
    rw [if_pos]
    refine ⟨?_, ?_, ?_⟩
    · show isPlaceF ((((patsAt (rdD D T) root m B P Q).getD i (0, 0, 0)).1 : Nat) : Int) (m : Int) = true
      rw [e]; simp [isPlaceF]; omega
    · show isPlaceF ((patsAt (rdD D T) root m B P Q).getD i (0, 0, 0)).2.1 40 = true
      rw [e]
      show isPlaceF ((obAt (rdD D T) root a).tAt q) 40 = true
      have hw40 := (hok a ha).nW
      simp only [isPlaceF, Bool.and_eq_true, decide_eq_true_eq]
      omega
    · show isWordF ((patsAt (rdD D T) root m B P Q).getD i (0, 0, 0)).2.2 = true
      rw [e]; exact hw
  show seqF (partsF (madeE (rdD D T) S root m B (patsAt (rdD D T) root m B P Q)) m) (patchesF (madeE (rdD D T) S root m B (patsAt (rdD D T) root m B P Q)) (patsAt (rdD D T) root m B P Q).length) = 0
  rw [e3, seqF_zero]
  exact e4
end Go.Proofs.YtppokhbhmnhhbaaGreatDoor
