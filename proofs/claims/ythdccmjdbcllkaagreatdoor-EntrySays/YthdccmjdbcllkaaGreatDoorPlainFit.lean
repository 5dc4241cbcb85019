/-
  Plain words, with nothing of the program: what the document's answer reads of a text is no longer than it, and its numbers are numbers.
-/
import Derived.Test.YthdccmjdbcllkaaGreatDoorPlainRef
namespace Go.Proofs.YthdccmjdbcllkaaGreatDoor

theorem cut_sizes (c : UInt8) : ∀ (n : Nat) (l : List UInt8), l.length = n → (∀ x ∈ (cut c l).1, x.length ≤ n) ∧ (cut c l).2.length ≤ n ∧ (cut c l).1.length ≤ n := by
  intro n
  induction n with
  | zero =>
    intro l h
    rw [List.length_eq_zero_iff.1 h]
    exact ⟨fun x hx => absurd hx (by simp [cut]), Nat.le_refl _, Nat.le_refl _⟩
  | succ n ih =>
    intro l h
    have hne : l ≠ [] := by intro e; rw [e] at h; simp at h
    obtain ⟨p, b, rfl⟩ : ∃ p b, l = p ++ [b] := ⟨l.dropLast, l.getLast hne, (List.dropLast_concat_getLast hne).symm⟩
    rw [List.length_append, List.length_singleton] at h
    obtain ⟨h1, h2, h3⟩ := ih p (by omega)
    have e : cut c (p ++ [b]) = cutStep c (cut c p) b := by unfold cut; rw [List.foldl_append]; rfl
    rw [e]
    unfold cutStep
    split
    · refine ⟨fun x hx => ?_, Nat.zero_le _, ?_⟩
      · simp only [List.mem_append, List.mem_singleton] at hx
        rcases hx with hx | rfl
        · have := h1 x hx; omega
        · omega
      · simp only [List.length_append, List.length_singleton]; omega
    · refine ⟨fun x hx => ?_, ?_, ?_⟩
      · have := h1 x hx; omega
      · simp only [List.length_append, List.length_singleton]; omega
      · show (cut c p).1.length ≤ n + 1; omega
theorem wordsR_size (l x : List UInt8) (h : x ∈ wordsR l) : x.length ≤ l.length := by
  obtain ⟨h1, h2, _⟩ := cut_sizes 32 _ l rfl
  unfold wordsR at h
  simp only [List.mem_append, List.mem_singleton] at h
  rcases h with h | rfl
  · exact h1 x h
  · exact h2

theorem numR_wf (l : List UInt8) : (Lit.int .i64 (numR l)).wf = true := by
  have h := numR_le l
  have e1 : IntKind.i64.min = -9223372036854775808 := by decide
  have e2 : IntKind.i64.max = 9223372036854775807 := by decide
  simp only [Lit.wf, e1, e2, Bool.and_eq_true, decide_eq_true_eq]
  omega
theorem fit_word {o : ObjF} (h : AllFit o) (n : Int) (hn : (Lit.int .i64 n).wf = true) : AllFit (addWord o n) :=
  ⟨h.needs, fun i => by simp only [addWord]; split; exact hn; exact h.words i, h.syms, h.ties⟩
theorem fit_sym {o : ObjF} (h : AllFit o) (s : ByteArray) (n : Int) (b : Bool) (hs : s.size ≤ maxLen) (hn : (Lit.int .i64 n).wf = true) : AllFit (addSym o s n b) :=
  ⟨h.needs, h.words, fun i => by simp only [addSym]; split; exact ⟨hs, hn⟩; exact h.syms i, h.ties⟩
theorem fit_tie {o : ObjF} (h : AllFit o) (x k d : Int) (s : ByteArray) (b : Bool) (hs : s.size ≤ maxLen) (hx : (Lit.int .i64 x).wf = true) (hk : (Lit.int .i64 k).wf = true) (hd : (Lit.int .i64 d).wf = true) : AllFit (addTie o x k d s b) :=
  ⟨h.needs, h.words, h.syms, fun i => by simp only [addTie]; split; exact ⟨hs, hx, hk, hd⟩; exact h.ties i⟩
/-- as many of each at most. -/
def UpTo (n : Nat) (o : ObjF) : Prop := o.nN ≤ n ∧ o.nW ≤ n ∧ o.nS ≤ n ∧ o.nT ≤ n
theorem refWords_fit {o Y : ObjF} (wk : Bool) (xs : List (List UInt8)) (n : Nat) (h : AllFit o) (hn : UpTo n o) (hx : ∀ x ∈ xs, x.length ≤ maxLen) (hY : refWords o wk xs = some Y) : AllFit Y ∧ UpTo (n + 1) Y := by
  have sz : ∀ x : List UInt8, x ∈ xs → (mkB x).size ≤ maxLen := fun x hm => by
    have e : (mkB x).size = x.length := by simp [mkB, ByteArray.size]
    rw [e]; exact hx x hm
  have w1 : (Lit.int .i64 1).wf = true := by decide
  have w2 : (Lit.int .i64 2).wf = true := by decide
  have w3 : (Lit.int .i64 3).wf = true := by decide
  unfold UpTo at hn ⊢
  unfold refWords at hY
  split at hY
  · split at hY
    · injection hY with hY; subst hY
      exact ⟨h.need _ (sz _ (by simp)), by simp only [addNeed]; omega⟩
    · split at hY
      · injection hY with hY; subst hY
        exact ⟨fit_word h _ (numR_wf _), by simp only [addWord]; omega⟩
      · cases hY
  · split at hY
    · injection hY with hY; subst hY
      exact ⟨fit_sym h _ _ _ (sz _ (by simp)) (numR_wf _), by simp only [addSym]; omega⟩
    · split at hY
      · injection hY with hY; subst hY
        exact ⟨fit_tie h _ _ _ _ _ (by decide) (numR_wf _) w1 (numR_wf _), by simp only [addTie]; omega⟩
      · cases hY
  · split at hY
    · injection hY with hY; subst hY
      exact ⟨fit_tie h _ _ _ _ _ (sz _ (by simp)) (numR_wf _) w2 (numR_wf _), by simp only [addTie]; omega⟩
    · split at hY
      · injection hY with hY; subst hY
        exact ⟨fit_tie h _ _ _ _ _ (sz _ (by simp)) (numR_wf _) w3 (numR_wf _), by simp only [addTie]; omega⟩
      · cases hY
  · cases hY
theorem refLine_fit {o Y : ObjF} (l : List UInt8) (n : Nat) (h : AllFit o) (hn : UpTo n o) (hl : l.length ≤ maxLen) (hY : refLine o l = some Y) : AllFit Y ∧ UpTo (n + 1) Y := by
  have hx : ∀ x ∈ wordsR l, x.length ≤ maxLen := fun x hm => Nat.le_trans (wordsR_size l x hm) hl
  unfold refLine at hY
  split at hY
  · exact refWords_fit _ _ n h hn (fun x hm => hx x (List.mem_of_mem_tail hm)) hY
  · exact refWords_fit _ _ n h hn hx hY
theorem refFold_fit : ∀ (ls : List (List UInt8)) (o Y : ObjF) (n : Nat), AllFit o → UpTo n o → (∀ l ∈ ls, l.length ≤ maxLen) → refFold (some o) ls = some Y → AllFit Y ∧ UpTo (n + ls.length) Y
  | [], o, Y, n, h, hn, _, hY => by
    injection hY with hY
    subst hY
    exact ⟨h, hn⟩
  | l :: ls, o, Y, n, h, hn, hl, hY => by
    have e : refFold (some o) (l :: ls) = refFold (refLine o l) ls := rfl
    rw [e] at hY
    cases hX : refLine o l with
    | none => rw [hX, refFold_none] at hY; cases hY
    | some X =>
      rw [hX] at hY
      obtain ⟨h1, h2⟩ := refLine_fit l n h hn (hl l (by simp)) hX
      obtain ⟨h3, h4⟩ := refFold_fit ls X Y (n + 1) h1 h2 (fun x hm => hl x (List.mem_cons_of_mem _ hm)) hY
      refine ⟨h3, ?_⟩
      unfold UpTo at h4 ⊢
      simp only [List.length_cons]
      omega
theorem fit_of {o : ObjF} (n : Nat) (h : AllFit o) (hn : UpTo n o) (hm : n ≤ maxLen) : ObjFit o := by
  unfold UpTo at hn
  exact ⟨by omega, by omega, by omega, by omega, fun i _ => h.needs i, fun i _ => h.words i, fun i _ => h.syms i, fun i _ => h.ties i⟩
theorem refFold_take (X : Option ObjF) (ls : List (List UInt8)) (k : Nat) (x : List UInt8) (h : ls[k]? = some x) : refFold X (ls.take (k + 1)) = (refFold X (ls.take k)).bind fun y => refLine y x := by
  unfold refFold
  rw [List.take_add_one, h, List.foldl_append]
  rfl
theorem refFold_stop {X : Option ObjF} {ls : List (List UInt8)} {k : Nat} (h : refFold X (ls.take k) = none) : refFold X ls = none := by
  have e : refFold X ls = refFold (refFold X (ls.take k)) (ls.drop k) := by
    unfold refFold
    rw [← List.foldl_append, List.take_append_drop]
  rw [e, h, refFold_none]
end Go.Proofs.YthdccmjdbcllkaaGreatDoor
