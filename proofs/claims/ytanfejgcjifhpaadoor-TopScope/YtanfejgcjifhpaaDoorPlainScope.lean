/-
  Plain words on objects that belong together, with nothing of the program: the names in their order, where it ends, and that it ends in one way.
-/
import Derived.Test.YtanfejgcjifhpaaDoorPlainText
namespace Go.Proofs.YtanfejgcjifhpaaDoor

/-- is it among them? -/
def memB (N : List ByteArray) (s : ByteArray) : Bool := N.any fun x => decide (x = s)
theorem memB_iff {N : List ByteArray} {s : ByteArray} : memB N s = true ↔ s ∈ N := by
  unfold memB
  rw [List.any_eq_true]
  constructor
  · rintro ⟨x, hx, e⟩; rw [decide_eq_true_eq] at e; subst e; exact hx
  · intro h; exact ⟨s, h, decide_eq_true rfl⟩
/-- those that aren't among the names are put behind them. -/
def joinL (N : List ByteArray) : List ByteArray → List ByteArray
  | [] => N
  | s :: l => joinL (if memB N s = true then N else N ++ [s]) l
/-- the first k needs. -/
def needsTo (o : ObjF) (k : Nat) : List ByteArray := (List.range k).map o.needs
theorem needsTo_succ (o : ObjF) (k : Nat) : needsTo o (k + 1) = needsTo o k ++ [o.needs k] := by simp [needsTo, List.range_succ]
theorem joinL_append (N l m : List ByteArray) : joinL N (l ++ m) = joinL (joinL N l) m := by
  induction l generalizing N with
  | nil => rfl
  | cons s l ih => exact ih _
theorem joinL_snoc (N l : List ByteArray) (s : ByteArray) : joinL N (l ++ [s]) = if memB (joinL N l) s = true then joinL N l else joinL N l ++ [s] := by rw [joinL_append]; rfl
theorem joinL_len (N l : List ByteArray) : (joinL N l).length ≤ N.length + l.length := by
  induction l generalizing N with
  | nil => exact Nat.le_refl _
  | cons s l ih =>
    refine Nat.le_trans (ih _) ?_
    split
    · simp only [List.length_cons]; omega
    · simp only [List.length_append, List.length_cons, List.length_nil]; omega
theorem joinL_prefix (N l : List ByteArray) : N <+: joinL N l := by
  induction l generalizing N with
  | nil => exact List.prefix_refl _
  | cons s l ih =>
    refine List.IsPrefix.trans ?_ (ih _)
    split
    · exact List.prefix_refl _
    · exact List.prefix_append _ _
theorem joinL_nodup {N : List ByteArray} (h : N.Nodup) (l : List ByteArray) : (joinL N l).Nodup := by
  induction l generalizing N with
  | nil => exact h
  | cons s l ih =>
    refine ih ?_
    split
    · exact h
    · rename_i hs
      rw [List.nodup_append]
      exact ⟨h, by simp, fun a ha b hb e => by simp at hb; subst hb; subst e; exact hs (memB_iff.2 ha)⟩
theorem joinL_mem (N l : List ByteArray) (s : ByteArray) (h : s ∈ l) : s ∈ joinL N l := by
  induction l generalizing N with
  | nil => cases h
  | cons x l ih =>
    rcases List.mem_cons.1 h with rfl | h
    · refine (joinL_prefix _ l).subset ?_
      split
      · exact memB_iff.1 (by assumption)
      · simp
    · exact ih _ h
/-- what is new is one of them. -/
theorem joinL_new {N l : List ByteArray} {j : Nat} {s : ByteArray} (hj : N.length ≤ j) (h : (joinL N l)[j]? = some s) : s ∈ l := by
  induction l generalizing N with
  | nil =>
    have : (joinL N [])[j]? = none := List.getElem?_eq_none hj
    rw [this] at h; cases h
  | cons x l ih =>
    by_cases hx : x ∈ N
    · have e : joinL N (x :: l) = joinL N l := by show joinL (if memB N x = true then N else N ++ [x]) l = _; rw [if_pos (memB_iff.2 hx)]
      rw [e] at h
      exact List.mem_cons_of_mem _ (ih hj h)
    · have e : joinL N (x :: l) = joinL (N ++ [x]) l := by show joinL (if memB N x = true then N else N ++ [x]) l = _; rw [if_neg (fun h => hx (memB_iff.1 h))]
      rw [e] at h
      by_cases hq : j = N.length
      · subst hq
        have hp := (joinL_prefix (N ++ [x]) l)
        obtain ⟨r, hr⟩ := hp
        rw [← hr, List.getElem?_append_left (by simp), List.getElem?_append_right (Nat.le_refl _)] at h
        simp at h
        subst h
        exact List.mem_cons_self ..
      · exact List.mem_cons_of_mem _ (ih (by simp; omega) h)

/-- the names when the first i were read. -/
def namesAt (rd : ByteArray → Nat × ObjF) (root : ByteArray) : Nat → List ByteArray
  | 0 => [root]
  | i + 1 => joinL (namesAt rd root i) (needsTo (rd ((namesAt rd root i).getD i ⟨#[]⟩)).2 (rd ((namesAt rd root i).getD i ⟨#[]⟩)).2.nN)
/-- the i-th name. -/
def nmAt (rd : ByteArray → Nat × ObjF) (root : ByteArray) (i : Nat) : ByteArray := (namesAt rd root i).getD i ⟨#[]⟩
/-- the first i could be read. -/
def ReadTo (rd : ByteArray → Nat × ObjF) (root : ByteArray) (i : Nat) : Prop := ∀ j, j < i → j < (namesAt rd root j).length ∧ (rd (nmAt rd root j)).1 = 0
theorem names_pre (rd : ByteArray → Nat × ObjF) (root : ByteArray) {i j : Nat} (h : i ≤ j) : namesAt rd root i <+: namesAt rd root j := by
  induction j with
  | zero => have : i = 0 := by omega
            subst this; exact List.prefix_refl _
  | succ j ih =>
    by_cases e : i = j + 1
    · subst e; exact List.prefix_refl _
    · exact (ih (by omega)).trans (joinL_prefix _ _)
theorem names_nodup (rd : ByteArray → Nat × ObjF) (root : ByteArray) (i : Nat) : (namesAt rd root i).Nodup := by
  induction i with
  | zero => simp [namesAt]
  | succ i ih => exact joinL_nodup ih _
theorem names_get {rd : ByteArray → Nat × ObjF} {root : ByteArray} {i j : Nat} (hij : j ≤ i) (hj : j < (namesAt rd root j).length) : (namesAt rd root i)[j]? = some (nmAt rd root j) := by
  obtain ⟨r, hr⟩ := names_pre rd root hij
  rw [← hr, List.getElem?_append_left hj]
  unfold nmAt
  rw [List.getD_eq_getElem?_getD, List.getElem?_eq_getElem hj]
  rfl
theorem names_len (rd : ByteArray → Nat × ObjF) (root : ByteArray) (i : Nat) (h : ∀ j, j < i → (rd (nmAt rd root j)).2.nN ≤ 4) : (namesAt rd root i).length ≤ 1 + 4 * i := by
  induction i with
  | zero => simp [namesAt]
  | succ i ih =>
    have h1 := ih fun j hj => h j (by omega)
    have h2 := joinL_len (namesAt rd root i) (needsTo (rd (nmAt rd root i)).2 (rd (nmAt rd root i)).2.nN)
    have h3 := h i (by omega)
    have h4 : (needsTo (rd (nmAt rd root i)).2 (rd (nmAt rd root i)).2.nN).length = (rd (nmAt rd root i)).2.nN := by simp [needsTo]
    show (joinL (namesAt rd root i) (needsTo (rd (nmAt rd root i)).2 (rd (nmAt rd root i)).2.nN)).length ≤ _
    omega
theorem names_one (rd : ByteArray → Nat × ObjF) (root : ByteArray) (i : Nat) : 1 ≤ (namesAt rd root i).length := by
  have := (names_pre rd root (Nat.zero_le i)).length_le
  simpa [namesAt] using this
/-- those that were read are as many as could be read. -/
theorem ReadTo.few {rd : ByteArray → Nat × ObjF} {root : ByteArray} {i : Nat} (h : ReadTo rd root i) (hf : ∀ l : List ByteArray, l.Nodup → (∀ s, s ∈ l → (rd s).1 = 0) → l.length ≤ 6) : i ≤ 6 := by
  have hl : i ≤ (namesAt rd root i).length := by
    cases i with
    | zero => omega
    | succ i =>
      have h1 := (h i (by omega)).1
      have h2 : (namesAt rd root i).length ≤ (namesAt rd root (i + 1)).length := (names_pre rd root (Nat.le_succ i)).length_le
      omega
  have h1 := hf ((namesAt rd root i).take i) ((names_nodup rd root i).sublist (List.take_sublist _ _)) (fun s hs => by
    obtain ⟨j, hj, e⟩ := List.getElem_of_mem hs
    simp only [List.length_take] at hj
    rw [List.getElem_take] at e
    have hji : j < i := by omega
    have := names_get (rd := rd) (root := root) (i := i) (j := j) (by omega) (h j hji).1
    rw [List.getElem?_eq_getElem (by omega)] at this
    injection this with this
    rw [← e, this]
    exact (h j hji).2)
  simp only [List.length_take] at h1
  omega
/-- where it ends: with an error, or with so many. -/
inductive OfIs (rd : ByteArray → Nat × ObjF) (root : ByteArray) : Nat → Nat → Prop
  | bad (i : Nat) (h : ReadTo rd root i) (hi : i < (namesAt rd root i).length) (hf : (rd (nmAt rd root i)).1 ≠ 0) : OfIs rd root (rd (nmAt rd root i)).1 i
  | ok (i : Nat) (h : ReadTo rd root i) (hi : (namesAt rd root i).length = i) : OfIs rd root 0 i
theorem OfIs.unique {rd : ByteArray → Nat × ObjF} {root : ByteArray} {f g i j : Nat} (h : OfIs rd root f i) (h' : OfIs rd root g j) : f = g ∧ i = j := by
  have key : ∀ {i j : Nat}, i < j → ReadTo rd root j → (i < (namesAt rd root i).length ∧ (rd (nmAt rd root i)).1 = 0) := fun hij h => h _ hij
  cases h with
  | bad _ h hi hf =>
    cases h' with
    | bad _ h' hi' hf' =>
      rcases Nat.lt_trichotomy i j with e | e | e
      · exact absurd (key e h').2 hf
      · subst e; exact ⟨rfl, rfl⟩
      · exact absurd (key e h).2 hf'
    | ok _ h' hi' =>
      rcases Nat.lt_trichotomy i j with e | e | e
      · exact absurd (key e h').2 hf
      · subst e; omega
      · have := (key e h).1; omega
  | ok _ h hi =>
    cases h' with
    | bad _ h' hi' hf' =>
      rcases Nat.lt_trichotomy i j with e | e | e
      · have := (key e h').1; omega
      · subst e; omega
      · exact absurd (key e h).2 hf'
    | ok _ h' hi' =>
      rcases Nat.lt_trichotomy i j with e | e | e
      · have := (key e h').1; omega
      · exact ⟨rfl, e⟩
      · have := (key e h).1; omega
/-- each but the first is needed by one ahead. -/
theorem names_wanted {rd : ByteArray → Nat × ObjF} {root : ByteArray} {i j : Nat} {s : ByteArray} (h : (namesAt rd root i)[j]? = some s) (hj : 0 < j) (hr : ReadTo rd root i) : ∃ k q, k < i ∧ k < j ∧ q < (rd (nmAt rd root k)).2.nN ∧ (rd (nmAt rd root k)).2.needs q = s := by
  induction i with
  | zero =>
    have : j < 1 := by
      have := (List.getElem?_eq_some_iff.1 h).1
      simpa [namesAt] using this
    omega
  | succ i ih =>
    by_cases hl : j < (namesAt rd root i).length
    · obtain ⟨r, hr2⟩ := names_pre rd root (Nat.le_succ i)
      rw [← hr2, List.getElem?_append_left hl] at h
      obtain ⟨k, q, h1, h2⟩ := ih h (fun x hx => hr x (by omega))
      exact ⟨k, q, by omega, h2⟩
    · have hm : s ∈ needsTo (rd (nmAt rd root i)).2 (rd (nmAt rd root i)).2.nN := joinL_new (N := namesAt rd root i) (by omega) h
      simp only [needsTo, List.mem_map, List.mem_range] at hm
      obtain ⟨q, hq, e⟩ := hm
      have := (hr i (by omega)).1
      exact ⟨i, q, by omega, by omega, hq, e⟩
/-- all needs are among the names. -/
theorem names_needs {rd : ByteArray → Nat × ObjF} {root : ByteArray} {i k q : Nat} (hk : k < i) (hq : q < (rd (nmAt rd root k)).2.nN) : (rd (nmAt rd root k)).2.needs q ∈ namesAt rd root i := by
  refine (names_pre rd root (show k + 1 ≤ i by omega)).subset ?_
  refine joinL_mem _ _ _ ?_
  simp only [needsTo, List.mem_map, List.mem_range]
  exact ⟨q, hq, rfl⟩
end Go.Proofs.YtanfejgcjifhpaaDoor
