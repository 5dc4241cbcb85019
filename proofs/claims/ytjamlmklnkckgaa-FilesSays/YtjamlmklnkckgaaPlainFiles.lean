/-
  Plain words on the document's files, with nothing of the program: a list of files by rising names; what reading, writing and removing make of it.
-/
import Derived.Test.YtjamlmklnkckgaaPlainObject
namespace Go.Proofs.Ytjamlmklnkckgaa

structure FileR where
  nm : ByteArray
  tx : ByteArray
  st : Int
/-- one name below another one. -/
def ltN (x y : ByteArray) : Prop := x.data.toList < y.data.toList
/-- names rise. -/
def Rising (L : List FileR) : Prop := L.Pairwise fun f g => ltN f.nm g.nm
theorem ltN_irrefl (x : ByteArray) : ¬ ltN x x := List.lt_irrefl _
theorem ltN_trans {x y z : ByteArray} (h : ltN x y) (h' : ltN y z) : ltN x z := List.lt_trans h h'
theorem ltN_tri (x y : ByteArray) : ltN x y ∨ x = y ∨ ltN y x := by
  unfold ltN
  by_cases h : x.data.toList < y.data.toList
  · exact .inl h
  · by_cases h' : y.data.toList < x.data.toList
    · exact .inr (.inr h')
    · exact .inr (.inl (WideShapes.bytes_inj (List.le_antisymm (List.not_lt.1 h') (List.not_lt.1 h))))
/-- not above. -/
def leN (x y : ByteArray) : Bool := decide (x.data.toList ≤ y.data.toList)
theorem leN_no {x y : ByteArray} (h : leN x y = false) : ltN y x := by
  unfold leN at h
  exact List.not_le.1 (of_decide_eq_false h)
theorem leN_yes {x y : ByteArray} (h : leN x y = true) : ¬ ltN y x := by
  unfold leN at h
  exact List.not_lt.2 (of_decide_eq_true h)

/-- what is there of that name. -/
def findR (L : List FileR) (s : ByteArray) : Option FileR := L.find? fun f => decide (f.nm = s)
/-- one step of a writing: what is laid so far, and whether the new one is. -/
def stepR (new : FileR) (q : List FileR × Bool) (f : FileR) : List FileR × Bool :=
  ((q.1 ++ (if !q.2 && leN new.nm f.nm then [new] else [])) ++ (if f.nm = new.nm then [] else [f]), q.2 || leN new.nm f.nm)
def stepsR (new : FileR) (L : List FileR) : List FileR × Bool := L.foldl (stepR new) ([], false)
/-- a writing. -/
def putR (new : FileR) (L : List FileR) : List FileR := if (stepsR new L).2 = true then (stepsR new L).1 else (stepsR new L).1 ++ [new]
/-- a removing. -/
def delR (s : ByteArray) (L : List FileR) : List FileR := L.filter fun f => !decide (f.nm = s)

theorem stepsR_snoc (new : FileR) (L : List FileR) (f : FileR) : stepsR new (L ++ [f]) = stepR new (stepsR new L) f := by simp [stepsR, List.foldl_append]

theorem snocInd {α : Type} {P : List α → Prop} (h0 : P []) (h1 : ∀ L a, P L → P (L ++ [a])) (L : List α) : P L := by
  have : ∀ M : List α, P M.reverse := fun M => by
    induction M with
    | nil => simpa using h0
    | cons a M ih => rw [List.reverse_cons]; exact h1 _ _ ih
  rw [← List.reverse_reverse L]
  exact this _
/-- what stands while a list is gone through. -/
structure Going (new : FileR) (L : List FileR) (q : List FileR × Bool) : Prop where
  mem : ∀ f, f ∈ q.1 ↔ (q.2 = true ∧ f = new) ∨ (f ∈ L ∧ f.nm ≠ new.nm)
  rise : Rising q.1
  low : q.2 = false → ∀ f ∈ L, ltN f.nm new.nm
  high : ∀ g : FileR, (∀ f ∈ L, ltN f.nm g.nm) → q.2 = true → ltN new.nm g.nm
theorem going (new : FileR) (L : List FileR) (h : Rising L) : Going new L (stepsR new L) := by
  induction L using snocInd with
  | h0 => exact ⟨fun f => by simp [stepsR], List.Pairwise.nil, fun _ f hf => by simp at hf, fun g _ hq => by simp [stepsR] at hq⟩
  | h1 L f ih =>
    have hL : Rising L := (List.pairwise_append.1 h).1
    have hf : ∀ x ∈ L, ltN x.nm f.nm := fun x hx => (List.pairwise_append.1 h).2.2 x hx f (by simp)
    have I := ih hL
    rw [stepsR_snoc]
    generalize stepsR new L = q at I
    obtain ⟨acc, b⟩ := q
    have Imem := I.mem
    have Irise := I.rise
    have Ilow := I.low
    have Ihigh := I.high
    simp only at Imem Irise Ilow Ihigh
    cases hle : leN new.nm f.nm with
    | false =>
      have hlt := leN_no hle
      have hb : b = false := by
        cases b with
        | false => rfl
        | true => exact absurd (ltN_trans (Ihigh f hf rfl) hlt) (ltN_irrefl _)
      subst hb
      have hne : f.nm ≠ new.nm := fun e => ltN_irrefl _ (e ▸ hlt)
      simp only [stepR, hle, Bool.and_false, Bool.false_eq_true, if_false, List.append_nil, if_neg hne, Bool.or_false]
      refine ⟨fun x => ?_, ?_, fun _ x hx => ?_, fun g _ hq => by simp at hq⟩
      · simp only [List.mem_append, List.mem_singleton, Imem, Bool.false_eq_true, false_and, false_or]
        constructor
        · rintro (⟨h1, h2⟩ | rfl)
          · exact ⟨.inl h1, h2⟩
          · exact ⟨.inr rfl, hne⟩
        · rintro ⟨h1 | rfl, h2⟩
          · exact .inl ⟨h1, h2⟩
          · exact .inr rfl
      · refine List.pairwise_append.2 ⟨Irise, by simp, fun x hx y hy => ?_⟩
        simp at hy; subst hy
        rcases (Imem x).1 hx with ⟨h1, _⟩ | ⟨h1, _⟩
        · cases h1
        · exact hf x h1
      · rcases List.mem_append.1 hx with h1 | h1
        · exact Ilow rfl x h1
        · simp at h1; subst h1; exact hlt
    | true =>
      have hnl := leN_yes hle
      have hge : f.nm = new.nm ∨ ltN new.nm f.nm := by
        rcases ltN_tri f.nm new.nm with h1 | h1 | h1
        · exact absurd h1 hnl
        · exact .inl h1
        · exact .inr h1
      have accLt : ∀ x ∈ acc, b = false → ltN x.nm new.nm := fun x hx hb => by
        rcases (Imem x).1 hx with ⟨h1, _⟩ | ⟨h1, _⟩
        · rw [hb] at h1; cases h1
        · exact Ilow hb x h1
      have accF : ∀ x ∈ acc, f.nm ≠ new.nm → ltN x.nm f.nm := fun x hx hne => by
        rcases (Imem x).1 hx with ⟨_, rfl⟩ | ⟨h1, _⟩
        · rcases hge with e | e
          · exact absurd e hne
          · exact e
        · exact hf x h1
      have hfin : (stepR new (acc, b) f).2 = true := by simp [stepR, hle]
      have hmem : ∀ x, x ∈ (stepR new (acc, b) f).1 ↔ (x = new) ∨ (x ∈ L ++ [f] ∧ x.nm ≠ new.nm) := by
        intro x
        simp only [stepR, hle, Bool.and_true, List.mem_append, Imem, List.mem_singleton]
        by_cases hne : f.nm = new.nm
        · rw [if_pos hne]
          cases b with
          | false =>
            simp
            constructor
            · rintro (⟨h1, h2⟩ | rfl)
              · exact .inr ⟨.inl h1, h2⟩
              · exact .inl rfl
            · rintro (rfl | ⟨h1 | rfl, h2⟩)
              · exact .inr rfl
              · exact .inl ⟨h1, h2⟩
              · exact absurd hne h2
          | true =>
            simp
            constructor
            · rintro (rfl | ⟨h1, h2⟩)
              · exact .inl rfl
              · exact .inr ⟨.inl h1, h2⟩
            · rintro (rfl | ⟨h1 | rfl, h2⟩)
              · exact .inl rfl
              · exact .inr ⟨h1, h2⟩
              · exact absurd hne h2
        · rw [if_neg hne]
          cases b with
          | false =>
            simp
            constructor
            · rintro ((⟨h1, h2⟩ | rfl) | rfl)
              · exact .inr ⟨.inl h1, h2⟩
              · exact .inl rfl
              · exact .inr ⟨.inr rfl, hne⟩
            · rintro (rfl | ⟨h1 | rfl, h2⟩)
              · exact .inl (.inr rfl)
              · exact .inl (.inl ⟨h1, h2⟩)
              · exact .inr rfl
          | true =>
            simp
            constructor
            · rintro ((rfl | ⟨h1, h2⟩) | rfl)
              · exact .inl rfl
              · exact .inr ⟨.inl h1, h2⟩
              · exact .inr ⟨.inr rfl, hne⟩
            · rintro (rfl | ⟨h1 | rfl, h2⟩)
              · exact .inl (.inl rfl)
              · exact .inl (.inr ⟨h1, h2⟩)
              · exact .inr rfl
      refine ⟨fun x => ?_, ?_, (fun h => by rw [hfin] at h; cases h), fun g hg _ => ?_⟩
      · rw [hmem x, hfin]; simp
      · simp only [stepR, hle, Bool.and_true]
        have h1 : Rising (acc ++ if (!b) = true then [new] else []) := by
          cases b with
          | true => simpa using Irise
          | false =>
            simp
            refine List.pairwise_append.2 ⟨Irise, by simp, fun x hx y hy => ?_⟩
            simp at hy; subst hy
            exact accLt x hx rfl
        refine List.pairwise_append.2 ⟨h1, ?_, fun x hx y hy => ?_⟩
        · by_cases hne : f.nm = new.nm <;> simp [hne]
        · by_cases hne : f.nm = new.nm
          · rw [if_pos hne] at hy; simp at hy
          · rw [if_neg hne] at hy
            simp at hy; subst hy
            rcases List.mem_append.1 hx with h2 | h2
            · exact accF x h2 hne
            · cases b with
              | true => simp at h2
              | false =>
                simp at h2; subst h2
                rcases hge with e | e
                · exact absurd e hne
                · exact e
      · have h2 := hg f (by simp)
        rcases hge with e | e
        · rw [← e]; exact h2
        · exact ltN_trans e h2
theorem putR_mem (new : FileR) (L : List FileR) (h : Rising L) : (∀ f, f ∈ putR new L ↔ f = new ∨ (f ∈ L ∧ f.nm ≠ new.nm)) ∧ Rising (putR new L) := by
  have G := going new L h
  unfold putR
  by_cases hb : (stepsR new L).2 = true
  · rw [if_pos hb]
    exact ⟨fun f => by rw [G.mem f]; simp [hb], G.rise⟩
  · rw [if_neg hb]
    have hb' : (stepsR new L).2 = false := by simpa using hb
    refine ⟨fun f => ?_, List.pairwise_append.2 ⟨G.rise, by simp, fun x hx y hy => ?_⟩⟩
    · rw [List.mem_append, G.mem f, hb']
      simp
      constructor
      · rintro (h1 | h1)
        · exact .inr h1
        · exact .inl h1
      · rintro (h1 | h1)
        · exact .inr h1
        · exact .inl h1
    · simp at hy; subst hy
      rcases (G.mem x).1 hx with ⟨h1, _⟩ | ⟨h1, _⟩
      · rw [hb'] at h1; cases h1
      · exact G.low hb' x h1
end Go.Proofs.Ytjamlmklnkckgaa
