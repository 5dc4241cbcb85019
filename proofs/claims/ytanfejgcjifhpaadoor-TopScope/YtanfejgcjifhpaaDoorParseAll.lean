/-
  What Parse returns, for every text: what is read of it if that has this text, else a fault; memory that was there stays as it was.
-/
import Derived.Test.YtanfejgcjifhpaaDoorReadAll
import Derived.Test.YtanfejgcjifhpaaDoorTextAll
namespace Go.Proofs.YtanfejgcjifhpaaDoor
open Go.RowKit

/-- texts are short, numbers are numbers. -/
structure AllFit (o : ObjF) : Prop where
  needs : ∀ i, (o.needs i).size ≤ maxLen
  words : ∀ i, (Lit.int .i64 (o.words i)).wf = true
  syms : ∀ i, (o.sName i).size ≤ maxLen ∧ (Lit.int .i64 (o.sAt i)).wf = true
  ties : ∀ i, (o.tName i).size ≤ maxLen ∧ (Lit.int .i64 (o.tAt i)).wf = true ∧ (Lit.int .i64 (o.tKind i)).wf = true ∧ (Lit.int .i64 (o.tAdd i)).wf = true
theorem num_wf (l : List UInt8) : (Lit.int .i64 (numF l)).wf = true := by
  have h := numF_wf l
  have e1 : IntKind.i64.min = -9223372036854775808 := by decide
  have e2 : IntKind.i64.max = 9223372036854775807 := by decide
  simp only [Lit.wf, e1, e2, Bool.and_eq_true, decide_eq_true_eq]
  exact h
theorem AllFit.need {o : ObjF} (h : AllFit o) (s : ByteArray) (hs : s.size ≤ maxLen) : AllFit (addNeed o s) :=
  ⟨fun i => by simp only [addNeed]; split; exact hs; exact h.needs i, h.words, h.syms, h.ties⟩
theorem AllFit.word {o : ObjF} (h : AllFit o) (l : List UInt8) : AllFit (addWord o (numF l)) :=
  ⟨h.needs, fun i => by simp only [addWord]; split; exact num_wf l; exact h.words i, h.syms, h.ties⟩
theorem AllFit.sym {o : ObjF} (h : AllFit o) (s : ByteArray) (l : List UInt8) (b : Bool) (hs : s.size ≤ maxLen) : AllFit (addSym o s (numF l) b) :=
  ⟨h.needs, h.words, fun i => by simp only [addSym]; split; exact ⟨hs, num_wf l⟩; exact h.syms i, h.ties⟩
theorem AllFit.tie {o : ObjF} (h : AllFit o) (x d : List UInt8) (k : Int) (s : ByteArray) (b : Bool) (hs : s.size ≤ maxLen) (hk : (Lit.int .i64 k).wf = true) : AllFit (addTie o (numF x) k (numF d) s b) :=
  ⟨h.needs, h.words, h.syms, fun i => by simp only [addTie]; split; exact ⟨hs, num_wf x, hk, num_wf d⟩; exact h.ties i⟩
theorem AllFit.words_ {o : ObjF} (h : AllFit o) (wk : Bool) (xs : List ByteArray) (hx : ∀ x ∈ xs, x.size ≤ maxLen) : AllFit (wordsF o wk xs) := by
  unfold wordsF
  split
  · split
    · exact h.need _ (hx _ (by simp))
    · split
      · exact h.word _
      · exact h
  · split
    · exact h.sym _ _ _ (hx _ (by simp))
    · split
      · exact h.tie _ _ _ _ _ (by decide) (by decide)
      · exact h
  · split
    · exact h.tie _ _ _ _ _ (hx _ (by simp)) (by decide)
    · split
      · exact h.tie _ _ _ _ _ (hx _ (by simp)) (by decide)
      · exact h
  · exact h
theorem AllFit.fold (ls : List ByteArray) : ∀ o, AllFit o → (∀ x ∈ ls, x.size ≤ maxLen) → AllFit (ls.foldl lineF o) := by
  induction ls with
  | nil => intro o h _; exact h
  | cons l ls ih =>
    intro o h hx
    refine ih _ (h.words_ _ _ fun x hm => ?_) (fun x hm => hx x (List.mem_cons_of_mem _ hm))
    have h1 := splitB_size _ _ _ _ hm
    have h2 := unWeak_size l
    have h3 := hx l (by simp)
    omega
theorem emptyO_fit : AllFit emptyO :=
  have h1 : (⟨#[]⟩ : ByteArray).size ≤ maxLen := by decide
  have h2 : (Lit.int .i64 0).wf = true := by decide
  ⟨fun _ => h1, fun _ => h2, fun _ => ⟨h1, h2⟩, fun _ => ⟨h1, h2, h2, h2⟩⟩
theorem readF_fit (s : ByteArray) (hs : s.size ≤ 100000) : ObjFit (readF s) := by
  have hls : (linesOf s).length = Lib.countB s ⟨#[10]⟩ + 1 := Lib.splitB_all ⟨#[10]⟩ (by decide) 0 _ s rfl
  have hcl := Lib.countB_le ⟨#[10]⟩ (by decide) _ s (Nat.le_refl _)
  have hc := fold_counts (linesOf s) emptyO 0 ⟨Nat.le_refl _, Nat.le_refl _, Nat.le_refl _, Nat.le_refl _⟩
  have hA : AllFit (readF s) := AllFit.fold (linesOf s) emptyO emptyO_fit fun x hx => by
    have := splitB_size _ _ _ _ hx
    simp only [maxLen]
    omega
  have hm : (100001 : Nat) ≤ maxLen := by decide
  unfold readF at hA ⊢
  exact ⟨by omega, by omega, by omega, by omega, fun i _ => hA.needs i, fun i _ => hA.words i, fun i _ => hA.syms i, fun i _ => hA.ties i⟩

/-- what Parse answers: a fault's number, and the object. -/
def parseF (s : ByteArray) : Nat × ObjF := if 1200 < s.size then (2, emptyO) else if (textF (readF s)).1 = 0 ∧ (textF (readF s)).2 = s.data.toList then (0, readF s) else (4, emptyO)

def noV : ObjV := ⟨none, 0, none, 0, none, 0, none, 0⟩
theorem noV_at (w : World) : ObjAt w noV emptyO := ⟨.inl rfl, .inl rfl, .inl rfl, .inl rfl, Nat.le_refl _, Nat.le_refl _⟩

theorem noV_new (B : Nat) : ObjNew B noV emptyO := ⟨.inl rfl, .inl rfl, .inl rfl, .inl rfl⟩

/-- cells that are slices, each. -/
def Slices (c : Array Value) : Prop := ∀ (j : Nat) (x : Value), c[j]? = some x → ∃ a n k, x = .slice a n k
theorem cell_other {w : World} {g i b j : Nat} {c : Array Value} {t : TypeId} {u x : Value} (hg : w.heap[g]? = some (.cells c t (0, 0))) (hc : Slices c) (h : w.cell? ⟨b, j, none⟩ = some x) (hx : ∀ a n k, x ≠ .slice a n k) : (w.setCell ⟨g, i, none⟩ u).cell? ⟨b, j, none⟩ = some x := by
  by_cases e : b = g
  · subst e
    simp [World.cell?, hg] at h
    obtain ⟨a, n, k, hs⟩ := hc j x h
    exact absurd hs (hx a n k)
  · exact (World.cell?_of_block (Below.heap_setCell _ _ _ _ e)).trans h
theorem ObjAt.store {w : World} {v : ObjV} {o : ObjF} {g i : Nat} {c : Array Value} {t : TypeId} {u : Value} (h : ObjAt w v o) (hg : w.heap[g]? = some (.cells c t (0, 0))) (hc : Slices c) : ObjAt (w.setCell ⟨g, i, none⟩ u) v o where
  needs := by
    rcases h.needs with h | ⟨b, f, ha, h⟩
    · exact .inl h
    · exact .inr ⟨b, f, ha, fun i hi => cell_other hg hc (h i hi) (by simp)⟩
  words := by
    rcases h.words with h | ⟨b, f, ha, h⟩
    · exact .inl h
    · exact .inr ⟨b, f, ha, fun i hi => cell_other hg hc (h i hi) (by simp)⟩
  syms := by
    rcases h.syms with h | ⟨b, f, ha, h⟩
    · exact .inl h
    · exact .inr ⟨b, f, ha, fun i hi => ⟨cell_other hg hc (h i hi).1 (by simp), cell_other hg hc (h i hi).2.1 (by simp), cell_other hg hc (h i hi).2.2 (by simp)⟩⟩
  ties := by
    rcases h.ties with h | ⟨b, f, ha, h⟩
    · exact .inl h
    · exact .inr ⟨b, f, ha, fun i hi => ⟨cell_other hg hc (h i hi).1 (by simp), cell_other hg hc (h i hi).2.1 (by simp), cell_other hg hc (h i hi).2.2.1 (by simp), cell_other hg hc (h i hi).2.2.2.1 (by simp), cell_other hg hc (h i hi).2.2.2.2 (by simp)⟩⟩
  capN := h.capN
  capS := h.capS
theorem Slices.set {c : Array Value} (h : Slices c) (i : Nat) (a : Option Addr) (n k : Nat) : Slices (c.set! i (.slice a n k)) := by
  intro j x hx
  rw [Array.set!_eq_setIfInBounds, Array.getElem?_setIfInBounds] at hx
  split at hx
  · split at hx
    · injection hx with hx; exact ⟨a, n, k, hx.symm⟩
    · cases hx
  · exact h j x hx
theorem slices4 : Slices #[.slice none 0 0, .slice none 0 0, .slice none 0 0, .slice none 0 0] := by
  intro j x hx
  match j, hx with
  | 0, hx => exact ⟨none, 0, 0, by simpa using hx.symm⟩
  | 1, hx => exact ⟨none, 0, 0, by simpa using hx.symm⟩
  | 2, hx => exact ⟨none, 0, 0, by simpa using hx.symm⟩
  | 3, hx => exact ⟨none, 0, 0, by simpa using hx.symm⟩
  | j + 4, hx => simp at hx
theorem ObjAt.store4 {w : World} {v : ObjV} {o : ObjF} {g : Nat} {t : TypeId} (h : ObjAt w v o) (hg : w.heap[g]? = some (.cells #[.slice none 0 0, .slice none 0 0, .slice none 0 0, .slice none 0 0] t (0, 0))) (a0 : Option Addr) (n0 k0 : Nat) (a1 : Option Addr) (n1 k1 : Nat) (a2 : Option Addr) (n2 k2 : Nat) (a3 : Option Addr) (n3 k3 : Nat) :
    ObjAt ((((w.setCell ⟨g, 0, none⟩ (.slice a0 n0 k0)).setCell ⟨g, 1, none⟩ (.slice a1 n1 k1)).setCell ⟨g, 2, none⟩ (.slice a2 n2 k2)).setCell ⟨g, 3, none⟩ (.slice a3 n3 k3)) v o := by
  have h1 := heap_setCell w g 0 _ _ (.slice a0 n0 k0) hg
  have h2 := heap_setCell _ g 1 _ _ (.slice a1 n1 k1) h1
  have h3 := heap_setCell _ g 2 _ _ (.slice a2 n2 k2) h2
  exact (((h.store hg slices4).store h1 (slices4.set _ _ _ _)).store h2 ((slices4.set _ _ _ _).set _ _ _ _)).store h3 (((slices4.set _ _ _ _).set _ _ _ _).set _ _ _ _)

set_option maxRecDepth 100000 in
theorem parse_long (s : ByteArray) (w : World) (hm : 1200 < s.size) :
    Calls Tryd.prog 9 #[.string s] w fun e w' => (∃ v : ObjV, e = .returned (.tuple #[.agg (v.cells (parseF s).2), errV (parseF s).1]) ∧ ObjAt w' v (parseF s).2 ∧ ObjNew w.heap.size v (parseF s).2) ∧ Below w.heap.size w w' := by
  have hp : parseF s = (2, emptyO) := if_pos hm
  rw [hp]
  have hm' : (1200 : Int) < (s.size : Int) := by omega
  clear hp hm
  go_enter Tryd.func9, Tryd.ntmps9
  go_wp2
  refine bodyPost_ret (v := .tuple #[.agg #[.slice none 0 0, .slice none 0 0, .slice none 0 0, .slice none 0 0], .iface 23 (.int .i64 2)]) (by simp [results, Tryd.results9, go_sem]) rfl ⟨⟨noV, rfl, noV_at _, noV_new _⟩, (Below.refl _ _).alloc (Nat.le_refl _) _⟩

set_option maxRecDepth 100000 in
theorem parse_short (s : ByteArray) (w : World) (hE : Env w) (hm : ¬ 1200 < s.size) :
    Calls Tryd.prog 9 #[.string s] w fun e w' => (∃ v : ObjV, e = .returned (.tuple #[.agg (v.cells (parseF s).2), errV (parseF s).1]) ∧ ObjAt w' v (parseF s).2 ∧ ObjNew w.heap.size v (parseF s).2) ∧ Below w.heap.size w w' := by
  have HP : Hid (parseF s = if (textF (readF s)).1 = 0 ∧ (textF (readF s)).2 = s.data.toList then (0, readF s) else (4, emptyO)) := if_neg hm
  have hfit := readF_fit s (by omega)
  have HR := fun (w' : World) (hx : Below w.heap.size w w') => read_any s w' (hE.later hx) (by omega)
  have hm' : ¬ (1200 : Int) < (s.size : Int) := by omega
  have hb0 : ∀ ob : Obj, Below w.heap.size w (w.alloc ob) := fun ob => (Below.refl _ _).alloc (Nat.le_refl _) ob
  have hR0 : (w.alloc (.cells #[.slice none 0 0, .slice none 0 0, .slice none 0 0, .slice none 0 0] 35)).heap[w.heap.size]? = some (.cells #[.slice none 0 0, .slice none 0 0, .slice none 0 0, .slice none 0 0] 35 (0, 0)) := by
    show (w.heap.push _)[w.heap.size]? = _
    rw [Array.getElem?_push_size]
  generalize readF s = F at *
  clear hm
  go_enter Tryd.func9, Tryd.ntmps9
  go_wp2_with fail
  refine (HR _ (hb0 _)).mono ?_
  rintro e w2 ⟨⟨⟨aN, cN, aW, cW, aS, cS, aT, cT⟩, rfl, hA, hNw⟩, hb2⟩
  have hbw := (hb0 _).trans (hb2.mono (hb0 _).size)
  have hlt : w.heap.size < w2.heap.size := by have := hb2.size; simp at this; omega
  replace hR0 := (hb2.block w.heap.size (by simp)).trans hR0
  clear HR hb2 hb0
  have hb3 : ∀ ob : Obj, Below w2.heap.size w2 (w2.alloc ob) := fun ob => (Below.refl _ _).alloc (Nat.le_refl _) ob
  have HT := fun ob => text_any ⟨aN, cN, aW, cW, aS, cS, aT, cT⟩ F (w2.alloc ob) ((hE.later hbw).later (hb3 ob)) (hA.later (hb3 ob)) hfit
  unfold ObjV.cells at HT
  unfold ObjV.cells
  go_wp2_with fail
  refine (HT _).mono ?_
  rintro e w4 ⟨⟨t, rfl, ht⟩, hb4⟩
  have d0 : w4.cell? ⟨w2.heap.size, 0, none⟩ = some (.slice aN F.nN cN) := cell_later hb4 (by simp [go_sem])
  have d1 : w4.cell? ⟨w2.heap.size, 1, none⟩ = some (.slice aW F.nW cW) := cell_later hb4 (by simp [go_sem])
  have d2 : w4.cell? ⟨w2.heap.size, 2, none⟩ = some (.slice aS F.nS cS) := cell_later hb4 (by simp [go_sem])
  have d3 : w4.cell? ⟨w2.heap.size, 3, none⟩ = some (.slice aT F.nT cT) := cell_later hb4 (by simp [go_sem])
  have hb5 := (hb3 _).trans (hb4.mono (hb3 _).size)
  have hbf : Below w.heap.size w w4 := hbw.trans (hb5.mono hbw.size)
  replace hR0 := (hb5.block w.heap.size hlt).trans hR0
  replace hA := hA.later hb5
  clear hb3 hb4 hb5 HT hbw hlt hE
  have q0 : w4.cell? ⟨w.heap.size, 0, none⟩ = some (.slice none 0 0) := by simp [World.cell?, hR0]
  have q1 : w4.cell? ⟨w.heap.size, 1, none⟩ = some (.slice none 0 0) := by simp [World.cell?, hR0]
  have q2 : w4.cell? ⟨w.heap.size, 2, none⟩ = some (.slice none 0 0) := by simp [World.cell?, hR0]
  have q3 : w4.cell? ⟨w.heap.size, 3, none⟩ = some (.slice none 0 0) := by simp [World.cell?, hR0]
  have f0 : w4.frozen? ⟨w.heap.size, 0, none⟩ = false := by simp [World.frozen?, hR0]
  have f1 : w4.frozen? ⟨w.heap.size, 1, none⟩ = false := by simp [World.frozen?, hR0]
  have f2 : w4.frozen? ⟨w.heap.size, 2, none⟩ = false := by simp [World.frozen?, hR0]
  have f3 : w4.frozen? ⟨w.heap.size, 3, none⟩ = false := by simp [World.frozen?, hR0]
  have hN := below_store4 hbf (Nat.le_refl w.heap.size) (.slice none 0 0) (.slice none 0 0) (.slice none 0 0) (.slice none 0 0)
  by_cases h0 : (textF F).1 = 0
  · rw [errV_nil h0]
    by_cases he : t = s
    · subst he
      have HQ : Hid (parseF t = (0, F)) := HP.out.trans (if_pos ⟨h0, ht.symm⟩)
      have hY := below_store4 hbf (Nat.le_refl w.heap.size) (.slice aN F.nN cN) (.slice aW F.nW cW) (.slice aS F.nS cS) (.slice aT F.nT cT)
      have hAY := hA.store4 hR0 aN F.nN cN aW F.nW cW aS F.nS cS aT F.nT cT
      clear hR0 HP hN hfit hA hbf ht h0
      go_wp2
      refine bodyPost_ret (v := .tuple #[.agg #[.slice aN F.nN cN, .slice aW F.nW cW, .slice aS F.nS cS, .slice aT F.nT cT], .nilIface]) (by simp [results, Tryd.results9, go_sem, q0, q1, q2, q3]) rfl ?_
      rw [HQ.out]
      exact ⟨⟨⟨aN, cN, aW, cW, aS, cS, aT, cT⟩, rfl, hAY, hNw.lower (by simp)⟩, hY⟩
    · have HQ : Hid (parseF s = (4, emptyO)) := HP.out.trans (if_neg (fun h => he (by rw [← mkB_data t, ← mkB_data s, ht, h.2])))
      have hne : (t.toList == s.toList) = false := by rw [toList_beq]; simp [he]
      clear hR0 HP hfit hA hbf ht h0 he
      go_wp2
      refine bodyPost_ret (v := .tuple #[.agg #[.slice none 0 0, .slice none 0 0, .slice none 0 0, .slice none 0 0], .iface 23 (.int .i64 4)]) (by simp [results, Tryd.results9, go_sem, q0, q1, q2, q3]) rfl ?_
      rw [HQ.out]
      exact ⟨⟨noV, rfl, noV_at _, noV_new _⟩, hN⟩
  · have HQ : Hid (parseF s = (4, emptyO)) := HP.out.trans (if_neg (fun h => h0 h.1))
    rw [errV_some h0]
    clear hR0 HP hfit hA hbf ht h0
    go_wp2
    refine bodyPost_ret (v := .tuple #[.agg #[.slice none 0 0, .slice none 0 0, .slice none 0 0, .slice none 0 0], .iface 23 (.int .i64 4)]) (by simp [results, Tryd.results9, go_sem, q0, q1, q2, q3]) rfl ?_
    rw [HQ.out]
    exact ⟨⟨noV, rfl, noV_at _, noV_new _⟩, hN⟩

theorem parse_new (s : ByteArray) (w : World) (hE : Env w) :
    Calls Tryd.prog 9 #[.string s] w fun e w' => (∃ v : ObjV, e = .returned (.tuple #[.agg (v.cells (parseF s).2), errV (parseF s).1]) ∧ ObjAt w' v (parseF s).2 ∧ ObjNew w.heap.size v (parseF s).2) ∧ Below w.heap.size w w' := by
  by_cases hm : 1200 < s.size
  · exact parse_long s w hm
  · exact parse_short s w hE hm
theorem parse_any (s : ByteArray) (w : World) (hE : Env w) :
    Calls Tryd.prog 9 #[.string s] w fun e w' => (∃ v : ObjV, e = .returned (.tuple #[.agg (v.cells (parseF s).2), errV (parseF s).1]) ∧ ObjAt w' v (parseF s).2) ∧ Below w.heap.size w w' :=
  (parse_new s w hE).mono fun _ _ ⟨⟨v, h1, h2, _⟩, h3⟩ => ⟨⟨v, h1, h2⟩, h3⟩
end Go.Proofs.YtanfejgcjifhpaaDoor
