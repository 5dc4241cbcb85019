/-
  A disk and the document's disk that say the same: in plain words; what each act leaves of that.
-/
import Derived.Test.YtlljpedanlnjaaaDiskRefAgain
import Derived.Test.YtlljpedanlnjaaaSame
namespace Go.Proofs.Ytlljpedanlnjaaa
open Go.RowKit

theorem keptOf_prefix {keep : Int} {f : Nat → List UInt8} {l : List (Nat × List UInt8)} (m : List (Nat × List UInt8)) : ∀ k, k ≤ l.length → keptOf keep f (l ++ m) k = keptOf keep f l k
  | 0, _ => rfl
  | k + 1, h => by
    simp only [keptOf]
    rw [List.getElem?_append_left (by omega), keptOf_prefix m k (by omega)]
theorem keepTo_struck {keep : Int} {b : Nat} (hb : bitOf keep b = false) : ∀ (l : List Late) (c : List UInt8), keepTo keep c (struck l b) = keepTo keep c l
  | [], _ => rfl
  | a :: l, c => by
    by_cases e : a.1 = b
    · have h1 : struck (a :: l) b = struck l b := by unfold struck; rw [List.filter_cons, if_neg (by simp [e])]
      rw [h1, keepTo_struck hb l c]
      show keepTo keep c l = keepTo keep (if bitOf keep a.1 = true then a.2 else c) l
      rw [e, hb, if_neg (by simp)]
    · have h1 : struck (a :: l) b = a :: struck l b := by unfold struck; rw [List.filter_cons, if_pos (by simp [e])]
      rw [h1]
      exact keepTo_struck hb l _
theorem keepTo_all {l : List Late} {c : List UInt8} (h : ∀ x ∈ l, x.1 < 64) : keepTo 18446744073709551615 c l = (Sec.mk c l).now := by
  induction l generalizing c with
  | nil => rfl
  | cons a l ih =>
    show keepTo _ (if bitOf 18446744073709551615 a.1 = true then a.2 else c) l = _
    rw [bitOf_all a.1 (h a (by simp)), if_pos rfl, ih (fun x hx => h x (by simp [hx]))]
    unfold Sec.now
    cases hl : l.getLast? with
    | none =>
      rw [List.getLast?_eq_none_iff.1 hl]
      rfl
    | some x =>
      rw [List.getLast?_cons, hl]
      rfl
/-- they say the same. -/
structure Twin (s : DSt) (r : RSt) (n : Nat) : Prop where
  now : ∀ i, i < n → r.now i = (s.K i).now
  base : ∀ i, i < n → r.kept i = (s.K i).kept
  kept : ∀ keep i, i < n → keptOf keep r.kept r.wait r.wait.length i = keepTo keep (s.K i).kept (s.K i).late
  next : s.next = r.wait.length % 64
  down : s.down = r.down
  left : s.down = false → s.left = r.fuse
  lo : -1 ≤ r.fuse
  hi : r.fuse ≤ 9223372036854775807
  wn : ∀ x ∈ r.wait, x.1 < n
theorem Twin.fresh (n : Nat) : Twin DSt.fresh RSt.fresh n :=
  ⟨fun _ _ => rfl, fun _ _ => rfl, fun _ _ _ => rfl, rfl, rfl, fun _ => rfl, by decide, by decide, fun x hx => by simp [RSt.fresh] at hx⟩
/-- a step of both. -/
theorem Twin.step {s : DSt} {r : RSt} {n : Nat} (h : Twin s r n) : (s.falls = true ∧ r.stepF = 9 ∧ Twin s.fell r.stepped n) ∨ (s.falls = false ∧ r.stepF = 0 ∧ Twin s.stepped r.stepped n ∧ s.stepped.K = s.K ∧ r.stepped.wait = r.wait ∧ s.stepped.down = false) := by
  have hd := h.down
  cases hs : s.down with
  | true =>
    rw [hs] at hd
    refine .inl ⟨by simp [DSt.falls, hs], by simp [RSt.stepF, ← hd], ?_⟩
    rw [show r.stepped = r by unfold RSt.stepped; rw [if_pos hd.symm]]
    exact ⟨h.now, h.base, h.kept, h.next, hd, fun e => (by cases e), h.lo, h.hi, h.wn⟩
  | false =>
    rw [hs] at hd
    have hl := h.left hs
    have hr : ¬ r.down = true := by simp [← hd]
    by_cases h0 : r.fuse = 0
    · refine .inl ⟨by simp [DSt.falls, hl, h0], by simp [RSt.stepF, h0], ?_⟩
      rw [show r.stepped = { r with down := true, fuse := -1 } by unfold RSt.stepped; rw [if_neg hr, if_pos h0]]
      exact ⟨h.now, h.base, h.kept, h.next, rfl, fun e => (by cases e), (by show (-1 : Int) ≤ -1; decide), (by show (-1 : Int) ≤ _; decide), h.wn⟩
    · refine .inr ⟨by simp [DSt.falls, hs, hl, h0], by simp [RSt.stepF, ← hd, h0], ?_, rfl, ?_, hs⟩
      · have e1 : r.stepped = { r with fuse := if 0 < r.fuse then r.fuse - 1 else r.fuse } := by unfold RSt.stepped; rw [if_neg hr, if_neg h0]
        have hlo := h.lo
        have hhi := h.hi
        rw [e1]
        refine ⟨h.now, h.base, h.kept, h.next, h.down, fun _ => ?_, ?_, ?_, h.wn⟩
        · show (if 0 < s.left then s.left - 1 else s.left) = if 0 < r.fuse then r.fuse - 1 else r.fuse
          rw [hl]
        · show -1 ≤ if 0 < r.fuse then r.fuse - 1 else r.fuse
          split <;> omega
        · show (if 0 < r.fuse then r.fuse - 1 else r.fuse) ≤ _
          split <;> omega
      · unfold RSt.stepped; rw [if_neg hr, if_neg h0]
/-- a Write of both. -/
theorem Twin.put {s : DSt} {r : RSt} {n i : Nat} (h : Twin s r n) (hi : i < n) (d : List UInt8) : Twin (s.put i d) (r.put i d) n := by
  have e1 : (s.put i d).K i = ⟨(s.K i).kept, struck (s.K i).late s.next ++ [(s.next, d)]⟩ := DSt.at_same s i _
  have e2 : ∀ j, j ≠ i → (s.put i d).K j = s.K j := fun j hj => DSt.at_other s _ hj
  refine ⟨?_, ?_, ?_, ?_, h.down, h.left, h.lo, h.hi, ?_⟩
  · intro j hj
    show (if j = i then d else r.now j) = _
    by_cases e : j = i
    · subst e; rw [if_pos rfl, e1]; simp [Sec.now]
    · rw [if_neg e, e2 j e]; exact h.now j hj
  · intro j hj
    show r.kept j = _
    by_cases e : j = i
    · subst e; rw [e1]; exact h.base j hj
    · rw [e2 j e]; exact h.base j hj
  · intro keep j hj
    have hk : keptOf keep r.kept (r.wait ++ [(i, d)]) (r.wait.length + 1) = if bitOf keep (r.wait.length % 64) = true then fun j => if j = i then d else keptOf keep r.kept r.wait r.wait.length j else keptOf keep r.kept r.wait r.wait.length := by
      simp only [keptOf]
      rw [List.getElem?_append_right (Nat.le_refl _), Nat.sub_self, keptOf_prefix [(i, d)] _ (Nat.le_refl _)]
      rfl
    show keptOf keep r.kept (r.wait ++ [(i, d)]) (r.wait ++ [(i, d)]).length j = _
    rw [List.length_append, List.length_singleton, hk, ← h.next]
    by_cases e : j = i
    · subst e
      rw [e1, keepTo_snoc]
      cases hb : bitOf keep s.next with
      | true => simp
      | false =>
        rw [if_neg (by simp), if_neg (by simp), keepTo_struck hb]
        exact h.kept keep j hj
    · rw [e2 j e]
      cases hb : bitOf keep s.next with
      | true => rw [if_pos rfl]; show (if j = i then d else _) = _; rw [if_neg e]; exact h.kept keep j hj
      | false => rw [if_neg (by simp)]; exact h.kept keep j hj
  · show (s.next + 1) % 64 = (r.wait ++ [(i, d)]).length % 64
    rw [h.next, List.length_append, List.length_singleton]
    omega
  · intro x hx
    rcases List.mem_append.1 hx with hx | hx
    · exact h.wn x hx
    · simp at hx; subst hx; exact hi
/-- a Flush of both. -/
theorem Twin.flush {s : DSt} {r : RSt} {n : Nat} (h : Twin s r n) (hok : ∀ i, i < n → SecOk (s.K i)) : Twin (s.settled 18446744073709551615) { r with kept := r.now, wait := [] } n := by
  have e : ∀ i, i < n → keepTo 18446744073709551615 (s.K i).kept (s.K i).late = (s.K i).now := fun i hi => keepTo_all (fun x hx => ((hok i hi).late x hx).1)
  have e2 : ∀ i, i < n → r.now i = keepTo 18446744073709551615 (s.K i).kept (s.K i).late := fun i hi => (h.now i hi).trans (e i hi).symm
  exact ⟨e2, e2, fun keep i hi => e2 i hi, rfl, h.down, h.left, h.lo, h.hi, fun x hx => by cases hx⟩
/-- a Restart of both. -/
theorem Twin.again {s : DSt} {r : RSt} {n : Nat} (h : Twin s r n) (keep : Int) : Twin (s.again keep) (r.again keep) n :=
  ⟨fun i hi => h.kept keep i hi, fun i hi => h.kept keep i hi, fun _ i hi => h.kept keep i hi, rfl, rfl, fun _ => rfl, (by show (-1 : Int) ≤ -1; decide), (by show (-1 : Int) ≤ _; decide), fun x hx => by cases hx⟩
theorem Twin.arm {s : DSt} {r : RSt} {n : Nat} (h : Twin s r n) (a : Int) (ha : a ≤ 9223372036854775807) : Twin { s with left := max a (-1) } { r with fuse := max a (-1) } n :=
  ⟨h.now, h.base, h.kept, h.next, h.down, fun _ => rfl, by show -1 ≤ max a (-1); omega, by show max a (-1) ≤ _; omega, h.wn⟩
/-- what both answer to a Write, and leave. -/
theorem Twin.write {s : DSt} {r : RSt} {n : Nat} (h : Twin s r n) (at' : Int) (t : ByteArray) : s.writeF n at' t = r.writeF n at' t ∧ Twin (s.wrote n at' t) (r.wrote n at' t) n ∧ (r.wrote n at' t).wait.length ≤ r.wait.length + 1 := by
  unfold DSt.writeF RSt.writeF DSt.wrote RSt.wrote
  by_cases hb : ¬ (0 ≤ at' ∧ at' < n) ∨ 64 < t.size
  · rw [if_pos hb, if_pos hb, if_pos hb, if_pos hb]
    exact ⟨rfl, h, Nat.le_succ _⟩
  · rw [if_neg hb, if_neg hb, if_neg hb, if_neg hb]
    rcases h.step with ⟨h1, h2, h3⟩ | ⟨h1, h2, h3, _, h5, _⟩
    · rw [h1, h2, if_pos rfl, if_pos rfl, if_neg (by decide)]
      refine ⟨rfl, h3, ?_⟩
      unfold RSt.stepped
      split
      · omega
      · split <;> simp
    · rw [h1, h2, if_neg (by simp), if_neg (by simp), if_pos rfl]
      refine ⟨rfl, h3.put (by omega) _, ?_⟩
      show (r.stepped.wait ++ [_]).length ≤ _
      rw [h5]
      simp
theorem Twin.flushes {s : DSt} {r : RSt} {n : Nat} (h : Twin s r n) (hok : ∀ i, i < n → SecOk (s.K i)) : s.flushF = r.stepF ∧ Twin s.flushed r.flushed n ∧ r.flushed.wait.length ≤ r.wait.length := by
  unfold DSt.flushF DSt.flushed RSt.flushed
  rcases h.step with ⟨h1, h2, h3⟩ | ⟨h1, h2, h3, h4, h5, _⟩
  · rw [h1, h2, if_pos rfl, if_pos rfl, if_neg (by decide)]
    refine ⟨rfl, h3, ?_⟩
    unfold RSt.stepped
    split
    · omega
    · split <;> simp
  · rw [h1, h2, if_neg (by simp), if_neg (by simp), if_pos rfl]
    exact ⟨rfl, h3.flush (fun i hi => by rw [h4]; exact hok i hi), by simp⟩
theorem Twin.read {s : DSt} {r : RSt} {n : Nat} (h : Twin s r n) (at' : Int) : s.readF n at' = r.readF n at' ∧ s.readT n at' = r.readT n at' := by
  have h1 : s.readF n at' = r.readF n at' := by unfold DSt.readF RSt.readF; rw [h.down]
  refine ⟨h1, ?_⟩
  unfold DSt.readT RSt.readT
  rw [h1]
  by_cases h0 : r.readF n at' = 0
  · rw [if_pos h0, if_pos h0]
    have : 0 ≤ at' ∧ at' < n := by
      unfold RSt.readF at h0
      split at h0
      · cases h0
      · split at h0
        · assumption
        · cases h0
    rw [h.now at'.toNat (by omega)]
  · rw [if_neg h0, if_neg h0]
/-- both disks in memory. -/
structure Both2 (w : World) (B p q n : Nat) (s : DSt) (r : RSt) : Prop where
  d : Disk w B p n s
  f : Ref w B q n r
  t : Twin s r n
end Go.Proofs.Ytlljpedanlnjaaa
