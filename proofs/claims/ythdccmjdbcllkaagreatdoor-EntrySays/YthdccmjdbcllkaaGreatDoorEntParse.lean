/-
  What Parse of package entry returns, of any text: the entry that is written so, or ErrText; memory that was there stays as it was.
-/
import Derived.Test.YthdccmjdbcllkaaGreatDoorEntRead
import Derived.Test.YthdccmjdbcllkaaGreatDoorEntText
import Derived.WideShapes
namespace Go.Proofs.YthdccmjdbcllkaaGreatDoor
open Go.RowKit

theorem readE_fit (s : ByteArray) (hs : s.size ≤ 1000000) : EntFit (readE s) := by
  have hsz := fun i => Nat.le_trans (wd_size s i) hs
  unfold readE readW
  split
  · rename_i h
    have hm : 1 ≤ nu (wordsE s) 1 ∧ nu (wordsE s) 1 ≤ 6 ∧ 0 ≤ nu (wordsE s) 2 ∧ nu (wordsE s) 2 ≤ 36 := by
      have := h.2.1
      unfold mayBeB at this
      simpa using this
    refine ⟨?_, ?_, ?_, fun i _ => ?_⟩
    · show (wd (wordsE s) 0).size ≤ maxLen
      have := hsz 0; unfold maxLen; omega
    · show (nu (wordsE s) 1).toNat ≤ maxLen
      unfold maxLen; omega
    · show (nu (wordsE s) 2).toNat ≤ maxLen
      unfold maxLen; omega
    · show (wd (wordsE s) _).size ≤ maxLen
      have := hsz (3 + 3 * i); unfold maxLen; omega
  · exact ⟨by decide, by decide, by decide, fun i h => absurd h (Nat.not_lt_zero _)⟩

theorem bytes_ne {T s : ByteArray} (h : T ≠ s) : (T.toList == s.toList) = false := by
  rw [beq_eq_false_iff_ne]
  intro h2
  apply h
  exact WideShapes.bytes_inj (by rwa [ByteArray.toList_eq, ByteArray.toList_eq] at h2)

/-- in the box of a result there is no number. -/
theorem box_no_int {w : World} {g : Nat} (h : w.heap[g]? = some (.cells #[.string ⟨#[]⟩, .slice none 0 0, .slice none 0 0] 26 (0, 0))) (o : Nat) (k : Int) : w.cell? ⟨g, o, none⟩ ≠ some (.int .i64 k) := by
  intro hc
  match o, hc with
  | 0, hc => simp [World.cell?, h] at hc
  | 1, hc => simp [World.cell?, h] at hc
  | 2, hc => simp [World.cell?, h] at hc
  | o + 3, hc => simp [World.cell?, h] at hc
theorem entAt_set3 {w : World} {g : Nat} {v : EntV} {en : EntF} (hA : EntAt w v en) (h : w.heap[g]? = some (.cells #[.string ⟨#[]⟩, .slice none 0 0, .slice none 0 0] 26 (0, 0))) (a0 a1 a2 : Value) : EntAt (((w.setCell ⟨g, 0, none⟩ a0).setCell ⟨g, 1, none⟩ a1).setCell ⟨g, 2, none⟩ a2) v en := by
  refine ⟨?_, ?_⟩
  · rcases hA.parts with h0 | ⟨bk, o, ha, hc⟩
    · exact .inl h0
    · refine .inr ⟨bk, o, ha, fun i hi => ?_⟩
      obtain ⟨h0, h1, h2⟩ := hc i hi
      have hne : bk ≠ g := fun e => box_no_int h _ _ (e ▸ h1)
      exact ⟨cell_set3 h0 hne _ _ _, cell_set3 h1 hne _ _ _, cell_set3 h2 hne _ _ _⟩
  · rcases hA.pats with h0 | ⟨bk, o, ha, hc⟩
    · exact .inl h0
    · refine .inr ⟨bk, o, ha, fun i hi => ?_⟩
      obtain ⟨h0, h1, h2⟩ := hc i hi
      have hne : bk ≠ g := fun e => box_no_int h _ _ (e ▸ h1)
      exact ⟨cell_set3 h0 hne _ _ _, cell_set3 h1 hne _ _ _, cell_set3 h2 hne _ _ _⟩
theorem entNew_set3 {w : World} {g : Nat} {v : EntV} {en : EntF} (hA : EntNew w v en) (h : w.heap[g]? = some (.cells #[.string ⟨#[]⟩, .slice none 0 0, .slice none 0 0] 26 (0, 0))) (a0 a1 a2 : Value) : EntNew (((w.setCell ⟨g, 0, none⟩ a0).setCell ⟨g, 1, none⟩ a1).setCell ⟨g, 2, none⟩ a2) v en := by
  have key : ∀ {bk : Nat} {C : Array Value} {t : TypeId}, t ≠ 26 → w.heap[bk]? = some (.cells C t (0, 0)) → (((w.setCell ⟨g, 0, none⟩ a0).setCell ⟨g, 1, none⟩ a1).setCell ⟨g, 2, none⟩ a2).heap[bk]? = some (.cells C t (0, 0)) := fun {bk C t} ht hC => by
    have hne : bk ≠ g := fun e => by
      subst e
      rw [h] at hC
      injection hC with hC
      injection hC with _ h2 _
      exact ht h2.symm
    exact (heap_set3 hne _ _ _).trans hC
  exact ⟨entAt_set3 hA.here h _ _ _, hA.tP.imp id fun ⟨bk, o, C, ha, hC⟩ => ⟨bk, o, C, ha, key (by decide) hC⟩, hA.tQ.imp id fun ⟨bk, o, C, ha, hC⟩ => ⟨bk, o, C, ha, key (by decide) hC⟩⟩
set_option maxRecDepth 100000 in
set_option maxHeartbeats 4000000 in
theorem entParse_new (s : ByteArray) (w : World) (hE : Env w) (hs : s.size ≤ 1000000) :
    Calls Tryz.prog 12 #[.string s] w fun e w' => ∃ v, e = .returned (.tuple #[.agg (entCs v (parseE s).2), errV (parseE s).1]) ∧ EntNew w' v (parseE s).2 ∧ Below w.heap.size w w' := by
  have hb0 : Below w.heap.size w (w.alloc (.cells #[.string ⟨#[]⟩, .slice none 0 0, .slice none 0 0] 26)) := (Below.refl _ _).alloc (Nat.le_refl _) _
  have hres : (w.alloc (.cells #[.string ⟨#[]⟩, .slice none 0 0, .slice none 0 0] 26)).heap[w.heap.size]? = some (.cells #[.string ⟨#[]⟩, .slice none 0 0, .slice none 0 0] 26 (0, 0)) := Array.getElem?_push_size
  have hz0 : w.heap.size < (w.alloc (.cells #[.string ⟨#[]⟩, .slice none 0 0, .slice none 0 0] 26)).heap.size := by simp
  have hE0 := hE.later hb0
  have HF := readE_fit s hs
  have HPA : Hid (parseE s = if (textE (readE s)).1 = 0 ∧ (textE (readE s)).2 = s.data.toList then (0, readE s) else (4, emptyE)) := rfl
  have HR := entRead_any s _ hE0 hs
  generalize hW : w.alloc (.cells #[.string ⟨#[]⟩, .slice none 0 0, .slice none 0 0] 26) = W0 at *
  generalize readE s = en at *
  go_enter Tryz.func12, Tryz.ntmps12
  go_wp2_with fail
  refine (show Calls _ _ _ _ _ from HR).mono ?_
  rintro e w1 ⟨v, rfl, hA1, hb1⟩
  clear HR
  have hbe : Below w1.heap.size w1 (w1.alloc (.cells (entCs v en) 26)) := (Below.refl _ _).alloc (Nat.le_refl _) _
  have HT := entText_any v en _ (hA1.here.later hbe) HF ((hE0.later hb1).later hbe)
  have hres1 := (hb1.block _ hz0).trans hres
  have hlt1 : w.heap.size < w1.heap.size := Nat.lt_of_lt_of_le hz0 hb1.size
  have c0 : (w1.alloc (.cells (entCs v en) 26)).cell? ⟨w1.heap.size, 0, none⟩ = some (.string en.root) := by simp [go_sem]
  have c1 : (w1.alloc (.cells (entCs v en) 26)).cell? ⟨w1.heap.size, 1, none⟩ = some (.slice v.aP en.nP v.cP) := by simp [go_sem]
  have c2 : (w1.alloc (.cells (entCs v en) 26)).cell? ⟨w1.heap.size, 2, none⟩ = some (.slice v.aQ en.nQ v.cQ) := by simp [go_sem]
  have hA2 := hA1.later hbe
  have hbA := (hb0.trans (hb1.mono hb0.size)).trans (hbe.mono (Nat.le_of_lt hlt1))
  have hres2 := (hbe.block _ hlt1).trans hres1
  have hlt2 : w.heap.size < (w1.alloc (.cells (entCs v en) 26)).heap.size := by simp; omega
  clear hres hres1 hA1 hb1 hb0 hE0 hE hz0 hs
  go_wp2_with fail
  refine (show Calls _ _ _ _ _ from HT).mono ?_
  rintro e w3 ⟨rfl, hb3⟩
  clear HT
  have hres3 := (hb3.block _ hlt2).trans hres2
  have hb4 := hbA.trans (hb3.mono hbA.size)
  have hA3 := hA2.later hb3
  have d0 := cell_later hb3 c0
  have d1 := cell_later hb3 c1
  have d2 := cell_later hb3 c2
  obtain ⟨q0, q1, q2, f0, f1, f2⟩ := resAt hres3
  clear c0 c1 c2 hA2 hbA hres2 hbe hlt2 hb3
  have hFin := entNew_set3 hA3 hres3
  generalize hTX : (textE en).1 = F at *
  generalize hTL : (textE en).2 = L at *
  clear hres3 hA3
  by_cases h1 : F = 0
  · subst h1
    by_cases h2 : L = s.data.toList
    · have HIS : Hid (parseE s = (0, en)) := by rw [HPA.out, if_pos ⟨rfl, h2⟩]; exact rfl
      have hTs : (⟨L.toArray⟩ : ByteArray) = s := by rw [h2]
      rw [hTs]
      have hse : (s.toList != s.toList) = false := by simp
      have hNB := below3 hb4 (Nat.le_refl w.heap.size) (.string en.root) (.slice v.aP en.nP v.cP) (.slice v.aQ en.nQ v.cQ)
      have hFN := hFin (.string en.root) (.slice v.aP en.nP v.cP) (.slice v.aQ en.nQ v.cQ)
      clear hTs h2 HPA hTX hTL hFin
      simp only [errV]
      go_wp2
      refine bodyPost_ret (v := .tuple #[.agg #[.string en.root, .slice v.aP en.nP v.cP, .slice v.aQ en.nQ v.cQ], .nilIface]) (by simp [results, Tryz.results12, go_sem, q0, q1, q2]) rfl ?_
      rw [HIS.out]
      exact ⟨v, rfl, hFN, hNB⟩
    · have HIS : Hid (parseE s = (4, emptyE)) := by rw [HPA.out, if_neg (fun h => h2 h.2)]; exact rfl
      have hne := bytes_ne (T := ⟨L.toArray⟩) (s := s) (fun h => h2 (by rw [← h]))
      have hNB := below3 hb4 (Nat.le_refl w.heap.size) (.string ⟨#[]⟩) (.slice none 0 0) (.slice none 0 0)
      clear h2 HPA hTX hTL hFin
      generalize (⟨L.toArray⟩ : ByteArray) = T at *
      simp only [errV]
      go_wp2
      refine bodyPost_ret (v := .tuple #[.agg #[.string ⟨#[]⟩, .slice none 0 0, .slice none 0 0], .iface 74 (.int .i64 4)]) (by simp [results, Tryz.results12, go_sem, q0, q1, q2]) rfl ?_
      rw [HIS.out]
      exact ⟨⟨none, 0, none, 0⟩, rfl, empty_new _, hNB⟩
  · have HIS : Hid (parseE s = (4, emptyE)) := by rw [HPA.out, if_neg (fun h => h1 h.1)]; exact rfl
    obtain ⟨f, rfl⟩ : ∃ f, F = f + 1 := ⟨F - 1, by omega⟩
    have hNB := below3 hb4 (Nat.le_refl w.heap.size) (.string ⟨#[]⟩) (.slice none 0 0) (.slice none 0 0)
    clear h1 HPA hTX hTL hFin
    simp only [errV]
    generalize (((f + 1 : Nat) : Int)) = K at *
    go_wp2
    refine bodyPost_ret (v := .tuple #[.agg #[.string ⟨#[]⟩, .slice none 0 0, .slice none 0 0], .iface 74 (.int .i64 4)]) (by simp [results, Tryz.results12, go_sem, q0, q1, q2]) rfl ?_
    rw [HIS.out]
    exact ⟨⟨none, 0, none, 0⟩, rfl, empty_new _, hNB⟩
theorem entParse_any (s : ByteArray) (w : World) (hE : Env w) (hs : s.size ≤ 1000000) :
    Calls Tryz.prog 12 #[.string s] w fun e w' => ∃ v, e = .returned (.tuple #[.agg (entCs v (parseE s).2), errV (parseE s).1]) ∧ EntAt w' v (parseE s).2 ∧ Below w.heap.size w w' :=
  (entParse_new s w hE hs).mono fun _ _ ⟨v, h1, h2, h3⟩ => ⟨v, h1, h2.here, h3⟩
end Go.Proofs.YthdccmjdbcllkaaGreatDoor
