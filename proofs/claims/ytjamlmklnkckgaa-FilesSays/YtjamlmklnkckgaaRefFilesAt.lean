/-
  The document's files in memory; what Read and List of them return; memory that was there stays as it was.
-/
import Derived.Test.YtjamlmklnkckgaaPlainFiles
import Derived.Test.YtjamlmklnkckgaaGrow
import Derived.Test.YtjamlmklnkckgaaNameFaultWalks
import Derived.Deep.QuietTactic
import Derived.BigQuiet
namespace Go.Proofs.Ytjamlmklnkckgaa
open Go.RowKit

def fileC (f : FileR) : List Value := [.string f.nm, .string f.tx, .int .i64 f.st]
def rowC (L : List FileR) : List Value := L.flatMap fileC
theorem rowC_snoc (L : List FileR) (f : FileR) : rowC (L ++ [f]) = rowC L ++ fileC f := by simp [rowC]
theorem rowC_len (L : List FileR) : (rowC L).length = L.length * 3 := by
  induction L with
  | nil => rfl
  | cons f L ih => simp [rowC, fileC] at ih ⊢; omega
theorem rowC_at {L : List FileR} {i : Nat} {f : FileR} (h : L[i]? = some f) {j : Nat} {u : Value} (hj : (fileC f)[j]? = some u) : (rowC L)[i * 3 + j]? = some u := by
  have hj3 : j < 3 := by have := (List.getElem?_eq_some_iff.1 hj).1; simpa [fileC] using this
  induction L generalizing i with
  | nil => simp at h
  | cons g L ih =>
    show (fileC g ++ rowC L)[i * 3 + j]? = some u
    cases i with
    | zero =>
      simp at h; subst h
      rw [List.getElem?_append_left (by simp [fileC]; omega)]
      simpa using hj
    | succ i =>
      have h' : L[i]? = some f := by simpa using h
      rw [List.getElem?_append_right (by simp [fileC]; omega)]
      have e : (i + 1) * 3 + j - (fileC g).length = i * 3 + j := by simp [fileC]; omega
      rw [e]
      exact ih h'
theorem rowC_one {L : List FileR} {u : Value} (h : u ∈ rowC L) : u.oneCell' = true := by
  obtain ⟨f, _, hu⟩ := List.mem_flatMap.1 h
  simp [fileC] at hu
  rcases hu with rfl | rfl | rfl <;> rfl

/-- the document's files in block q: a row of the call's own (from block B on), and how many were written. -/
structure RAt (B : Nat) (w : World) (q : Nat) (L : List FileR) (k : Nat) : Prop where
  lo : B ≤ q
  blk : ∃ v, w.heap[q]? = some (.cells #[v, .int .i64 (k : Int)] 86 (0, 0)) ∧ w.ownsRow B 105 3 v L.length (rowC L)
theorem RAt.later {B q k : Nat} {w w' : World} {L : List FileR} (h : RAt B w q L k) (hb : Below w.heap.size w w') : RAt B w' q L k := by
  obtain ⟨v, h1, h2⟩ := h.blk
  exact ⟨h.lo, v, (hb.block q (Array.getElem?_eq_some_iff.1 h1).1).trans h1, owns_below h2 hb⟩
/-- what a walk is told of them. -/
theorem RAt.open {B q k : Nat} {w : World} {L : List FileR} (h : RAt B w q L k) : ∃ a c, L.length ≤ c ∧ w.cell? ⟨q, 0, none⟩ = some (.slice a L.length c) ∧ w.cell? ⟨q, 1, none⟩ = some (.int .i64 (k : Int)) ∧
    (L.length = 0 ∨ ∃ g, a = some ⟨g, 0, none⟩ ∧ ∀ i f, L[i]? = some f → w.cell? ⟨g, i * 3, none⟩ = some (.string f.nm) ∧ w.cell? ⟨g, i * 3 + 1, none⟩ = some (.string f.tx) ∧ w.cell? ⟨g, i * 3 + 2, none⟩ = some (.int .i64 f.st)) := by
  obtain ⟨v, h1, h2⟩ := h.blk
  obtain ⟨a, c, rfl, hc⟩ := owns_shape h2
  refine ⟨a, c, hc, by simp [World.cell?, h1], by simp [World.cell?, h1], ?_⟩
  by_cases h0 : L.length = 0
  · exact .inl h0
  · obtain ⟨f0, hf0⟩ : ∃ f, L[0]? = some f := ⟨L[0]'(by omega), List.getElem?_eq_getElem (by omega)⟩
    obtain ⟨g, ha, _, _⟩ := owns_cell h2 (rowC_at hf0 (j := 0) rfl)
    refine .inr ⟨g, ha, fun i f hf => ?_⟩
    have get : ∀ j u, (fileC f)[j]? = some u → w.cell? ⟨g, i * 3 + j, none⟩ = some u := fun j u hj => by
      obtain ⟨g', ha', _, hc'⟩ := owns_cell h2 (rowC_at hf hj)
      rw [ha] at ha'
      injection ha' with ha'
      injection ha' with ha'
      subst ha'
      exact hc'
    exact ⟨by simpa using get 0 _ rfl, by simpa using get 1 _ rfl, by simpa using get 2 _ rfl⟩

/-- a call of Read that returned. -/
def ReadREnd (L : List FileR) (s : ByteArray) (e : Ending) : Prop := ∃ (t : ByteArray) (n : Int) (f : Nat), e = .returned (.tuple #[.string t, .int .i64 n, .int .i64 (f : Int)]) ∧ ((∃ x ∈ L, x.nm = s ∧ t = x.tx ∧ n = x.st ∧ f = 0) ∨ ((∀ x ∈ L, x.nm ≠ s) ∧ t = ⟨#[]⟩ ∧ n = 0 ∧ f = 5))

set_option maxHeartbeats 1000000 in
theorem readR_any (B : Nat) (w : World) (q : Nat) (L : List FileR) (k : Nat) (s : ByteArray) (h : RAt B w q L k) (hL : L.length ≤ 1000) :
    Calls Try.prog 39 #[.pointer (some ⟨q, 0, none⟩), .string s] w fun e w' => ReadREnd L s e ∧ Below w.heap.size w w' := by
  obtain ⟨a, c, hc, c0, c1, hcell⟩ := h.open
  go_enter Try.func39, Try.ntmps39
  go_wp2
  go_loopw [7] (fun x wr => ∃ i : Nat, i ≤ L.length ∧ x = .int .i64 i ∧ wr = w ∧ Hid (∀ j f, j < i → L[j]? = some f → f.nm ≠ s)) (fun x _ => L.length - (intOf x).toNat)
  case atStart => exact ⟨0, Nat.zero_le _, rfl, rfl, fun j f hj => by omega⟩
  case round =>
    obtain ⟨i, hi, rfl, hw, HK⟩ := hrel
    replace hw := hw.symm
    subst hw
    by_cases hlt : i < L.length
    · obtain ⟨f, hf⟩ : ∃ f, L[i]? = some f := ⟨L[i], List.getElem?_eq_getElem hlt⟩
      have hfm : f ∈ L := List.mem_of_getElem? hf
      rcases hcell with h0 | ⟨g, rfl, hcc⟩
      · omega
      obtain ⟨d0, d1, d2⟩ := hcc i f hf
      clear hcc
      by_cases he : f.nm = s
      · have hq : (f.nm.toList == s.toList) = true := by rw [toList_beq]; exact decide_eq_true he
        go_wp2
        go_quiet (fail)
        go_wp2
        go_ret3
        exact ⟨⟨f.tx, f.st, 0, rfl, .inl ⟨f, hfm, he, rfl, rfl, rfl⟩⟩, below_drewN (Below.refl _ _) _⟩
      · have hq : (f.nm.toList == s.toList) = false := by rw [toList_beq]; exact decide_eq_false he
        have HK2 : Hid (∀ j f, j < i + 1 → L[j]? = some f → f.nm ≠ s) := fun j f' hj hf' => by
          by_cases e : j = i
          · subst e; rw [hf] at hf'; injection hf' with hf'; subst hf'; exact he
          · exact HK.out j f' (by omega) hf'
        clear hf
        go_wp2
        go_roundw
        case rel => exact ⟨i + 1, by omega, by go_num, trivial, HK2⟩
        case measure => simp [intOf]; omega
    · go_wp2
      go_ret3
      refine ⟨⟨⟨#[]⟩, 0, 5, rfl, .inr ⟨fun x hx => ?_, rfl, rfl, rfl⟩⟩, Below.refl _ _⟩
      obtain ⟨j, hj⟩ := List.getElem?_of_mem hx
      exact HK.out j x (by have := (List.getElem?_eq_some_iff.1 hj).1; omega) hj
end Go.Proofs.Ytjamlmklnkckgaa
