/-
  Plain words on numbers written and read, and on texts that are split: with nothing of the program.
-/
import Derived.Test.YthdccmjdbcllkaaGreatDoorPlain
import Derived.Lib.SplitLaws
import Derived.Lib.IndexBytes
import Derived.Lib.AtoiErrMem
import Derived.Lib.AtoiAll
import Derived.Lib.ItoaNum
import Derived.Lib.Join
import Derived.Lib.Strings
namespace Go.Proofs.YthdccmjdbcllkaaGreatDoor
/-- the number that is read of a text, whatever it is. -/
def numF (l : List UInt8) : Int := match Lib.atoiAll l with | .ok v => v | .range => Lib.atoiSat l | _ => 0

theorem dig_toNat (d : Nat) (h : d < 10) : (UInt8.ofNat (48 + d)).toNat = 48 + d := by
  rw [UInt8.toNat_ofNat']
  omega
theorem parse_dec : ∀ (k u : Nat), u ≤ k → u < 1000000000000000000 → ∀ r, Lib.parseUint10 0 (Lib.decDigits u ++ r) = Lib.parseUint10 u r := by
  intro k
  induction k with
  | zero =>
    intro u hu _ r
    have : u = 0 := by omega
    subst this
    rw [Lib.decDigits, dif_pos (by omega)]
    show Lib.parseUint10 0 (UInt8.ofNat (48 + 0) :: r) = _
    rw [Lib.parseUint10, dig_toNat 0 (by omega), if_pos (by omega), if_neg (by omega), if_neg (by omega)]
  | succ k ih =>
    intro u hu hb r
    rw [Lib.decDigits]
    by_cases h : u < 10
    · rw [dif_pos h]
      show Lib.parseUint10 0 (UInt8.ofNat (48 + u) :: r) = _
      rw [Lib.parseUint10, dig_toNat u h, if_pos (by omega), if_neg (by omega), if_neg (by omega)]
      congr 1
      omega
    · rw [dif_neg h, List.append_assoc, ih (u / 10) (by omega) (by omega)]
      show Lib.parseUint10 (u / 10) (UInt8.ofNat (48 + u % 10) :: r) = _
      rw [Lib.parseUint10, dig_toNat (u % 10) (by omega), if_pos (by omega), if_neg (by omega), if_neg (by omega)]
      congr 1
      omega
theorem dec_bytes : ∀ (k u : Nat), u ≤ k → ∀ x ∈ Lib.decDigits u, 48 ≤ x.toNat ∧ x.toNat ≤ 57 := by
  intro k
  induction k with
  | zero =>
    intro u hu x hx
    rw [Lib.decDigits, dif_pos (by omega), List.mem_singleton] at hx
    rw [hx, dig_toNat u (by omega)]
    omega
  | succ k ih =>
    intro u hu x hx
    rw [Lib.decDigits] at hx
    by_cases h : u < 10
    · rw [dif_pos h, List.mem_singleton] at hx
      rw [hx, dig_toNat u (by omega)]
      omega
    · rw [dif_neg h, List.mem_append, List.mem_singleton] at hx
      rcases hx with hx | hx
      · exact ih (u / 10) (by omega) x hx
      · rw [hx, dig_toNat (u % 10) (by omega)]
        omega
theorem dec_ne (u : Nat) : Lib.decDigits u ≠ [] := by
  rw [Lib.decDigits]
  split <;> simp
theorem mag_dec (u : Nat) (hb : u < 1000000000000000000) : Lib.parseMag (Lib.decDigits u) = .ok u := by
  unfold Lib.parseMag
  rw [if_neg (dec_ne u)]
  have := parse_dec u u (Nat.le_refl _) hb []
  rw [List.append_nil] at this
  rw [this]
  rfl
theorem numF_itoa (n : Int) (h0 : -1000000000000 ≤ n) (h1 : n ≤ 1000000000000) : numF (Lib.itoa n) = n := by
  unfold numF
  suffices h : Lib.atoiAll (Lib.itoa n) = .ok n by rw [h]
  unfold Lib.itoa
  by_cases hn : n < 0
  · rw [if_pos hn]
    unfold Lib.atoiAll
    have e45 : (45 : UInt8).toNat = 45 := rfl
    simp only [e45, or_true, if_true]
    rw [mag_dec _ (by omega)]
    simp only [not_true, false_and, if_false, true_and]
    rw [if_neg (by omega)]
    congr 1
    omega
  · rw [if_neg hn]
    obtain ⟨c, r, hc⟩ := List.exists_cons_of_ne_nil (dec_ne n.toNat)
    have hb := dec_bytes n.toNat n.toNat (Nat.le_refl _) c (by rw [hc]; simp)
    have hm := mag_dec n.toNat (by omega)
    rw [hc] at hm ⊢
    unfold Lib.atoiAll
    have e1 : ¬ (c.toNat = 43 ∨ c.toNat = 45) := by omega
    have e2 : ¬ c.toNat = 45 := by omega
    simp only []
    rw [if_neg e1, hm]
    simp only [e2, not_false_eq_true, true_and, false_and, if_false]
    rw [if_neg (by omega)]
    congr 1
    omega
theorem numF_wf (l : List UInt8) : -9223372036854775808 ≤ numF l ∧ numF l ≤ 9223372036854775807 := by
  unfold numF
  split
  · rename_i v hv
    unfold Lib.atoiAll at hv
    split at hv
    · cases hv
    · simp only [] at hv
      split at hv
      · cases hv
      · cases hv
      · split at hv
        · cases hv
        · split at hv
          · cases hv
          · injection hv with hv
            subst hv
            split <;> omega
  · unfold Lib.atoiSat
    split <;> omega
  · omega
theorem itoa_bytes (n : Int) : ∀ x ∈ Lib.itoa n, x = 45 ∨ 48 ≤ x.toNat ∧ x.toNat ≤ 57 := by
  intro x hx
  unfold Lib.itoa at hx
  split at hx
  · rcases List.mem_cons.1 hx with h | h
    · exact .inl h
    · exact .inr (dec_bytes _ _ (Nat.le_refl _) x h)
  · exact .inr (dec_bytes _ _ (Nat.le_refl _) x hx)
theorem itoa_no (n : Int) (c : UInt8) (h : c = 32 ∨ c = 10) : c ∉ Lib.itoa n := by
  intro hc
  rcases itoa_bytes n c hc with e | ⟨e1, e2⟩
  · rcases h with rfl | rfl <;> simp at e
  · rcases h with rfl | rfl <;> simp at e1 e2
theorem name_bytes {l : List UInt8} (h : nameF l = 0) (c : UInt8) (hc : c = 32 ∨ c = 10) : c ∉ l := by
  have hf : fitTo l l.length = true := by
    unfold nameF at h
    split at h
    · omega
    · split at h
      · assumption
      · omega
  have all : ∀ n, fitTo l n = true → ∀ i, i < n → fit ((l.getD i 0).toNat : Int) ((i : Int) == 0) = true := by
    intro n
    induction n with
    | zero => intro _ i hi; omega
    | succ n ih =>
      intro h i hi
      simp only [fitTo, Bool.and_eq_true] at h
      by_cases e : i = n
      · subst e; exact h.2
      · exact ih h.1 i (by omega)
  intro hm
  obtain ⟨i, hi, he⟩ := List.getElem_of_mem hm
  have := all _ hf i hi
  rw [List.getD_eq_getElem?_getD, List.getElem?_eq_getElem hi, Option.getD_some, he] at this
  rcases hc with rfl | rfl <;> simp [fit] at this

/-- a text, cut at one byte. -/
def sp (c : UInt8) (l : List UInt8) : List (List UInt8) := Lib.splitK [c] 0 (l.count c) l
theorem index_mid (c : UInt8) (r : List UInt8) : ∀ p : List UInt8, c ∉ p → Lib.indexByte (p ++ c :: r) c = p.length
  | [], _ => by simp [Lib.indexByte]
  | b :: p, h => by
    have h1 : (b == c) = false := by
      rw [beq_eq_false_iff_ne]
      intro e
      exact h (by rw [e]; simp)
    have ih := index_mid c r p (fun e => h (List.mem_cons_of_mem _ e))
    simp only [List.cons_append, Lib.indexByte, h1, ih, List.length_cons]
    rw [if_neg (by simp), if_neg (by simp)]
    omega
theorem index_no (c : UInt8) : ∀ p : List UInt8, c ∉ p → Lib.indexByte p c = -1
  | [], _ => rfl
  | b :: p, h => by
    have h1 : (b == c) = false := by
      rw [beq_eq_false_iff_ne]
      intro e
      exact h (by rw [e]; simp)
    have ih := index_no c p (fun e => h (List.mem_cons_of_mem _ e))
    simp only [Lib.indexByte, h1, ih]
    rfl
theorem sp_end (c : UInt8) (p : List UInt8) (h : c ∉ p) : sp c p = [p] := by
  unfold sp
  rw [List.count_eq_zero.2 h]
  rfl
theorem sp_mid (c : UInt8) (p r : List UInt8) (h : c ∉ p) : sp c (p ++ c :: r) = p :: sp c r := by
  unfold sp
  have hk : (p ++ c :: r).count c = r.count c + 1 := by
    rw [List.count_append, List.count_eq_zero.2 h, List.count_cons_self]
    omega
  rw [hk]
  have hi : Lib.index (p ++ c :: r) [c] = p.length := by rw [Lib.index_one, index_mid c r p h]
  rw [Lib.splitK, if_neg (by rw [hi]; simp), hi]
  simp
theorem bytes_map {xs : List ByteArray} {ys : List (List UInt8)} (h : xs.map (·.data.toList) = ys) : xs = ys.map fun l => (⟨l.toArray⟩ : ByteArray) := by
  subst h
  rw [List.map_map]
  conv => lhs; rw [← List.map_id xs]
  apply List.map_congr_left
  intro x _
  simp
theorem splitB_sp (c : UInt8) (s : ByteArray) : Lib.splitB ⟨#[c]⟩ 0 (Lib.countB s ⟨#[c]⟩) s = (sp c s.data.toList).map fun l => (⟨l.toArray⟩ : ByteArray) := by
  apply bytes_map
  rw [Lib.splitB_data]
  unfold sp
  rw [← Lib.count_one]
end Go.Proofs.YthdccmjdbcllkaaGreatDoor
