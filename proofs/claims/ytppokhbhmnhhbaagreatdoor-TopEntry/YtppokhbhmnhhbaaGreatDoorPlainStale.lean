/-
  Plain words on the stamps of files that are as they were but for one name; what Make returns over them.
  Plain words on entries that are fresh, and on such that aren't: files whose names may be names, stamps that tell that a file was written.
-/
import Derived.Test.YtppokhbhmnhhbaaGreatDoorPlainElse
import Derived.Test.YtppokhbhmnhhbaaGreatDoorEntryStm
namespace Go.Proofs.YtppokhbhmnhhbaaGreatDoor
open Go.RowKit Go.Maps

theorem stamps_else {D : DataW Unit} {k : Nat} {S : ByteArray → Int} {s text : ByteArray} (hI : Inv D k) (hS : Stamps D S) {S' : ByteArray → Int} (hS' : Stamps (D.put (keyB s) (fileD text.data.toList ((k : Int) + 1))) S') {x : ByteArray} (hx : x ≠ s) (h : Maps.has D (keyB x) = true) : S' x = S x := by
  have hk : keyB x ≠ keyB s := fun e => hx (keyB_inj' e)
  obtain ⟨t, n, h1, _⟩ := hI.st _ h
  have e1 := hS.is x t n h h1
  have e2 := hS'.is x t n (by rw [has_put_other hk]; exact h) (by rw [atKey_put_other hk]; exact h1)
  omega
theorem stamps_same {D : DataW Unit} {k : Nat} {S S' : ByteArray → Int} (hI : Inv D k) (hS : Stamps D S) (hS' : Stamps D S') {x : ByteArray} (h : Maps.has D (keyB x) = true) : S' x = S x := by
  obtain ⟨t, n, h1, _⟩ := hI.st _ h
  have e1 := hS.is x t n h h1
  have e2 := hS'.is x t n h h1
  omega
theorem else_write2 {D : DataW Unit} {k : Nat} {T : ByteArray → ByteArray} {S : ByteArray → Int} {s text : ByteArray} (hI : Inv D k) (hT : Texts D T) (hS : Stamps D S) {w w' : World} {p bm F : Nat} {e : Ending} (hF : F = writeF D k s text) (h : WriteEnd w p bm D k s text F e w') :
    ∃ D' k', FilesAt w' p bm D' k' ∧ Else D T s D' k' ∧ ∀ S', Stamps D' S' → ∀ x, x ≠ s → Maps.has D (keyB x) = true → S' x = S x := by
  by_cases h0 : F = 0
  · exact ⟨_, _, h.yes h0, ⟨hI.put (hF.symm.trans h0), fun T' hT' x hx => rd_put_other hI hT hT' hx⟩, fun S' hS' x hx hh => stamps_else hI hS hS' hx hh⟩
  · exact ⟨_, _, h.no h0, Else.refl hI hT, fun S' hS' x _ hh => stamps_same hI hS hS' hh⟩
theorem MadeEnd.same {w : World} {B0 : Nat} {rd rd' : ByteArray → Nat × ObjF} {S S' : ByteArray → Int} {root : ByteArray} {m : Nat} {e : Ending} (h : MadeEnd w B0 rd' S' root e) (hO : OfIs rd root 0 m) (hs : ∀ j, j < m → rd' (nmAt rd root j) = rd (nmAt rd root j)) (hS : ∀ j, j < m → S' (nmAt rd root j) = S (nmAt rd root j)) : MadeEnd w B0 rd S root e := by
  have hs' : ∀ j, j < m → rd (nmAt rd' root j) = rd' (nmAt rd' root j) := fun j hj => by rw [nm_same hs (by omega)]; exact (hs j hj).symm
  have hO' := of_same hO hs
  cases h with
  | bad F h hf => exact .bad F (reckIs_same hO' hs' h) hf
  | ok m' B P Q aP aQ cP cQ h hp hq =>
    obtain ⟨_, rfl⟩ := h.of.unique hO'
    obtain ⟨h1, h2, h3⟩ := reckoned_same h hs'
    rw [← h2] at hq ⊢
    refine .ok m' B P Q aP aQ cP cQ h1 ?_ hq
    rwa [joinC_congr (g := stmC (nmAt rd' root) S' B) (h := stmC (nmAt rd root) S B) fun i hi => by unfold stmC; rw [← (h3 i hi).1, hS i hi]] at hp
/-- two calls of Make that returned the same. -/
theorem made_has {D : DataW Unit} {T : ByteArray → ByteArray} {root : ByteArray} {m : Nat} {k : Nat} (hI : Inv D k) (hO : OfIs (rdD D T) root 0 m) : ∀ j, j < m → Maps.has D (keyB (nmAt (rdD D T) root j)) = true := fun j hj => by
  obtain ⟨hS, _, _⟩ := scope_of hO (rd_few (T := T) hI)
  exact rd_has (by rw [hS.read j hj])
end Go.Proofs.YtppokhbhmnhhbaaGreatDoor

namespace Go.Proofs.YtppokhbhmnhhbaaGreatDoor
open Go.RowKit Go.Maps

/-- each file's name may be one. -/
def NamesOk (D : DataW Unit) : Prop := ∀ s, Maps.has D (keyB s) = true → nameF s.data.toList = 0
theorem NamesOk.empty : NamesOk (.map []) := fun s h => by simp [Maps.has] at h
theorem writeF_name {D : DataW Unit} {k : Nat} {s t : ByteArray} (h : writeF D k s t = 0) : nameF s.data.toList = 0 := by
  unfold writeF at h
  exact (seqF_zero_iff.1 h).1
theorem NamesOk.put {D : DataW Unit} {k : Nat} {s t : ByteArray} {d : DataW Unit} (h : NamesOk D) (hF : writeF D k s t = 0) : NamesOk (D.put (keyB s) d) := fun x hx => by
  by_cases e : x = s
  · subst e; exact writeF_name hF
  · rw [has_put_other (fun q => e (keyB_inj' q))] at hx
    exact h x hx
theorem NamesOk.del {D : DataW Unit} {s : ByteArray} (h : NamesOk D) : NamesOk (D.del (keyB s)) := fun x hx => by
  by_cases e : x = s
  · subst e; rw [has_del_same] at hx; cases hx
  · rw [has_del_other (fun q => e (keyB_inj' q))] at hx
    exact h x hx
theorem actD_more {q : DataW Unit × Nat} {x : ActF} (h : NamesOk q.1) : NamesOk (actD q x).1 ∧ (actD q x).2 ≤ q.2 + 1 := by
  unfold actD
  by_cases h1 : x.kind = kWrite
  · rw [if_pos h1]
    by_cases h2 : writeF q.1 q.2 x.s x.t = 0
    · rw [if_pos h2]; exact ⟨h.put h2, Nat.le_refl _⟩
    · rw [if_neg h2]; exact ⟨h, Nat.le_succ _⟩
  · rw [if_neg h1]
    by_cases h2 : x.kind = kRemove
    · rw [if_pos h2]; exact ⟨h.del, Nat.le_succ _⟩
    · rw [if_neg h2]; exact ⟨h, Nat.le_succ _⟩
theorem doneD_more {q : DataW Unit × Nat} {X : Nat → ActF} (h : NamesOk q.1) (m : Nat) : NamesOk (doneD q X m).1 ∧ (doneD q X m).2 ≤ q.2 + m := by
  induction m with
  | zero => exact ⟨h, Nat.le_refl _⟩
  | succ m ih =>
    have := actD_more (x := X m) ih.1
    refine ⟨this.1, ?_⟩
    show (actD (doneD q X m) (X m)).2 ≤ _
    omega
/-- who is there may be written again. -/
theorem write_again {D : DataW Unit} {k : Nat} {x t : ByteArray} (hI : Inv D k) (hN : NamesOk D) (hx : Maps.has D (keyB x) = true) (ht : t.size ≤ 1200) (hk : k < 1000000) : writeF D k x t = 0 := by
  unfold writeF
  rw [hN x hx, seqF_zero, if_neg (by omega), if_neg]
  unfold othersF
  rw [if_pos hx]
  have := hI.size
  omega
theorem write_removed {D : DataW Unit} {k : Nat} {x t : ByteArray} (hI : Inv D k) (hN : NamesOk D) (hx : Maps.has D (keyB x) = true) (ht : t.size ≤ 1200) (hk : k < 1000000) : writeF (D.del (keyB x)) k x t = 0 := by
  unfold writeF
  rw [hN x hx, seqF_zero, if_neg (by omega), if_neg]
  unfold othersF
  rw [if_neg (by rw [has_del_same]; simp)]
  have h1 := size_del (k := keyB x) hI.tidy
  rw [hx] at h1
  have := hI.size
  simp at h1
  omega
theorem stamp_le {D : DataW Unit} {k : Nat} {S : ByteArray → Int} (hI : Inv D k) (hS : Stamps D S) {x : ByteArray} (h : Maps.has D (keyB x) = true) : S x ≤ (k : Int) := by
  obtain ⟨t, n, h1, h2⟩ := hI.st _ h
  have := hS.is x t n h h1
  omega
theorem stamp_new {D : DataW Unit} {k : Nat} {S' : ByteArray → Int} {x t : ByteArray} (hI : Inv D k) (hS' : Stamps (D.put (keyB x) (fileD t.data.toList ((k : Int) + 1))) S') : Maps.has (D.put (keyB x) (fileD t.data.toList ((k : Int) + 1))) (keyB x) = true ∧ S' x = (k : Int) + 1 := by
  have h1 := has_put_same hI.tidy.isMap (keyB_key x) (fileD t.data.toList ((k : Int) + 1))
  exact ⟨h1, (hS'.is x _ _ h1 (atKey_put_same hI.tidy.isMap (keyB_key x) _ _)).symm⟩
/-- as long as nothing was written, it is fresh. -/
theorem fresh_still {D : DataW Unit} {k : Nat} {S S' : ByteArray → Int} (hI : Inv D k) (hS : Stamps D S) (hS' : Stamps D S') {nm : Nat → ByteArray} {m : Nat} (hh : ∀ j, j < m → Maps.has D (keyB (nm j)) = true) : staleTo D S' nm (fun j => S (nm j)) m = false := by
  unfold staleTo
  cases e : anyTo (fun i => !(Maps.has D (keyB (nm i)) && decide (S' (nm i) = S (nm i)))) m with
  | false => rfl
  | true =>
    obtain ⟨i, hi, h⟩ := anyTo_iff.1 e
    rw [hh i hi, decide_eq_true (stamps_same hI hS hS' (hh i hi))] at h
    cases h
/-- when a file is written, just who has it as its own isn't fresh any more. -/
theorem stale_own {D : DataW Unit} {k : Nat} {S S' : ByteArray → Int} {s text : ByteArray} (hI : Inv D k) (hS : Stamps D S) (hS' : Stamps (D.put (keyB s) (fileD text.data.toList ((k : Int) + 1))) S') {nm : Nat → ByteArray} {m : Nat} (hh : ∀ j, j < m → Maps.has D (keyB (nm j)) = true) :
    staleTo (D.put (keyB s) (fileD text.data.toList ((k : Int) + 1))) S' nm (fun j => S (nm j)) m = anyTo (fun j => decide (nm j = s)) m := by
  unfold staleTo
  refine anyTo_congr fun i hi => ?_
  show (!(_ && decide (S' (nm i) = S (nm i)))) = decide (nm i = s)
  by_cases e : nm i = s
  · obtain ⟨h1, h2⟩ := stamp_new hI hS'
    have h3 := stamp_le hI hS (hh i hi)
    rw [e] at h3 ⊢
    rw [h1, h2, decide_eq_false (by omega), decide_eq_true rfl]
    rfl
  · rw [has_put_other (fun q => e (keyB_inj' q)), hh i hi, decide_eq_true (stamps_else hI hS hS' e (hh i hi)), decide_eq_false e]
    rfl
theorem rd_text {D : DataW Unit} {T : ByteArray → ByteArray} {x : ByteArray} (h : (rdD D T x).1 = 0) : (T x).size ≤ 1200 := by
  have h1 := rd_has h
  unfold rdD at h
  rw [if_pos h1] at h
  unfold parseF at h
  by_cases h2 : 1200 < (T x).size
  · rw [if_pos h2] at h; cases h
  · omega
theorem FilesAt.set {w : World} {p bm be i : Nat} {D : DataW Unit} {k : Nat} {v : Value} (h : FilesAt w p bm D k) (hp : be ≠ p) (hbm : be ≠ bm) : FilesAt (w.setCell ⟨be, i, none⟩ v) p bm D k :=
  ⟨(Below.heap_setCell _ _ _ _ (Ne.symm hp)).trans h.blk, h.own.kept (row := some be) (grownBy_setCell w be i v) (fun e => hbm (Option.some.inj e).symm)⟩
theorem i64_and1023 (n : Int) : bits .and .i64 n 1023 = n % 1024 := by
  have h1 : (BitVec.ofInt 64 1023).toNat = 2 ^ 10 - 1 := by decide
  have key : (BitVec.ofInt 64 n &&& BitVec.ofInt 64 1023).toNat = (n % ((2 ^ 64 : Nat) : Int)).toNat % 2 ^ 10 := by
    rw [BitVec.toNat_and, BitVec.toNat_ofInt, h1, Nat.and_two_pow_sub_one_eq_mod]
  show IntKind.i64.wrap ((BitVec.ofInt 64 n &&& BitVec.ofInt 64 1023).toNat : Nat) = n % 1024
  rw [key, IntKind.wrap_i64]
  omega
theorem which_of (x : Int) {n : Nat} (hn : 0 < n) : ∃ k : Nat, k < n ∧ (bits .and .i64 x 1023).tmod (n : Int) = k := by
  rw [i64_and1023]
  have h0 : 0 ≤ x % 1024 := by omega
  rw [Int.tmod_eq_emod_of_nonneg h0]
  have h1 : 0 ≤ x % 1024 % (n : Int) := Int.emod_nonneg _ (by omega)
  have h2 : x % 1024 % (n : Int) < (n : Int) := Int.emod_lt_of_pos _ (by omega)
  exact ⟨(x % 1024 % (n : Int)).toNat, by omega, by omega⟩
end Go.Proofs.YtppokhbhmnhhbaaGreatDoor
