/-
  By a table that Make made just that symbol is found that is found one by one; the closed fact of the law on tables.
-/
import Derived.Test.YtchccaalinepnaaMakeOk
import Derived.Test.YtchccaalinepnaaFindWalk
namespace Go.Proofs.Ytchccaalinepnaa
open Go.RowKit

theorem find_made (nm : Nat → ByteArray) (m n : Nat) (s : ByteArray) (h1 : 1 ≤ m) :
    findF (firstRow nm m n 0) m (nextRow nm m n 0) n n nm s = firstFrom (fun i => (nm i).toList == s.toList) n 0 := by
  unfold findF
  rw [if_neg (by omega)]
  refine alongF_made (bkOf nm m) n (hashL s.data.toList % m) (fun i => (nm i).toList == s.toList) ?_ (nextRow nm m n 0) ?_ n 0 (by omega) (fun k hk _ => by omega)
  · intro i _ hi
    have e : (nm i).toList = s.toList := by simpa using hi
    rw [ByteArray.toList_eq, ByteArray.toList_eq] at e
    show hashL (nm i).data.toList % m = hashL s.data.toList % m
    rw [e]
  · intro i _
    show (if 0 ≤ i then _ else _) = _
    rw [if_pos (Nat.zero_le _)]

theorem Tab.rowF {w wr : World} {br bt bf bn m n : Nat} {F G : Nat → Int} (h : Tab w wr br bt bf bn m n F G) : RowAt wr (some ⟨bf, 0, none⟩) m fun i => .int .i64 (F i) :=
  .inr ⟨bf, 0, rfl, fun i hi => by rw [Nat.zero_add]; exact h.ff i hi⟩
theorem Tab.rowN {w wr : World} {br bt bf bn m n : Nat} {F G : Nat → Int} (h : Tab w wr br bt bf bn m n F G) : RowAt wr (some ⟨bn, 0, none⟩) n fun i => .int .i64 (G i) :=
  .inr ⟨bn, 0, rfl, fun i hi => by rw [Nat.zero_add]; exact h.gg i hi⟩

/-- two names of one letter. -/
def twoNames (a b : UInt8) (i : Nat) : ByteArray := if i = 0 then ⟨#[a]⟩ else ⟨#[b]⟩
theorem twoNames_syms (w : World) (a b : UInt8) : SymsAt (w.alloc (.cells #[.string ⟨#[a]⟩, .int .i64 0, .bool false, .string ⟨#[b]⟩, .int .i64 0, .bool false] 36)) (some ⟨w.heap.size, 0, none⟩) 2 (twoNames a b) := by
  refine .inr ⟨w.heap.size, 0, rfl, fun i hi => ?_⟩
  match i, hi with
  | 0, _ => simp [go_sem, twoNames]
  | 1, _ => simp [go_sem, twoNames]
theorem twoNames_size (a b : UInt8) (i : Nat) : (twoNames a b i).size ≤ maxLen := by
  unfold twoNames maxLen
  split
  · show 1 ≤ _; decide
  · show 1 ≤ _; decide

set_option maxHeartbeats 1000000 in
theorem tables_any (w : World) : Calls Try.prog 13 #[] w fun e w' => e = .returned (.bool true) ∧ Below w.heap.size w w' := by
  have hq1 : findF (firstRow (twoNames 97 98) 3 2 0) 3 (nextRow (twoNames 97 98) 3 2 0) 2 2 (twoNames 97 98) ⟨#[98]⟩ = 1 := by
    rw [find_made _ _ _ _ (by decide)]
    simp only [ByteArray.toList_eq]
    decide
  have hq2 : findF (firstRow (twoNames 97 98) 3 2 0) 3 (nextRow (twoNames 97 98) 3 2 0) 2 2 (twoNames 97 98) ⟨#[99]⟩ = -1 := by
    rw [find_made _ _ _ _ (by decide)]
    simp only [ByteArray.toList_eq]
    decide
  have HQ1 := (show Hid _ from hq1)
  have HQ2 := (show Hid _ from hq2)
  clear hq1 hq2
  have hb1 : ∀ o : Obj, Below w.heap.size w (w.alloc o) := fun o => (Below.refl _ _).alloc (Nat.le_refl _) _
  go_enter Try.func13, Try.ntmps13
  go_wp2_with fail
  refine (make_ok _ 2 _ 3 (twoNames 97 98) _ (by decide) (by decide) (by decide) (twoNames_syms w 97 98) (fun i _ => twoNames_size 97 98 i)).mono ?_
  rintro e w1 ⟨br, bt, bf, bn, rfl, hT⟩
  have hrF := hT.rowF
  have hrN := hT.rowN
  have hsy := (twoNames_syms w 97 98).later hT.below
  have hbw : Below w.heap.size w w1 := (hb1 _).trans (hT.below.mono (by simp))
  clear hT hb1
  have hb2 : ∀ o : Obj, Below w1.heap.size w1 (w1.alloc o) := fun o => (Below.refl _ _).alloc (Nat.le_refl _) _
  go_wp2_with fail
  refine (same_nil 0 _).mono ?_
  rintro e w' ⟨rfl, rfl⟩
  go_wp2_with fail
  refine (find_any _ _ _ _ _ 3 3 2 2 2 2 (twoNames 97 98) ⟨#[98]⟩ _ (by decide) (by decide) (by decide) (by decide) (hrF.later (hb2 _)) (hrN.later (hb2 _)) (hsy.later (hb2 _))).mono ?_
  rw [HQ1.out]
  rintro e w2 ⟨rfl, hbf⟩
  have hc0 : w2.cell? ⟨w1.heap.size, 0, none⟩ = some (.slice (some ⟨bf, 0, none⟩) 3 3) := cell_later hbf (by simp [go_sem])
  have hc1 : w2.cell? ⟨w1.heap.size, 0 + 1, none⟩ = some (.slice (some ⟨bn, 0, none⟩) 2 2) := cell_later hbf (by simp [go_sem])
  have hb3 : Below w1.heap.size w1 w2 := (hb2 _).trans (hbf.mono (by simp))
  clear hbf
  go_wp2_with fail
  refine (find_any _ _ _ _ _ 3 3 2 2 2 2 (twoNames 97 98) ⟨#[99]⟩ _ (by decide) (by decide) (by decide) (by decide) (hrF.later hb3) (hrN.later hb3) (hsy.later hb3)).mono ?_
  rw [HQ2.out]
  rintro e w3 ⟨rfl, hbg⟩
  go_wp2
  go_ret
  exact ⟨rfl, hbw.trans ((hb3.mono hbw.size).trans (hbg.mono (Nat.le_trans hbw.size hb3.size)))⟩
end Go.Proofs.Ytchccaalinepnaa
