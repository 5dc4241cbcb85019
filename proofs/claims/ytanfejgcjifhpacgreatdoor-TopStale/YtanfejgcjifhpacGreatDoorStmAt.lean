/-
  A row of an entry's parts in memory; what is read of a row of the call's own.
  What Fresh of package entry returns, over any files; what Use returns of an entry that isn't fresh; memory that was there stays as it was.
-/
import Derived.Test.YtanfejgcjifhpacGreatDoorEntryMake
namespace Go.Proofs.YtanfejgcjifhpacGreatDoor
open Go.RowKit Go.Maps

/-- the n parts behind 'a': name, stamp, base. -/
def StmRow (w : World) (a : Option Addr) (n : Nat) (s : Nat → ByteArray) (k b : Nat → Int) : Prop :=
  n = 0 ∨ ∃ bk o, a = some ⟨bk, o, none⟩ ∧ ∀ i, i < n → w.cell? ⟨bk, o + i * 3, none⟩ = some (.string (s i)) ∧ w.cell? ⟨bk, o + i * 3 + 1, none⟩ = some (.int .i64 (k i)) ∧ w.cell? ⟨bk, o + i * 3 + 2, none⟩ = some (.int .i64 (b i))
theorem StmRow.later {w w' : World} {a : Option Addr} {n : Nat} {s : Nat → ByteArray} {k b : Nat → Int} (h : StmRow w a n s k b) (hb : Below w.heap.size w w') : StmRow w' a n s k b := by
  rcases h with h | ⟨bk, o, ha, hc⟩
  · exact .inl h
  · exact .inr ⟨bk, o, ha, fun i hi => ⟨cell_later hb (hc i hi).1, cell_later hb (hc i hi).2.1, cell_later hb (hc i hi).2.2⟩⟩
theorem rows_stm {w : World} {B0 : Nat} {e : TypeId} {a : Option Addr} {n c : Nat} {nm : Nat → ByteArray} {S : ByteArray → Int} {B : Nat → Int} (h : w.ownsRow B0 e 3 (.slice a n c) n (joinC (stmC nm S B) n)) : StmRow w a n nm (fun i => S (nm i)) B := by
  by_cases h0 : n = 0
  · exact .inl h0
  · have key : ∀ i, i < n → ∀ j u, (stmC nm S B i)[j]? = some u → j < 3 → ∃ g, a = some ⟨g, 0, none⟩ ∧ B0 ≤ g ∧ w.cell? ⟨g, i * 3 + j, none⟩ = some u := fun i hi j u hu hj =>
      owns_cell h (by rw [joinC_at (s := 3) (fun i _ => rfl) hi hj]; exact hu)
    obtain ⟨g0, ha, _, _⟩ := key 0 (by omega) 0 _ rfl (by omega)
    refine .inr ⟨g0, 0, ha, fun i hi => ?_⟩
    have get : ∀ j u, (stmC nm S B i)[j]? = some u → j < 3 → w.cell? ⟨g0, i * 3 + j, none⟩ = some u := fun j u hu hj => by
      obtain ⟨g', ha', _, hc'⟩ := key i hi j u hu hj
      rw [ha] at ha'
      injection ha' with ha'
      injection ha' with ha'
      subst ha'
      exact hc'
    exact ⟨by rw [Nat.zero_add]; exact get 0 _ rfl (by omega), by rw [Nat.zero_add]; exact get 1 _ rfl (by omega), by rw [Nat.zero_add]; exact get 2 _ rfl (by omega)⟩
end Go.Proofs.YtanfejgcjifhpacGreatDoor

namespace Go.Proofs.YtanfejgcjifhpacGreatDoor
open Go.RowKit Go.Maps

/-- has one of the first n another stamp, or none? -/
def staleTo (D : DataW Unit) (S : ByteArray → Int) (s : Nat → ByteArray) (st : Nat → Int) : Nat → Bool := anyTo fun i => !(Maps.has D (keyB (s i)) && decide (S (s i) = st i))

set_option maxRecDepth 100000 in
set_option maxHeartbeats 2000000 in
theorem fresh_any (w : World) (p bm : Nat) (D : DataW Unit) (k : Nat) (S : ByteArray → Int) (root : ByteArray) (n nq : Nat) (s : Nat → ByteArray) (st b : Nat → Int) (aP aQ : Option Addr) (cP cQ : Nat) (h : FilesAt w p bm D k) (hS : Stamps D S) (hn : n ≤ 1000) (hs : ∀ i, i < n → (s i).size ≤ maxLen) (hr : StmRow w aP n s st b) :
    Calls Tryz.prog 27 #[.agg #[.string root, .slice aP n cP, .slice aQ nq cQ], .pointer (some ⟨p, 0, none⟩)] w fun e w' => e = .returned (.bool (!staleTo D S s st n && decide (0 < n))) ∧ Below w.heap.size w w' := by
  generalize hF : staleTo D S s st n = F
  have HF : Hid (staleTo D S s st n = F) := hF
  clear hF
  have hb0 : Below w.heap.size w (w.alloc (.cells #[.string root, .slice aP n cP, .slice aQ nq cQ] 26)) := (Below.refl _ _).alloc (Nat.le_refl _) _
  have e1 : (w.alloc (.cells #[.string root, .slice aP n cP, .slice aQ nq cQ] 26)).cell? ⟨w.heap.size, 1, none⟩ = some (.slice aP n cP) := by simp [go_sem]
  have h1 := h.later hb0
  have hr1 := hr.later hb0
  clear h hr
  go_enter Tryz.func27, Tryz.ntmps27
  go_wp2
  generalize w.alloc (.cells #[.string root, .slice aP n cP, .slice aQ nq cQ] 26) = W at *
  go_loopw [12] (fun y wr => ∃ i : Nat, i ≤ n ∧ y = .int .i64 i ∧ Hid (staleTo D S s st i = false) ∧ Below W.heap.size W wr) (fun y _ => n - (intOf y).toNat)
  case atStart => exact ⟨0, Nat.zero_le _, rfl, rfl, Below.refl _ _⟩
  case round =>
    obtain ⟨i, hi, rfl, HK, hb⟩ := hrel
    have hb2 : Below w.heap.size w wr := hb0.trans (hb.mono hb0.size)
    have e1r := cell_later hb e1
    by_cases hlt : i < n
    · have hr2 := hr1.later hb
      rcases hr2 with h0 | ⟨bk, o, rfl, hc⟩
      · omega
      obtain ⟨x0, x1, x2⟩ := hc i hlt
      have HR := fileRead_any wr p bm D k (s i) (h1.later hb) (hs i hlt)
      clear hc hr1
      go_wp2_with fail
      refine HR.mono ?_
      rintro e w2 ⟨⟨t, nst, f, rfl, hRI⟩, hb3⟩
      replace e1r := cell_later hb3 e1r
      replace x1 := cell_later hb3 x1
      have hb4 := hb2.trans (hb3.mono hb2.size)
      have hb5 := hb.trans (hb3.mono hb.size)
      clear HR x0 x2
      cases hh : Maps.has D (keyB (s i)) with
      | false =>
        obtain ⟨rfl, rfl, rfl⟩ := hRI.no hh
        have HE : Hid (F = true) := HF.out.symm.trans (anyTo_yes hlt (by rw [hh]; rfl))
        have q5 : errV 5 = .iface 83 (.int .i64 5) := rfl
        rw [q5]
        clear hRI hh
        go_wp2
        go_ret
        exact ⟨ret_bool (by rw [HE.out]; rfl), hb4⟩
      | true =>
        obtain ⟨rfl, hat⟩ := hRI.yes hh
        obtain rfl := hS.is (s i) _ nst hh hat
        have q0 : errV 0 = .nilIface := rfl
        rw [q0]
        by_cases he : S (s i) = st i
        · have hne : (S (s i) != st i) = false := by rw [bne_eq_false_iff_eq]; exact he
          have HE : Hid (staleTo D S s st (i + 1) = false) := anyTo_no HK.out (by rw [hh, decide_eq_true he]; rfl)
          clear hRI hh hat he HK
          go_wp2
          go_roundw
          case rel => exact ⟨i + 1, by omega, by go_num, HE, hb5⟩
          case measure => simp [intOf]; omega
        · have hne : (S (s i) != st i) = true := by rw [bne_iff_ne]; exact he
          have HE : Hid (F = true) := HF.out.symm.trans (anyTo_yes hlt (by rw [hh, decide_eq_false he]; rfl))
          clear hRI hh hat he HK
          go_wp2
          go_ret
          exact ⟨ret_bool (by rw [HE.out]; rfl), hb4⟩
    · have HE : Hid (F = false) := by
        have e : i = n := by omega
        subst e
        exact HF.out.symm.trans HK.out
      clear hr1 HK
      go_wp2
      go_ret
      exact ⟨ret_bool (by rw [HE.out]; simp), hb2⟩

set_option maxRecDepth 100000 in
set_option maxHeartbeats 2000000 in
theorem use_stale (w : World) (p bm : Nat) (D : DataW Unit) (k : Nat) (S : ByteArray → Int) (root : ByteArray) (n nq : Nat) (s : Nat → ByteArray) (st b : Nat → Int) (aP aQ : Option Addr) (cP cQ : Nat) (h : FilesAt w p bm D k) (hS : Stamps D S) (hn : n ≤ 1000) (hs : ∀ i, i < n → (s i).size ≤ maxLen) (hr : StmRow w aP n s st b) (hst : staleTo D S s st n = true) :
    Calls Tryz.prog 25 #[.agg #[.string root, .slice aP n cP, .slice aQ nq cQ], .pointer (some ⟨p, 0, none⟩)] w fun e w' => e = .returned (.tuple #[.slice none 0 0, .iface 83 (.int .i64 10)]) ∧ Below w.heap.size w w' := by
  have hb0 : Below w.heap.size w (w.alloc (.cells #[.string root, .slice aP n cP, .slice aQ nq cQ] 26)) := (Below.refl _ _).alloc (Nat.le_refl _) _
  have HF := fresh_any _ p bm D k S root n nq s st b aP aQ cP cQ (h.later hb0) hS hn hs (hr.later hb0)
  rw [hst] at HF
  go_enter Tryz.func25, Tryz.ntmps25
  go_wp2_with fail
  refine HF.mono ?_
  rintro e w1 ⟨rfl, hb1⟩
  have hb2 := hb0.trans (hb1.mono hb0.size)
  clear HF
  go_wp2
  go_ret2
  exact ⟨rfl, hb2⟩
end Go.Proofs.YtanfejgcjifhpacGreatDoor
