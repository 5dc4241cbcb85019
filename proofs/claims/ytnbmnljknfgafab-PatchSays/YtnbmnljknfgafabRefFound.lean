/-
  What the document's Found returns, for every list of objects and every text: who is found (E2); memory that was there stays as it was.
-/
import Derived.Test.YtnbmnljknfgafabScopeFind
namespace Go.Proofs.Ytnbmnljknfgafab
open Go.RowKit

/-- what is known in a pass: in the first one all ahead are weak; in the second one all are, and none is ahead. -/
def PassAt (L : SymsF) (s : ByteArray) (p i k : Nat) : Prop :=
  (p = 0 ∧ ∀ a b, Hit L s a b → Bef a b i k → L.wk a b = true) ∨ (p = 1 ∧ (∀ a b, Hit L s a b → L.wk a b = true) ∧ ∀ a b, Hit L s a b → ¬ Bef a b i k)
theorem PassAt.next {L : SymsF} {s : ByteArray} {p i : Nat} (h : PassAt L s p i (L.m i)) : PassAt L s p (i + 1) 0 := by
  have key : ∀ a b, Hit L s a b → Bef a b (i + 1) 0 → Bef a b i (L.m i) := fun a b hh e => by
    have := hh.lk
    by_cases z : a = i
    · subst z; unfold Bef at *; omega
    · unfold Bef at *; omega
  rcases h with ⟨h0, h⟩ | ⟨h0, h1, h⟩
  · exact .inl ⟨h0, fun a b hh e => h a b hh (key a b hh e)⟩
  · exact .inr ⟨h0, h1, fun a b hh e => h a b hh (key a b hh e)⟩
theorem PassAt.step {L : SymsF} {s : ByteArray} {p i k : Nat} (h : PassAt L s p i k) (hn : Hit L s i k → p = 0 ∧ L.wk i k = true) : PassAt L s p i (k + 1) := by
  have key : ∀ a b, Hit L s a b → Bef a b i (k + 1) → Bef a b i k ∨ (a = i ∧ b = k) := fun a b hh e => by unfold Bef at *; omega
  rcases h with ⟨h0, h⟩ | ⟨h0, h1, h⟩
  · refine .inl ⟨h0, fun a b hh e => ?_⟩
    rcases key a b hh e with e | ⟨rfl, rfl⟩
    · exact h a b hh e
    · exact (hn hh).2
  · refine .inr ⟨h0, h1, fun a b hh e => ?_⟩
    rcases key a b hh e with e | ⟨rfl, rfl⟩
    · exact h a b hh e
    · have := (hn hh).1; omega
theorem PassAt.found {L : SymsF} {s : ByteArray} {p i k : Nat} (h : PassAt L s p i k) (hh : Hit L s i k) (hw : L.wk i k = decide (p = 1)) : IsFound L s i k := by
  rcases h with ⟨rfl, h⟩ | ⟨rfl, h1, h⟩
  · exact .strong i k hh (by simpa using hw) h
  · exact .weak i k hh h h1
theorem PassAt.again {L : SymsF} {s : ByteArray} (h : PassAt L s 0 L.n 0) : PassAt L s 1 0 0 := by
  rcases h with ⟨_, h⟩ | ⟨h0, _⟩
  · exact .inr ⟨rfl, fun a b hh => h a b hh (.inl hh.li), fun a b _ e => by unfold Bef at e; omega⟩
  · cases h0
theorem PassAt.none {L : SymsF} {s : ByteArray} (h : PassAt L s 1 L.n 0) : IsFound L s (-1) (-1) := by
  rcases h with ⟨h0, _⟩ | ⟨_, _, h⟩
  · cases h0
  · exact .none fun a b hh => h a b hh (.inl hh.li)

set_option maxRecDepth 100000 in
set_option maxHeartbeats 4000000 in
theorem refFound_any (a : Option Addr) (n c : Nat) (V : Nat → ObjV) (O : Nat → ObjF) (s : ByteArray) (w : World) (hn : n ≤ 1000000000) (hm : ∀ i, i < n → (O i).nS ≤ 1000000000) (hr : ObjsRow w a n V O) :
    Calls Try.prog 35 #[.slice a n c, .string s] w fun e w' => FoundEnd (symsF n O) s e ∧ Below w.heap.size w w' := by
  go_enter Try.func35, Try.ntmps35
  go_wp2
  go_loopw [6] (fun z wr => ∃ p : Nat, z = .int .i64 p ∧ p ≤ 2 ∧ Hid (p < 2 → PassAt (symsF n O) s p 0 0) ∧ Hid (p = 2 → IsFound (symsF n O) s (-1) (-1)) ∧ Below w.heap.size w wr) (fun z _ => 2 - (intOf z).toNat)
  case atStart => exact ⟨0, rfl, by omega, fun _ => .inl ⟨rfl, fun a b _ e => by unfold Bef at e; omega⟩, fun e => (by cases e), Below.refl _ _⟩
  case round =>
    obtain ⟨p, rfl, hp, H1, H2, hb⟩ := hrel
    by_cases hlp : p < 2
    · have HP : Hid (PassAt (symsF n O) s p 0 0) := H1.out hlp
      clear H1 H2
      go_wp2
      go_loopw [7] (fun z wr => ∃ i : Nat, z = .int .i64 i ∧ i ≤ n ∧ Hid (PassAt (symsF n O) s p i 0) ∧ Below w.heap.size w wr) (fun z _ => n - (intOf z).toNat)
      case atStart => exact ⟨0, rfl, Nat.zero_le _, HP, hb⟩
      case round =>
        clear HP hb
        obtain ⟨i, rfl, hi, HP, hb⟩ := hrel
        by_cases hlt : i < n
        · have hr' := hr
          rcases hr' with h0 | ⟨bk, o, rfl, hc⟩
          · omega
          have hmi := hm i hlt
          go_wp2
          go_loopw [8] (fun z wr => ∃ k : Nat, z = .int .i64 k ∧ k ≤ (O i).nS ∧ Hid (PassAt (symsF n O) s p i k) ∧ Below w.heap.size w wr) (fun z _ => (O i).nS - (intOf z).toNat)
          case atStart => exact ⟨0, rfl, Nat.zero_le _, HP, hb⟩
          case round =>
            clear HP hb
            obtain ⟨k, rfl, hk, HP, hb⟩ := hrel
            have H := (hc i hlt).later hb
            have c2 := H.c2
            by_cases hlk : k < (O i).nS
            · rcases H.here.syms with h0 | ⟨b2, o2, ha2, hs2⟩
              · omega
              rw [ha2] at c2
              obtain ⟨d0, d1, d2⟩ := hs2 k hlk
              have hx : ∀ ob : Obj, Below w.heap.size w (wr.alloc ob) := fun ob => hb.alloc hb.size ob
              clear hs2 H hc
              by_cases hnm : (O i).sName k = s
              · have hh : Hit (symsF n O) s i k := ⟨hlt, hlk, hnm⟩
                have ht : (((O i).sName k).toList == s.toList) = true := by rw [toList_beq, decide_eq_true hnm]
                by_cases hwk : (O i).sWeak k = decide (p = 1)
                · have HF : Hid (IsFound (symsF n O) s i k) := HP.out.found hh hwk
                  have hw2 : ((O i).sWeak k == ((p : Int) == 1)) = true := by
                    rw [hwk, beq_iff_eq, Bool.eq_iff_iff]; simp; omega
                  clear hnm hh hwk HP
                  go_wp2
                  go_ret2
                  exact ⟨⟨i, k, rfl, HF.out⟩, hx _⟩
                · have HS : Hid (PassAt (symsF n O) s p i (k + 1)) := HP.out.step fun _ => by
                    rcases HP.out with ⟨h0, _⟩ | ⟨h0, h1, _⟩
                    · refine ⟨h0, ?_⟩
                      subst h0
                      show (O i).sWeak k = true
                      simpa using hwk
                    · exfalso
                      subst h0
                      exact hwk (by have := h1 i k hh; simpa using (show (O i).sWeak k = true from this))
                  have hw2 : ((O i).sWeak k == ((p : Int) == 1)) = false := by
                    rw [beq_eq_false_iff_ne]
                    intro e
                    apply hwk
                    rw [e, Bool.eq_iff_iff]; simp; omega
                  clear hnm hh hwk HP
                  go_wp2
                  go_roundw
                  case rel => exact ⟨k + 1, by go_num, by omega, HS, hx _⟩
                  case measure => simp [intOf]; omega
              · have ht : (((O i).sName k).toList == s.toList) = false := by rw [toList_beq, decide_eq_false hnm]
                have HS : Hid (PassAt (symsF n O) s p i (k + 1)) := HP.out.step fun hh => absurd hh.eq hnm
                clear hnm HP
                go_wp2
                go_roundw
                case rel => exact ⟨k + 1, by go_num, by omega, HS, hx _⟩
                case measure => simp [intOf]; omega
            · have e : k = (O i).nS := by omega
              subst e
              have HN : Hid (PassAt (symsF n O) s p (i + 1) 0) := HP.out.next
              clear H hc
              go_wp2
              go_roundw
              case rel => exact ⟨i + 1, by go_num, by omega, HN, hb⟩
              case measure => simp [intOf]; omega
        · have e : i = n := by omega
          subst e
          have E1 : Hid (p + 1 < 2 → PassAt (symsF i O) s (p + 1) 0 0) := fun h => by
            have : p = 0 := by omega
            subst this
            exact PassAt.again HP.out
          have E2 : Hid (p + 1 = 2 → IsFound (symsF i O) s (-1) (-1)) := fun h => by
            have : p = 1 := by omega
            subst this
            exact PassAt.none HP.out
          clear HP
          go_wp2
          go_roundw
          case rel => exact ⟨p + 1, by go_num, by omega, E1, E2, hb⟩
          case measure => simp [intOf]; omega
    · have HF := H2.out (by omega)
      clear H1 H2
      go_wp2
      go_ret2
      exact ⟨⟨_, _, rfl, HF⟩, hb⟩
end Go.Proofs.Ytnbmnljknfgafab
