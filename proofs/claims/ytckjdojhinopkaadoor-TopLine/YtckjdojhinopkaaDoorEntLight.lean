/-
  What LightEntry returns: true or false; memory that was there stays as it was.
-/
import Derived.Test.YtckjdojhinopkaaDoorEntCheck
namespace Go.Proofs.YtckjdojhinopkaaDoor
open Go.RowKit

def PartsRow (w : World) (a : Option Addr) (n : Nat) (f : Nat → ByteArray) : Prop :=
  n = 0 ∨ ∃ b o, a = some ⟨b, o, none⟩ ∧ ∀ i, i < n → w.cell? ⟨b, o + i * 3, none⟩ = some (.string (f i))
theorem PartsRow.later {w w' : World} {a : Option Addr} {n : Nat} {f : Nat → ByteArray} (h : PartsRow w a n f) (hb : Below w.heap.size w w') : PartsRow w' a n f := by
  rcases h with h | ⟨b, o, ha, hc⟩
  · exact .inl h
  · exact .inr ⟨b, o, ha, fun i hi => cell_later hb (hc i hi)⟩
def SomeBool (e : Ending) : Prop := ∃ b, e = .returned (.bool b)

set_option maxRecDepth 100000 in
set_option maxHeartbeats 1000000 in
theorem lightEntry_any (root : ByteArray) (pa qa : Option Addr) (pn pc qn qc : Nat) (f : Nat → ByteArray) (w : World) (hp : PartsRow w pa pn f) :
    Calls Tryd.prog 5 #[.agg #[.string root, .slice pa pn pc, .slice qa qn qc]] w fun e w' => SomeBool e ∧ Below w.heap.size w w' := by
  have hx : Below w.heap.size w (w.alloc (.cells #[.string root, .slice pa pn pc, .slice qa qn qc] 25)) := (Below.refl _ _).alloc (Nat.le_refl _) _
  have c0 : (w.alloc (.cells #[.string root, .slice pa pn pc, .slice qa qn qc] 25)).cell? ⟨w.heap.size, 0, none⟩ = some (.string root) := by simp [go_sem]
  have c1 : (w.alloc (.cells #[.string root, .slice pa pn pc, .slice qa qn qc] 25)).cell? ⟨w.heap.size, 1, none⟩ = some (.slice pa pn pc) := by simp [go_sem]
  have c2 : (w.alloc (.cells #[.string root, .slice pa pn pc, .slice qa qn qc] 25)).cell? ⟨w.heap.size, 2, none⟩ = some (.slice qa qn qc) := by simp [go_sem]
  by_cases hc : 20 < root.size ∨ 8 < pn ∨ 40 < qn
  · go_enter Tryd.func5, Tryd.ntmps5
    go_wp2
    all_goals first | (go_ret; exact ⟨⟨_, rfl⟩, hx⟩) | (exfalso; omega)
  · have g1 : ¬ (20 : Int) < root.size := by omega
    have g2 : ¬ (8 : Int) < pn := by omega
    have g3 : ¬ (40 : Int) < qn := by omega
    have h8 : pn ≤ 8 := by omega
    have hp' := hp.later hx
    clear hc hp
    go_enter Tryd.func5, Tryd.ntmps5
    go_wp2
    generalize w.alloc (.cells #[.string root, .slice pa pn pc, .slice qa qn qc] 25) = Y at *
    go_loopw [3] (fun x wr => ∃ k : Nat, k ≤ pn ∧ x = .int .i64 k ∧ wr = Y) (fun x _ => pn - (intOf x).toNat)
    case atStart => exact ⟨0, Nat.zero_le _, rfl, rfl⟩
    case round =>
      obtain ⟨k, hk, rfl, hw⟩ := hrel
      replace hw := hw.symm
      subst hw
      by_cases hlt : k < pn
      · rcases hp' with h0 | ⟨b1, o1, rfl, h5⟩
        · omega
        have p0 := h5 k hlt
        clear h5
        go_wp2
        all_goals first
          | (go_ret; exact ⟨⟨_, rfl⟩, hx⟩)
          | (go_roundw
             case rel => exact ⟨k + 1, by omega, by go_num, trivial⟩
             case measure => simp [intOf]; omega)
      · go_wp2
        go_ret
        exact ⟨⟨_, rfl⟩, hx⟩

theorem RowE.lightRow {w : World} {a : Option Addr} {n : Nat} {s : Nat → ByteArray} {k b : Nat → Int} (h : RowE w a n s k b) : PartsRow w a n s := h.imp id (fun ⟨bk, o, ha, hc⟩ => ⟨bk, o, ha, fun i hi => (hc i hi).1⟩)
end Go.Proofs.YtckjdojhinopkaaDoor
