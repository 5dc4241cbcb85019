/-
  What stands in the library's own variables; what the library's Itoa does here.
-/
import Derived.Test.YthdccmjdbcllkaaGreatDoorShelf
import Derived.Test.YthdccmjdbcllkaaGreatDoorAtAll
import Derived.Test.YthdccmjdbcllkaaGreatDoorPlain
import Derived.Lib.AppendIntMem
namespace Go.Proofs.YthdccmjdbcllkaaGreatDoor
open Go.RowKit

/-- what stands in the library's own variables. -/
structure Env (w : World) : Prop where
  pow : Lib.TabIs Tryz.prog w "internal/strconv.uint64pow10" .u64 Lib.pow10Tab
  maxLen : ∃ m, w.cell? ⟨1, 0, none⟩ = some (.int .i64 m)
  errS : ∃ ev, w.cell? ⟨2, 0, none⟩ = some ev ∧ (ev = .nilIface ∨ ∃ te pe, ev = .iface te pe)
  errR : ∃ ev, w.cell? ⟨3, 0, none⟩ = some ev ∧ (ev = .nilIface ∨ ∃ te pe, ev = .iface te pe)
theorem gPow : Tryz.prog.globalNamed "internal/strconv.uint64pow10" = some 0 := by kernel_rfl
theorem Env.later {w w' : World} (h : Env w) (hb : Below w.heap.size w w') : Env w' where
  pow := by
    have hl := World.block_lt_of_cell? _ _ (h.pow.cell gPow 0 (by decide))
    exact var?_below hb gPow hl h.pow
  maxLen := by obtain ⟨m, hm⟩ := h.maxLen; exact ⟨m, cell_later hb hm⟩
  errS := by obtain ⟨m, hm, hk⟩ := h.errS; exact ⟨m, cell_later hb hm, hk⟩
  errR := by obtain ⟨m, hm, hk⟩ := h.errR; exact ⟨m, cell_later hb hm, hk⟩

theorem Env.drew {w : World} (h : Env w) : Env w.drew := ⟨h.pow, h.maxLen, h.errS, h.errR⟩
theorem Env.drewN {w : World} (h : Env w) (k : Nat) : Env (w.drewN k) := ⟨h.pow, h.maxLen, h.errS, h.errR⟩

theorem itoa_any (n : Int) (w : World) (hE : Env w) (h0 : -9223372036854775808 ≤ n) (h1 : n ≤ 9223372036854775807) :
    Calls Tryz.prog 29 #[.int .i64 n] w fun e w' => e = .returned (.string ⟨(Lib.itoa n).toArray⟩) ∧ Below w.heap.size w w' := by
  refine (Tryz.strconv_Itoa n h0 h1 w hE.pow).mono ?_
  rintro e w' ⟨rfl, k, os, rfl⟩
  exact ⟨rfl, Lib.below_grow _ _ (Nat.le_refl _) _ _⟩

theorem below_undrew {B : Nat} {w w' : World} (h : Below B w.drew w') : Below B w w' := ⟨h.os, h.tape, h.output, h.size, h.block⟩
end Go.Proofs.YthdccmjdbcllkaaGreatDoor
