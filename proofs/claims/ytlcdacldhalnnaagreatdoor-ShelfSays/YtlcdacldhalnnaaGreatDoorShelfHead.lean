/-
  The head of a shelf, as a text of one sector.
-/
import Derived.Test.YtlcdacldhalnnaaGreatDoorShelf
import Derived.Test.YtlcdacldhalnnaaGreatDoorAtAll
import Derived.Test.YtlcdacldhalnnaaGreatDoorErr
import Derived.Laws.IdiomStrings
import Derived.WideShapes
namespace Go.Proofs.YtlcdacldhalnnaaGreatDoor
open Go.RowKit

abbrev markL : List UInt8 := [109, 97, 114, 108, 105, 110, 115, 112, 105, 107, 101, 32, 115, 104, 101, 108, 102, 32]
/-- which body, how many sectors: the head's sector. -/
def headT (b s : UInt8) : List UInt8 := markL ++ [b, s] ++ List.replicate 44 0
theorem rep44 : Lib.repeatL [(0 : UInt8)] 44 = List.replicate 44 0 := by decide +kernel

set_option maxRecDepth 100000 in
set_option maxHeartbeats 2000000 in
theorem headText_any (b s : Nat) (w : World) (hb : b < 256) (hs : s < 256) :
    Calls Tryz.prog 35 #[.agg #[.int .i64 b, .int .i64 s]] w fun e w' => e = .returned (.string ⟨(headT b.toUInt8 s.toUInt8).toArray⟩) ∧ Below w.heap.size w w' := by
  have HR := fun W => Tryz.strings_Repeat ⟨#[0]⟩ 44 W (by decide) (by decide)
  have hb1 : (b : Int) < 256 := by omega
  have hs1 : (s : Int) < 256 := by omega
  have hb0 : (0 : Int) ≤ (b : Int) := by omega
  have hs0 : (0 : Int) ≤ (s : Int) := by omega
  have hcv : ∀ (src dst : TypeId), Tryz.prog.underlying src = some (.slice 5) → Tryz.prog.underlying dst = some .string → (convert src dst (.slice (some ⟨w.heap.size + 1, 0, none⟩) 2 2)).run Tryz.prog ((w.alloc (.cells #[.int .i64 b, .int .i64 s] 75)).alloc (.cells #[.int .u8 b, .int .u8 s] 5)) = .ok (.string ⟨[b.toUInt8, s.toUInt8].toArray⟩) ((w.alloc (.cells #[.int .i64 b, .int .i64 s] 75)).alloc (.cells #[.int .u8 b, .int .u8 s] 5)) := fun src dst hs' hd' => by
    have := run_convert_bytes_back (P := Tryz.prog) ((w.alloc (.cells #[.int .i64 b, .int .i64 s] 75)).alloc (.cells #[.int .u8 b, .int .u8 s] 5)) src dst 5 ⟨w.heap.size + 1, 0, none⟩ 2 [b.toUInt8, s.toUInt8] hs' Tryz.underlying5 hd' (fun j hj => by
      match j, hj with
      | 0, _ => simp [go_sem, Addr.add]; omega
      | 1, _ => simp [go_sem, Addr.add]; omega
      | j + 2, hj => exact absurd hj (by simp))
    simpa using this
  have hcv2 := hcv _ _ Tryz.underlying99 Tryz.underlying9
  have HT : Hid (headT b.toUInt8 s.toUInt8 = markL ++ [b.toUInt8, s.toUInt8] ++ Lib.repeatL [(0 : UInt8)] 44) := by rw [rep44]; rfl
  clear hcv
  go_enter Tryz.func35, Tryz.ntmps35
  go_wp2_with fail
  refine (show Calls _ _ _ _ _ from HR _).mono ?_
  rintro e w2 ⟨rfl, hb2⟩
  clear HR hcv2
  go_wp2
  go_ret
  refine ⟨?_, (((Below.refl _ w).alloc (Nat.le_refl _) _).alloc (by simp) _).trans (hb2.mono (by simp; omega))⟩
  rw [HT.out]
  refine congrArg (fun x => Ending.returned (Value.string x)) (WideShapes.bytes_inj ?_)
  simp
end Go.Proofs.YtlcdacldhalnnaaGreatDoor
