/-
  What number of package entry returns, of any text; what the library's Clone does here.
-/
import Derived.Test.YthdccmjdbcllkaaGreatDoorEntCheck
import Derived.Test.YthdccmjdbcllkaaGreatDoorEnvUse
import Derived.Test.YthdccmjdbcllkaaGreatDoorPlainNumb
namespace Go.Proofs.YthdccmjdbcllkaaGreatDoor
open Go.RowKit

theorem entNumber_any (s : ByteArray) (w : World) (hE : Env w) (hs : s.size ≤ 1000000) :
    Calls Tryz.prog 64 #[.string s] w fun e w' => e = .returned (.int .i64 (numF s.data.toList)) ∧ Below w.heap.size w w' := by
  generalize hF : numF s.data.toList = F
  unfold numF at hF
  cases hq : Lib.atoiAll s.data.toList with
  | ok v =>
    rw [hq] at hF
    have HA := Tryz.strconv_Atoi_ok s (by omega) v hq w
    have HE : Hid (v = F) := hF
    clear hF hq
    go_enter Tryz.func64, Tryz.ntmps64
    go_wp2_with fail
    refine HA.mono ?_
    rintro e w' ⟨rfl, hw⟩
    have hb : Below w.heap.size w w' := by
      rcases hw with rfl | ⟨t, rfl⟩
      · exact Below.refl _ _
      · exact Lib.bytesWorld_below _ _ _
    clear hw HA
    go_wp2
    go_ret
    exact ⟨ret_int HE.out, hb⟩
  | range =>
    rw [hq] at hF
    obtain ⟨ev, hv, hev⟩ := hE.errR
    have HA := Tryz.strconv_Atoi_range s (by omega) hq ev w hv hev
    have HE : Hid (Lib.atoiSat s.data.toList = F) := hF
    generalize Lib.atoiSat s.data.toList = v at *
    clear hF hq hv hev
    go_enter Tryz.func64, Tryz.ntmps64
    go_wp2_with fail
    refine HA.mono ?_
    rintro e w' ⟨N, rfl, _, _, hb⟩
    clear HA
    go_wp2
    go_ret
    exact ⟨ret_int HE.out, hb⟩
  | _ =>
    rw [hq] at hF
    obtain ⟨ev, hv, hev⟩ := hE.errS
    have HA := Tryz.strconv_Atoi_syntax s (by omega) hq ev w hv hev
    have HE : Hid (0 = F) := hF
    clear hF hq hv hev
    go_enter Tryz.func64, Tryz.ntmps64
    go_wp2_with fail
    refine HA.mono ?_
    rintro e w' ⟨N, rfl, _, _, hb⟩
    clear HA
    go_wp2
    go_ret
    exact ⟨ret_int HE.out, hb⟩

theorem entClone_any (s : ByteArray) (w : World) (hs : s.size ≤ 1000000) :
    Calls Tryz.prog 50 #[.string s] w fun e w' => e = .returned (.string s) ∧ Below w.heap.size w w' := by
  have HA := Tryz.stringslite_Clone s w (by omega)
  go_enter Tryz.func50, Tryz.ntmps50
  go_wp2_with fail
  refine HA.mono ?_
  rintro e w' ⟨rfl, hb⟩
  clear HA
  go_wp2
  go_ret
  exact ⟨rfl, hb⟩
end Go.Proofs.YthdccmjdbcllkaaGreatDoor
