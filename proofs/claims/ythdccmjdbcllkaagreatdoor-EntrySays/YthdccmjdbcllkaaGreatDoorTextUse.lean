/-
  What the library's Itoa, Join and Builder do here; what line and tieLine return; memory that was there stays as it was.
-/
import Derived.Test.YthdccmjdbcllkaaGreatDoorShelf
import Derived.Test.YthdccmjdbcllkaaGreatDoorCheckObj
import Derived.Test.YthdccmjdbcllkaaGreatDoorPlain
import Derived.Test.YthdccmjdbcllkaaGreatDoorEnvUse
import Derived.Lib.AppendIntMem
import Derived.Deep.Cut
import Derived.Deep.CutRange
import Derived.Deep.RegionWith
namespace Go.Proofs.YthdccmjdbcllkaaGreatDoor
open Go.RowKit

/-- line: of words that lie at a slice. -/
theorem line_any (b : Bool) (bk c : Nat) (xs : List ByteArray) (w : World) (hc : ∀ (j : Nat) x, xs[j]? = some x → w.cell? ⟨bk, 0 + j, none⟩ = some (.string x)) (hbk : bk < w.heap.size) (hcap : xs.length ≤ c) (hn : xs.length ≤ 100)
    (hlen : (Lib.join (xs.map (·.data.toList)) [32]).length ≤ 1000000) :
    Calls Tryz.prog 101 #[.bool b, .slice (some ⟨bk, 0, none⟩) xs.length c] w fun e w' => (∃ s : ByteArray, e = .returned (.string s) ∧ s.data.toList = lineL b (xs.map (·.data.toList))) ∧ Below w.heap.size w w' := by
  have HJ := Tryz.strings_Join bk 0 c xs ⟨#[32]⟩ w hc hbk (by omega) hcap
  have HL : Hid (lineL b (xs.map (·.data.toList)) = (if b = true then [119, 101, 97, 107, 32] else []) ++ (Lib.join (xs.map (·.data.toList)) [32] ++ [10])) := rfl
  have ej : (ByteArray.mk #[32]).data.toList = [32] := rfl
  rw [ej] at HJ
  generalize Lib.join (xs.map (·.data.toList)) [32] = l at *
  replace HJ := HJ (by omega)
  clear hc ej
  cases b
  all_goals
    go_enter Tryz.func101, Tryz.ntmps101
    go_wp2_with fail
    refine HJ.mono ?_
    rintro e w' ⟨rfl, hb⟩
    clear HJ
    go_wp2
    go_ret
    refine ⟨⟨_, rfl, ?_⟩, hb⟩
    rw [HL.out]
    simp


theorem line2 (b : Bool) (x y : ByteArray) (w : World) (hx : x.size ≤ 1000) (hy : y.size ≤ 1000) :
    Calls Tryz.prog 101 #[.bool b, .slice (some ⟨w.heap.size, 0, none⟩) 2 2] (w.alloc (.cells #[.string x, .string y] 9)) fun e w' => (∃ s : ByteArray, e = .returned (.string s) ∧ s.data.toList = lineL b [x.data.toList, y.data.toList]) ∧ Below w.heap.size w w' := by
  refine (line_any b w.heap.size 2 [x, y] _ ?_ (by simp) (by simp) (by simp) ?_).mono ?_
  · intro j v hj
    match j, hj with
    | 0, hj => simp at hj; subst hj; simp [go_sem]
    | 1, hj => simp at hj; subst hj; simp [go_sem]
  · simp only [List.map_cons, List.map_nil]
    rw [join2]
    simp
    omega
  · rintro e w' ⟨h, hb⟩
    exact ⟨h, ((Below.refl _ _).alloc (Nat.le_refl _) _).trans (hb.mono (by simp))⟩
theorem line3 (b : Bool) (x y z : ByteArray) (w : World) (hx : x.size ≤ 1000) (hy : y.size ≤ 1000) (hz : z.size ≤ 1000) :
    Calls Tryz.prog 101 #[.bool b, .slice (some ⟨w.heap.size, 0, none⟩) 3 3] (w.alloc (.cells #[.string x, .string y, .string z] 9)) fun e w' => (∃ s : ByteArray, e = .returned (.string s) ∧ s.data.toList = lineL b [x.data.toList, y.data.toList, z.data.toList]) ∧ Below w.heap.size w w' := by
  refine (line_any b w.heap.size 3 [x, y, z] _ ?_ (by simp) (by simp) (by simp) ?_).mono ?_
  · intro j v hj
    match j, hj with
    | 0, hj => simp at hj; subst hj; simp [go_sem]
    | 1, hj => simp at hj; subst hj; simp [go_sem]
    | 2, hj => simp at hj; subst hj; simp [go_sem]
  · simp only [List.map_cons, List.map_nil]
    rw [join3]
    simp
    omega
  · rintro e w' ⟨h, hb⟩
    exact ⟨h, ((Below.refl _ _).alloc (Nat.le_refl _) _).trans (hb.mono (by simp))⟩
theorem line4 (b : Bool) (x y z u : ByteArray) (w : World) (hx : x.size ≤ 1000) (hy : y.size ≤ 1000) (hz : z.size ≤ 1000) (hu : u.size ≤ 1000) :
    Calls Tryz.prog 101 #[.bool b, .slice (some ⟨w.heap.size, 0, none⟩) 4 4] (w.alloc (.cells #[.string x, .string y, .string z, .string u] 9)) fun e w' => (∃ s : ByteArray, e = .returned (.string s) ∧ s.data.toList = lineL b [x.data.toList, y.data.toList, z.data.toList, u.data.toList]) ∧ Below w.heap.size w w' := by
  refine (line_any b w.heap.size 4 [x, y, z, u] _ ?_ (by simp) (by simp) (by simp) ?_).mono ?_
  · intro j v hj
    match j, hj with
    | 0, hj => simp at hj; subst hj; simp [go_sem]
    | 1, hj => simp at hj; subst hj; simp [go_sem]
    | 2, hj => simp at hj; subst hj; simp [go_sem]
    | 3, hj => simp at hj; subst hj; simp [go_sem]
  · simp only [List.map_cons, List.map_nil]
    rw [join4]
    simp
    omega
  · rintro e w' ⟨h, hb⟩
    exact ⟨h, ((Below.refl _ _).alloc (Nat.le_refl _) _).trans (hb.mono (by simp))⟩

/-- a tie in a box. -/
structure TieBox (w : World) (bk : Nat) (x k d : Int) (s : ByteArray) (b : Bool) : Prop where
  c0 : w.cell? ⟨bk, 0, none⟩ = some (.int .i64 x)
  c1 : w.cell? ⟨bk, 0 + 1, none⟩ = some (.int .i64 k)
  c2 : w.cell? ⟨bk, 0 + 2, none⟩ = some (.int .i64 d)
  c3 : w.cell? ⟨bk, 0 + 3, none⟩ = some (.string s)
  c4 : w.cell? ⟨bk, 0 + 4, none⟩ = some (.bool b)
theorem TieBox.later {w w' : World} {bk : Nat} {x k d : Int} {s : ByteArray} {b : Bool} (h : TieBox w bk x k d s b) (hb : Below w.heap.size w w') : TieBox w' bk x k d s b :=
  ⟨cell_later hb h.c0, cell_later hb h.c1, cell_later hb h.c2, cell_later hb h.c3, cell_later hb h.c4⟩

set_option maxHeartbeats 2000000 in
theorem tieLine_any (x k d : Int) (s : ByteArray) (b : Bool) (w : World) (hE : Env w) (hx : -9223372036854775808 ≤ x ∧ x ≤ 9223372036854775807) (hd : -9223372036854775808 ≤ d ∧ d ≤ 9223372036854775807) (hs : s.size ≤ 1000) :
    Calls Tryz.prog 102 #[.agg #[.int .i64 x, .int .i64 k, .int .i64 d, .string s, .bool b]] w fun e w' => (∃ r : ByteArray, e = .returned (.string r) ∧ r.data.toList = tieLn x k d s b) ∧ Below w.heap.size w w' := by
  have hb0 : ∀ ob : Obj, Below w.heap.size w (w.alloc ob) := fun ob => (Below.refl _ _).alloc (Nat.le_refl _) ob
  have hE0 : Env (w.alloc (.cells #[.int .i64 x, .int .i64 k, .int .i64 d, .string s, .bool b] 157)) := hE.later (hb0 _)
  have hB0 : TieBox (w.alloc (.cells #[.int .i64 x, .int .i64 k, .int .i64 d, .string s, .bool b] 157)) w.heap.size x k d s b := by
    constructor <;> simp [go_sem]
  have hW0 := hb0 (.cells #[.int .i64 x, .int .i64 k, .int .i64 d, .string s, .bool b] 157)
  have hx1 := hx.1
  have hx2 := hx.2
  have hd1 := hd.1
  have hd2 := hd.2
  have lx := itoa_len x hx.1 hx.2
  have ld := itoa_len d hd.1 hd.2
  clear hx hd hb0 hE
  go_enter Tryz.func102, Tryz.ntmps102
  go_upto_region 1 with fail
  go_cut [3, 4] from 5 to 10 (fun u v wc => u = .string ⟨(Lib.itoa x).toArray⟩ ∧ v = .string ⟨(Lib.itoa d).toArray⟩ ∧ TieBox wc w.heap.size x k d s b ∧ Below w.heap.size w wc)
  case first =>
    go_region_with (go_at_call 29; refine (itoa_any _ _ (by first | exact hE0 | exact hE0.drew) (by assumption) (by assumption)).mono ?_; rintro e w1 ⟨rfl, hb⟩; (try replace hb := below_undrew hb); replace hE0 := hE0.later hb; replace hB0 := hB0.later hb; replace hW0 := hW0.trans (hb.mono hW0.size); have hc0 := hB0.c0; have hc2 := hB0.c2; clear hb)
    all_goals (go_wp2_with fail; go_meet; exact ⟨rfl, rfl, hB0, hW0⟩)
  case rest =>
    obtain ⟨rfl, rfl, hB, hW⟩ := hcut
    have c1 := hB.c1
    have c3 := hB.c3
    have c4 := hB.c4
    clear hE0 hB0 hW0
    have HX : Hid ((ByteArray.mk (Lib.itoa x).toArray).data.toList = Lib.itoa x) := by show (Lib.itoa x).toArray.toList = _; simp
    have HD : Hid ((ByteArray.mk (Lib.itoa d).toArray).data.toList = Lib.itoa d) := by show (Lib.itoa d).toArray.toList = _; simp
    have lx' : (ByteArray.mk (Lib.itoa x).toArray).size ≤ 1000 := by show (Lib.itoa x).toArray.size ≤ 1000; simp; omega
    have ld' : (ByteArray.mk (Lib.itoa d).toArray).size ≤ 1000 := by show (Lib.itoa d).toArray.size ≤ 1000; simp; omega
    generalize ByteArray.mk (Lib.itoa x).toArray = ix at *
    generalize ByteArray.mk (Lib.itoa d).toArray = id' at *
    clear lx ld hx1 hx2 hd1 hd2
    by_cases k1 : k = 1
    · have HE : Hid (tieLn x k d s b = lineL false [[98, 97, 115, 101], ix.data.toList, id'.data.toList]) := by
        show tieLn x k d s b = _
        unfold tieLn
        rw [if_pos k1, HX.out, HD.out]
      have d1 : (k == 1) = true := by rw [beq_iff_eq]; exact k1
      clear k1
      go_wp2_with fail
      refine (line3 false ⟨#[98, 97, 115, 101]⟩ ix id' _ (by decide) lx' ld').mono ?_
      rintro e w2 ⟨⟨r, rfl, hr⟩, hb2⟩
      have HR : Hid (r.data.toList = lineL false [[98, 97, 115, 101], ix.data.toList, id'.data.toList]) := hr
      clear hr
      go_wp2
      go_ret
      exact ⟨⟨r, rfl, HR.out.trans HE.out.symm⟩, hW.trans (hb2.mono hW.size)⟩
    · have d1 : (k == 1) = false := by rw [beq_eq_false_iff_ne]; exact k1
      by_cases k2 : k = 2
      · have HE : Hid (tieLn x k d s b = lineL b [[119, 104, 111, 108, 101], ix.data.toList, id'.data.toList, s.data.toList]) := by
          show tieLn x k d s b = _
          unfold tieLn
          rw [if_neg k1, if_pos k2, HX.out, HD.out]
        have d2 : (k == 2) = true := by rw [beq_iff_eq]; exact k2
        clear k1 k2
        go_wp2_with fail
        refine (line4 b ⟨#[119, 104, 111, 108, 101]⟩ ix id' s _ (by decide) lx' ld' hs).mono ?_
        rintro e w2 ⟨⟨r, rfl, hr⟩, hb2⟩
        have HR : Hid (r.data.toList = lineL b [[119, 104, 111, 108, 101], ix.data.toList, id'.data.toList, s.data.toList]) := hr
        clear hr
        go_wp2
        go_ret
        exact ⟨⟨r, rfl, HR.out.trans HE.out.symm⟩, hW.trans (hb2.mono hW.size)⟩
      · have HE : Hid (tieLn x k d s b = lineL b [[110, 101, 97, 114], ix.data.toList, id'.data.toList, s.data.toList]) := by
          show tieLn x k d s b = _
          unfold tieLn
          rw [if_neg k1, if_neg k2, HX.out, HD.out]
        have d2 : (k == 2) = false := by rw [beq_eq_false_iff_ne]; exact k2
        clear k1 k2
        go_wp2_with fail
        refine (line4 b ⟨#[110, 101, 97, 114]⟩ ix id' s _ (by decide) lx' ld' hs).mono ?_
        rintro e w2 ⟨⟨r, rfl, hr⟩, hb2⟩
        have HR : Hid (r.data.toList = lineL b [[110, 101, 97, 114], ix.data.toList, id'.data.toList, s.data.toList]) := hr
        clear hr
        go_wp2
        go_ret
        exact ⟨⟨r, rfl, HR.out.trans HE.out.symm⟩, hW.trans (hb2.mono hW.size)⟩
end Go.Proofs.YthdccmjdbcllkaaGreatDoor
