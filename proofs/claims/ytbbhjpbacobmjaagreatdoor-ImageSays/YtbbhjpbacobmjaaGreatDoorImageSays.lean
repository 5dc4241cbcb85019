/-
  What is loaded is what the document says: the law ImageSays returns true at every input, and changes nothing (its card: the tables and sentinels of Go's library that its road names, tied to the program's text).
-/
import Derived.Test.YtbbhjpbacobmjaaGreatDoorCards
import Derived.Test.YtbbhjpbacobmjaaGreatDoorTie
import Derived.Test.YtbbhjpbacobmjaaGreatDoorSaysOne
import Derived.Test.YtbbhjpbacobmjaaGreatDoorOpenAll
import Derived.WalkKit
import Derived.ProofKit
import Derived.OpenShut
import Derived.ShutString
import Derived.Deep.DeepHandedRow
import Derived.Deep.DeepWitnessRowRef
import Derived.Lib.LaidTab
import Derived.Stop.LaidErr
import Derived.ChangeOld
import Derived.Lib.SmallJoins
namespace Go.Proofs.YtbbhjpbacobmjaaGreatDoor.imageSays
open Go.ChangeShapes Go.WideShapes Go.ChangeAt Go.RowKit Go.Joins
open Go.ChangeMaps (open_string shut_string)
set_option linter.unusedVariables false

theorem i64_in {n : Int} (h : (Lit.int .i64 n).wf = true) : -9223372036854775808 ≤ n ∧ n ≤ 9223372036854775807 := by
  have h1 : (decide (IntKind.min .i64 ≤ n) && decide (n ≤ IntKind.max .i64)) = true := h
  simp only [Bool.and_eq_true, decide_eq_true_eq] at h1
  exact h1
theorem own : ownKnob Tryz.prog.godebug = none := by kernel_rfl
theorem laidOut : laidOutB Tryz.prog = true := by kernel_rfl

theorem star : "*" ++ "errors.errorString" = "*errors.errorString" := by decide
theorem isType (u : TypeId) (h : Tryz.prog.typeName? 3 u = some "*errors.errorString") : u = 347 :=
  typeName_ptr_named (nm := "errors.errorString") (by rw [star]; kernel_rfl) (by kernel_rfl) (by decide) u (by rw [star]; exact h)

/-- what the library's variables hold, by what the row lists. -/
theorem env {W : World} (hL : laidMet Tryz.prog Rows.imageSaysRow.laid W) (hsh : W.ShapedOpen Tryz.prog) : Env W := by
  have h1 := hL.tail.tail
  have h2 : laidMet Tryz.prog (("internal/strconv.uint64pow10", Lib.tabData .u64 Lib.pow10Tab) :: _) W := h1
  have h3 := h1.tail.tail
  have h4 := h3.tail
  obtain ⟨a1, s1, e1, _⟩ := laid_sentinel (g := 3) (ti := 33) (tp := 347) (te := 349) (ts := 9) h3 (by kernel_rfl) (by kernel_rfl) Tryz.underlying33 isType Tryz.underlying347 Tryz.underlying349 rfl rfl Tryz.underlying9 (by kernel_rfl) (by kernel_rfl)
  obtain ⟨a2, s2, e2, _⟩ := laid_sentinel (g := 2) (ti := 33) (tp := 347) (te := 349) (ts := 9) h4 (by kernel_rfl) (by kernel_rfl) Tryz.underlying33 isType Tryz.underlying347 Tryz.underlying349 rfl rfl Tryz.underlying9 (by kernel_rfl) (by kernel_rfl)
  refine ⟨Lib.tabIs_of_head (g := 0) (t := 299) (e := 80) (n := 20) (by kernel_rfl) (by kernel_rfl) (by kernel_rfl) (by kernel_rfl) (by kernel_rfl) (by kernel_rfl) h2, Go.Proofs.cell_of_shapedOpen_int (zero := #[.int .i64 0]) (t := 3) hsh (of_decide_eq_true (by kernel_rfl)) (by kernel_rfl) rfl (by kernel_rfl) (by kernel_rfl) Tryz.underlying3, ?_, ?_⟩
  · exact ⟨_, by simpa using World.var?_cell (g := 2) (by kernel_rfl) e2 0, .inr ⟨_, _, rfl⟩⟩
  · exact ⟨_, by simpa using World.var?_cell (g := 3) (by kernel_rfl) e1 0, .inr ⟨_, _, rfl⟩⟩

/-- the cells of a table of integers, or of rows of integers. -/
def litCell {H : Type} : DataW H → List Value
  | .lit (.int k n) => [.int k n]
  | .agg ds => ds.map fun d => match d with | .lit (.int k n) => Value.int k n | _ => undef
  | _ => []
def cellsOfTable {H : Type} : DataW H → Array Value
  | .agg ds => (ds.flatMap litCell).toArray
  | _ => #[]
def withCells (c : Array Value) : Obj → Obj
  | .cells _ t frozen => .cells c t frozen
  | o => o
abbrev synS : ByteArray := ⟨#[105, 110, 118, 97, 108, 105, 100, 32, 115, 121, 110, 116, 97, 120]⟩
abbrev rngS : ByteArray := ⟨#[118, 97, 108, 117, 101, 32, 111, 117, 116, 32, 111, 102, 32, 114, 97, 110, 103, 101]⟩
noncomputable def low : Nat := (World.holding Tryz.prog default ⟨#[], #[], []⟩).heap.size
/-- for the witness' world: the tables and the sentinels hold what their initialisers lay. -/
noncomputable def laidWorld (os : Os) : World :=
  let w0 := World.holding Tryz.prog os ⟨#[.cells #[.string synS] 349, .cells #[.string rngS] 349], #[], []⟩
  { w0 with heap := ((((((w0.heap.modify 0 (withCells (cellsOfTable (H := Unit) Rows.laid_internal_strconv_uint64pow10))).modify 4 (withCells (cellsOfTable (H := Unit) Rows.laid_math_bits_deBruijn32tab))).modify 5 (withCells (cellsOfTable (H := Unit) Rows.laid_math_bits_deBruijn64tab))).modify 7 (withCells (cellsOfTable (H := Unit) Rows.laid_unicode_utf8_acceptRanges))).modify 6 (withCells (cellsOfTable (H := Unit) Rows.laid_unicode_utf8_first))).modify 2 (withCells #[.iface 347 (.pointer (some ⟨low, 0, none⟩))])).modify 3 (withCells #[.iface 347 (.pointer (some ⟨low + 1, 0, none⟩))]) }
abbrev wArgs : Array Value := #[.slice none 0 0, .string ⟨#[]⟩, .int .i64 0]
theorem laid_met (os : Os) : laidMet Tryz.prog Rows.imageSaysRow.laid ((laidWorld os).forCall (fun _ _ => 0) ⟨#[], wArgs, []⟩).memory :=
  laidMet_of_run' 8 (by kernel_rfl) (by kernel_rfl)
theorem witness_row (os : Os) {H : Type} (enc : TypeId × Value → H) :
    (OpenSpec.ofChange Rows.imageSaysSpec).preRow enc Tryz.prog Tryz.f4 Rows.imageSaysRow.domain false Rows.imageSaysRow.laid ((laidWorld os).forCall (fun _ _ => 0) ⟨#[], wArgs, []⟩).memory wArgs := by
  have hw : (DataW.whole enc Tryz.prog ((laidWorld os).forCall (fun _ _ => 0) ⟨#[], wArgs, []⟩).memory Tryz.f4.params.toList Rows.imageSaysSpec.vars false wArgs.toList 8).map (fun x => (x.1, x.2.1)) =
      some ([.nil, .lit (.string []), .lit (.int .i64 0)], []) := by kernel_rfl
  obtain ⟨⟨x1, x2, x3⟩, hx, hx1⟩ := Option.map_eq_some_iff.1 hw
  simp only [Prod.mk.injEq] at hx1
  obtain ⟨rfl, rfl⟩ := hx1
  exact OpenSpec.preRow_of_cond 8 hx (by kernel_rfl) (fun k hk => by cases hk) (by kernel_rfl) (laid_met os)

set_option maxRecDepth 100000 in
theorem lifted (os : Os) (started : os.Started) (H : Type) (enc : TypeId × Value → H) (F : Stop.Interp) :
    ReturnsInHanded {} Tryz.checked os 4 .any ((OpenSpec.ofChange Rows.imageSaysSpec).preRow enc Tryz.prog Tryz.f4 Rows.imageSaysRow.domain false Rows.imageSaysRow.laid) (((OpenSpec.ofChange Rows.imageSaysSpec).at F).post enc Tryz.prog Tryz.f4 false true false false) := by
  refine returnsInHanded_of_row (C := Tryz.checked) (s := OpenSpec.ofChange Rows.imageSaysSpec) own started (by kernel_rfl) Tryz.func4
    (witness_row_atRef (enc := enc) (C := Tryz.checked) false (laidWorld os) wArgs rfl (by kernel_rfl) (by kernel_rfl) (by kernel_rfl) (witness_row os enc)) ?_
  intro W base args ds gs before hval0 hW _ _ _ hL hsh _
  have hval : ∀ (j : Nat) t v, Tryz.f4.params[j]? = some t → args[j]? = some v → Value.okWide Tryz.prog W .any base t v := hval0
  have hE : Env W := env hL hsh
  have hW' := hW
  obtain ⟨p, q, hA0, hV, rfl, hfz, hnd⟩ := hW
  have hA : DataW.TrodAll enc Tryz.prog W 0 (fun _ => true) true Tryz.f4.params.toList args.toList ds p := hA0
  rw [Tryz.params4] at hA hval
  obtain ⟨v0, vs0, d0, ds0, p0, q0, hargs, rfl, rfl, h0, r0⟩ := trodAll_cons hA
  obtain ⟨v1, vs1, d1, ds1, p1, q1, rfl, rfl, rfl, h1, r1⟩ := trodAll_cons r0
  obtain ⟨v2, vs2, d2, ds2, p2, q2, rfl, rfl, rfl, h2, r2⟩ := trodAll_cons r1
  obtain ⟨rfl, rfl, rfl⟩ := trodAll_nil r2
  obtain rfl : args = #[v0, v1, v2] := by cases args; simp_all
  obtain ⟨rfl, rfl⟩ := trodVars_none hV
  obtain ⟨al0, n0, cap0, rfl⟩ := okWide_slice Tryz.underlying22 (hval 0 22 v0 rfl rfl)
  have k0 := h0
  have lt0 : ∀ x ∈ p0, x.block < W.heap.size := by obtain ⟨m, hm⟩ := k0; exact DataW.trod_lt m _ _ _ hm
  obtain ⟨fuel0, hf0⟩ := h0
  obtain ⟨X0, hO0, hF0⟩ := open_acts (fuel := fuel0) (by simpa [Value.cells] using hf0)
  have hcap0 : n0 ≤ cap0 := slice_capA (enc := enc) (w := W) (fuel := fuel0) Tryz.underlying22 (by simpa [Value.cells] using hf0)
  obtain ⟨s1, rfl, rfl, rfl, w1⟩ := open_string Tryz.underlying9 (hval 1 9 v1 rfl rfl) h1
  obtain ⟨s2, rfl, rfl, rfl, w2⟩ := open_int Tryz.underlying3 (hval 2 3 v2 rfl rfl) h2
  clear hA0 hval0
  refine (imageSays_walk al0 n0 cap0 X0 s1 s2 W (i64_in w2).2 (i64_in w2).1 hE hO0 hF0).mono fun e W' ⟨he, bel⟩ => ?_
  subst he
  exact ⟨_, rfl, _, _, _, [], _, [], hW', trodAll_mk1 (shut_bool Tryz.underlying4 _), (trodAll_cons_mk (Below.trod laidOut (by kernel_rfl) (of_decide_eq_true (by kernel_rfl)) k0 bel lt0) (trodAll_cons_mk (shut_string Tryz.underlying9 w1) (trodAll_cons_mk (shut_int Tryz.underlying3 w2) trodAll_mk0))), rfl, bel.frame _, fun h => by cases h⟩

theorem said : Rows.ImageSaysSaid :=
  OpenClaim.holds_of_cond 4 Tryz.f4 rfl rfl rfl rfl rfl rfl rfl ⟨rfl, rfl, rfl, rfl, rfl⟩ rfl rfl rfl rfl rfl (by kernel_rfl) Tryz.func4 (by kernel_rfl)
    (of_decide_eq_true (by kernel_rfl)) (by unfold Func.isWrapper; first | (rw [if_pos (by decide +kernel)]; kernel_rfl) | (rw [if_neg (by decide +kernel)]; exact ⟨rfl, rfl⟩))
    (fun os started H enc _ F => by rw [OpenClaim.pre_eq_preRow]; exact lifted os started H enc F)

theorem plain (f : FuncId) (fn : Func) (hf : Tryz.pinned.checked.prog.funcNamed "marlinspike/marlinspikelaw.ImageSays" = some f) (hfn : Tryz.pinned.checked.prog.funcs[f]? = some fn) :
    true = Tryz.pinned.checked.prog.looks [] ∧ ∀ (j : Nat) t, fn.params[j]? = some t → Tryz.pinned.checked.prog.wantsStandIn t = false := by
  obtain rfl : f = 4 := Option.some.inj ((show Tryz.prog.funcNamed "marlinspike/marlinspikelaw.ImageSays" = some 4 by kernel_rfl).symm.trans hf) |>.symm
  obtain rfl : fn = Tryz.f4 := (Option.some.inj (Tryz.func4.symm.trans hfn)).symm
  refine ⟨by kernel_rfl, fun j t ht => ?_⟩
  rw [Tryz.params4] at ht
  have k0 : Tryz.pinned.checked.prog.wantsStandIn 22 = false := by kernel_rfl
  have k1 : Tryz.pinned.checked.prog.wantsStandIn 9 = false := by kernel_rfl
  have k2 : Tryz.pinned.checked.prog.wantsStandIn 3 = false := by kernel_rfl
  match j, ht with
  | 0, ht => rw [show t = 22 by simpa using ht.symm]; exact k0
  | 1, ht => rw [show t = 9 by simpa using ht.symm]; exact k1
  | 2, ht => rw [show t = 3 by simpa using ht.symm]; exact k2
  | j + 3, ht => simp at ht

theorem card : Rows.ImageSaysCardSaid :=
  Claim7.holds_tied_plain_at .later [] _ _ _ _ said (fun _ h => by cases h) (by kernel_rfl) (fun _ h => by cases h) imageSays_row_tie rfl ⟨rfl, rfl⟩ (by kernel_rfl) rfl plain (by kernel_rfl)
end Go.Proofs.YtbbhjpbacobmjaaGreatDoor.imageSays

namespace Go.Proofs.YtbbhjpbacobmjaaGreatDoor
theorem imageSays_holds : Rows.ImageSaysCardSaid := imageSays.card
end Go.Proofs.YtbbhjpbacobmjaaGreatDoor
