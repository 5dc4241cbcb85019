/- What is loaded, and whether by what is kept, is what the document says: the law LoaderSays returns true at every input, and changes nothing (its card: the tables and sentinels of Go's library that its road names, tied to the program's text). -/
import Derived.Test.YtagfngiaogckpaaGreatDoorCards
import Derived.Test.YtagfngiaogckpaaGreatDoorTie
import Derived.Test.YtagfngiaogckpaaGreatDoorLoaderSaysWalk
import Derived.Test.YtagfngiaogckpaaGreatDoorOpenActs
import Derived.OpenShut
import Derived.ShutString
import Derived.Deep.DeepHandedRow
import Derived.Deep.DeepWitnessRowRef
import Derived.Lib.LaidTab
import Derived.Stop.LaidErr
namespace Go.Proofs.YtagfngiaogckpaaGreatDoor.loaderSays
open Go.ChangeShapes Go.WideShapes Go.ChangeAt Go.RowKit Go.Joins
open Go.ChangeMaps (open_string shut_string)
set_option linter.unusedVariables false
theorem own : ownKnob Tryz.prog.godebug = none := by kernel_rfl
theorem laidOut : laidOutB Tryz.prog = true := by kernel_rfl
theorem star : "*" ++ "errors.errorString" = "*errors.errorString" := by decide
theorem isType (u : TypeId) (h : Tryz.prog.typeName? 3 u = some "*errors.errorString") : u = 315 :=
 typeName_ptr_named (nm := "errors.errorString") (by rw [star]; kernel_rfl) (by kernel_rfl) (by decide) u (by rw [star]; exact h)
theorem env {W : World} (hL : laidMet Tryz.prog Rows.loaderSaysRow.laid W) (hsh : W.ShapedOpen Tryz.prog) : Env W := by
 have h1 := hL.tail.tail
 have h2 : laidMet Tryz.prog (("internal/strconv.uint64pow10", Lib.tabData .u64 Lib.pow10Tab) :: _) W := h1
 have h3 := h1.tail.tail
 have h4 := h3.tail
 obtain ⟨a1,s1,e1,_⟩ := laid_sentinel (g := 5) (ti := 33) (tp := 315) (te := 317) (ts := 9) h3 (by kernel_rfl) (by kernel_rfl) Tryz.underlying33 isType Tryz.underlying315 Tryz.underlying317 rfl rfl Tryz.underlying9 (by kernel_rfl) (by kernel_rfl)
 obtain ⟨a2,s2,e2,_⟩ := laid_sentinel (g := 4) (ti := 33) (tp := 315) (te := 317) (ts := 9) h4 (by kernel_rfl) (by kernel_rfl) Tryz.underlying33 isType Tryz.underlying315 Tryz.underlying317 rfl rfl Tryz.underlying9 (by kernel_rfl) (by kernel_rfl)
 refine ⟨Lib.tabIs_of_head (g := 1) (t := 301) (e := 44) (n := 20) (by kernel_rfl) (by kernel_rfl) (by kernel_rfl) (by kernel_rfl) (by kernel_rfl) (by kernel_rfl) h2,Go.Proofs.cell_of_shapedOpen_int (zero := #[.int .i64 0]) (t := 3) hsh (of_decide_eq_true (by kernel_rfl)) (by kernel_rfl) rfl (by kernel_rfl) (by kernel_rfl) Tryz.underlying3,?_,?_⟩
 ·exact ⟨_,by simpa using World.var?_cell (g := 4) (by kernel_rfl) e2 0,.inr ⟨_,_,rfl⟩⟩
 ·exact ⟨_,by simpa using World.var?_cell (g := 5) (by kernel_rfl) e1 0,.inr ⟨_,_,rfl⟩⟩
def litCell {H : Type} : DataW H -> List Value
 | .lit (.int k n) => [.int k n]
 | .agg ds => ds.map fun d => match d with | .lit (.int k n) => Value.int k n | _ => undef
 | _ => []
def cellsOfTable {H : Type} : DataW H -> Array Value
 | .agg ds => (ds.flatMap litCell).toArray
 | _ => #[]
def withCells (c : Array Value) : Obj -> Obj
 | .cells _ t frozen => .cells c t frozen
 | o => o
abbrev synS : ByteArray := ⟨#[105,110,118,97,108,105,100,32,115,121,110,116,97,120]⟩
abbrev rngS : ByteArray := ⟨#[118,97,108,117,101,32,111,117,116,32,111,102,32,114,97,110,103,101]⟩
noncomputable def low : Nat := (World.holding Tryz.prog default ⟨#[],#[],[]⟩).heap.size
noncomputable def laidWorld (os : Os) : World :=
 let w0 := World.holding Tryz.prog os ⟨#[.cells #[.string synS] 317,.cells #[.string rngS] 317],#[],[]⟩
 { w0 with heap := ((((((w0.heap.modify 1 (withCells (cellsOfTable (H := Unit) Rows.laid_internal_strconv_uint64pow10))).modify 6 (withCells (cellsOfTable (H := Unit) Rows.laid_math_bits_deBruijn32tab))).modify 7 (withCells (cellsOfTable (H := Unit) Rows.laid_math_bits_deBruijn64tab))).modify 3 (withCells (cellsOfTable (H := Unit) Rows.laid_unicode_utf8_acceptRanges))).modify 2 (withCells (cellsOfTable (H := Unit) Rows.laid_unicode_utf8_first))).modify 4 (withCells #[.iface 315 (.pointer (some ⟨low,0,none⟩))])).modify 5 (withCells #[.iface 315 (.pointer (some ⟨low + 1,0,none⟩))]) }
abbrev wArgs : Array Value := #[.slice none 0 0]
theorem laid_met (os : Os) : laidMet Tryz.prog Rows.loaderSaysRow.laid ((laidWorld os).forCall (fun _ _ => 0) ⟨#[],wArgs,[]⟩).memory :=
 laidMet_of_run' 8 (by kernel_rfl) (by kernel_rfl)
theorem witness_row (os : Os) {H : Type} (enc : TypeId × Value -> H) :
 (OpenSpec.ofChange Rows.loaderSaysSpec).preRow enc Tryz.prog Tryz.f3 Rows.loaderSaysRow.domain false Rows.loaderSaysRow.laid ((laidWorld os).forCall (fun _ _ => 0) ⟨#[],wArgs,[]⟩).memory wArgs := by
 have hw : (DataW.whole enc Tryz.prog ((laidWorld os).forCall (fun _ _ => 0) ⟨#[],wArgs,[]⟩).memory Tryz.f3.params.toList Rows.loaderSaysSpec.vars false wArgs.toList 8).map (fun x => (x.1,x.2.1)) =
  some ([.nil],[]) := by kernel_rfl
 obtain ⟨⟨x1,x2,x3⟩,hx,hx1⟩ := Option.map_eq_some_iff.1 hw
 simp only [Prod.mk.injEq] at hx1
 obtain ⟨rfl,rfl⟩ := hx1
 exact OpenSpec.preRow_of_cond 8 hx (by kernel_rfl) (fun k hk => by cases hk) (by kernel_rfl) (laid_met os)
set_option maxRecDepth 100000 in
theorem lifted (os : Os) (started : os.Started) (H : Type) (enc : TypeId × Value -> H) (F : Stop.Interp) :
 ReturnsInHanded {} Tryz.checked os 3 .any ((OpenSpec.ofChange Rows.loaderSaysSpec).preRow enc Tryz.prog Tryz.f3 Rows.loaderSaysRow.domain false Rows.loaderSaysRow.laid) (((OpenSpec.ofChange Rows.loaderSaysSpec).at F).post enc Tryz.prog Tryz.f3 false true false false) := by
 refine returnsInHanded_of_row (C := Tryz.checked) (s := OpenSpec.ofChange Rows.loaderSaysSpec) own started (by kernel_rfl) Tryz.func3
  (witness_row_atRef (enc := enc) (C := Tryz.checked) false (laidWorld os) wArgs rfl (by kernel_rfl) (by kernel_rfl) (by kernel_rfl) (witness_row os enc)) ?_
 intro W base args ds gs before hval0 hW _ _ _ hL hsh _
 have hval : ∀ (j : Nat) t v,Tryz.f3.params[j]? = some t -> args[j]? = some v -> Value.okWide Tryz.prog W .any base t v := hval0
 have hE : Env W := env hL hsh
 have hW' := hW
 obtain ⟨p,q,hA0,hV,rfl,hfz,hnd⟩ := hW
 have hA : DataW.TrodAll enc Tryz.prog W 0 (fun _ => true) true Tryz.f3.params.toList args.toList ds p := hA0
 rw [Tryz.params3] at hA hval
 obtain ⟨v0,vs0,d0,ds0,p0,q0,hargs,rfl,rfl,h0,r0⟩ := trodAll_cons hA
 obtain ⟨rfl,rfl,rfl⟩ := trodAll_nil r0
 obtain rfl : args = #[v0] := by cases args; simp_all
 obtain ⟨rfl,rfl⟩ := trodVars_none hV
 obtain ⟨al0,n0,cap0,rfl⟩ := okWide_slice Tryz.underlying22 (hval 0 22 v0 rfl rfl)
 have k0 := h0
 have lt0 : ∀ x ∈ p0,x.block < W.heap.size := by obtain ⟨m,hm⟩ := k0; exact DataW.trod_lt m _ _ _ hm
 obtain ⟨fuel0,hf0⟩ := h0
 obtain ⟨X0,hO0,hF0⟩ := open_acts (fuel := fuel0) (by simpa [Value.cells] using hf0)
 have hcap0 : n0 <= cap0 := slice_capA (enc := enc) (w := W) (fuel := fuel0) Tryz.underlying22 (by simpa [Value.cells] using hf0)
 clear hA0 hval0
 refine (loaderSays_walk al0 n0 cap0 X0 W hE hO0 hF0).mono fun e W' ⟨he,bel⟩ => ?_
 subst he
 exact ⟨_,rfl,_,_,_,[],_,[],hW',trodAll_mk1 (shut_bool Tryz.underlying4 _),(trodAll_cons_mk (Below.trod laidOut (by kernel_rfl) (of_decide_eq_true (by kernel_rfl)) k0 bel lt0) trodAll_mk0),rfl,bel.frame _,fun h => by cases h⟩
theorem said : Rows.LoaderSaysSaid :=
 OpenClaim.holds_of_cond 3 Tryz.f3 rfl rfl rfl rfl rfl rfl rfl ⟨rfl,rfl,rfl,rfl,rfl⟩ rfl rfl rfl rfl rfl (by kernel_rfl) Tryz.func3 (by kernel_rfl)
  (of_decide_eq_true (by kernel_rfl)) (by unfold Func.isWrapper; first | (rw [if_pos (by decide +kernel)]; kernel_rfl) | (rw [if_neg (by decide +kernel)]; exact ⟨rfl,rfl⟩))
  (fun os started H enc _ F => by rw [OpenClaim.pre_eq_preRow]; exact lifted os started H enc F)
theorem plain (f : FuncId) (fn : Func) (hf : Tryz.pinned.checked.prog.funcNamed "marlinspike/marlinspikelaw.LoaderSays" = some f) (hfn : Tryz.pinned.checked.prog.funcs[f]? = some fn) :
 true = Tryz.pinned.checked.prog.looks [] /\ ∀ (j : Nat) t,fn.params[j]? = some t -> Tryz.pinned.checked.prog.wantsStandIn t = false := by
 obtain rfl : f = 3 := Option.some.inj ((show Tryz.prog.funcNamed "marlinspike/marlinspikelaw.LoaderSays" = some 3 by kernel_rfl).symm.trans hf) |>.symm
 obtain rfl : fn = Tryz.f3 := (Option.some.inj (Tryz.func3.symm.trans hfn)).symm
 refine ⟨by kernel_rfl,fun j t ht => ?_⟩
 rw [Tryz.params3] at ht
 have k0 : Tryz.pinned.checked.prog.wantsStandIn 22 = false := by kernel_rfl
 match j,ht with
 | 0,ht => rw [show t = 22 by simpa using ht.symm]; exact k0
 | j + 1,ht => simp at ht
theorem card : Rows.LoaderSaysCardSaid :=
 Claim7.holds_tied_plain_at .later [] _ _ _ _ said (fun _ h => by cases h) (by kernel_rfl) (fun _ h => by cases h) loaderSays_row_tie rfl ⟨rfl,rfl⟩ (by kernel_rfl) rfl plain (by kernel_rfl)
end Go.Proofs.YtagfngiaogckpaaGreatDoor.loaderSays
namespace Go.Proofs.YtagfngiaogckpaaGreatDoor
theorem loaderSays_holds : Rows.LoaderSaysCardSaid := loaderSays.card
end Go.Proofs.YtagfngiaogckpaaGreatDoor
