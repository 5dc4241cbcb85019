/- What the console says to every row of lines is what the reference says: the law ConsoleSays returns true at every input, and changes nothing (its card: the tables and sentinels of Go's library that its road names, tied to the program's text). -/
import Derived.Test.YtbcpcbonlhlhpaaGreatDoorCards
import Derived.Test.YtbcpcbonlhlhpaaGreatDoorTie
import Derived.Test.YtbcpcbonlhlhpaaGreatDoorConsoleSaysWalk
import Derived.Test.YtbcpcbonlhlhpaaGreatDoorOpenRows
import Derived.OpenShut
import Derived.ShutString
import Derived.Deep.DeepHandedRow
import Derived.Deep.DeepWitnessRowRef
import Derived.Lib.LaidTab
import Derived.Stop.LaidErr
import Derived.ChangeOld
import Derived.Lib.SmallJoins
namespace Go.Proofs.YtbcpcbonlhlhpaaGreatDoor.consoleSays
open Go.ChangeShapes Go.WideShapes Go.ChangeAt Go.RowKit Go.Joins
open Go.ChangeMaps (open_string shut_string)
set_option maxRecDepth 100000
set_option linter.unusedVariables false
theorem own:ownKnob Tryz.prog.godebug=none:=by kernel_rfl
theorem laidOut:laidOutB Tryz.prog=true:=by kernel_rfl
theorem star : "*" ++ "errors.errorString" = "*errors.errorString" := by decide
theorem isType (u : TypeId) (h : Tryz.prog.typeName? 3 u = some "*errors.errorString") : u = 335 :=
 typeName_ptr_named (nm := "errors.errorString") (by rw [star]; kernel_rfl) (by kernel_rfl) (by decide) u (by rw [star]; exact h)
theorem env{W:World}(hL:laidMet Tryz.prog Rows.consoleSaysRow.laid W)(hsh:W.ShapedOpen Tryz.prog):Env W:=by
 have h1:=hL.tail.tail
 have h2 : laidMet Tryz.prog (("internal/strconv.uint64pow10", Lib.tabData .u64 Lib.pow10Tab) :: _) W := h1
 have h3:=h1.tail.tail;have h4:=h3.tail;obtain⟨a1,s1,e1,_⟩:=laid_sentinel (g:=3) (ti:=25) (tp:=335) (te:=337) (ts:=9) h3 (by kernel_rfl) (by kernel_rfl) Tryz.underlying25 isType Tryz.underlying335 Tryz.underlying337 rfl rfl Tryz.underlying9 (by kernel_rfl) (by kernel_rfl);obtain⟨a2,s2,e2,_⟩:=laid_sentinel (g:=2) (ti:=25) (tp:=335) (te:=337) (ts:=9) h4 (by kernel_rfl) (by kernel_rfl) Tryz.underlying25 isType Tryz.underlying335 Tryz.underlying337 rfl rfl Tryz.underlying9 (by kernel_rfl) (by kernel_rfl);refine⟨Lib.tabIs_of_head (g:=1) (t:=292) (e:=156) (n:=20) (by kernel_rfl) (by kernel_rfl) (by kernel_rfl) (by kernel_rfl) (by kernel_rfl) (by kernel_rfl) h2,Go.Proofs.cell_of_shapedOpen_int (zero:=#[.int .i64 0]) (t:=3) hsh (of_decide_eq_true (by kernel_rfl)) (by kernel_rfl) rfl (by kernel_rfl) (by kernel_rfl) Tryz.underlying3,?_,?_⟩
 ·exact⟨_,by simpa using World.var?_cell (g:=2) (by kernel_rfl) e2 0,.inr ⟨_,_,rfl⟩⟩
 ·exact⟨_,by simpa using World.var?_cell (g:=3) (by kernel_rfl) e1 0,.inr ⟨_,_,rfl⟩⟩
def litCell{H:Type}:DataW H->List Value
 | .lit (.int k n)=>[.int k n]
 | .agg ds=>ds.map fun d=>match d with | .lit (.int k n)=>Value.int k n|_=>undef
 |_=>[]
def z4i {H:Type}:DataW H->Array Value
 | .agg ds=>(ds.flatMap litCell).toArray
 |_=>#[]
def z4P (c:Array Value):Obj->Obj
 | .cells _ t frozen=>.cells c t frozen
 |o=>o
abbrev synS:ByteArray:=⟨#[105,110,118,97,108,105,100,32,115,121,110,116,97,120]⟩
abbrev rngS:ByteArray:=⟨#[118,97,108,117,101,32,111,117,116,32,111,102,32,114,97,110,103,101]⟩
noncomputable def low:Nat:=(World.holding Tryz.prog default ⟨#[],#[],[]⟩).heap.size
noncomputable def laidWorld (os:Os):World:=
 let w0:=World.holding Tryz.prog os ⟨#[.cells #[.string synS] 337,.cells #[.string rngS] 337],#[],[]⟩
 {w0 with heap:=((((((w0.heap.modify 1 (z4P (z4i (H:=Unit) Rows.laid_internal_strconv_uint64pow10))).modify 4 (z4P (z4i (H:=Unit) Rows.laid_math_bits_deBruijn32tab))).modify 5 (z4P (z4i (H:=Unit) Rows.laid_math_bits_deBruijn64tab))).modify 7 (z4P (z4i (H:=Unit) Rows.laid_unicode_utf8_acceptRanges))).modify 6 (z4P (z4i (H:=Unit) Rows.laid_unicode_utf8_first))).modify 2 (z4P #[.iface 335 (.pointer (some ⟨low,0,none⟩))])).modify 3 (z4P #[.iface 335 (.pointer (some ⟨low+1,0,none⟩))])}
abbrev wArgs:Array Value:=#[.slice none 0 0]
theorem laid_met(os:Os):laidMet Tryz.prog Rows.consoleSaysRow.laid ((laidWorld os).forCall (fun _ _=>0) ⟨#[],wArgs,[]⟩).memory:=
 laidMet_of_run' 8 (by kernel_rfl) (by kernel_rfl)
theorem witness_row(os:Os){H:Type}(enc:TypeId×Value->H) :
 (OpenSpec.ofChange Rows.consoleSaysSpec).preRow enc Tryz.prog Tryz.f3 Rows.consoleSaysRow.domain false Rows.consoleSaysRow.laid ((laidWorld os).forCall (fun _ _=>0) ⟨#[],wArgs,[]⟩).memory wArgs:=by
 have hw:(DataW.whole enc Tryz.prog ((laidWorld os).forCall (fun _ _=>0) ⟨#[],wArgs,[]⟩).memory Tryz.f3.params.toList Rows.consoleSaysSpec.vars false wArgs.toList 8).map (fun x=>(x.1,x.2.1)) =
  some ([.nil],[]):=by kernel_rfl
 obtain⟨⟨x1,x2,x3⟩,hx,hx1⟩:=Option.map_eq_some_iff.1 hw;simp only[Prod.mk.injEq]at hx1;obtain⟨rfl,rfl⟩:=hx1;exact OpenSpec.preRow_of_cond 8 hx (by kernel_rfl) (fun k hk=>by cases hk) (by kernel_rfl) (laid_met os)
theorem lifted(os:Os)(started:os.Started)(H:Type)(enc:TypeId×Value->H)(F:Stop.Interp) :
 ReturnsInHanded {} Tryz.checked os 3 .any ((OpenSpec.ofChange Rows.consoleSaysSpec).preRow enc Tryz.prog Tryz.f3 Rows.consoleSaysRow.domain false Rows.consoleSaysRow.laid) (((OpenSpec.ofChange Rows.consoleSaysSpec).at F).post enc Tryz.prog Tryz.f3 false true false false):=by
 refine returnsInHanded_of_row (C:=Tryz.checked) (s:=OpenSpec.ofChange Rows.consoleSaysSpec) own started (by kernel_rfl) Tryz.func3
  (witness_row_atRef (enc:=enc) (C:=Tryz.checked) false (laidWorld os) wArgs rfl (by kernel_rfl) (by kernel_rfl) (by kernel_rfl) (witness_row os enc)) ?_
 intro W base args ds gs before hval0 hW _ _ _ hL hsh _;have hval:∀(j:Nat) t v,Tryz.f3.params[j]?=some t->args[j]?=some v->Value.okWide Tryz.prog W .any base t v:=hval0;have hE:Env W:=env hL hsh;have hW':=hW;obtain⟨p,q,hA0,hV,rfl,hfz,hnd⟩:=hW;have hA:DataW.TrodAll enc Tryz.prog W 0 (fun _=>true) true Tryz.f3.params.toList args.toList ds p:=hA0;rw[Tryz.params3]at hA hval;obtain⟨v0,vs0,d0,ds0,p0,q0,hargs,rfl,rfl,h0,r0⟩:=trodAll_cons hA;obtain⟨rfl,rfl,rfl⟩:=trodAll_nil r0;obtain rfl:args=#[v0]:=by cases args;simp_all
 obtain⟨rfl,rfl⟩:=trodVars_none hV;obtain⟨al0,n0,cap0,rfl⟩:=okWide_slice Tryz.underlying22 (hval 0 22 v0 rfl rfl);have k0:=h0;have lt0:∀x∈p0,x.block<W.heap.size:=by obtain⟨m,hm⟩:=k0;exact DataW.trod_lt m _ _ _ hm
 obtain⟨fuel0,hf0⟩:=h0;obtain⟨X0,hO0,_,hF0⟩:=open_row_strs (fuel:=fuel0) Tryz.underlying22 Tryz.underlying9 (by kernel_rfl) (by simpa[Value.cells]using hf0);clear hA0 hval0;refine(consoleSays_walk al0 n0 cap0 X0 W hE hO0 hF0).mono fun e W' ⟨he,bel⟩=>?_
 subst he;exact⟨_,rfl,_,_,_,[],_,[],hW',trodAll_mk1 (shut_bool Tryz.underlying4 _),(trodAll_cons_mk (Below.trod laidOut (by kernel_rfl) (of_decide_eq_true (by kernel_rfl)) k0 bel lt0) trodAll_mk0),rfl,bel.frame _,fun h=>by cases h⟩
theorem said:Rows.ConsoleSaysSaid:=
 OpenClaim.holds_of_cond 3 Tryz.f3 rfl rfl rfl rfl rfl rfl rfl ⟨rfl,rfl,rfl,rfl,rfl⟩ rfl rfl rfl rfl rfl (by kernel_rfl) Tryz.func3 (by kernel_rfl)
  (of_decide_eq_true (by kernel_rfl)) (by unfold Func.isWrapper;first|(rw[if_pos (by decide +kernel)];kernel_rfl)|(rw[if_neg (by decide +kernel)];exact⟨rfl,rfl⟩))
  (fun os started H enc _ F=>by rw[OpenClaim.pre_eq_preRow];exact lifted os started H enc F)
theorem plain (f : FuncId) (fn : Func) (hf : Tryz.pinned.checked.prog.funcNamed "marlinspike/marlinspikelaw.ConsoleSays" = some f) (hfn : Tryz.pinned.checked.prog.funcs[f]? = some fn) :
 true=Tryz.pinned.checked.prog.looks []/\∀(j:Nat) t,fn.params[j]?=some t->Tryz.pinned.checked.prog.wantsStandIn t=false:=by
 obtain rfl : f = 3 := Option.some.inj ((show Tryz.prog.funcNamed "marlinspike/marlinspikelaw.ConsoleSays" = some 3 by kernel_rfl).symm.trans hf) |>.symm
 obtain rfl:fn=Tryz.f3:=(Option.some.inj (Tryz.func3.symm.trans hfn)).symm;refine⟨by kernel_rfl,fun j t ht=>?_⟩;rw[Tryz.params3]at ht;have k0:Tryz.pinned.checked.prog.wantsStandIn 22=false:=by kernel_rfl
 match j,ht with
 |0,ht=>rw[show t=22 by simpa using ht.symm];exact k0
 |j+1,ht=>simp at ht
theorem card:Rows.ConsoleSaysCardSaid:=
 Claim7.holds_tied_plain_at .later [] _ _ _ _ said (fun _ h=>by cases h) (by kernel_rfl) (fun _ h=>by cases h) consoleSays_row_tie rfl ⟨rfl,rfl⟩ (by kernel_rfl) rfl plain (by kernel_rfl)
end Go.Proofs.YtbcpcbonlhlhpaaGreatDoor.consoleSays
namespace Go.Proofs.YtbcpcbonlhlhpaaGreatDoor
theorem consoleSays_holds:Rows.ConsoleSaysCardSaid:=consoleSays.card
end Go.Proofs.YtbcpcbonlhlhpaaGreatDoor
