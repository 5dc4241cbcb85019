/- What is kept, fresh and used of entries, and how they are written and read, is what the document says: the law EntrySays returns true at every input, and changes nothing (its card: the tables and sentinels of Go's library that its road names, tied to the program's text). -/
import Derived.Test.YthdccmjdbcllkaaGreatDoorCards
import Derived.Test.YthdccmjdbcllkaaGreatDoorTie
import Derived.Test.YthdccmjdbcllkaaGreatDoorEntrySaysWalk
import Derived.Test.YthdccmjdbcllkaaGreatDoorOpenEnt
import Derived.OpenShut
import Derived.ShutString
import Derived.Deep.DeepHandedRow
import Derived.Deep.DeepWitnessRowRef
import Derived.Lib.LaidTab
import Derived.Stop.LaidErr
namespace Go.Proofs.YthdccmjdbcllkaaGreatDoor.entrySays
open Go.ChangeShapes Go.WideShapes Go.ChangeAt Go.RowKit Go.Joins
open Go.ChangeMaps (open_string shut_string)
set_option linter.unusedVariables false
theorem own : ownKnob Tryz.prog.godebug = none := by kernel_rfl
theorem laidOut : laidOutB Tryz.prog = true := by kernel_rfl
theorem star : "*" ++ "errors.errorString" = "*errors.errorString" := by decide
theorem isType (u : TypeId) (h : Tryz.prog.typeName? 3 u = some "*errors.errorString") : u = 261 :=
 typeName_ptr_named (nm := "errors.errorString") (by rw [star]; kernel_rfl) (by kernel_rfl) (by decide) u (by rw [star]; exact h)
theorem env {W : World} (hL : laidMet Tryz.prog Rows.entrySaysRow.laid W) (hsh : W.ShapedOpen Tryz.prog) : Env W := by
 have h1 := hL.tail.tail
 have h2 : laidMet Tryz.prog (("internal/strconv.uint64pow10", Lib.tabData .u64 Lib.pow10Tab) :: _) W := h1
 have h3 := h1.tail.tail
 have h4 := h3.tail
 obtain ⟨a1,s1,e1,_⟩ := laid_sentinel (g := 3) (ti := 32) (tp := 261) (te := 263) (ts := 9) h3 (by kernel_rfl) (by kernel_rfl) Tryz.underlying32 isType Tryz.underlying261 Tryz.underlying263 rfl rfl Tryz.underlying9 (by kernel_rfl) (by kernel_rfl)
 obtain ⟨a2,s2,e2,_⟩ := laid_sentinel (g := 2) (ti := 32) (tp := 261) (te := 263) (ts := 9) h4 (by kernel_rfl) (by kernel_rfl) Tryz.underlying32 isType Tryz.underlying261 Tryz.underlying263 rfl rfl Tryz.underlying9 (by kernel_rfl) (by kernel_rfl)
 refine ⟨Lib.tabIs_of_head (g := 0) (t := 222) (e := 49) (n := 20) (by kernel_rfl) (by kernel_rfl) (by kernel_rfl) (by kernel_rfl) (by kernel_rfl) (by kernel_rfl) h2,Go.Proofs.cell_of_shapedOpen_int (zero := #[.int .i64 0]) (t := 3) hsh (of_decide_eq_true (by kernel_rfl)) (by kernel_rfl) rfl (by kernel_rfl) (by kernel_rfl) Tryz.underlying3,?_,?_⟩
 ·exact ⟨_,by simpa using World.var?_cell (g := 2) (by kernel_rfl) e2 0,.inr ⟨_,_,rfl⟩⟩
 ·exact ⟨_,by simpa using World.var?_cell (g := 3) (by kernel_rfl) e1 0,.inr ⟨_,_,rfl⟩⟩
def litCell {H : Type} : DataW H -> List Value
 | .lit (.int k n) => [.int k n]
 | .agg ds => ds.map fun d => match d with | .lit (.int k n) => Value.int k n | _ => undef
 | _ => []
def cellsOfTable {H : Type} : DataW H -> Array Value
 | .agg ds => (ds.flatMap litCell).toArray
 | _ => #[]
def withCells (c : Array Value) : Obj -> Obj
 | .cells _ t frozen => .cells c t frozen
 | o => o
abbrev synS : ByteArray := ⟨#[105,110,118,97,108,105,100,32,115,121,110,116,97,120]⟩
abbrev rngS : ByteArray := ⟨#[118,97,108,117,101,32,111,117,116,32,111,102,32,114,97,110,103,101]⟩
noncomputable def low : Nat := (World.holding Tryz.prog default ⟨#[],#[],[]⟩).heap.size
noncomputable def laidWorld (os : Os) : World :=
 let w0 := World.holding Tryz.prog os ⟨#[.cells #[.string synS] 263,.cells #[.string rngS] 263],#[],[]⟩
 { w0 with heap := ((((((w0.heap.modify 0 (withCells (cellsOfTable (H := Unit) Rows.laid_internal_strconv_uint64pow10))).modify 4 (withCells (cellsOfTable (H := Unit) Rows.laid_math_bits_deBruijn32tab))).modify 5 (withCells (cellsOfTable (H := Unit) Rows.laid_math_bits_deBruijn64tab))).modify 7 (withCells (cellsOfTable (H := Unit) Rows.laid_unicode_utf8_acceptRanges))).modify 6 (withCells (cellsOfTable (H := Unit) Rows.laid_unicode_utf8_first))).modify 2 (withCells #[.iface 261 (.pointer (some ⟨low,0,none⟩))])).modify 3 (withCells #[.iface 261 (.pointer (some ⟨low + 1,0,none⟩))]) }
abbrev wArgs : Array Value := #[.slice none 0 0,.slice none 0 0,.string ⟨#[]⟩,.agg #[.string ⟨#[]⟩,.slice none 0 0,.slice none 0 0],.string ⟨#[]⟩]
theorem laid_met (os : Os) : laidMet Tryz.prog Rows.entrySaysRow.laid ((laidWorld os).forCall (fun _ _ => 0) ⟨#[],wArgs,[]⟩).memory :=
 laidMet_of_run' 8 (by kernel_rfl) (by kernel_rfl)
theorem witness_row (os : Os) {H : Type} (enc : TypeId × Value -> H) :
 (OpenSpec.ofChange Rows.entrySaysSpec).preRow enc Tryz.prog Tryz.f3 Rows.entrySaysRow.domain false Rows.entrySaysRow.laid ((laidWorld os).forCall (fun _ _ => 0) ⟨#[],wArgs,[]⟩).memory wArgs := by
 have hw : (DataW.whole enc Tryz.prog ((laidWorld os).forCall (fun _ _ => 0) ⟨#[],wArgs,[]⟩).memory Tryz.f3.params.toList Rows.entrySaysSpec.vars false wArgs.toList 8).map (fun x => (x.1,x.2.1)) =
  some ([.nil,.nil,.lit (.string []),.agg [.lit (.string []),.nil,.nil],.lit (.string [])],[]) := by kernel_rfl
 obtain ⟨⟨x1,x2,x3⟩,hx,hx1⟩ := Option.map_eq_some_iff.1 hw
 simp only [Prod.mk.injEq] at hx1
 obtain ⟨rfl,rfl⟩ := hx1
 exact OpenSpec.preRow_of_cond 8 hx (by kernel_rfl) (fun k hk => by cases hk) (by kernel_rfl) (laid_met os)
set_option maxRecDepth 100000 in
theorem lifted (os : Os) (started : os.Started) (H : Type) (enc : TypeId × Value -> H) (F : Stop.Interp) :
 ReturnsInHanded {} Tryz.checked os 3 .any ((OpenSpec.ofChange Rows.entrySaysSpec).preRow enc Tryz.prog Tryz.f3 Rows.entrySaysRow.domain false Rows.entrySaysRow.laid) (((OpenSpec.ofChange Rows.entrySaysSpec).at F).post enc Tryz.prog Tryz.f3 false true false false) := by
 refine returnsInHanded_of_row (C := Tryz.checked) (s := OpenSpec.ofChange Rows.entrySaysSpec) own started (by kernel_rfl) Tryz.func3
  (witness_row_atRef (enc := enc) (C := Tryz.checked) false (laidWorld os) wArgs rfl (by kernel_rfl) (by kernel_rfl) (by kernel_rfl) (witness_row os enc)) ?_
 intro W base args ds gs before hval0 hW _ _ _ hL hsh _
 have hval : ∀ (j : Nat) t v,Tryz.f3.params[j]? = some t -> args[j]? = some v -> Value.okWide Tryz.prog W .any base t v := hval0
 have hE : Env W := env hL hsh
 have hW' := hW
 obtain ⟨p,q,hA0,hV,rfl,hfz,hnd⟩ := hW
 have hA : DataW.TrodAll enc Tryz.prog W 0 (fun _ => true) true Tryz.f3.params.toList args.toList ds p := hA0
 rw [Tryz.params3] at hA hval
 obtain ⟨v0,vs0,d0,ds0,p0,q0,hargs,rfl,rfl,h0,r0⟩ := trodAll_cons hA
 obtain ⟨v1,vs1,d1,ds1,p1,q1,rfl,rfl,rfl,h1,r1⟩ := trodAll_cons r0
 obtain ⟨v2,vs2,d2,ds2,p2,q2,rfl,rfl,rfl,h2,r2⟩ := trodAll_cons r1
 obtain ⟨v3,vs3,d3,ds3,p3,q3,rfl,rfl,rfl,h3,r3⟩ := trodAll_cons r2
 obtain ⟨v4,vs4,d4,ds4,p4,q4,rfl,rfl,rfl,h4,r4⟩ := trodAll_cons r3
 obtain ⟨rfl,rfl,rfl⟩ := trodAll_nil r4
 obtain rfl : args = #[v0,v1,v2,v3,v4] := by cases args; simp_all
 obtain ⟨rfl,rfl⟩ := trodVars_none hV
 obtain ⟨al0,n0,cap0,rfl⟩ := okWide_slice Tryz.underlying22 (hval 0 22 v0 rfl rfl)
 have k0 := h0
 have lt0 : ∀ x ∈ p0,x.block < W.heap.size := by obtain ⟨m,hm⟩ := k0; exact DataW.trod_lt m _ _ _ hm
 obtain ⟨fuel0,hf0⟩ := h0
 obtain ⟨X0,hO0,hF0⟩ := open_acts (fuel := fuel0) (by simpa [Value.cells] using hf0)
 have hcap0 : n0 <= cap0 := slice_capA (enc := enc) (w := W) (fuel := fuel0) Tryz.underlying22 (by simpa [Value.cells] using hf0)
 obtain ⟨al1,n1,cap1,rfl⟩ := okWide_slice Tryz.underlying22 (hval 1 22 v1 rfl rfl)
 have k1 := h1
 have lt1 : ∀ x ∈ p1,x.block < W.heap.size := by obtain ⟨m,hm⟩ := k1; exact DataW.trod_lt m _ _ _ hm
 obtain ⟨fuel1,hf1⟩ := h1
 obtain ⟨X1,hO1,hF1⟩ := open_acts (fuel := fuel1) (by simpa [Value.cells] using hf1)
 have hcap1 : n1 <= cap1 := slice_capA (enc := enc) (w := W) (fuel := fuel1) Tryz.underlying22 (by simpa [Value.cells] using hf1)
 obtain ⟨s2,rfl,rfl,rfl,w2⟩ := open_string Tryz.underlying9 (hval 2 9 v2 rfl rfl) h2
 have k3 := h3
 have lt3 : ∀ x ∈ p3,x.block < W.heap.size := by obtain ⟨m,hm⟩ := k3; exact DataW.trod_lt m _ _ _ hm
 obtain ⟨v3e,o3,rfl,hO3,hF3⟩ := open_entry (hval 3 26 v3 rfl rfl) h3
 obtain ⟨s4,rfl,rfl,rfl,w4⟩ := open_string Tryz.underlying9 (hval 4 9 v4 rfl rfl) h4
 clear hA0 hval0
 refine (entrySays_walk al0 n0 cap0 X0 al1 n1 cap1 X1 s2 v3e o3 s4 W hE hO0 hF0 hO1 hF1 hO3 hF3).mono fun e W' ⟨he,bel⟩ => ?_
 subst he
 exact ⟨_,rfl,_,_,_,[],_,[],hW',trodAll_mk1 (shut_bool Tryz.underlying4 _),(trodAll_cons_mk (Below.trod laidOut (by kernel_rfl) (of_decide_eq_true (by kernel_rfl)) k0 bel lt0) (trodAll_cons_mk (Below.trod laidOut (by kernel_rfl) (of_decide_eq_true (by kernel_rfl)) k1 bel lt1) (trodAll_cons_mk (shut_string Tryz.underlying9 w2) (trodAll_cons_mk (Below.trod laidOut (by kernel_rfl) (of_decide_eq_true (by kernel_rfl)) k3 bel lt3) (trodAll_cons_mk (shut_string Tryz.underlying9 w4) trodAll_mk0))))),rfl,bel.frame _,fun h => by cases h⟩
theorem said : Rows.EntrySaysSaid :=
 OpenClaim.holds_of_cond 3 Tryz.f3 rfl rfl rfl rfl rfl rfl rfl ⟨rfl,rfl,rfl,rfl,rfl⟩ rfl rfl rfl rfl rfl (by kernel_rfl) Tryz.func3 (by kernel_rfl)
  (of_decide_eq_true (by kernel_rfl)) (by unfold Func.isWrapper; first | (rw [if_pos (by decide +kernel)]; kernel_rfl) | (rw [if_neg (by decide +kernel)]; exact ⟨rfl,rfl⟩))
  (fun os started H enc _ F => by rw [OpenClaim.pre_eq_preRow]; exact lifted os started H enc F)
theorem plain (f : FuncId) (fn : Func) (hf : Tryz.pinned.checked.prog.funcNamed "marlinspike/marlinspikelaw.EntrySays" = some f) (hfn : Tryz.pinned.checked.prog.funcs[f]? = some fn) :
 true = Tryz.pinned.checked.prog.looks [] /\ ∀ (j : Nat) t,fn.params[j]? = some t -> Tryz.pinned.checked.prog.wantsStandIn t = false := by
 obtain rfl : f = 3 := Option.some.inj ((show Tryz.prog.funcNamed "marlinspike/marlinspikelaw.EntrySays" = some 3 by kernel_rfl).symm.trans hf) |>.symm
 obtain rfl : fn = Tryz.f3 := (Option.some.inj (Tryz.func3.symm.trans hfn)).symm
 refine ⟨by kernel_rfl,fun j t ht => ?_⟩
 rw [Tryz.params3] at ht
 have k0 : Tryz.pinned.checked.prog.wantsStandIn 22 = false := by kernel_rfl
 have k1 : Tryz.pinned.checked.prog.wantsStandIn 22 = false := by kernel_rfl
 have k2 : Tryz.pinned.checked.prog.wantsStandIn 9 = false := by kernel_rfl
 have k3 : Tryz.pinned.checked.prog.wantsStandIn 26 = false := by kernel_rfl
 have k4 : Tryz.pinned.checked.prog.wantsStandIn 9 = false := by kernel_rfl
 match j,ht with
 | 0,ht => rw [show t = 22 by simpa using ht.symm]; exact k0
 | 1,ht => rw [show t = 22 by simpa using ht.symm]; exact k1
 | 2,ht => rw [show t = 9 by simpa using ht.symm]; exact k2
 | 3,ht => rw [show t = 26 by simpa using ht.symm]; exact k3
 | 4,ht => rw [show t = 9 by simpa using ht.symm]; exact k4
 | j + 5,ht => simp at ht
theorem card : Rows.EntrySaysCardSaid :=
 Claim7.holds_tied_plain_at .later [] _ _ _ _ said (fun _ h => by cases h) (by kernel_rfl) (fun _ h => by cases h) entrySays_row_tie rfl ⟨rfl,rfl⟩ (by kernel_rfl) rfl plain (by kernel_rfl)
end Go.Proofs.YthdccmjdbcllkaaGreatDoor.entrySays
namespace Go.Proofs.YthdccmjdbcllkaaGreatDoor
theorem entrySays_holds : Rows.EntrySaysCardSaid := entrySays.card
end Go.Proofs.YthdccmjdbcllkaaGreatDoor
