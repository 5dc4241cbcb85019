/- What readLine does with a line of each kind, for every -/
import Derived.Test.YtbcpcbonlhlhpaaGreatDoorReadTie
namespace Go.Proofs.YtbcpcbonlhlhpaaGreatDoor
open Go.RowKit
set_option maxHeartbeats 2000000
set_option maxRecDepth 100000
theorem readLine_symbol(B bo:Nat)(vN vW vS vT:Value)(o:ObjF)(l:ByteArray)(wk:Bool)(l' a b:ByteArray)(w:World)(hE:Env w)(hR:z0n B w bo vN vW vS vT o)
 (hl':l'.size<=1000000) (hcut:Lib.hasPrefix l.data.toList [119,101,97,107,32]=wk) (htrim:(ByteArray.mk (Lib.trimPrefix l.data.toList [119,101,97,107,32]).toArray)=l')
 (hws:z3z l'=[⟨#[115,121,109,98,111,108]⟩,a,b]) (ha:a.size<=1000000) (hb:b.size<=1000000) (hn:o.nS+1<=1000000) :
 Calls Tryz.prog 133 #[.pointer (some ⟨bo,0,none⟩),.string l] w fun e w'=>e=.returned (.tuple #[])/\(∃v0 v1 v2 v3,z0n B w' bo v0 v1 v2 v3 (z2R o a (numF b.data.toList) wk))/\Kept B bo w w':=by
 have HC:=Tryz.strings_CutPrefix l ⟨#[119,101,97,107,32]⟩ w;have e0:(ByteArray.mk #[119,101,97,107,32]).data.toList=[119,101,97,107,32]:=rfl;rw[e0,hcut,htrim]at HC;obtain⟨m,hm⟩:=hE.maxLen;have HS:=Tryz.strings_Split l' ⟨#[32]⟩ m w (by omega) hm (by decide);have HWS:Lib.splitB ⟨#[32]⟩ 0 (Lib.countB l' ⟨#[32]⟩) l'=[⟨#[115,121,109,98,111,108]⟩,a,b]:=hws;have hcnt:Lib.countB l' ⟨#[32]⟩=2:=by
  have h:=Lib.splitB_all ⟨#[32]⟩ (by decide) 0 _ l' rfl;rw[HWS]at h;simp only[List.length_cons,List.length_nil]at h;omega
 rw[HWS,hcnt]at HS;simp only[List.map_cons,List.map_nil]at HS;have hBw:B<=w.heap.size:=hR.lo;have hX:Below w.heap.size w (w.alloc (.cells #[.string ⟨#[115,121,109,98,111,108]⟩,.string a,.string b] 9)):=(Below.refl _ _).alloc (Nat.le_refl _) _;have hY:=fun nq:Nat=>below_drewN hX nq
 have x0:=fun nq:Nat=>(show((w.alloc (.cells #[.string ⟨#[115,121,109,98,111,108]⟩,.string a,.string b] 9)).drewN nq).cell? ⟨w.heap.size,1,none⟩=some (.string a) by simp[go_sem])
 have x1:=fun nq:Nat=>(show((w.alloc (.cells #[.string ⟨#[115,121,109,98,111,108]⟩,.string a,.string b] 9)).drewN nq).cell? ⟨w.heap.size,2,none⟩=some (.string b) by simp[go_sem])
 clear e0 hcut htrim hcnt HWS hws hm hX;go_enter Tryz.func133,Tryz.ntmps133;go_wp2_with fail;refine HC.mono ?_;rintro e w' ⟨rfl,hw'⟩;replace hw':=hw'.symm;subst hw';go_wp2_with fail;refine HS.mono ?_;rintro e w' ⟨rfl,hw'⟩;replace hw':=hw'.symm;subst hw';clear HC HS;go_wp2;go_quiet (fail);go_wp2;replace hY:=hY nq;replace x0:=x0 nq;replace x1:=x1 nq;generalize (w.alloc (.cells #[.string ⟨#[115,121,109,98,111,108]⟩,.string a,.string b] 9)).drewN nq=Y at *;replace hR:=hR.below hY;replace hE:=hE.later hY;replace hY:Kept B bo w Y:=Kept.of hY hBw;have hC:=hR.c2;go_region_law (first|(refine z2k rfl _ _ 53 rfl _ _ _ rfl rfl happ ?_)|(go_simp;go_at_call 102;refine(clone_any _ _ (by assumption)).mono ?_;rintro e w2 ⟨rfl,hb⟩;(try replace hb:=z0v hb);replace hY:=hY.trans (Kept.of hb hR.lo);replace hR:=hR.below hb;replace hE:=hE.later hb;replace x0:=cell_later hb x0;replace x1:=cell_later hb x1;replace hC:=hR.c2;clear hb)|(go_simp;go_at_call 176;refine(z5T _ _ (by first|exact hE|exact hE.drew) (by assumption)).mono ?_;rintro e w2 ⟨rfl,hb⟩;(try replace hb:=z0v hb);replace hY:=hY.trans (Kept.of hb hR.lo);replace hR:=hR.below hb;replace hE:=hE.later hb;replace x0:=cell_later hb x0;replace x1:=cell_later hb x1;replace hC:=hR.c2;clear hb;obtain⟨g,cap,W,happ,g0,gz,hRn,hBn⟩:=hR.symGrow hY a (numF b.data.toList) wk hn;have qs:bo<w2.heap.size:=hR.lt))
 all_goals
  go_wp2;go_end0;exact⟨rfl,hRn,hBn⟩
end Go.Proofs.YtbcpcbonlhlhpaaGreatDoor
