/- What readLine does with a line of each kind, for every -/
import Derived.Test.YtbcpcbonlhlhpaaGreatDoorReadThree
import Derived.Test.YtbcpcbonlhlhpaaGreatDoorReadBase
set_option maxRecDepth 100000
set_option maxHeartbeats 2000000
namespace Go.Proofs.YtbcpcbonlhlhpaaGreatDoor
open Go.RowKit
theorem readLine_whole(B bo:Nat)(vN vW vS vT:Value)(o:ObjF)(l:ByteArray)(wk:Bool)(l' a b c:ByteArray)(w:World)(hE:Env w)(hR:z0n B w bo vN vW vS vT o)
 (hl':l'.size<=1000000) (hcut:Lib.hasPrefix l.data.toList [119,101,97,107,32]=wk) (htrim:(ByteArray.mk (Lib.trimPrefix l.data.toList [119,101,97,107,32]).toArray)=l')
 (hws:z3z l'=[⟨#[119,104,111,108,101]⟩,a,b,c]) (ha:a.size<=1000000) (hb:b.size<=1000000) (hc:c.size<=1000000) (hn:o.nT+1<=1000000) :
 Calls Tryz.prog 133 #[.pointer (some ⟨bo,0,none⟩),.string l] w fun e w'=>e=.returned (.tuple #[])/\(∃v0 v1 v2 v3,z0n B w' bo v0 v1 v2 v3 (z1G o (numF a.data.toList) 2 (numF b.data.toList) c wk))/\Kept B bo w w':=by
 have HC:=Tryz.strings_CutPrefix l ⟨#[119,101,97,107,32]⟩ w;have e0:(ByteArray.mk #[119,101,97,107,32]).data.toList=[119,101,97,107,32]:=rfl;rw[e0,hcut,htrim]at HC;obtain⟨m,hm⟩:=hE.maxLen;have HS:=Tryz.strings_Split l' ⟨#[32]⟩ m w (by omega) hm (by decide);have HWS:Lib.splitB ⟨#[32]⟩ 0 (Lib.countB l' ⟨#[32]⟩) l'=[⟨#[119,104,111,108,101]⟩,a,b,c]:=hws;have hcnt:Lib.countB l' ⟨#[32]⟩=3:=by
  have h:=Lib.splitB_all ⟨#[32]⟩ (by decide) 0 _ l' rfl;rw[HWS]at h;simp only[List.length_cons,List.length_nil]at h;omega
 rw[HWS,hcnt]at HS;simp only[List.map_cons,List.map_nil]at HS;have hBw:B<=w.heap.size:=hR.lo;have hX:Below w.heap.size w (w.alloc (.cells #[.string ⟨#[119,104,111,108,101]⟩,.string a,.string b,.string c] 9)):=(Below.refl _ _).alloc (Nat.le_refl _) _;have hY:=fun nq:Nat=>below_drewN hX nq
 have x0:=fun nq:Nat=>(show((w.alloc (.cells #[.string ⟨#[119,104,111,108,101]⟩,.string a,.string b,.string c] 9)).drewN nq).cell? ⟨w.heap.size,1,none⟩=some (.string a) by simp[go_sem])
 have x1:=fun nq:Nat=>(show((w.alloc (.cells #[.string ⟨#[119,104,111,108,101]⟩,.string a,.string b,.string c] 9)).drewN nq).cell? ⟨w.heap.size,2,none⟩=some (.string b) by simp[go_sem])
 have x2:=fun nq:Nat=>(show((w.alloc (.cells #[.string ⟨#[119,104,111,108,101]⟩,.string a,.string b,.string c] 9)).drewN nq).cell? ⟨w.heap.size,3,none⟩=some (.string c) by simp[go_sem])
 clear e0 hcut htrim hcnt HWS hws hm hX;go_enter Tryz.func133,Tryz.ntmps133;go_wp2_with fail;refine HC.mono ?_;rintro e w' ⟨rfl,hw'⟩;replace hw':=hw'.symm;subst hw';go_wp2_with fail;refine HS.mono ?_;rintro e w' ⟨rfl,hw'⟩;replace hw':=hw'.symm;subst hw';clear HC HS;go_wp2;go_quiet (fail);go_wp2;replace hY:=hY nq;replace x0:=x0 nq;replace x1:=x1 nq;replace x2:=x2 nq;generalize (w.alloc (.cells #[.string ⟨#[119,104,111,108,101]⟩,.string a,.string b,.string c] 9)).drewN nq=Y at *;replace hR:=hR.below hY;replace hE:=hE.later hY;replace hY:Kept B bo w Y:=Kept.of hY hBw;have hC:=hR.c3;go_region_law (first|(refine z2k rfl _ _ 54 rfl _ _ _ rfl rfl happ ?_)|(go_simp;go_at_call 177;refine(namedTie_any _ _ _ _ a b c _ (by first|exact hE|exact hE.drew) (by assumption) (by assumption) (by assumption) (by exact x0) (by exact x1) (by exact x2)).mono ?_;rintro e w2 ⟨rfl,hb⟩;(try replace hb:=z0v hb);replace hY:=hY.trans (Kept.of hb hR.lo);replace hR:=hR.below hb;replace hE:=hE.later hb;replace x0:=cell_later hb x0;replace x1:=cell_later hb x1;replace x2:=cell_later hb x2;replace hC:=hR.c3;clear hb;obtain⟨g,cap,W,happ,g0,gz,hRn,hBn⟩:=hR.tieGrow hY (numF a.data.toList) 2 (numF b.data.toList) c wk hn;have qs:bo<w2.heap.size:=hR.lt))
 all_goals
  go_wp2;go_end0;exact⟨rfl,hRn,hBn⟩
theorem readLine_near(B bo:Nat)(vN vW vS vT:Value)(o:ObjF)(l:ByteArray)(wk:Bool)(l' a b c:ByteArray)(w:World)(hE:Env w)(hR:z0n B w bo vN vW vS vT o)
 (hl':l'.size<=1000000) (hcut:Lib.hasPrefix l.data.toList [119,101,97,107,32]=wk) (htrim:(ByteArray.mk (Lib.trimPrefix l.data.toList [119,101,97,107,32]).toArray)=l')
 (hws:z3z l'=[⟨#[110,101,97,114]⟩,a,b,c]) (ha:a.size<=1000000) (hb:b.size<=1000000) (hc:c.size<=1000000) (hn:o.nT+1<=1000000) :
 Calls Tryz.prog 133 #[.pointer (some ⟨bo,0,none⟩),.string l] w fun e w'=>e=.returned (.tuple #[])/\(∃v0 v1 v2 v3,z0n B w' bo v0 v1 v2 v3 (z1G o (numF a.data.toList) 3 (numF b.data.toList) c wk))/\Kept B bo w w':=by
 have HC:=Tryz.strings_CutPrefix l ⟨#[119,101,97,107,32]⟩ w;have e0:(ByteArray.mk #[119,101,97,107,32]).data.toList=[119,101,97,107,32]:=rfl;rw[e0,hcut,htrim]at HC;obtain⟨m,hm⟩:=hE.maxLen;have HS:=Tryz.strings_Split l' ⟨#[32]⟩ m w (by omega) hm (by decide);have HWS:Lib.splitB ⟨#[32]⟩ 0 (Lib.countB l' ⟨#[32]⟩) l'=[⟨#[110,101,97,114]⟩,a,b,c]:=hws;have hcnt:Lib.countB l' ⟨#[32]⟩=3:=by
  have h:=Lib.splitB_all ⟨#[32]⟩ (by decide) 0 _ l' rfl;rw[HWS]at h;simp only[List.length_cons,List.length_nil]at h;omega
 rw[HWS,hcnt]at HS;simp only[List.map_cons,List.map_nil]at HS;have hBw:B<=w.heap.size:=hR.lo;have hX:Below w.heap.size w (w.alloc (.cells #[.string ⟨#[110,101,97,114]⟩,.string a,.string b,.string c] 9)):=(Below.refl _ _).alloc (Nat.le_refl _) _;have hY:=fun nq:Nat=>below_drewN hX nq
 have x0:=fun nq:Nat=>(show((w.alloc (.cells #[.string ⟨#[110,101,97,114]⟩,.string a,.string b,.string c] 9)).drewN nq).cell? ⟨w.heap.size,1,none⟩=some (.string a) by simp[go_sem])
 have x1:=fun nq:Nat=>(show((w.alloc (.cells #[.string ⟨#[110,101,97,114]⟩,.string a,.string b,.string c] 9)).drewN nq).cell? ⟨w.heap.size,2,none⟩=some (.string b) by simp[go_sem])
 have x2:=fun nq:Nat=>(show((w.alloc (.cells #[.string ⟨#[110,101,97,114]⟩,.string a,.string b,.string c] 9)).drewN nq).cell? ⟨w.heap.size,3,none⟩=some (.string c) by simp[go_sem])
 clear e0 hcut htrim hcnt HWS hws hm hX;go_enter Tryz.func133,Tryz.ntmps133;go_wp2_with fail;refine HC.mono ?_;rintro e w' ⟨rfl,hw'⟩;replace hw':=hw'.symm;subst hw';go_wp2_with fail;refine HS.mono ?_;rintro e w' ⟨rfl,hw'⟩;replace hw':=hw'.symm;subst hw';clear HC HS;go_wp2;go_quiet (fail);go_wp2;replace hY:=hY nq;replace x0:=x0 nq;replace x1:=x1 nq;replace x2:=x2 nq;generalize (w.alloc (.cells #[.string ⟨#[110,101,97,114]⟩,.string a,.string b,.string c] 9)).drewN nq=Y at *;replace hR:=hR.below hY;replace hE:=hE.later hY;replace hY:Kept B bo w Y:=Kept.of hY hBw;have hC:=hR.c3;go_region_law (first|(refine z2k rfl _ _ 54 rfl _ _ _ rfl rfl happ ?_)|(go_simp;go_at_call 177;refine(namedTie_any _ _ _ _ a b c _ (by first|exact hE|exact hE.drew) (by assumption) (by assumption) (by assumption) (by exact x0) (by exact x1) (by exact x2)).mono ?_;rintro e w2 ⟨rfl,hb⟩;(try replace hb:=z0v hb);replace hY:=hY.trans (Kept.of hb hR.lo);replace hR:=hR.below hb;replace hE:=hE.later hb;replace x0:=cell_later hb x0;replace x1:=cell_later hb x1;replace x2:=cell_later hb x2;replace hC:=hR.c3;clear hb;obtain⟨g,cap,W,happ,g0,gz,hRn,hBn⟩:=hR.tieGrow hY (numF a.data.toList) 3 (numF b.data.toList) c wk hn;have qs:bo<w2.heap.size:=hR.lt))
 all_goals
  go_wp2;go_end0;exact⟨rfl,hRn,hBn⟩
end Go.Proofs.YtbcpcbonlhlhpaaGreatDoor
namespace Go.Proofs.YtbcpcbonlhlhpaaGreatDoor
open Go.RowKit
theorem kind_of{k:ByteArray}{l:List UInt8}(h:k.toList=l):k=⟨l.toArray⟩:=by
 subst h;rw[ByteArray.toList_eq]
theorem readLine_other(B bo:Nat)(vN vW vS vT:Value)(o:ObjF)(l:ByteArray)(wk:Bool)(l' k:ByteArray)(rest:List ByteArray)(w:World)(hE:Env w)(hR:z0n B w bo vN vW vS vT o)
 (hl':l'.size<=1000000) (hcut:Lib.hasPrefix l.data.toList [119,101,97,107,32]=wk) (htrim:(ByteArray.mk (Lib.trimPrefix l.data.toList [119,101,97,107,32]).toArray)=l')
 (hws:z3z l'=k :: rest)
 (n1:k=⟨#[110,101,101,100]⟩->rest.length≠1) (n2:k=⟨#[119,111,114,100]⟩->rest.length≠1) (n3:k=⟨#[115,121,109,98,111,108]⟩->rest.length≠2)
 (n4:k=⟨#[98,97,115,101]⟩->rest.length≠2) (n5:k=⟨#[119,104,111,108,101]⟩->rest.length≠3) (n6:k=⟨#[110,101,97,114]⟩->rest.length≠3) :
 Calls Tryz.prog 133 #[.pointer (some ⟨bo,0,none⟩),.string l] w fun e w'=>e=.returned (.tuple #[])/\(∃v0 v1 v2 v3,z0n B w' bo v0 v1 v2 v3 o)/\Kept B bo w w':=by
 have HC:=Tryz.strings_CutPrefix l ⟨#[119,101,97,107,32]⟩ w;have e0:(ByteArray.mk #[119,101,97,107,32]).data.toList=[119,101,97,107,32]:=rfl;rw[e0,hcut,htrim]at HC;obtain⟨m,hm⟩:=hE.maxLen;have HS:=Tryz.strings_Split l' ⟨#[32]⟩ m w (by omega) hm (by decide);have HWS:Lib.splitB ⟨#[32]⟩ 0 (Lib.countB l' ⟨#[32]⟩) l'=k :: rest:=hws;have hcnt:Lib.countB l' ⟨#[32]⟩=rest.length:=by
  have h:=Lib.splitB_all ⟨#[32]⟩ (by decide) 0 _ l' rfl;rw[HWS]at h;simp only[List.length_cons]at h;omega
 have hle:rest.length<=1000000:=by
  have:=Lib.countB_le ⟨#[32]⟩ (by decide) _ l' (Nat.le_refl _);omega
 rw[HWS,hcnt]at HS;have harr:((k :: rest).map Value.string).toArray[0]?=some (.string k):=rfl;have hBw:B<=w.heap.size:=hR.lo;have hX:Below w.heap.size w (w.alloc (.cells ((k :: rest).map Value.string).toArray 9)):=(Below.refl _ _).alloc (Nat.le_refl _) _;have hY:=fun nq:Nat=>below_drewN hX nq
 generalize ((k :: rest).map Value.string).toArray=arr at *;generalize rest.length=n at *;replace n1:k.toList=[110,101,101,100]->((n:Int)==1)=false:=fun h=>by
  have:=n1 (kind_of h);simp only[beq_eq_false_iff_ne,ne_eq];omega
 replace n2:k.toList=[119,111,114,100]->((n:Int)==1)=false:=fun h=>by
  have:=n2 (kind_of h);simp only[beq_eq_false_iff_ne,ne_eq];omega
 replace n3:k.toList=[115,121,109,98,111,108]->((n:Int)==2)=false:=fun h=>by
  have:=n3 (kind_of h);simp only[beq_eq_false_iff_ne,ne_eq];omega
 replace n4:k.toList=[98,97,115,101]->((n:Int)==2)=false:=fun h=>by
  have:=n4 (kind_of h);simp only[beq_eq_false_iff_ne,ne_eq];omega
 replace n5:k.toList=[119,104,111,108,101]->((n:Int)==3)=false:=fun h=>by
  have:=n5 (kind_of h);simp only[beq_eq_false_iff_ne,ne_eq];omega
 replace n6:k.toList=[110,101,97,114]->((n:Int)==3)=false:=fun h=>by
  have:=n6 (kind_of h);simp only[beq_eq_false_iff_ne,ne_eq];omega
 clear e0 hcut htrim hcnt HWS hws hm hX;go_enter Tryz.func133,Tryz.ntmps133;go_wp2_with fail;refine HC.mono ?_;rintro e w' ⟨rfl,hw'⟩;replace hw':=hw'.symm;subst hw';go_wp2_with fail;refine HS.mono ?_;rintro e w' ⟨rfl,hw'⟩;replace hw':=hw'.symm;subst hw';clear HC HS;go_wp2;go_quiet (fail);replace hY:=hY nq;generalize (w.alloc (.cells arr 9)).drewN nq=Y at *;go_wp2
 all_goals first
  |(go_end0;exact⟨rfl,⟨_,_,_,_,hR.below hY⟩,Kept.of hY hBw⟩)
  |exact absurd ‹((n:Int)==1)=true› (by rw[n1 ‹_›];decide)
  |exact absurd ‹((n:Int)==1)=true› (by rw[n2 ‹_›];decide)
  |exact absurd ‹((n:Int)==2)=true› (by rw[n3 ‹_›];decide)
  |exact absurd ‹((n:Int)==2)=true› (by rw[n4 ‹_›];decide)
  |exact absurd ‹((n:Int)==3)=true› (by rw[n5 ‹_›];decide)
  |exact absurd ‹((n:Int)==3)=true› (by rw[n6 ‹_›];decide)
end Go.Proofs.YtbcpcbonlhlhpaaGreatDoor
namespace Go.Proofs.YtbcpcbonlhlhpaaGreatDoor
open Go.RowKit
theorem z4D (sep:ByteArray):∀(k:Nat) (s x:ByteArray),x∈Lib.splitB sep 0 k s->x.size<=s.size
 |0,s,x,h=>by
  rw[Lib.splitB_zero,List.mem_singleton]at h;rw[h];exact Nat.le_refl _
 |k+1,s,x,h=>by
  unfold Lib.splitB at h;split at h
  ·rw[List.mem_singleton]at h;rw[h];exact Nat.le_refl _
  ·rcases List.mem_cons.1 h with h|h
   ·rw[h];simp;omega
   ·have:=z4D sep k _ x h;have h2:(s.extract ((Lib.indexB s sep).toNat+sep.size) s.size).size<=s.size:=by simp
    omega
def kNeed:ByteArray:=⟨#[110,101,101,100]⟩
def kWord:ByteArray:=⟨#[119,111,114,100]⟩
def kSymbol:ByteArray:=⟨#[115,121,109,98,111,108]⟩
def kBase:ByteArray:=⟨#[98,97,115,101]⟩
def kWhole:ByteArray:=⟨#[119,104,111,108,101]⟩
def kNear:ByteArray:=⟨#[110,101,97,114]⟩
def z2q (o:ObjF)(wk:Bool):List ByteArray->ObjF
 | [k,a]=>if k=kNeed then z2f o a else if k=kWord then z1L o (numF a.data.toList)else o
 | [k,a,b]=>if k=kSymbol then z2R o a (numF b.data.toList) wk else if k=kBase then z1G o (numF a.data.toList) 1 (numF b.data.toList) ⟨#[]⟩ wk else o
 | [k,a,b,c]=>if k=kWhole then z1G o (numF a.data.toList) 2 (numF b.data.toList) c wk else if k=kNear then z1G o (numF a.data.toList) 3 (numF b.data.toList) c wk else o
 |_=>o
def z5h (l:ByteArray):Bool:=Lib.hasPrefix l.data.toList [119,101,97,107,32]
def z3K (l:ByteArray):ByteArray:=⟨(Lib.trimPrefix l.data.toList [119,101,97,107,32]).toArray⟩
def z4Y (o:ObjF)(l:ByteArray):ObjF:=z2q o (z5h l) (z3z (z3K l))
theorem unWeak_size(l:ByteArray):(z3K l).size<=l.size:=by
 have h:(Lib.trimPrefix l.data.toList [119,101,97,107,32]).length<=l.data.toList.length:=by
  unfold Lib.trimPrefix;split <;> simp
 have e:(z3K l).size=(Lib.trimPrefix l.data.toList [119,101,97,107,32]).length:=by simp[z3K,ByteArray.size]
 have e2:l.data.toList.length=l.size:=by simp
 omega
theorem wordsF_counts(o:ObjF)(wk:Bool)(xs:List ByteArray)(n:Nat)(h:o.nN<=n/\o.nW<=n/\o.nS<=n/\o.nT<=n):(z2q o wk xs).nN<=n+1/\(z2q o wk xs).nW<=n+1/\(z2q o wk xs).nS<=n+1/\(z2q o wk xs).nT<=n+1:=by
 unfold z2q;split
 ·split
  ·simp only[z2f];omega
  ·split
   ·simp only[z1L];omega
   ·omega
 ·split
  ·simp only[z2R];omega
  ·split
   ·simp only[z1G];omega
   ·omega
 ·split
  ·simp only[z1G];omega
  ·split
   ·simp only[z1G];omega
   ·omega
 ·omega
theorem len_two{α:Type}{l:List α}(h:l.length=2):∃a b,l=[a,b]:=by
 match l,h with
 | [a,b],_=>exact⟨a,b,rfl⟩
theorem len_three{α:Type}{l:List α}(h:l.length=3):∃a b c,l=[a,b,c]:=by
 match l,h with
 | [a,b,c],_=>exact⟨a,b,c,rfl⟩
theorem readLine_any(B bo:Nat)(vN vW vS vT:Value)(o:ObjF)(l:ByteArray)(w:World)(hE:Env w)(hR:z0n B w bo vN vW vS vT o)(hl:l.size<=1000000)(hn:o.nN+1<=1000000/\o.nW+1<=1000000/\o.nS+1<=1000000/\o.nT+1<=1000000) :
 Calls Tryz.prog 133 #[.pointer (some ⟨bo,0,none⟩),.string l] w fun e w'=>e=.returned (.tuple #[])/\(∃v0 v1 v2 v3,z0n B w' bo v0 v1 v2 v3 (z4Y o l))/\Kept B bo w w':=by
 have hu:=unWeak_size l;have hsz:∀x∈z3z (z3K l),x.size<=1000000:=fun x hx=>by
  have:=z4D _ _ _ _ hx;omega
 unfold z4Y;have hne:z3z (z3K l) ≠ []:=by
  intro h;have h2:=Lib.splitB_all ⟨#[32]⟩ (by decide) 0 _ (z3K l) rfl;unfold z3z at h;rw[h]at h2;simp at h2
 obtain⟨k,rest,hws⟩:=List.exists_cons_of_ne_nil hne;rw[hws]at hsz ⊢;by_cases h1:k=kNeed/\rest.length=1
 ·obtain⟨rfl,h1⟩:=h1;obtain⟨a,rfl⟩:=List.length_eq_one_iff.1 h1;exact readLine_need B bo vN vW vS vT o l (z5h l) (z3K l) a w hE hR (by omega) rfl rfl hws (hsz a (by simp)) hn.1
 by_cases h2:k=kWord/\rest.length=1
 ·obtain⟨rfl,h2⟩:=h2;obtain⟨a,rfl⟩:=List.length_eq_one_iff.1 h2;exact readLine_word B bo vN vW vS vT o l (z5h l) (z3K l) a w hE hR (by omega) rfl rfl hws (hsz a (by simp)) hn.2.1
 by_cases h3:k=kSymbol/\rest.length=2
 ·obtain⟨rfl,h3⟩:=h3;obtain⟨a,b,rfl⟩:=len_two h3;exact readLine_symbol B bo vN vW vS vT o l (z5h l) (z3K l) a b w hE hR (by omega) rfl rfl hws (hsz a (by simp)) (hsz b (by simp)) hn.2.2.1
 by_cases h4:k=kBase/\rest.length=2
 ·obtain⟨rfl,h4⟩:=h4;obtain⟨a,b,rfl⟩:=len_two h4;exact readLine_base B bo vN vW vS vT o l (z5h l) (z3K l) a b w hE hR (by omega) rfl rfl hws (hsz a (by simp)) (hsz b (by simp)) hn.2.2.2
 by_cases h5:k=kWhole/\rest.length=3
 ·obtain⟨rfl,h5⟩:=h5;obtain⟨a,b,c,rfl⟩:=len_three h5;exact readLine_whole B bo vN vW vS vT o l (z5h l) (z3K l) a b c w hE hR (by omega) rfl rfl hws (hsz a (by simp)) (hsz b (by simp)) (hsz c (by simp)) hn.2.2.2
 by_cases h6:k=kNear/\rest.length=3
 ·obtain⟨rfl,h6⟩:=h6;obtain⟨a,b,c,rfl⟩:=len_three h6;exact readLine_near B bo vN vW vS vT o l (z5h l) (z3K l) a b c w hE hR (by omega) rfl rfl hws (hsz a (by simp)) (hsz b (by simp)) (hsz c (by simp)) hn.2.2.2
 have hF:z2q o (z5h l) (k :: rest)=o:=by
  match rest with
  | []=>rfl
  | [a]=>
   simp only[z2q];rw[if_neg (fun e=>h1 ⟨e,rfl⟩),if_neg (fun e=>h2 ⟨e,rfl⟩)]
  | [a,b]=>
   simp only[z2q];rw[if_neg (fun e=>h3 ⟨e,rfl⟩),if_neg (fun e=>h4 ⟨e,rfl⟩)]
  | [a,b,c]=>
   simp only[z2q];rw[if_neg (fun e=>h5 ⟨e,rfl⟩),if_neg (fun e=>h6 ⟨e,rfl⟩)]
  |_ :: _ :: _ :: _ :: _=>rfl
 rw[hF];exact readLine_other B bo vN vW vS vT o l (z5h l) (z3K l) k rest w hE hR (by omega) rfl rfl hws (fun e h=>h1 ⟨e,h⟩) (fun e h=>h2 ⟨e,h⟩) (fun e h=>h3 ⟨e,h⟩) (fun e h=>h4 ⟨e,h⟩) (fun e h=>h5 ⟨e,h⟩) (fun e h=>h6 ⟨e,h⟩)
end Go.Proofs.YtbcpcbonlhlhpaaGreatDoor
namespace Go.Proofs.YtbcpcbonlhlhpaaGreatDoor
def z0d:ObjF:=⟨0,fun _=>⟨#[]⟩,0,fun _=>0,0,fun _=>⟨#[]⟩,fun _=>0,fun _=>false,0,fun _=>0,fun _=>0,fun _=>0,fun _=>⟨#[]⟩,fun _=>false⟩
def z5x (s:ByteArray):List ByteArray:=Lib.splitB ⟨#[10]⟩ 0 (Lib.countB s ⟨#[10]⟩) s
def readF(s:ByteArray):ObjF:=(z5x s).foldl z4Y z0d
def mkB(l:List UInt8):ByteArray:=⟨l.toArray⟩
theorem z2x (s:ByteArray):mkB s.data.toList=s:=by simp[mkB]
theorem z2v (l:List UInt8):(mkB l).data.toList=l:=by simp[mkB]
def z5o (X:ObjF)(l:List UInt8):ObjF:=(sp 10 l).foldl (fun o p=>z4Y o (mkB p)) X
theorem readF_foldT(s:ByteArray):readF s=z5o z0d s.data.toList:=by
 unfold readF z5x z5o;rw[splitB_sp,List.foldl_map];rfl
theorem z4A (X:ObjF)(p r:List UInt8)(h:(10:UInt8) ∉ p):z5o X (p++[10]++r)=z5o (z4Y X (mkB p)) r:=by
 unfold z5o;rw[List.append_assoc,List.singleton_append,sp_mid 10 p r h];rfl
theorem wordsOf_sp(l:List UInt8):z3z (mkB l)=(sp 32 l).map mkB:=by
 unfold z3z;rw[splitB_sp,z2v];rfl
theorem foldT_nil(X:ObjF):z5o X []=X:=by
 unfold z5o;rw[sp_end 10 [] (by simp)];show z2q X (z5h (mkB [])) (z3z (mkB []))=X;rw[wordsOf_sp,sp_end 32 [] (by simp)];rfl
def weakL(b:Bool):List UInt8:=if b=true then [119,101,97,107,32]else []
theorem z4y (X:ObjF)(b:Bool)(l:List UInt8)(h:Lib.hasPrefix l [119,101,97,107,32]=false):z4Y X (mkB (weakL b++l))=z2q X b ((sp 32 l).map mkB):=by
 cases b with
 |false=>
  have e1:z5h (mkB (weakL false++l))=false:=by unfold z5h;rw[z2v];exact h
  have e2:z3K (mkB (weakL false++l))=mkB l:=by
   unfold z3K;rw[z2v];show mkB (Lib.trimPrefix l _)=_;unfold Lib.trimPrefix;rw[h];rfl
  unfold z4Y;rw[e1,e2,wordsOf_sp]
 |true=>
  have hp:Lib.hasPrefix (weakL true++l) [119,101,97,107,32]=true:=by simp[Lib.hasPrefix,weakL]
  have e1:z5h (mkB (weakL true++l))=true:=by unfold z5h;rw[z2v];exact hp
  have e2:z3K (mkB (weakL true++l))=mkB l:=by
   unfold z3K;rw[z2v];show mkB (Lib.trimPrefix (weakL true++l) _)=_;unfold Lib.trimPrefix;rw[hp];rfl
  unfold z4Y;rw[e1,e2,wordsOf_sp]
theorem sp2(a b:List UInt8)(ha:(32:UInt8) ∉ a)(hb:(32:UInt8) ∉ b):sp 32 (Lib.join [a,b] [32])=[a,b]:=by
 rw[join2,List.singleton_append,sp_mid 32 a _ ha,sp_end 32 b hb]
theorem sp3(a b c:List UInt8)(ha:(32:UInt8) ∉ a)(hb:(32:UInt8) ∉ b)(hc:(32:UInt8) ∉ c):sp 32 (Lib.join [a,b,c] [32])=[a,b,c]:=by
 rw[join3,List.append_assoc,List.singleton_append,sp_mid 32 a _ ha,List.singleton_append,sp_mid 32 b _ hb,sp_end 32 c hc]
theorem sp4(a b c d:List UInt8)(ha:(32:UInt8) ∉ a)(hb:(32:UInt8) ∉ b)(hc:(32:UInt8) ∉ c)(hd:(32:UInt8) ∉ d):sp 32 (Lib.join [a,b,c,d] [32])=[a,b,c,d]:=by
 rw[join4,List.append_assoc,List.append_assoc,List.singleton_append,sp_mid 32 a _ ha,List.singleton_append,sp_mid 32 b _ hb,List.singleton_append,sp_mid 32 c _ hc,sp_end 32 d hd]
def z5B (weak:Bool)(xs:List (List UInt8)):List UInt8:=weakL weak++Lib.join xs [32]
theorem z1V (b:Bool)(xs:List (List UInt8)):z3m b xs=z5B b xs++[10]:=by
 unfold z3m z5B weakL;rw[List.append_assoc]
theorem weakL_no(b:Bool):(10:UInt8) ∉ weakL b:=by cases b <;> decide
theorem body2_no(b:Bool)(x y:List UInt8)(hx:(10:UInt8) ∉ x)(hy:(10:UInt8) ∉ y):(10:UInt8) ∉ z5B b [x,y]:=by
 unfold z5B;rw[join2];simp only[List.mem_append,List.mem_singleton];rintro(h|h|h|h)
 ·exact weakL_no b h
 ·exact hx h
 ·exact absurd h (by decide)
 ·exact hy h
theorem body3_no(b:Bool)(x y z:List UInt8)(hx:(10:UInt8) ∉ x)(hy:(10:UInt8) ∉ y)(hz:(10:UInt8) ∉ z):(10:UInt8) ∉ z5B b [x,y,z]:=by
 unfold z5B;rw[join3];simp only[List.mem_append,List.mem_singleton];rintro(h|h|(h|h)|h|h)
 ·exact weakL_no b h
 ·exact hx h
 ·exact absurd h (by decide)
 ·exact hy h
 ·exact absurd h (by decide)
 ·exact hz h
theorem body4_no(b:Bool)(x y z u:List UInt8)(hx:(10:UInt8) ∉ x)(hy:(10:UInt8) ∉ y)(hz:(10:UInt8) ∉ z)(hu:(10:UInt8) ∉ u):(10:UInt8) ∉ z5B b [x,y,z,u]:=by
 unfold z5B;rw[join4];simp only[List.mem_append,List.mem_singleton];rintro(h|h|(h|h)|(h|h)|h|h)
 ·exact weakL_no b h
 ·exact hx h
 ·exact absurd h (by decide)
 ·exact hy h
 ·exact absurd h (by decide)
 ·exact hz h
 ·exact absurd h (by decide)
 ·exact hu h
theorem read_need(X:ObjF)(s:ByteArray)(h:z0r s.data.toList=0)(r:List UInt8):z5o X (z5e s++r)=z5o (z2f X s) r:=by
 unfold z5e;rw[z1V,z4A _ _ _ (body2_no _ _ _ (by decide) (z1b h 10 (.inr rfl)))];congr 1;unfold z5B;rw[z4y _ _ _ (by rw[join2];rfl),sp2 _ _ (by decide) (z1b h 32 (.inl rfl))];show z2q X false [mkB [110,101,101,100],mkB s.data.toList]=_;rw[z2x];simp only[z2q];exact if_pos rfl
theorem read_word(X:ObjF)(n:Int)(h0:-1000000000000<=n)(h1:n<=1000000000000)(r:List UInt8):z5o X (z5d n++r)=z5o (z1L X n) r:=by
 unfold z5d;rw[z1V,z4A _ _ _ (body2_no _ _ _ (by decide) (z0M n 10 (.inr rfl)))];congr 1;unfold z5B;rw[z4y _ _ _ (by rw[join2];rfl),sp2 _ _ (by decide) (z0M n 32 (.inl rfl))];show z2q X false [mkB [119,111,114,100],mkB (Lib.itoa n)]=_;simp only[z2q];rw[if_neg (by decide),z2v,z3D n h0 h1];exact if_pos rfl
theorem read_sym(X:ObjF)(s:ByteArray)(a:Int)(b:Bool)(h:z0r s.data.toList=0)(h0:-1000000000000<=a)(h1:a<=1000000000000)(r:List UInt8):z5o X (symLn s a b++r)=z5o (z2R X s a b) r:=by
 unfold symLn;rw[z1V,z4A _ _ _ (body3_no _ _ _ _ (by decide) (z1b h 10 (.inr rfl)) (z0M a 10 (.inr rfl)))];congr 1;unfold z5B;rw[z4y _ _ _ (by rw[join3];rfl),sp3 _ _ _ (by decide) (z1b h 32 (.inl rfl)) (z0M a 32 (.inl rfl))];show z2q X b [mkB [115,121,109,98,111,108],mkB s.data.toList,mkB (Lib.itoa a)]=_;simp only[z2q];rw[z2x,z2v,z3D a h0 h1];exact if_pos rfl
theorem read_tie(X:ObjF)(x k d:Int)(s:ByteArray)(b:Bool)(hk:k=1/\s.size=0/\b=false∨(k=2∨k=3)/\z0r s.data.toList=0)(hx0:-1000000000000<=x)(hx1:x<=1000000000000)(hd0:-1000000000000<=d)(hd1:d<=1000000000000)(r:List UInt8) :
 z5o X (z3R x k d s b++r)=z5o (z1G X x k d s b) r:=by
 unfold z3R;rcases hk with⟨rfl,hs,rfl⟩|⟨rfl|rfl,h⟩
 ·have es:s=⟨#[]⟩:=by
   rw[<-z2x s,List.length_eq_zero_iff.1 (show s.data.toList.length=0 by simpa using hs)];rfl
  rw[if_pos rfl,z1V,z4A _ _ _ (body3_no _ _ _ _ (by decide) (z0M x 10 (.inr rfl)) (z0M d 10 (.inr rfl)))];congr 1;unfold z5B;rw[z4y _ _ _ (by rw[join3];rfl),sp3 _ _ _ (by decide) (z0M x 32 (.inl rfl)) (z0M d 32 (.inl rfl))];show z2q X false [mkB [98,97,115,101],mkB (Lib.itoa x),mkB (Lib.itoa d)]=_;simp only[z2q];rw[z2v,z2v,z3D x hx0 hx1,z3D d hd0 hd1,if_neg (by decide),es];exact if_pos rfl
 ·rw[if_neg (by decide),if_pos rfl,z1V,z4A _ _ _ (body4_no _ _ _ _ _ (by decide) (z0M x 10 (.inr rfl)) (z0M d 10 (.inr rfl)) (z1b h 10 (.inr rfl)))];congr 1;unfold z5B;rw[z4y _ _ _ (by rw[join4];rfl),sp4 _ _ _ _ (by decide) (z0M x 32 (.inl rfl)) (z0M d 32 (.inl rfl)) (z1b h 32 (.inl rfl))];show z2q X b [mkB [119,104,111,108,101],mkB (Lib.itoa x),mkB (Lib.itoa d),mkB s.data.toList]=_;simp only[z2q];rw[z2v,z2v,z3D x hx0 hx1,z3D d hd0 hd1,z2x];exact if_pos rfl
 ·rw[if_neg (by decide),if_neg (by decide),z1V,z4A _ _ _ (body4_no _ _ _ _ _ (by decide) (z0M x 10 (.inr rfl)) (z0M d 10 (.inr rfl)) (z1b h 10 (.inr rfl)))];congr 1;unfold z5B;rw[z4y _ _ _ (by rw[join4];rfl),sp4 _ _ _ _ (by decide) (z0M x 32 (.inl rfl)) (z0M d 32 (.inl rfl)) (z1b h 32 (.inl rfl))];show z2q X b [mkB [110,101,97,114],mkB (Lib.itoa x),mkB (Lib.itoa d),mkB s.data.toList]=_;simp only[z2q];rw[z2v,z2v,z3D x hx0 hx1,z3D d hd0 hd1,z2x,if_neg (by decide)];exact if_pos rfl
theorem z6D (g:Nat->List UInt8)(X:Nat->ObjF)(n:Nat)(h:∀i,i<n->∀r,z5o (X i) (g i++r)=z5o (X (i+1)) r):∀k,k<=n->∀r,z5o (X 0) (z2z g k++r)=z5o (X k) r
 |0,_,_=>rfl
 |k+1,hk,r=>by
  show z5o (X 0) (z2z g k++g k++r)=_;rw[List.append_assoc,z6D g X n h k (by omega),h k (by omega)]
def itN(o X:ObjF):Nat->ObjF
 |0=>X
 |k+1=>z2f (itN o X k) (o.needs k)
def itW(o X:ObjF):Nat->ObjF
 |0=>X
 |k+1=>z1L (itW o X k) (o.words k)
def itS(o X:ObjF):Nat->ObjF
 |0=>X
 |k+1=>z2R (itS o X k) (o.sName k) (o.sAt k) (o.sWeak k)
def itT(o X:ObjF):Nat->ObjF
 |0=>X
 |k+1=>z1G (itT o X k) (o.tAt k) (o.tKind k) (o.tAdd k) (o.tName k) (o.tWeak k)
def built(o:ObjF):ObjF:=itT o (itS o (itW o (itN o z0d o.nN) o.nW) o.nS) o.nT
theorem read_text{o:ObjF}(h:z3J o):z5o z0d (z3Q o)=built o:=by
 have hw:=h.nW;unfold z3Q z0G z1a z2K z4v;rw[List.append_assoc,List.append_assoc];refine(z6D (fun i=>z5e (o.needs i)) (itN o z0d) o.nN (fun i hi r=>read_need _ _ (h.needs i hi) r) o.nN (Nat.le_refl _) _).trans ?_;refine(z6D (fun i=>z5d (o.words i)) (itW o (itN o z0d o.nN)) o.nW (fun i hi r=>read_word _ _ (by have:=h.words i hi;omega) (by have:=h.words i hi;omega) r) o.nW (Nat.le_refl _) _).trans ?_;refine(z6D (fun i=>symLn (o.sName i) (o.sAt i) (o.sWeak i)) (itS o (itW o (itN o z0d o.nN) o.nW)) o.nS (fun i hi r=>read_sym _ _ _ _ (h.syms i hi).1 (by have:=h.syms i hi;omega) (by have:=h.syms i hi;omega) r) o.nS (Nat.le_refl _) _).trans ?_;have:=z6D (fun i=>z3R (o.tAt i) (o.tKind i) (o.tAdd i) (o.tName i) (o.tWeak i)) (itT o (itS o (itW o (itN o z0d o.nN) o.nW) o.nS)) o.nT (fun i hi r=>read_tie _ _ _ _ _ _ (h.ties i hi).2.2.2.2 (by have:=h.ties i hi;omega) (by have:=h.ties i hi;omega) (by have:=h.ties i hi;omega) (by have:=h.ties i hi;omega) r) o.nT (Nat.le_refl _) [];rw[List.append_nil,foldT_nil]at this;exact this
structure z6q (a b:ObjF):Prop where
 nN:a.nN=b.nN
 nW:a.nW=b.nW
 nS:a.nS=b.nS
 nT:a.nT=b.nT
 needs:∀i,i<b.nN->a.needs i=b.needs i
 words:∀i,i<b.nW->a.words i=b.words i
 syms:∀i,i<b.nS->a.sName i=b.sName i/\a.sAt i=b.sAt i/\a.sWeak i=b.sWeak i
 ties:∀i,i<b.nT->a.tAt i=b.tAt i/\a.tKind i=b.tKind i/\a.tAdd i=b.tAdd i/\a.tName i=b.tName i/\a.tWeak i=b.tWeak i
theorem itN_is(o X:ObjF)(h:X.nN=0):∀k,(itN o X k).nN=k/\(∀i,i<k->(itN o X k).needs i=o.needs i)/\itN o X k={X with nN:=(itN o X k).nN,needs:=(itN o X k).needs}
 |0=>⟨h,fun i hi=>by omega,rfl⟩
 |k+1=>by
  obtain⟨h1,h2,h3⟩:=itN_is o X h k;refine⟨by simp[itN,z2f,h1],fun i hi=>?_,?_⟩
  ·simp only[itN,z2f,h1];split
   ·rename_i e;rw[e]
   ·exact h2 i (by omega)
  ·show z2f (itN o X k) (o.needs k)=_;rw[h3];rfl
theorem itW_is(o X:ObjF)(h:X.nW=0):∀k,(itW o X k).nW=k/\(∀i,i<k->(itW o X k).words i=o.words i)/\itW o X k={X with nW:=(itW o X k).nW,words:=(itW o X k).words}
 |0=>⟨h,fun i hi=>by omega,rfl⟩
 |k+1=>by
  obtain⟨h1,h2,h3⟩:=itW_is o X h k;refine⟨by simp[itW,z1L,h1],fun i hi=>?_,?_⟩
  ·simp only[itW,z1L,h1];split
   ·rename_i e;rw[e]
   ·exact h2 i (by omega)
  ·show z1L (itW o X k) (o.words k)=_;rw[h3];rfl
theorem itS_is(o X:ObjF)(h:X.nS=0):∀k,(itS o X k).nS=k/\(∀i,i<k->(itS o X k).sName i=o.sName i/\(itS o X k).sAt i=o.sAt i/\(itS o X k).sWeak i=o.sWeak i)/\itS o X k={X with nS:=(itS o X k).nS,sName:=(itS o X k).sName,sAt:=(itS o X k).sAt,sWeak:=(itS o X k).sWeak}
 |0=>⟨h,fun i hi=>by omega,rfl⟩
 |k+1=>by
  obtain⟨h1,h2,h3⟩:=itS_is o X h k;refine⟨by simp[itS,z2R,h1],fun i hi=>?_,?_⟩
  ·simp only[itS,z2R,h1];split
   ·rename_i e;rw[e];exact⟨rfl,rfl,rfl⟩
   ·exact h2 i (by omega)
  ·show z2R (itS o X k) _ _ _=_;rw[h3];rfl
theorem itT_is(o X:ObjF)(h:X.nT=0):∀k,(itT o X k).nT=k/\(∀i,i<k->(itT o X k).tAt i=o.tAt i/\(itT o X k).tKind i=o.tKind i/\(itT o X k).tAdd i=o.tAdd i/\(itT o X k).tName i=o.tName i/\(itT o X k).tWeak i=o.tWeak i)/\itT o X k={X with nT:=(itT o X k).nT,tAt:=(itT o X k).tAt,tKind:=(itT o X k).tKind,tAdd:=(itT o X k).tAdd,tName:=(itT o X k).tName,tWeak:=(itT o X k).tWeak}
 |0=>⟨h,fun i hi=>by omega,rfl⟩
 |k+1=>by
  obtain⟨h1,h2,h3⟩:=itT_is o X h k;refine⟨by simp[itT,z1G,h1],fun i hi=>?_,?_⟩
  ·simp only[itT,z1G,h1];split
   ·rename_i e;rw[e];exact⟨rfl,rfl,rfl,rfl,rfl⟩
   ·exact h2 i (by omega)
  ·show z1G (itT o X k) _ _ _ _ _=_;rw[h3];rfl
theorem built_same(o:ObjF):z6q (built o) o:=by
 obtain⟨a1,a2,a3⟩:=itN_is o z0d rfl o.nN;obtain⟨b1,b2,b3⟩:=itW_is o (itN o z0d o.nN) (by rw[a3];rfl) o.nW;obtain⟨c1,c2,c3⟩:=itS_is o (itW o (itN o z0d o.nN) o.nW) (by rw[b3,a3];rfl) o.nS;obtain⟨d1,d2,d3⟩:=itT_is o (itS o (itW o (itN o z0d o.nN) o.nW) o.nS) (by rw[c3,b3,a3];rfl) o.nT;have e:built o=itT o (itS o (itW o (itN o z0d o.nN) o.nW) o.nS) o.nT:=rfl;have q1:(built o).nN=(itN o z0d o.nN).nN/\(built o).needs=(itN o z0d o.nN).needs:=by rw[e,d3,c3,b3];exact⟨rfl,rfl⟩
 have q2:(built o).nW=(itW o (itN o z0d o.nN) o.nW).nW/\(built o).words=(itW o (itN o z0d o.nN) o.nW).words:=by rw[e,d3,c3];exact⟨rfl,rfl⟩
 have q3:(built o).nS=(itS o (itW o (itN o z0d o.nN) o.nW) o.nS).nS/\(built o).sName=(itS o (itW o (itN o z0d o.nN) o.nW) o.nS).sName/\(built o).sAt=(itS o (itW o (itN o z0d o.nN) o.nW) o.nS).sAt/\(built o).sWeak=(itS o (itW o (itN o z0d o.nN) o.nW) o.nS).sWeak:=by rw[e,d3];exact⟨rfl,rfl,rfl,rfl⟩
 exact⟨q1.1.trans a1,q2.1.trans b1,q3.1.trans c1,d1,fun i hi=>by rw[q1.2];exact a2 i hi,fun i hi=>by rw[q2.2];exact b2 i hi,fun i hi=>by rw[q3.2.1,q3.2.2.1,q3.2.2.2];exact c2 i hi,d2⟩
end Go.Proofs.YtbcpcbonlhlhpaaGreatDoor
namespace Go.Proofs.YtbcpcbonlhlhpaaGreatDoor
open Go.RowKit
theorem z2m {T e:TypeId}{B b:Nat}{bs:List Value}{w w':World}(h:Lib.IsBuilder T e B b bs w)(hb:Below w.heap.size w w'):Lib.IsBuilder T e B b bs w':=by
 have one:∀p,Lib.BuilderAt T e B b p bs w->Lib.BuilderAt T e B b p bs w':=by
  rintro p ⟨h1,v,h2,h3,h4⟩;have hl:b<w.heap.size:=(Array.getElem?_eq_some_iff.1 h2).1;refine⟨h1,v,(hb.block b hl).trans h2,?_,h4⟩;obtain⟨h5,h6⟩:=h3;refine⟨h5,?_⟩;rcases h6 with h6|⟨g,cap,cur,a1,a2,a3,a4⟩
  ·exact .inl h6
  ·have hg:g<w.heap.size:=(Array.getElem?_eq_some_iff.1 a3).1;exact .inr ⟨g,cap,cur,a1,a2,(hb.block g hg).trans a3,a4⟩
 rcases h with h|h
 ·exact .inl (one _ h)
 ·exact .inr (one _ h)
theorem z2o (B b:Nat)(L:List UInt8)(s:ByteArray)(w:World)(h:Lib.IsBuilder 206 5 B b (Lib.byteCells L) w)(hl:L.length<=1000000)(hs:s.size<=1000000)(hB:B<=w.heap.size) :
 Calls Tryz.prog 117 #[.pointer (some ⟨b,0,none⟩),.string s] w fun e w'=>e=.returned (.tuple #[.int .i64 s.size,.nilIface])/\Lib.IsBuilder 206 5 B b (Lib.byteCells (L++s.data.toList)) w'/\Below B w w':=by
 refine(show Calls Tryz.prog 117 _ w _ from Any.Builder_WriteString {Tryz.lays156 with} Tryz.Builder_Extra_156 B b (Lib.byteCells L) s w h (by rw[Lib.byteCells_length];omega) hB).mono ?_;rintro e w' ⟨rfl,h1,h2⟩;refine⟨rfl,.inr ?_,h2⟩;rw[Lib.byteCells_append];exact h1
structure z7b (w1 wr:World)(L:List UInt8):Prop where
 is:Lib.IsBuilder 206 5 w1.heap.size w1.heap.size (Lib.byteCells L) wr
 below:Below w1.heap.size w1 wr
theorem z7o (w1:World):z7b w1 (w1.alloc (.cells #[.pointer none,.slice none 0 0] 206)) []:=
 ⟨.inl ⟨Nat.le_refl _,.slice none 0 0,by show(w1.heap.push _)[w1.heap.size]?=_;simp,World.ownsRow_nil _ _ _ _,by simp[Value.ownBlock]⟩,(Below.refl _ _).alloc (Nat.le_refl _) _⟩
theorem z7b.more{w1 wr w2 w3:World}{L L':List UInt8}(h:z7b w1 wr L)(h2:Below wr.heap.size wr w2)(h3:Lib.IsBuilder 206 5 w1.heap.size w1.heap.size (Lib.byteCells L') w3/\Below w1.heap.size w2 w3):z7b w1 w3 L':=
 ⟨h3.1,h.below.trans ((h2.mono h.below.size).trans h3.2)⟩
theorem size_le{r:ByteArray}{l:List UInt8}{m:Nat}(h:r.data.toList=l)(hl:l.length<=m):r.size<=m:=by
 rw[<-h]at hl;simpa using hl
end Go.Proofs.YtbcpcbonlhlhpaaGreatDoor
