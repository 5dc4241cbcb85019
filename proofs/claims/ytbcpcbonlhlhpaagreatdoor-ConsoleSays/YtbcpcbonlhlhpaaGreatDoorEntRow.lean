/- What writeBody of package shelf does, of any disk that -/
import Derived.Test.YtbcpcbonlhlhpaaGreatDoorPlainShelf
set_option maxRecDepth 100000
set_option maxHeartbeats 4000000
namespace Go.Proofs.YtbcpcbonlhlhpaaGreatDoor
section
open Go.RowKit
inductive BodyEnd (s:DSt) (n b:Nat) (t:List UInt8) (s':DSt):Ending->Prop
 |ok (h:BodyKept s s' n b t):BodyEnd s n b t s' (.returned (.tuple #[.agg #[.int .i64 (b:Int),.int .i64 (z0Y t:Int)],.nilIface]))
 |fell (x y:Int) (hl:s.left ≠ -1) (hd:s'.down=true) (hr:∀i,i<n->¬(1+b*55<=i/\i<1+b*55+55)->s'.K i=s.K i):BodyEnd s n b t s' (.returned (.tuple #[.agg #[.int .i64 x,.int .i64 y],errV 9]))
theorem Disk.nx{w:World}{B p n:Nat}{s:DSt}(h:Disk w B p n s):s.next<64:=by
 obtain⟨⟨bs,v,h⟩,_⟩:=h;exact h.nx
theorem Spun.own{B g i:Nat}{w wr:World}(h:Spun B w wr)(hB:B<=w.heap.size)(hg:w.heap.size<=g)(v:Value):Spun B w (wr.setCell ⟨g,i,none⟩ v):=
 ⟨⟨h.below.os,h.below.tape,h.below.output,by simp[World.setCell];exact h.below.size,fun k hk=>(Below.heap_setCell _ _ _ _ (by show k≠g;omega)).trans (h.below.block k hk)⟩,fun k o hk ho=>by
  have hl:=(Array.getElem?_eq_some_iff.1 hk).1;rw[Below.heap_setCell _ _ _ _ (by show k≠g;omega)];exact h.block k o hk ho⟩
theorem Disk.set{w:World}{B p n g i:Nat}{s:DSt}{C:Array Value}{t:TypeId}{f:Nat×Nat}(h:Disk w B p n s)(hg:w.heap[g]?=some (.cells C t f))(ht:¬(t=118∨t=177∨t=174))(v:Value):Disk (w.setCell ⟨g,i,none⟩ v) B p n s:=
 h.other fun k o hk ho=>by
  by_cases e:k=g
  ·subst e;rw[hg]at hk;injection hk with hk;obtain⟨c,t',f',rfl,h'⟩:=ho;injection hk with _ h2 _;exact absurd (h2 ▸ h') ht
  ·rw[Below.heap_setCell _ _ _ _ e];exact hk
theorem chunk_cut(t:List UInt8)(j:Nat):(⟨(t.drop (64*j)).toArray⟩:ByteArray).extract 0 (min (⟨(t.drop (64*j)).toArray⟩:ByteArray).size 64)=⟨(chunk t j).toArray⟩ /\
 (⟨(t.drop (64*j)).toArray⟩:ByteArray).extract (min (⟨(t.drop (64*j)).toArray⟩:ByteArray).size 64) (⟨(t.drop (64*j)).toArray⟩:ByteArray).size=⟨(t.drop (64*(j+1))).toArray⟩:=by
 rw[Lib.extract_mk,Lib.extract_mk,z6E];have e:t.drop (64*(j+1))=(t.drop (64*j)).drop 64:=by rw[List.drop_drop];rfl
 rw[e];unfold chunk;generalize t.drop (64*j)=l;rw[List.drop_zero,Nat.sub_zero];by_cases h64:64<=l.length
 ·rw[Nat.min_eq_right h64,List.take_of_length_le (l:=l.drop 64) (by simp)];exact⟨rfl,rfl⟩
 ·rw[Nat.min_eq_left (by omega),List.take_of_length_le (Nat.le_refl _),List.take_of_length_le (l:=l) (by omega),List.drop_of_length_le (Nat.le_refl _),List.drop_of_length_le (l:=l) (by omega)];exact⟨rfl,by simp⟩
theorem z3h (C:Array Value)(f:Nat×Nat):¬DiskTy (.cells C 122 f):=by
 rintro⟨c,t,f',h,ht⟩;injection h with _ h2 _;subst h2;exact absurd ht (by decide)
theorem two_new0(w:World)(a b:Obj):((w.alloc a).alloc b).heap[w.heap.size]?=some a:=by
 have h:w.heap.size<(w.alloc a).heap.size:=by simp
 exact((((Below.refl _ _).alloc (Nat.le_refl _) b).block _ h:((w.alloc a).alloc b).heap[w.heap.size]?=(w.alloc a).heap[w.heap.size]?)).trans Array.getElem?_push_size
theorem two_new1(w:World)(a b:Obj):((w.alloc a).alloc b).heap[w.heap.size+1]?=some b:=by
 have h:(w.alloc a).heap.size=w.heap.size+1:=by simp
 rw[<-h];exact Array.getElem?_push_size
theorem writeBody_any(w:World)(B p n:Nat)(s:DSt)(b:Nat)(t:List UInt8)(h:Disk w B p n s)(hup:s.down=false)(hn:112<=n)(hb:b<=1)(ht:t.length<=3520)(hc:∀i,i<n->(s.K i).late=[]) :
 Calls Tryz.prog 207 #[.pointer (some ⟨p,0,none⟩),.int .i64 (b:Int),.string ⟨t.toArray⟩] w fun e w'=>∃s',BodyEnd s n b t s' e/\Disk w' B p n s'/\Spun B w w':=by
 have hB:=h.base;have hbi:(b:Int)<=1:=by omega
 have hbi0:(0:Int)<=(b:Int):=by omega
 have q0:errV 0=.nilIface:=rfl;have q9:errV 9=.iface 43 (.int .i64 9):=rfl;have hb0:Below w.heap.size w ((w.alloc (.cells #[.int .i64 0,.int .i64 0] 122)).alloc (.cells #[.int .i64 (b:Int),.int .i64 0] 122)):=((Below.refl _ _).alloc (Nat.le_refl _) _).alloc (by simp) _;have r0:((w.alloc (.cells #[.int .i64 0,.int .i64 0] 122)).alloc (.cells #[.int .i64 (b:Int),.int .i64 0] 122)).heap[w.heap.size]?=some (.cells #[.int .i64 0,.int .i64 0] 122 (0,0)):=two_new0 _ _ _;have r1:((w.alloc (.cells #[.int .i64 0,.int .i64 0] 122)).alloc (.cells #[.int .i64 (b:Int),.int .i64 0] 122)).heap[w.heap.size+1]?=some (.cells #[.int .i64 (b:Int),.int .i64 0] 122 (0,0)):=two_new1 _ _ _;go_enter Tryz.func207,Tryz.ntmps207;go_wp2;go_loopw [2] (fun y wr=>∃(j:Nat) (s1:DSt),y=.string ⟨(t.drop (64*j)).toArray⟩/\Hid (64*j<t.length+64)/\z7x s s1 b t j/\Disk wr B p n s1/\Spun B w wr/\wr.heap[w.heap.size]?=some (.cells #[.int .i64 0,.int .i64 0] 122 (0,0))/\wr.heap[w.heap.size+1]?=some (.cells #[.int .i64 (b:Int),.int .i64 (j:Int)] 122 (0,0))) (fun y _=>Lib.strSize y)
 case atStart=>exact⟨0,s,rfl,by show 64*0<t.length+64;omega,z7x.start hup b t,h.later hb0,Spun.of hB hb0,r0,r1⟩
 case round=>
  clear r0 r1 hb0;obtain⟨j,s1,rfl,hj,hBd,hD,hSp,r0,r1⟩:=hrel;have hsz:Hid ((⟨(t.drop (64*j)).toArray⟩:ByteArray).size=t.length-64*j):=by rw[z6E,List.length_drop];exact rfl
  obtain⟨x0,x1,y0,y1⟩:=box2 r1;have HT:Hid (_/\_):=chunk_cut t j;generalize (⟨(t.drop (64*j)).toArray⟩:ByteArray)=T at *;have hjn:j<55∨T.size=0:=by have h1:=hj.out;have h2:=hsz.out;omega
  by_cases hpos:0<T.size
  ·have hp:(0:Int)<(T.size:Int):=by omega
   have hj55:j<55:=by omega
   have hlt:1+b*55+j<n:=by have:b*55<=55:=by omega
                           omega
   have hji:(j:Int)<55:=by omega
   have hji0:(0:Int)<=(j:Int):=by omega
   have HA:=fun W=>start_any (b:Int) W hbi0 hbi
   obtain⟨m,hm⟩:∃m:Nat,m=min T.size 64:=⟨_,rfl⟩;have hmi:min (T.size:Int) 64=(m:Int):=by omega
   have hm0:(0:Int)<=(m:Int):=by omega
   have hm1:(m:Int)<=(T.size:Int):=by omega
   have hmT:m<=T.size:=by omega
   have HX:Hid (T.extract 0 m=⟨(chunk t j).toArray⟩):=by rw[hm];exact HT.out.1
   have HY:Hid (T.extract m T.size=⟨(t.drop (64*(j+1))).toArray⟩):=by rw[hm];exact HT.out.2
   have hcs:(⟨(chunk t j).toArray⟩:ByteArray).size<=64:=by rw[z6E];exact chunk_len t j
   have HCD:Hid ((⟨(chunk t j).toArray⟩:ByteArray).data.toList=chunk t j):=by show(chunk t j).toArray.toList=_;simp
   generalize (⟨(chunk t j).toArray⟩:ByteArray)=CH at *;have HSZ:Hid (m=min T.size 64):=hm;clear hm hjn;go_wp2_with fail;have hSS:(fun w':World=>w'.cell? ⟨w.heap.size+1,1,none⟩=some (.int .i64 (j:Int))) wr.drew:=x1;have hDd:=hD.later (Below.refl _ wr).drew;have hSd:Spun B w wr.drew:=hSp.trans (Spun.of (Nat.le_trans hB hSp.size) (Below.refl _ wr).drew);have r0d:wr.drew.heap[w.heap.size]?=some (.cells #[.int .i64 0,.int .i64 0] 122 (0,0)):=r0;have r1d:wr.drew.heap[w.heap.size+1]?=some (.cells #[.int .i64 (b:Int),.int .i64 (j:Int)] 122 (0,0)):=r1;clear hD hSp r0 r1 x0 x1 y0 y1;refine z0f (fun w':World=>w'.cell? ⟨w.heap.size+1,1,none⟩=some (.int .i64 (j:Int))) 9 11 (by kernel_rfl) rfl ?_;generalize wr.drew=w1 at *;refine tW 0 hSS ?_;refine tW 1 hSS ?_;refine tW 3 hSS ?_;refine tW 6 hSS ?_;refine tW 7 hSS ?_;refine tW 8 hSS ?_;rw[HX.out];refine tR 4 [5] hSS ?_;refine oG 2 fun K hK=>?_
   go_wp2_with fail;refine(show Calls _ _ _ _ _ from HA _).mono ?_;rintro e w2 ⟨rfl,hw2⟩;subst hw2;clear HA;go_wp2;refine hK _ _ hSS ?_;clear hK;refine tW 5 hSS ?_;have HWR:=z5Z w1 B p n s1 (1+(b:Int)*55+(j:Int)) CH hDd (Nat.le_trans hcs (by decide));have hin:¬(¬(0<=1+(b:Int)*55+(j:Int)/\1+(b:Int)*55+(j:Int)<n)∨64<CH.size):=by omega
   unfold DSt.writeF DSt.wrote at HWR;rw[if_neg hin,if_neg hin,HCD.out,show(1+(b:Int)*55+(j:Int)).toNat=1+b*55+j by omega]at HWR;refine lG 9 fun K hK=>?_
   cases hf:s1.falls with
   |true=>
    rw[if_pos hf,if_pos hf,q9]at HWR;go_wp2_with fail;refine(show Calls _ _ _ _ _ from HWR).mono ?_;rintro e w4 ⟨rfl,hD4,hS4⟩;clear HWR;go_wp2;refine hK _ _ ?_;clear hK;refine tA 10 ?_;refine z1c (by kernel_rfl) ?_ _;have r0e:=hS4.block _ _ r0d (z3h _ _);obtain⟨z0,z1,z2,z3⟩:=box2 r0e;have hSE:Spun B w ((w4.setCell ⟨w.heap.size,0,none⟩ (.int .i64 0)).setCell ⟨w.heap.size,1,none⟩ (.int .i64 0)):=((hSd.trans hS4).own hB (Nat.le_refl _) _).own hB (Nat.le_refl _) _;have hDE:Disk ((w4.setCell ⟨w.heap.size,0,none⟩ (.int .i64 0)).setCell ⟨w.heap.size,1,none⟩ (.int .i64 0)) B p n s1.fell:=(hD4.set r0e (by decide) _).set (z1i _ r0e) (by decide) _;have HEND:BodyEnd s n b t s1.fell (.returned (.tuple #[.agg #[.int .i64 0,.int .i64 0],errV 9])):=.fell 0 0 (fun hl=>by
     have h1:=hBd.left hl;simp[DSt.falls,hBd.up,h1]at hf) rfl (fun i hi hni=>hBd.rest i (by omega))
    clear hf;go_wp2;refine bodyPost_ret (v:=.tuple #[.agg #[.int .i64 0,.int .i64 0],.iface 43 (.int .i64 9)]) (by simp[results,Tryz.results207,go_sem,z0,z1]) rfl ?_;exact⟨_,HEND,hDE,hSE⟩
   |false=>
    rw[if_neg (by simp[hf]),if_neg (by simp[hf]),q0]at HWR;have hBd2:=hBd.more hf hDd.nx (hc _ hlt);go_wp2_with fail;refine(show Calls _ _ _ _ _ from HWR).mono ?_;rintro e w4 ⟨rfl,hD4,hS4⟩;clear HWR;go_wp2;refine hK _ _ ?_;clear hK;refine tA 10 ?_;refine z1c (by kernel_rfl) ?_ _;have r0e:=hS4.block _ _ r0d (z3h _ _);have r1e:=hS4.block _ _ r1d (z3h _ _);have hSe:=hSd.trans hS4;obtain⟨x0,x1,y0,y1⟩:=box2 r1e;clear hf hSS hDd hSd r0d r1d hS4;go_wp2;have hSS:(fun w':World=>w'.cell? ⟨w.heap.size+1,1,none⟩=some (.int .i64 (j:Int))) w4.drew:=x1;have hDd:=hD4.later (Below.refl _ w4).drew;have hSd:Spun B w w4.drew:=hSe.trans (Spun.of (Nat.le_trans hB hSe.size) (Below.refl _ w4).drew);have r0d:w4.drew.heap[w.heap.size]?=some (.cells #[.int .i64 0,.int .i64 0] 122 (0,0)):=r0e;have r1d:w4.drew.heap[w.heap.size+1]?=some (.cells #[.int .i64 (b:Int),.int .i64 (j:Int)] 122 (0,0)):=r1e;obtain⟨x0',x1',y0',y1'⟩:=box2 r1d;clear hD4 hSe r0e r1e x0 x1 y0 y1;refine z0f (fun w':World=>w'.cell? ⟨w.heap.size+1,1,none⟩=some (.int .i64 (j:Int))) 8 9 (by kernel_rfl) rfl ?_;generalize w4.drew=w5 at *;refine tW 0 hSS ?_;refine tW 1 hSS ?_;refine tW 2 hSS ?_;refine tW 3 hSS ?_;refine tW 6 hSS ?_;rw[HY.out];refine tR 4 [] hSS ?_;refine tW 5 hSS ?_;refine tW 7 hSS ?_;refine lG 8 fun K hK=>?_
    go_wp2;refine hK _ _ ?_;clear hK;refine z1c (by kernel_rfl) ?_ _;have hsz2:(⟨(t.drop (64*(j+1))).toArray⟩:ByteArray).size=t.length-64*(j+1):=by rw[z6E,List.length_drop]
    have hsz1:=hsz.out;have r0n:(w5.setCell ⟨w.heap.size+1,1,none⟩ (.int .i64 ((j:Int)+1))).heap[w.heap.size]?=some (.cells #[.int .i64 0,.int .i64 0] 122 (0,0)):=(Below.heap_setCell _ _ _ _ (by simp)).trans r0d;have r1n:(w5.setCell ⟨w.heap.size+1,1,none⟩ (.int .i64 ((j:Int)+1))).heap[w.heap.size+1]?=some (.cells #[.int .i64 (b:Int),.int .i64 ((j+1:Nat):Int)] 122 (0,0)):=by rw[z1i _ r1d];rfl
    have hDn:=hDd.set (i:=1) r1d (by decide) (.int .i64 ((j:Int)+1));have hSn:=hSd.own (i:=1) hB (Nat.le_succ w.heap.size) (.int .i64 ((j:Int)+1));go_wp2;go_roundw
    case rel=>exact⟨j+1,_,rfl,by show 64*(j+1)<t.length+64;omega,hBd2,hDn,hSn,r0n,r1n⟩
    case measure=>show Lib.strSize (.string _)<Lib.strSize (.string _);rw[Lib.strSize_string,Lib.strSize_string];omega
  ·have hjq:j=z0Y t:=by have h1:=hj.out;have h2:=hsz.out;unfold z0Y;omega
   have hT0:T.size=0:=by omega
   have hq55:z0Y t<=55:=by unfold z0Y;omega
   subst hjq;go_wp2;have hSS:(fun w':World=>w'.cell? ⟨w.heap.size+1,0,none⟩=some (.int .i64 (b:Int))/\w'.cell? ⟨w.heap.size+1,1,none⟩=some (.int .i64 (z0Y t:Int))) wr.drew:=⟨x0,x1⟩;have hDd:=hD.later (Below.refl _ wr).drew;have hSd:Spun B w wr.drew:=hSp.trans (Spun.of (Nat.le_trans hB hSp.size) (Below.refl _ wr).drew);have r0d:wr.drew.heap[w.heap.size]?=some (.cells #[.int .i64 0,.int .i64 0] 122 (0,0)):=r0;have r1d:wr.drew.heap[w.heap.size+1]?=some (.cells #[.int .i64 (b:Int),.int .i64 (z0Y t:Int)] 122 (0,0)):=r1;clear hD hSp r0 r1 x0 x1 y0 y1 HT;refine z0f (fun w':World=>w'.cell? ⟨w.heap.size+1,0,none⟩=some (.int .i64 (b:Int))/\w'.cell? ⟨w.heap.size+1,1,none⟩=some (.int .i64 (z0Y t:Int))) 3 5 (by kernel_rfl) rfl ?_;generalize wr.drew=w1 at *;refine tW 1 hSS ?_;refine tR 0 [] hSS ?_;have HFL:=z7z w1 B p n s1 hDd;unfold DSt.flushF DSt.flushed at HFL;cases hf:s1.falls with
   |true=>
    rw[if_pos hf,if_pos hf,q9]at HFL;refine oG 2 fun K hK=>?_
    go_wp2_with fail;refine(show Calls _ _ _ _ _ from HFL).mono ?_;rintro e w4 ⟨rfl,hD4,hS4⟩;clear HFL;have r0e:=hS4.block _ _ r0d (z3h _ _);have r1e:=hS4.block _ _ r1d (z3h _ _);obtain⟨x0,x1,y0,y1⟩:=box2 r1e;obtain⟨z0,z1,z2,z3⟩:=box2 r0e;go_wp2;refine hK _ _ ⟨x0,x1⟩ ?_;clear hK;have hSE:Spun B w ((w4.setCell ⟨w.heap.size,0,none⟩ (.int .i64 (b:Int))).setCell ⟨w.heap.size,1,none⟩ (.int .i64 (z0Y t:Int))):=((hSd.trans hS4).own hB (Nat.le_refl _) _).own hB (Nat.le_refl _) _;have hDE:Disk ((w4.setCell ⟨w.heap.size,0,none⟩ (.int .i64 (b:Int))).setCell ⟨w.heap.size,1,none⟩ (.int .i64 (z0Y t:Int))) B p n s1.fell:=(hD4.set r0e (by decide) _).set (z1i _ r0e) (by decide) _;have HEND:BodyEnd s n b t s1.fell (.returned (.tuple #[.agg #[.int .i64 (b:Int),.int .i64 (z0Y t:Int)],errV 9])):=.fell _ _ (fun hl=>by
     have h1:=hBd.left hl;simp[DSt.falls,hBd.up,h1]at hf) rfl (fun i hi hni=>hBd.rest i (by omega))
    clear hf;refine lG 3 fun K hK=>?_
    go_wp2;refine hK _ _ ?_;clear hK;refine tA 4 ?_;refine z1c (by kernel_rfl) ?_ _;go_wp2;refine bodyPost_ret (v:=.tuple #[.agg #[.int .i64 (b:Int),.int .i64 (z0Y t:Int)],.iface 43 (.int .i64 9)]) (by simp[results,Tryz.results207,go_sem,z0,z1]) rfl ?_;exact⟨_,HEND,hDE,hSE⟩
   |false=>
    rw[if_neg (by simp[hf]),if_neg (by simp[hf]),q0]at HFL;have hKB:=hBd.flush hq55 hf hc;refine oG 2 fun K hK=>?_
    go_wp2_with fail;refine(show Calls _ _ _ _ _ from HFL).mono ?_;rintro e w4 ⟨rfl,hD4,hS4⟩;clear HFL;have r0e:=hS4.block _ _ r0d (z3h _ _);have r1e:=hS4.block _ _ r1d (z3h _ _);obtain⟨x0,x1,y0,y1⟩:=box2 r1e;obtain⟨z0,z1,z2,z3⟩:=box2 r0e;go_wp2;refine hK _ _ ⟨x0,x1⟩ ?_;clear hK;have hSE:Spun B w ((w4.setCell ⟨w.heap.size,0,none⟩ (.int .i64 (b:Int))).setCell ⟨w.heap.size,1,none⟩ (.int .i64 (z0Y t:Int))):=((hSd.trans hS4).own hB (Nat.le_refl _) _).own hB (Nat.le_refl _) _;have hDE:Disk ((w4.setCell ⟨w.heap.size,0,none⟩ (.int .i64 (b:Int))).setCell ⟨w.heap.size,1,none⟩ (.int .i64 (z0Y t:Int))) B p n (s1.stepped.settled 18446744073709551615):=(hD4.set r0e (by decide) _).set (z1i _ r0e) (by decide) _;have HEND:BodyEnd s n b t _ (.returned (.tuple #[.agg #[.int .i64 (b:Int),.int .i64 (z0Y t:Int)],.nilIface])):=.ok hKB;clear hf;refine lG 3 fun K hK=>?_
    go_wp2;refine hK _ _ ?_;clear hK;refine tA 4 ?_;refine z1c (by kernel_rfl) ?_ _;go_wp2;refine bodyPost_ret (v:=.tuple #[.agg #[.int .i64 (b:Int),.int .i64 (z0Y t:Int)],.nilIface]) (by simp[results,Tryz.results207,go_sem,z0,z1]) rfl ?_;exact⟨_,HEND,hDE,hSE⟩
end
section
open Go.RowKit
theorem z2T (s:ByteArray)(w:World)(hE:Env w)(hs:s.size<=1000000) :
 Calls Tryz.prog 221 #[.string s] w fun e w'=>e=.returned (.int .i64 (numF s.data.toList))/\Below w.heap.size w w':=by
 generalize hF:numF s.data.toList=F;unfold numF at hF;cases hq:Lib.atoiAll s.data.toList with
 |ok v=>
  rw[hq]at hF;have HA:=Tryz.strconv_Atoi_ok s (by omega) v hq w;have HE:Hid (v=F):=hF;clear hF hq;go_enter Tryz.func221,Tryz.ntmps221;go_wp2_with fail;refine HA.mono ?_;rintro e w' ⟨rfl,hw⟩;have hb:Below w.heap.size w w':=by
   rcases hw with rfl|⟨t,rfl⟩
   ·exact Below.refl _ _
   ·exact Lib.bytesWorld_below _ _ _
  clear hw HA;go_wp2;go_ret;exact⟨z3l HE.out,hb⟩
 |range=>
  rw[hq]at hF;obtain⟨ev,hv,hev⟩:=hE.errR;have HA:=Tryz.strconv_Atoi_range s (by omega) hq ev w hv hev;have HE:Hid (Lib.atoiSat s.data.toList=F):=hF;generalize Lib.atoiSat s.data.toList=v at *;clear hF hq hv hev;go_enter Tryz.func221,Tryz.ntmps221;go_wp2_with fail;refine HA.mono ?_;rintro e w' ⟨N,rfl,_,_,hb⟩;clear HA;go_wp2;go_ret;exact⟨z3l HE.out,hb⟩
 |_=>
  rw[hq]at hF;obtain⟨ev,hv,hev⟩:=hE.errS;have HA:=Tryz.strconv_Atoi_syntax s (by omega) hq ev w hv hev;have HE:Hid (0=F):=hF;clear hF hq hv hev;go_enter Tryz.func221,Tryz.ntmps221;go_wp2_with fail;refine HA.mono ?_;rintro e w' ⟨N,rfl,_,_,hb⟩;clear HA;go_wp2;go_ret;exact⟨z3l HE.out,hb⟩
theorem entClone_any(s:ByteArray)(w:World)(hs:s.size<=1000000) :
 Calls Tryz.prog 102 #[.string s] w fun e w'=>e=.returned (.string s)/\Below w.heap.size w w':=by
 have HA:=Tryz.stringslite_Clone s w (by omega);go_enter Tryz.func102,Tryz.ntmps102;go_wp2_with fail;refine HA.mono ?_;rintro e w' ⟨rfl,hb⟩;clear HA;go_wp2;go_ret;exact⟨rfl,hb⟩
end
section
open Go.RowKit
theorem wordB_size(sep:ByteArray):∀(k:Nat) (s x:ByteArray),x∈Lib.splitB sep 0 k s->x.size<=s.size
 |0,s,x,h=>by
  rw[Lib.splitB_zero,List.mem_singleton]at h;rw[h];exact Nat.le_refl _
 |k+1,s,x,h=>by
  unfold Lib.splitB at h;split at h
  ·rw[List.mem_singleton]at h;rw[h];exact Nat.le_refl _
  ·rcases List.mem_cons.1 h with h|h
   ·rw[h];simp;omega
   ·have:=wordB_size sep k _ x h;have h2:(s.extract ((Lib.indexB s sep).toNat+sep.size) s.size).size<=s.size:=by simp
    omega
theorem trim_le(s p:List UInt8):(Lib.trimSuffix s p).length<=s.length:=by
 unfold Lib.trimSuffix;split <;> simp
theorem wd_size(s:ByteArray)(i:Nat):(wd (z3b s) i).size<=s.size:=by
 unfold wd;by_cases h:i<(z3b s).length
 ·rw[List.getD_eq_getElem?_getD,List.getElem?_eq_getElem h];refine Nat.le_trans (wordB_size _ _ _ _ (List.getElem_mem h)) ?_;have:=trim_le s.data.toList [10];exact this
 ·rw[List.getD_eq_getElem?_getD,List.getElem?_eq_none (by omega)];exact Nat.zero_le _
structure Words(w:World)(bW:Nat)(ws:List ByteArray):Prop where
 at_:∀j,j<ws.length->w.cell? ⟨bW,j,none⟩=some (.string (wd ws j))
theorem splitE(s:ByteArray)(w:World)(hE:Env w)(hs:s.size<=1000000) :
 Calls Tryz.prog 220 #[.string ⟨(Lib.trimSuffix s.data.toList [10]).toArray⟩,.string ⟨#[32]⟩,.int .i64 129] w fun e w'=>∃cap,e=.returned (.slice (some ⟨w.heap.size,0,none⟩) (z3b s).length cap)/\(z3b s).length<=cap/\cap<=129/\Words w' w.heap.size (z3b s)/\w'.heap.size=w.heap.size+1/\Below w.heap.size w w':=by
 obtain⟨m,hm⟩:=hE.maxLen;have hz:(⟨(Lib.trimSuffix s.data.toList [10]).toArray⟩:ByteArray).size<=s.size:=by
  have:=trim_le s.data.toList [10];exact this
 have hl:(z3b s).length<=min 129 ((⟨(Lib.trimSuffix s.data.toList [10]).toArray⟩:ByteArray).size+1):=by
  have:=Lib.splitB_length_le ⟨#[32]⟩ 0 (min 129 ((⟨(Lib.trimSuffix s.data.toList [10]).toArray⟩:ByteArray).size+1)-1) ⟨(Lib.trimSuffix s.data.toList [10]).toArray⟩;unfold z3b;omega
 refine(Tryz.strings_SplitN ⟨(Lib.trimSuffix s.data.toList [10]).toArray⟩ ⟨#[32]⟩ 129 m w (by omega) hm (by decide) (by decide) (by decide)).mono ?_;rintro e w' ⟨rfl,rfl⟩;refine⟨_,rfl,hl,Nat.min_le_left _ _,⟨fun j hj=>?_⟩,by simp,(Below.refl _ _).alloc (Nat.le_refl _) _⟩;rw[World.cell?_alloc_mark];show(Lib.cellsOf (z3b s) _)[j]?=_;unfold Lib.cellsOf wd;simp[List.getElem?_append_left,hj]
theorem Words.later{w w':World}{b:Nat}{ws:List ByteArray}(h:Words w b ws)(hb:Below w.heap.size w w'):Words w' b ws:=⟨fun j hj=>cell_later hb (h.at_ j hj)⟩
structure Rd(t:TypeId)(c:Value->Array Value)(w5 wr:World)(be:Nat)(g:Nat->List Value)(j:Nat)(v:Value):Prop where
 lt:be<w5.heap.size
 blk:wr.heap[be]?=some (.cells (c v) 71 (0,0))
 own:wr.ownsRow w5.heap.size t 3 v j (z0i g j)
 low:Below be w5 wr
 kept:∀k,k<w5.heap.size->k≠be->wr.heap[k]?=w5.heap[k]?
theorem Rd.later{t:TypeId}{c:Value->Array Value}{w5 wr w':World}{be:Nat}{g:Nat->List Value}{j:Nat}{v:Value}(h:Rd t c w5 wr be g j v)(hb:Below wr.heap.size wr w'):Rd t c w5 w' be g j v:=
 ⟨h.lt,(hb.block be (Array.getElem?_eq_some_iff.1 h.blk).1).trans h.blk,z0e h.own hb,h.low.trans (hb.mono (Nat.le_of_lt (Array.getElem?_eq_some_iff.1 h.blk).1)),fun k hk hne=>(hb.block k (Nat.lt_of_lt_of_le hk h.low.size)).trans (h.kept k hk hne)⟩
theorem Rd.cell{t:TypeId}{c:Value->Array Value}{w5 wr:World}{be:Nat}{g:Nat->List Value}{j:Nat}{v:Value}(h:Rd t c w5 wr be g j v){b o:Nat}{u:Value}(hu:w5.cell? ⟨b,o,none⟩=some u)(hne:b≠be):wr.cell? ⟨b,o,none⟩=some u:=by
 have hk:=h.kept b (World.block_lt_of_cell? _ _ hu) hne;unfold World.cell? at hu ⊢;rw[hk];exact hu
theorem Rd.words{t:TypeId}{c:Value->Array Value}{w5 wr:World}{be:Nat}{g:Nat->List Value}{j:Nat}{v:Value}(h:Rd t c w5 wr be g j v){b:Nat}{ws:List ByteArray}(hw:Words w5 b ws)(hne:b≠be):Words wr b ws:=⟨fun j hj=>h.cell (hw.at_ j hj) hne⟩
theorem setE{w:World}{B b i s n:Nat}{e:TypeId}{v u:Value}{xs:List Value}(h:w.ownsRow B e s v n xs)(hlt:b<B):(w.setCell ⟨b,i,none⟩ u).ownsRow B e s v n xs:=by
 refine⟨h.1,?_⟩;rcases h.2 with⟨rfl,h0⟩|⟨g,cap,cur,rfl,h1,hg,h2⟩
 ·exact .inl ⟨rfl,h0⟩
 ·exact .inr ⟨g,cap,cur,rfl,h1,(Below.heap_setCell _ _ _ _ (by show g≠b;omega)).trans hg,h2⟩
theorem z5b {B g:Nat}{w w':World}(h:Below B w w')(hg:B<=g)(a0 a1 a2:Value):Below B w (((w'.setCell ⟨g,0,none⟩ a0).setCell ⟨g,1,none⟩ a1).setCell ⟨g,2,none⟩ a2):=
 h.trans ⟨rfl,rfl,rfl,by simp[World.setCell],fun k hk=>((Below.heap_setCell _ _ _ _ (Nat.ne_of_lt (Nat.lt_of_lt_of_le hk hg))).trans (Below.heap_setCell _ _ _ _ (Nat.ne_of_lt (Nat.lt_of_lt_of_le hk hg)))).trans (Below.heap_setCell _ _ _ _ (Nat.ne_of_lt (Nat.lt_of_lt_of_le hk hg)))⟩
structure Three(w:World)(b o:Nat)(x y z:Value):Prop where
 c0:w.cell? ⟨b,o,none⟩=some x
 c1:w.cell? ⟨b,o+1,none⟩=some y
 c2:w.cell? ⟨b,o+2,none⟩=some z
structure ResAt(w:World)(b:Nat):Prop where
 q0:w.cell? ⟨b,0,none⟩=some (.string ⟨#[]⟩)
 q1:w.cell? ⟨b,1,none⟩=some (.slice none 0 0)
 q2:w.cell? ⟨b,2,none⟩=some (.slice none 0 0)
 f0:w.frozen? ⟨b,0,none⟩=false
 f1:w.frozen? ⟨b,1,none⟩=false
 f2:w.frozen? ⟨b,2,none⟩=false
theorem resAt{w:World}{b:Nat}(h:w.heap[b]?=some (.cells #[.string ⟨#[]⟩,.slice none 0 0,.slice none 0 0] 71 (0,0))):ResAt w b:=
 ⟨by simp[World.cell?,h],by simp[World.cell?,h],by simp[World.cell?,h],by simp[World.frozen?,h],by simp[World.frozen?,h],by simp[World.frozen?,h]⟩
theorem Rd.put{t:TypeId}{c:Value->Array Value}{w5 wr W:World}{be i:Nat}{g:Nat->List Value}{j:Nat}{v v':Value}(h:Rd t c w5 wr be g j v)(bl:Obj)(hG:Grown w5.heap.size t 3 (wr.alloc bl) v (j+1) (z0i g j++g j) v' W)(hset:(c v).set! i v'=c v')(hi:(c v)[i]?=some v) :
 W.cell? ⟨be,i,none⟩=some v/\W.frozen? ⟨be,i,none⟩=false/\Below w5.heap.size wr W/\Rd t c w5 (W.setCell ⟨be,i,none⟩ v') be g (j+1) v':=by
 have hz:w5.heap.size<=wr.heap.size:=h.low.size;have hb2:Below w5.heap.size wr W:=((Below.refl _ wr).alloc hz _).trans hG.below;have hW:W.heap[be]?=some (.cells (c v) 71 (0,0)):=(hb2.block be h.lt).trans h.blk;refine⟨by simp[World.cell?,hW,hi],by simp[World.frozen?,hW],hb2,h.lt,?_,setE hG.own h.lt,?_,?_⟩
 ·rw[<-hset];show(W.heap.modify be _)[be]?=_;rw[Array.getElem?_modify,if_pos rfl,hW];rfl
 ·exact(h.low.trans (hb2.mono (Nat.le_of_lt h.lt))).trans ⟨rfl,rfl,rfl,by simp[World.setCell],fun k hk=>Below.heap_setCell _ _ _ _ (Nat.ne_of_lt hk)⟩
 ·intro k hk hne;rw[Below.heap_setCell _ _ _ _ hne,hb2.block k hk];exact h.kept k hk hne
theorem grow3{B0:Nat}{w:World}{v:Value}{n:Nat}{xs:List Value}(s:ByteArray)(x y:Int)(hB:B0<=w.heap.size)(h:w.ownsRow B0 112 3 v n xs)(hn:n<1000) :
 ∃v' W,(Builtin.append_ #[68,68] 68 #[v,.slice (some ⟨w.heap.size,0,none⟩) 1 1]).run Tryz.prog (w.alloc (.cells #[.string s,.int .i64 x,.int .i64 y] 112))=.ok v' W/\Grown B0 112 3 (w.alloc (.cells #[.string s,.int .i64 x,.int .i64 y] 112)) v (n+1) (xs++[.string s,.int .i64 x,.int .i64 y]) v' W:=
 z0J 68 112 3 32 (.agg #[.string ⟨#[]⟩,.int .i64 0,.int .i64 0]) (by kernel_rfl) (by kernel_rfl) (by rfl) (by decide) B0 _ v n _ (h.alloc _) (some ⟨w.heap.size,0,none⟩) 1 1 [.string s,.int .i64 x,.int .i64 y] rfl
  (.inr ⟨_,_,rfl,fun j u hj=>by
    match j,hj with
    |0,hj=>simp at hj;subst hj;simp[go_sem]
    |1,hj=>simp at hj;subst hj;simp[go_sem]
    |2,hj=>simp at hj;subst hj;simp[go_sem]
    |j+3,hj=>simp at hj⟩) (fun u hu=>by simp at hu;rcases hu with rfl|rfl|rfl <;> rfl) (by simp;omega) (by omega) (by decide)
theorem growI3{B0:Nat}{w:World}{v:Value}{n:Nat}{xs:List Value}(s x y:Int)(hB:B0<=w.heap.size)(h:w.ownsRow B0 114 3 v n xs)(hn:n<1000) :
 ∃v' W,(Builtin.append_ #[69,69] 69 #[v,.slice (some ⟨w.heap.size,0,none⟩) 1 1]).run Tryz.prog (w.alloc (.cells #[.int .i64 s,.int .i64 x,.int .i64 y] 114))=.ok v' W/\Grown B0 114 3 (w.alloc (.cells #[.int .i64 s,.int .i64 x,.int .i64 y] 114)) v (n+1) (xs++[.int .i64 s,.int .i64 x,.int .i64 y]) v' W:=
 z0J 69 114 3 24 (.agg #[.int .i64 0,.int .i64 0,.int .i64 0]) (by kernel_rfl) (by kernel_rfl) (by rfl) (by decide) B0 _ v n _ (h.alloc _) (some ⟨w.heap.size,0,none⟩) 1 1 [.int .i64 s,.int .i64 x,.int .i64 y] rfl
  (.inr ⟨_,_,rfl,fun j u hj=>by
    match j,hj with
    |0,hj=>simp at hj;subst hj;simp[go_sem]
    |1,hj=>simp at hj;subst hj;simp[go_sem]
    |2,hj=>simp at hj;subst hj;simp[go_sem]
    |j+3,hj=>simp at hj⟩) (fun u hu=>by simp at hu;rcases hu with rfl|rfl|rfl <;> rfl) (by simp;omega) (by omega) (by decide)
end
end Go.Proofs.YtbcpcbonlhlhpaaGreatDoor
