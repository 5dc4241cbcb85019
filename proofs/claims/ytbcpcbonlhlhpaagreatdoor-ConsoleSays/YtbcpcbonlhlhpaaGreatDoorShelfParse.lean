/- Rows of entries of a call's own: where they lie, and what -/
import Derived.Test.YtbcpcbonlhlhpaaGreatDoorEntParse
import Derived.RangeFuncNested
import Derived.RangeFuncBound
import Derived.RangeFuncCalls
import Derived.RangeFuncLeaves
import Derived.RangeFuncBox
import Derived.Shelf.Abstract
import Derived.Shelf.RegionOpen
import Derived.OwnWalkIn
import Derived.TacticsInMore
import Derived.LoopNIn
import Derived.LoopIn
set_option maxRecDepth 100000
set_option maxHeartbeats 4000000
namespace Go.Proofs.YtbcpcbonlhlhpaaGreatDoor
section
open Go.RowKit
structure z5N (w:World)(B:Nat)(v:EntV)(e:EntF):Prop where
 here:z5k w v e
 tP:e.nP=0∨∃bk o,v.aP=some ⟨bk,o,none⟩/\(bk<B∨∃C,w.heap[bk]?=some (.cells C 112 (0,0)))
 tQ:e.nQ=0∨∃bk o,v.aQ=some ⟨bk,o,none⟩/\(bk<B∨∃C,w.heap[bk]?=some (.cells C 114 (0,0)))
theorem z5I.within{w:World}{v:EntV}{e:EntF}(h:z5I w v e)(B:Nat):z5N w B v e:=
 ⟨h.here,h.tP.imp id fun⟨bk,o,C,ha,hC⟩=>⟨bk,o,ha,.inr ⟨C,hC⟩⟩,h.tQ.imp id fun⟨bk,o,C,ha,hC⟩=>⟨bk,o,ha,.inr ⟨C,hC⟩⟩⟩
theorem z5k.within{w:World}{v:EntV}{e:EntF}(h:z5k w v e):z5N w w.heap.size v e:=by
 refine⟨h,?_,?_⟩
 ·rcases h.parts with h0|⟨bk,o,ha,hc⟩
  ·exact .inl h0
  ·by_cases h0:e.nP=0
   ·exact .inl h0
   ·exact .inr ⟨bk,o,ha,.inl (World.block_lt_of_cell? _ _ (hc 0 (by omega)).1)⟩
 ·rcases h.pats with h0|⟨bk,o,ha,hc⟩
  ·exact .inl h0
  ·by_cases h0:e.nQ=0
   ·exact .inl h0
   ·exact .inr ⟨bk,o,ha,.inl (World.block_lt_of_cell? _ _ (hc 0 (by omega)).1)⟩
structure z1B (B:Nat)(w w':World):Prop where
 low:∀k:Nat,k<B->w'.heap[k]?=w.heap[k]?
 kind:∀(k:Nat) (C:Array Value) (t:TypeId),(t=112∨t=114)->w.heap[k]?=some (.cells C t (0,0))->w'.heap[k]?=w.heap[k]?
theorem z1B.refl(B:Nat)(w:World):z1B B w w:=⟨fun _ _=>rfl,fun _ _ _ _ _=>rfl⟩
theorem z1B.trans{B:Nat}{a b c:World}(h:z1B B a b)(g:z1B B b c):z1B B a c:=
 ⟨fun k hk=>(g.low k hk).trans (h.low k hk),fun k C t ht hk=>(g.kind k C t ht ((h.kind k C t ht hk).trans hk)).trans (h.kind k C t ht hk)⟩
theorem z1B.of_below{B:Nat}{w w':World}(hB:B<=w.heap.size)(h:Below w.heap.size w w'):z1B B w w':=
 ⟨fun k hk=>h.block k (by omega),fun k _ _ _ hk=>h.block k (Array.getElem?_eq_some_iff.1 hk).1⟩
theorem z1B.of_spun{B:Nat}{w w':World}(h:Spun B w w'):z1B B w w':=
 ⟨fun k hk=>h.below.block k hk,fun k C t ht hk=>(h.block k _ hk (fun⟨c,t',f,e,h'⟩=>by
  injection e with _ e2 _;subst e2;rcases ht with rfl|rfl <;> exact absurd h' (by decide))).trans hk.symm⟩
theorem z1B.set{B g i:Nat}{w:World}{C:Array Value}{t:TypeId}{f:Nat×Nat}(hg:w.heap[g]?=some (.cells C t f))(ht:t≠112/\t≠114)(hB:B<=g)(v:Value):z1B B w (w.setCell ⟨g,i,none⟩ v):=
 ⟨fun k hk=>Below.heap_setCell _ _ _ _ (by show k≠g;omega),fun k C' t' ht' hk=>Below.heap_setCell _ _ _ _ (fun e=>by
  have e:k=g:=e;subst e;rw[hg]at hk;injection hk with hk;injection hk with _ h2 _;subst h2;rcases ht' with h|h
  ·exact ht.1 h
  ·exact ht.2 h)⟩
theorem z1B.grown{B B1:Nat}{w w':World}{e:TypeId}{s n:Nat}{v:Value}{xs:List Value}(hB:B<=B1)(hw:B<=w.heap.size)(h:w.ownsRow B1 e s v n xs)(he:e≠112/\e≠114)(hg:w.grownBy w' v.ownBlock):z1B B w w':=by
 have key:∀k,some k=v.ownBlock->B1<=k/\∃C,w.heap[k]?=some (.cells C e (0,0)):=fun k hk=>by
  rcases h.2 with⟨rfl,_⟩|⟨g,cap,cur,rfl,hb,hgb,_⟩
  ·simp[Value.ownBlock]at hk
  ·have:k=g:=by simpa[Value.ownBlock]using hk
   subst this;exact⟨hb,cur,hgb⟩
 refine⟨fun k hk=>hg.block k (by omega) (fun e'=>by have:=(key k e').1;omega),fun k C t ht hk=>hg.block k (Array.getElem?_eq_some_iff.1 hk).1 (fun e'=>?_)⟩;obtain⟨C',hC'⟩:=(key k e').2;rw[hC']at hk;injection hk with hk;injection hk with _ h2 _;subst h2;rcases ht with h|h
 ·exact he.1 h
 ·exact he.2 h
theorem z5N.keeps{w w':World}{B:Nat}{v:EntV}{e:EntF}(h:z5N w B v e)(hk:z1B B w w'):z5N w' B v e:=by
 have kP:∀bk,(bk<B∨∃C,w.heap[bk]?=some (.cells C 112 (0,0)))->w'.heap[bk]?=w.heap[bk]?:=fun bk hb=>by
  rcases hb with hb|⟨C,hC⟩
  ·exact hk.low bk hb
  ·exact hk.kind bk C _ (.inl rfl) hC
 have kQ:∀bk,(bk<B∨∃C,w.heap[bk]?=some (.cells C 114 (0,0)))->w'.heap[bk]?=w.heap[bk]?:=fun bk hb=>by
  rcases hb with hb|⟨C,hC⟩
  ·exact hk.low bk hb
  ·exact hk.kind bk C _ (.inr rfl) hC
 refine⟨⟨?_,?_⟩,h.tP.imp id fun⟨bk,o,ha,hb⟩=>⟨bk,o,ha,hb.imp id fun⟨C,hC⟩=>⟨C,(kP bk (.inr ⟨C,hC⟩)).trans hC⟩⟩,h.tQ.imp id fun⟨bk,o,ha,hb⟩=>⟨bk,o,ha,hb.imp id fun⟨C,hC⟩=>⟨C,(kQ bk (.inr ⟨C,hC⟩)).trans hC⟩⟩⟩
 ·rcases h.tP with h0|⟨bk,o,ha,hb⟩
  ·exact .inl h0
  ·have hs:=kP bk hb;rcases h.here.parts with h0|⟨bk',o',ha',hc⟩
   ·exact .inl h0
   ·rw[ha]at ha';injection ha' with ha';injection ha' with h1 h2;subst h1 h2;exact .inr ⟨bk,o,ha,fun i hi=>⟨(World.cell?_of_block (a:=⟨bk,_,none⟩) hs).trans (hc i hi).1,(World.cell?_of_block (a:=⟨bk,_,none⟩) hs).trans (hc i hi).2.1,(World.cell?_of_block (a:=⟨bk,_,none⟩) hs).trans (hc i hi).2.2⟩⟩
 ·rcases h.tQ with h0|⟨bk,o,ha,hb⟩
  ·exact .inl h0
  ·have hs:=kQ bk hb;rcases h.here.pats with h0|⟨bk',o',ha',hc⟩
   ·exact .inl h0
   ·rw[ha]at ha';injection ha' with ha';injection ha' with h1 h2;subst h1 h2;exact .inr ⟨bk,o,ha,fun i hi=>⟨(World.cell?_of_block (a:=⟨bk,_,none⟩) hs).trans (hc i hi).1,(World.cell?_of_block (a:=⟨bk,_,none⟩) hs).trans (hc i hi).2.1,(World.cell?_of_block (a:=⟨bk,_,none⟩) hs).trans (hc i hi).2.2⟩⟩
theorem z5N.more{w:World}{B B':Nat}{v:EntV}{e:EntF}(h:z5N w B v e)(hB:B<=B'):z5N w B' v e:=
 ⟨h.here,h.tP.imp id fun⟨bk,o,ha,hb⟩=>⟨bk,o,ha,hb.imp (fun h=>Nat.lt_of_lt_of_le h hB) id⟩,h.tQ.imp id fun⟨bk,o,ha,hb⟩=>⟨bk,o,ha,hb.imp (fun h=>Nat.lt_of_lt_of_le h hB) id⟩⟩
def entL(V:Nat->EntV)(E:Nat->EntF)(i:Nat):List Value:=[.string (E i).root,.slice (V i).aP (E i).nP (V i).cP,.slice (V i).aQ (E i).nQ (V i).cQ]
structure z0C (w:World)(B0 B:Nat)(v:Value)(k:Nat)(V:Nat->EntV)(E:Nat->EntF):Prop where
 row:w.ownsRow B 71 3 v k (z0i (entL V E) k)
 ins:∀i,i<k->z5N w B0 (V i) (E i)
theorem z0C.ents{w:World}{B0 B:Nat}{v:Value}{k:Nat}{V:Nat->EntV}{E:Nat->EntF}(h:z0C w B0 B v k V E):∃a c,v=.slice a k c/\z6J w a k V E:=by
 obtain⟨a,c,rfl,hr⟩:=rows3 (fun _=>rfl) h.row;refine⟨a,c,rfl,?_⟩;rcases hr with h0|⟨bk,hbk,ha,hc,_⟩
 ·exact .inl h0
 ·refine .inr ⟨bk,0,ha,fun i hi=>⟨?_,?_,?_,(h.ins i hi).here⟩⟩
  ·have:=hc i hi 0 _ rfl;simpa using this
  ·have:=hc i hi 1 _ rfl;simpa using this
  ·have:=hc i hi 2 _ rfl;simpa using this
theorem z0C.keeps{w w':World}{B0 B:Nat}{v:Value}{k:Nat}{V:Nat->EntV}{E:Nat->EntF}(h:z0C w B0 B v k V E)(hk:z1B B0 w w')(hr:∀b,v.ownBlock=some b->w'.heap[b]?=w.heap[b]?):z0C w' B0 B v k V E:=
 ⟨z5X h.row hr,fun i hi=>(h.ins i hi).keeps hk⟩
theorem z0C.later{w w':World}{B0 B:Nat}{v:Value}{k:Nat}{V:Nat->EntV}{E:Nat->EntF}(h:z0C w B0 B v k V E)(hB:B0<=w.heap.size)(hb:Below w.heap.size w w'):z0C w' B0 B v k V E:=
 h.keeps (z1B.of_below hB hb) fun b e=>by
  obtain⟨C,hC⟩:=z4r h.row e;exact hb.block b (Array.getElem?_eq_some_iff.1 hC).1
theorem z0C.spun{w w':World}{B0 B:Nat}{v:Value}{k:Nat}{V:Nat->EntV}{E:Nat->EntF}(h:z0C w B0 B v k V E)(hs:Spun B0 w w'):z0C w' B0 B v k V E:=
 h.keeps (z1B.of_spun hs) fun b e=>by
  obtain⟨C,hC⟩:=z4r h.row e;exact(hs.block b _ hC (fun⟨c,t',f,e,h'⟩=>by
   injection e with _ e2 _;subst e2;exact absurd h' (by decide))).trans hC.symm
theorem z0C.congr{w:World}{B0 B:Nat}{v:Value}{k:Nat}{V V':Nat->EntV}{E E':Nat->EntF}(h:z0C w B0 B v k V E)(e:∀i,i<k->V i=V' i/\E i=E' i):z0C w B0 B v k V' E':=
 ⟨by
  rw[<-z1f (g:=entL V E) (fun i hi=>by unfold entL;rw[(e i hi).1,(e i hi).2])];exact h.row,fun i hi=>by rw[<-(e i hi).1,<-(e i hi).2];exact h.ins i hi⟩
def addV{α:Type}(V:Nat->α)(k:Nat)(x:α)(i:Nat):α:=if i=k then x else V i
theorem z0C.added{w':World}{B0 B:Nat}{v':Value}{k:Nat}{V:Nat->EntV}{E:Nat->EntF}{x:EntV}{e:EntF}(hi:∀i,i<k->z5N w' B0 (V i) (E i))(he:z5N w' B0 x e)
 (hr:w'.ownsRow B 71 3 v' (k+1) (z0i (entL V E) k++[.string e.root,.slice x.aP e.nP x.cP,.slice x.aQ e.nQ x.cQ])):z0C w' B0 B v' (k+1) (addV V k x) (addV E k e):=by
 refine⟨?_,fun i hlt=>?_⟩
 ·show w'.ownsRow B _ 3 v' (k+1) (z0i (entL (addV V k x) (addV E k e)) k++entL (addV V k x) (addV E k e) k);rw[z1f (h:=entL V E) (fun i hi=>by unfold entL addV;rw[if_neg (by omega),if_neg (by omega)])];unfold entL addV;rw[if_pos rfl,if_pos rfl];exact hr
 ·unfold addV;by_cases h:i=k
  ·rw[if_pos h,if_pos h];exact he
  ·rw[if_neg h,if_neg h];exact hi i (by omega)
end
section
open Go.RowKit Go.Shelf
attribute [local go_sem] Oper.semAt_some
abbrev Ln:={x:ByteArray // (z3A x).1=0/\x.size<=1000}
def upto(X:Nat->Ln)(k:Nat):List Ln:=(List.range k).map X
theorem upto_succ(X:Nat->Ln)(k:Nat):upto X (k+1)=upto X k++[X k]:=by simp[upto,List.range_succ]
theorem upto_len(X:Nat->Ln)(k:Nat):(upto X k).length=k:=by simp[upto]
theorem z7n (X:Nat->Ln):∀ {i k:Nat},i<=k->upto X i <+: upto X k
 |i,0,h=>by obtain rfl:i=0:=by omega
            exact List.prefix_refl _
 |i,k+1,h=>by
  by_cases e:i=k+1
  ·subst e;exact List.prefix_refl _
  ·rw[upto_succ];exact(z7n X (by omega:i<=k)).trans (List.prefix_append _ _)
def KpC(n₀ Bn:Nat)(W W':World):Prop:=Below n₀ W W'/\W'.heap[Bn]?=W.heap[Bn]?
theorem KpC.trans{n₀ Bn:Nat}{A B C:World}(h:KpC n₀ Bn A B)(g:KpC n₀ Bn B C):KpC n₀ Bn A C:=⟨h.1.trans g.1,g.2.trans h.2⟩
theorem KpC.put{n₀ Bn m:Nat}(h1:n₀<=m)(h2:Bn<m)(W:World)(l:Nat)(o o':Obj)(hl:m<=l)(_:W.heap[l]?=some o)(_:o.isCells=false)(_:o.isWalk=false):KpC n₀ Bn W (W.putObj l o'):=
 ⟨⟨rfl,rfl,rfl,by simp,fun k hk=>World.putObj_heap_other (by omega)⟩,World.putObj_heap_other (by omega)⟩
theorem cut1_in(n:Nat)(hn:2<=n)(l Bn n₀ k:Nat)(X:Nat->Ln)(E:Nat->EntF)(T:ByteArray)(hT:T.data.toList=z0o E k)(hTs:T.size<=2256)(hX:∀i,i<k->z7q (E i)/\(X i).1=⟨(z0D (E i)).toArray⟩)(J Jx:List Ln->World->Prop)
 (hY:∀pre x W,J pre W->pre.length<k->YieldAt Fence.wide (n-1) Tryz.prog l #[.string x.1] W fun e W'=>
   (e=.returned (.bool true)/\J (pre++[x]) W'/\KpC n₀ Bn W W')∨(e=.returned (.bool false)/\Jx (pre++[x]) W'))
 (W:World) (hBn:Boxed W Bn 9 (.string T)) (h0:J [] W) :
 CallsIn Fence.wide n Tryz.prog 167 #[.func (.yield l) #[] #[],.pointer (some ⟨Bn,0,none⟩)] W fun e W'=>(∃v,e=.returned v) /\
  ((∃ys,ys=upto X k/\J ys W')∨(∃pre,pre <+: upto X k/\Jx pre W')):=by
 refine callsIn_of_wp Tryz.func167 rfl trivial ?_ rfl;simp only[Tryz.ntmps167,List.size_toArray,List.length_cons,List.length_nil,Nat.reduceAdd,Nat.reduceSub,Array.replicate_succ,Array.replicate_zero,List.push_toArray,List.append_toArray,List.nil_append,List.cons_append];gi_wp2;gi_loopw [3] (fun p wr=>∃i:Nat,i<=k/\p=.int .i64 ((z0o E i).length:Int)/\Boxed wr Bn 9 (.string T)/\J (upto X i) wr)
  (fun p _=>T.size-(intOf p).toNat)
 case atStart=>exact⟨0,Nat.zero_le _,rfl,hBn,h0⟩
 case round=>
  obtain⟨i,hi,rfl,hB,hJ⟩:=hrel;have hc:=hB.cell;have hsz:T.size=(z0o E k).length:=by rw[<-hT];simp
  by_cases hlt:i<k
  ·obtain⟨hOk,hXi⟩:=hX i hlt;obtain⟨r,hr1,hr2,hr3⟩:=linesE_cut hlt hOk;have hp:=lineE_pos (E i);obtain⟨m,hm⟩:∃m,(z0D (E i)).length=m+1:=⟨(z0D (E i)).length-1,by omega⟩;have hlen:T.size=(z0o E i).length+(m+1+r.length):=by rw[hsz,hr3];simp[hm]
   have HU:Hid (upto X (i+1)=upto X i++[X i]):=upto_succ X i;have HN:Hid (((z0o E (i+1)).length:Int)=((z0o E i).length:Int)+(m:Int)+1):=by show((z0o E (i+1)).length:Int)=_;rw[linesE_succ];simp[hm];omega
   have HXD:Hid ((T.extract (z0o E i).length T.size).data.toList=z0D (E i)++r):=by
    show(T.extract (z0o E i).length T.size).data.toList=_;rw[Lib.extract_data,hT,hr1,List.take_of_length_le (by simp[hm];omega)]
   have HXL:Hid (T.extract (z0o E i).length ((z0o E i).length+m+1)=(X i).1):=by
    show T.extract (z0o E i).length ((z0o E i).length+m+1)=_;rw[hXi];apply ByteArray.ext;apply Array.ext';rw[Lib.extract_data,hT,hr1,show(z0o E i).length+m+1-(z0o E i).length=(z0D (E i)).length by omega];simp
   have hiv:Lib.indexByte (z0D (E i)++r) 10=(m:Int):=by rw[hr2,hm];simp
   have HI:∀w,Calls Tryz.prog 168 #[.string (T.extract (z0o E i).length T.size),.int .u8 10] w fun e w'=>e=.returned (.int .i64 (m:Int))/\w'=w:=fun w=>by
    have:=Tryz.strings_IndexByte (T.extract (z0o E i).length T.size) 10 w;rw[HXD.out,show((10:Int).toNat.toUInt8)=10 from rfl,hiv]at this;exact this
   obtain⟨fn,tmps,assign,body,hy,hR⟩:=hY (upto X i) (X i) wr hJ (by rw[upto_len];exact hlt);have HLEN:Hid (T.size=(z0o E i).length+(m+1+r.length)):=hlen;have h1:((z0o E i).length:Int)<(T.size:Int):=by omega
   have h2:((z0o E i).length:Int)+(m:Int)+1<=(T.size:Int):=by omega
   have h3:(0:Int)<=((z0o E i).length:Int):=by omega
   have h4:(0:Int)<=(m:Int):=by omega
   have h5:(T.size:Int)<=2256:=by omega
   have HMP:Hid (upto X i <+: upto X k/\upto X (i+1) <+: upto X k):=⟨z7n X (by omega),z7n X (by omega)⟩;clear hr1 hr2 hr3 hm hlen hp hsz hOk hXi hiv HXD hT hX hY hJ;generalize hA:(z0o E i).length=A at *;have HA:Hid ((z0o E i).length=A):=hA;clear hA;rw[<-HXL.out]at hy;gi_wp2;refine⟨trivial,fun _=>by omega,?_⟩;refine(callsIn_wide.2 (show Calls _ _ _ _ _ from HI _)).mono ?_;rintro e w' ⟨rfl,hw⟩;subst hw;clear HI;gi_wp2;refine⟨fun _=>by omega,hR.mono ?_⟩;rintro e W3 (⟨rfl,hJ3,hk3⟩|⟨rfl,hJx3⟩)
   ·rw[<-HU.out]at hJ3;have hB3:Boxed W3 Bn 9 (.string T):=hk3.2.trans hB;clear hR hy hB hc;gi_wp2;go_roundw
    case rel=>exact⟨i+1,by omega,by rw[HN.out],hB3,hJ3⟩
    case measure=>simp[intOf];omega
   ·rw[<-HU.out]at hJx3;gi_wp2;refine bodyPost_ret (results_none rfl _ _ _) rfl ?_;exact⟨⟨_,rfl⟩,.inr ⟨_,HMP.out.2,hJx3⟩⟩
  ·obtain rfl:i=k:=by omega
   have h1:¬((z0o E i).length:Int)<(T.size:Int):=by omega
   clear hsz hlt;gi_wp2;go_end0;exact⟨⟨_,rfl⟩,.inl hJ⟩
theorem cut_in(n:Nat)(T:ByteArray)(w:World) :
 CallsIn Fence.wide n Tryz.prog 124 #[.string T] w fun e w'=>e=.returned (.func (.func 167) #[] #[.pointer (some ⟨w.heap.size,0,none⟩)])/\w'=w.alloc (.cells #[.string T] 9):=by
 refine callsIn_of_wp Tryz.func124 rfl trivial ?_ rfl;simp only[Tryz.ntmps124,List.size_toArray,List.length_cons,List.length_nil,Nat.reduceAdd,Nat.reduceSub,Array.replicate_succ,Array.replicate_zero,List.push_toArray,List.append_toArray,List.nil_append,List.cons_append];gi_wp2;go_ret;exact⟨rfl,rfl⟩
theorem cut_stops(n:Nat)(hn:2<=n)(Bn n₀ k:Nat)(X:Nat->Ln)(E:Nat->EntF)(T:ByteArray)(hT:T.data.toList=z0o E k)(hTs:T.size<=2256)(hX:∀i,i<k->z7q (E i)/\(X i).1=⟨(z0D (E i)).toArray⟩)(w:World)(hBn:Boxed w Bn 9 (.string T)) :
 SeqStopsK Fence.wide n Tryz.prog 167 #[.pointer (some ⟨Bn,0,none⟩)] (fun x:Ln=>#[Value.string x.1]) (KpC n₀ Bn) (fun ys=>ys=upto X k) (fun pre=>pre <+: upto X k) k w:=fun l J Jx W hW _ _ hY h0=>
 cut1_in n hn l Bn n₀ k X E T hT hTs hX J Jx hY W ((hW.block Bn hBn.lt).trans hBn) h0
end
section
open Go.RowKit Go.Shelf
attribute [local go_sem] Oper.semAt_some
def z2p (pre:List Ln)(i:Nat):EntF:=(z3A ((pre.map (·.1)).getD i ⟨#[]⟩)).2
theorem entsOf_old{pre:List Ln}{i:Nat}(x:Ln)(h:i<pre.length):z2p (pre++[x]) i=z2p pre i:=by
 unfold z2p;rw[List.map_append,List.getD_eq_getElem?_getD,List.getD_eq_getElem?_getD,List.getElem?_append_left (by simpa using h)]
theorem entsOf_new(pre:List Ln)(x:Ln):z2p (pre++[x]) pre.length=(z3A x.1).2:=by
 unfold z2p;rw[List.map_append,List.getD_eq_getElem?_getD,List.getElem?_append_right (by simp)];simp
theorem z2i {E:Nat->EntF}{root:ByteArray}{n:Nat}:∀(m i:Nat),n-i=m->0<=findF E root n i->∃j,i<=j/\j<n/\(E j).root=root/\findF E root n i=(j:Int)
 |0,i,hm,h=>by rw[z4g (by omega)]at h;exact absurd h (by decide)
 |m+1,i,hm,h=>by
  by_cases he:(E i).root=root
  ·exact⟨i,Nat.le_refl _,by omega,he,z5A (by omega) he⟩
  ·rw[z3N (by omega) he]at h ⊢;obtain⟨j,h1,h2,h3,h4⟩:=z2i m (i+1) (by omega) h;exact⟨j,by omega,h2,h3,h4⟩
theorem findF_none{E:Nat->EntF}{root:ByteArray}{n:Nat}:∀(m i:Nat),n-i=m->findF E root n i<0->∀j,i<=j->j<n->(E j).root≠root
 |0,i,hm,_=>fun j h1 h2=>by omega
 |m+1,i,hm,h=>fun j h1 h2=>by
  by_cases he:(E i).root=root
  ·rw[z5A (by omega) he]at h;omega
  ·rw[z3N (by omega) he]at h;by_cases e:j=i
   ·subst e;exact he
   ·exact findF_none m (i+1) (by omega) h j (by omega) h2
def ParseIn(w:World)(T:ByteArray)(pre:List Ln)(W:World):Prop:=
 ((∃v,Boxed W (w.heap.size+1+1) 35 v/\∃V,z0C W 0 w.heap.size v pre.length V (z2p pre))/\Boxed W w.heap.size 35 (.slice none 0 0)/\Boxed W (w.heap.size+1) 25 .nilIface/\Boxed W (w.heap.size+1+1+1) 9 (.string T))/\Below w.heap.size w W
theorem z2J {w w':World}{row:Option Nat}(hg:w.grownBy w' row)(hr:∀r,row=some r->∃o:Obj,w.heap[r]?=some o/\o.isCells=false){k:Nat}{C:Array Value}{t:TypeId}{f:Nat×Nat}(h:w.heap[k]?=some (.cells C t f)):w'.heap[k]?=w.heap[k]?:=
 hg.block k (Array.getElem?_eq_some_iff.1 h).1 (fun e=>by
  obtain⟨o,ho,hc⟩:=hr k e.symm;rw[h]at ho;cases ho;cases hc)
theorem parseIn_own(w:World)(T:ByteArray)(B:Nat)(hB:w.heap.size<=B):OwnFrom B (ParseIn w T):=by
 refine OwnFrom.and (Own.from ?_ _) (ownFrom_below (Nat.le_refl _) hB);rintro pre A A' row ⟨⟨v,hv,V,hE⟩,h2,h3,h5⟩ hg hr;refine⟨⟨v,(z2J hg hr hv).trans hv,V,hE.keeps ⟨fun k hk=>absurd hk (Nat.not_lt_zero _),fun k C t _ hk=>z2J hg hr hk⟩ (fun b e=>?_)⟩,(z2J hg hr h2).trans h2,(z2J hg hr h3).trans h3,(z2J hg hr h5).trans h5⟩;obtain⟨C,hC⟩:=z4r hE.row e;exact z2J hg hr hC
def ParseX(_:Code)(pre:List Ln)(_:World):Prop:=∃i,i+1<pre.length/\(z2p pre i).root=(z2p pre (pre.length-1)).root
theorem Tryz.infoEntry:(Tryz.prog.info? 71).map (fun i=>(i.zero,i.size,i.bytes))=some (some (.agg #[.string ⟨#[]⟩,.slice none 0 0,.slice none 0 0]),3,64):=by kernel_rfl
theorem box_added{w3 w5:World}{tmp:Obj}{n₀ g B:Nat}{t:TypeId}{u v v':Value}{k:Nat}{xs:List Value}(hb:Boxed w3 g t u)(ht:t≠71)(hr:w3.ownsRow n₀ 71 3 v k xs)(hg:(w3.alloc tmp).grownBy w5 v.ownBlock)(hne:g≠B):Boxed (w5.setCell ⟨B,0,none⟩ v') g t u:=
 (Below.heap_setCell _ _ _ _ hne).trans ((hb.alloc tmp).kept hg (hb.not_row ht hr))
theorem keepsOthers_below{W W':World}(h:Below W.heap.size W W'):KeepsOthers W W':=⟨h.size,fun k _ hk _=>(h.block k (Array.getElem?_eq_some_iff.1 hk).1).trans hk⟩
theorem shelfParse_any(w:World)(hE:Env w)(E:Nat->EntF)(k:Nat)(hk:k<=3)(hok:∀i,i<k->entF (E i)=0)(hone:∀i j,i<k->j<k->(E i).root=(E j).root->i=j)(T:ByteArray)(hT:T.data.toList=z0o E k) :
 Calls Tryz.prog 91 #[.string T] w fun e w'=>∃v V E',e=.returned (.tuple #[v,.nilIface])/\z0C w' 0 w.heap.size v k V E'/\(∀i,i<k->z2H (E' i) (E i))/\Below w.heap.size w w':=by
 have hTs:T.size<=2256:=by
  have:=z5Q hk (fun i hi=>z5t (hok i hi));rw[<-hT]at this;simpa using this
 have hX0:∀i,i<k->(z3A ⟨(z0D (E i)).toArray⟩).1=0/\z2H (z3A ⟨(z0D (E i)).toArray⟩).2 (E i):=fun i hi=>parse_line (by rw[textE_ok (hok i hi)]) (by rw[textE_ok (hok i hi)])
 have oneE:Nonempty Ln:=⟨⟨⟨#[97,32,49,32,48,32,97,32,49,32,48,10]⟩,by decide +kernel⟩⟩;obtain⟨X,hX⟩:∃X:Nat->Ln,∀i,i<k->(X i).1=⟨(z0D (E i)).toArray⟩:=by
  refine⟨fun i=>if h:i<k then⟨⟨(z0D (E i)).toArray⟩,(hX0 i h).1,by rw[z6E];have:=lineE_len (z5t (hok i h));omega⟩else Classical.choice oneE,fun i hi=>?_⟩;show(dite _ _ _:Ln).1=_;rw[dif_pos hi]
 refine(callsIn_wide (n:=6)).1 ?_;obtain⟨i0,hi,hz0,hz1,hz2⟩:=info_parts Tryz.infoEntry;refine callsIn_of_wp_marks Tryz.func91 rfl trivial ?_ rfl;simp only[Tryz.ntmps91,List.size_toArray,List.length_cons,List.length_nil,Nat.reduceAdd,Nat.reduceSub,Array.replicate_succ,Array.replicate_zero,List.push_toArray,List.append_toArray,List.nil_append,List.cons_append];gi_wp2;refine⟨trivial,?_⟩;refine(cut_in _ T _).mono ?_;rintro e w' ⟨rfl,rfl⟩;have b2:=Boxed.new w 35 (.slice none 0 0);have b3:=Boxed.new (w.alloc (.cells #[.slice none 0 0] 35)) 25 .nilIface;have b4:=Boxed.new ((w.alloc (.cells #[.slice none 0 0] 35)).alloc (.cells #[.nilIface] 25)) 35 (.slice none 0 0);have b5:=Boxed.new (((w.alloc (.cells #[.slice none 0 0] 35)).alloc (.cells #[.nilIface] 25)).alloc (.cells #[.slice none 0 0] 35)) 9 (.string T);simp only[World.size_alloc]at b3 b4 b5;have b2':=((b2.alloc (.cells #[.nilIface] 25)).alloc (.cells #[.slice none 0 0] 35)).alloc (.cells #[.string T] 9);have b3':=(b3.alloc (.cells #[.slice none 0 0] 35)).alloc (.cells #[.string T] 9);have b4':=b4.alloc (.cells #[.string T] 9);have hB0:Below w.heap.size w ((((w.alloc (.cells #[.slice none 0 0] 35)).alloc (.cells #[.nilIface] 25)).alloc (.cells #[.slice none 0 0] 35)).alloc (.cells #[.string T] 9)):=((((Below.refl _ w).alloc (Nat.le_refl _) _).alloc (by simp) _).alloc (by simp;omega) _).alloc (by simp;omega) _;clear b2 b3 b4;generalize hW0:(((w.alloc (.cells #[.slice none 0 0] 35)).alloc (.cells #[.nilIface] 25)).alloc (.cells #[.slice none 0 0] 35)).alloc (.cells #[.string T] 9)=W0 at *;have hzz:W0.heap.size=w.heap.size+1+1+1+1:=by rw[<-hW0];simp
 clear hW0;gi_wp2;refine wpIn_rangeFunc_ownG rfl (by decide) (gf:=167) (lb:=#[.pointer (some ⟨w.heap.size+1+1+1,0,none⟩)]) rfl trivial (enters_of Tryz.func167 (by kernel_rfl) rfl)
  (cut_stops 5 (by decide) (w.heap.size+1+1+1) w.heap.size k X E T hT hTs (fun i hi=>⟨z5t (hok i hi),hX i hi⟩) W0 b5) KpC.trans (KpC.put (by omega) (by omega)) (Below.refl _ _) (fun _=>rfl)
  (ParseIn w T) ParseX (parseIn_own w T _ (by omega)) (fun _ _ _ _ _ hs _ _=>hs)
  ⟨⟨⟨_,b4',fun _=>⟨none,0,none,0⟩,World.ownsRow_nil _ _ _ _,fun i hi=>absurd hi (Nat.not_lt_zero _)⟩,b2',b3',b5⟩,hB0⟩
  (fun x=>{tmps:=#[.string T,undef,.pointer (some ⟨w.heap.size,0,none⟩),.pointer (some ⟨w.heap.size+1,0,none⟩),.pointer (some ⟨w.heap.size+1+1,0,none⟩),.string x.1,undef,undef,.string T,.func (.func 167) #[] #[.pointer (some ⟨w.heap.size+1+1+1,0,none⟩)],.string x.1,undef,undef,undef,undef,undef,undef,undef,undef,undef,undef,undef,undef,undef,undef,undef,undef,undef,undef,undef,undef,undef,undef,undef,undef],defers:=[]}) ?assign ?body ?done ?stop
 case assign=>
  intro l x W K hK;gi_wp2;exact hK
 case body=>
  rintro l pre x W ⟨⟨⟨v,hv,V,hEO⟩,h2,h3,h5⟩,hB⟩ hlt;have HP:=entParse_new x.1 W (hE.later hB) (by have:=x.2.2;omega);rw[x.2.1,show errV 0=.nilIface from rfl]at HP;have hp3:pre.length<3:=by omega
  clear hX0 hX hok hone hT hTs b2' b3' b4' b5 hB0 oneE hE hk hlt;have hER:z2p (pre++[x]) pre.length=(z3A x.1).2:=entsOf_new pre x;have HOLD:Hid (∀i,i<pre.length->z2p (pre++[x]) i=z2p pre i):=fun i hi=>entsOf_old x hi
  obtain⟨a,c,rfl,hRow⟩:=hEO.ents;generalize (z3A x.1).2=en at *;gi_wp2;refine⟨trivial,?_⟩;refine(CallsIn.inRound l (callsIn_wide.2 (show Calls _ _ _ _ _ from HP))).mono ?_;rintro e w1 ⟨xv,rfl,hN,hb1⟩;clear HP;have hb2:Below W.heap.size W (w1.alloc (.cells #[.string en.root,.slice xv.aP en.nP xv.cP,.slice xv.aQ en.nQ xv.cQ] 71)):=hb1.trans (((Below.refl _ _).alloc (Nat.le_refl _) _).mono hb1.size);have hN2:z5I (w1.alloc (.cells #[.string en.root,.slice xv.aP en.nP xv.cP,.slice xv.aQ en.nQ xv.cQ] 71)) xv en:=hN.later ((Below.refl _ _).alloc (Nat.le_refl _) _);have d0:(w1.alloc (.cells #[.string en.root,.slice xv.aP en.nP xv.cP,.slice xv.aQ en.nQ xv.cQ] 71)).cell? ⟨w1.heap.size,0,none⟩=some (.string en.root):=by simp[go_sem]
  have d1:(w1.alloc (.cells #[.string en.root,.slice xv.aP en.nP xv.cP,.slice xv.aQ en.nQ xv.cQ] 71)).cell? ⟨w1.heap.size,1,none⟩=some (.slice xv.aP en.nP xv.cP):=by simp[go_sem]
  have d2:(w1.alloc (.cells #[.string en.root,.slice xv.aP en.nP xv.cP,.slice xv.aQ en.nQ xv.cQ] 71)).cell? ⟨w1.heap.size,2,none⟩=some (.slice xv.aQ en.nQ xv.cQ):=by simp[go_sem]
  clear hN hb1;unfold z1r;have hv2:Boxed _ _ _ _:=(hb2.block _ hv.lt).trans hv;have hvc:=hv2.cell;have hl3:((pre.length:Int)==3)=false:=by simp;omega
  have HF:=z4n a pre.length c V (z2p pre) en.root _ (by omega) (hRow.later hb2);gi_wp2;refine⟨trivial,?_⟩;refine(CallsIn.inRound l (callsIn_wide.2 (show Calls _ _ _ _ _ from HF))).mono ?_;rintro e w3 ⟨rfl,hb3⟩;clear HF;have hb4:=hb2.trans (hb3.mono hb2.size);have hv4:Boxed w3 _ _ _:=(hb4.block _ hv.lt).trans hv;have h24:Boxed w3 _ _ _:=(hb4.block _ h2.lt).trans h2;have h34:Boxed w3 _ _ _:=(hb4.block _ h3.lt).trans h3;have h54:Boxed w3 _ _ _:=(hb4.block _ h5.lt).trans h5;have hN4:=hN2.later hb3;have e0:=cell_later hb3 d0;have e1:=cell_later hb3 d1;have e2:=cell_later hb3 d2;have hEO4:=hEO.later (Nat.zero_le _) hb4;have hB4:=hB.trans (hb4.mono hB.size);have HK4:Hid (KeepsOthers W w3):=keepsOthers_below hb4;have HBW:Hid (Below w.heap.size W w3):=hb4.mono hB.size;have HT5:Hid (Boxed W (w.heap.size+1+1+1) 9 (.string T)):=h5;have hsz4:=hb4.size;clear hN2 d0 d1 d2 hv2 hvc hb2 hb3 hRow hv hEO h2 h3 h5 hb4;generalize w1.heap.size=gE at *;by_cases hpos:0<=findF (z2p pre) en.root pre.length 0
  ·obtain⟨j,_,hj1,hj2,_⟩:=z2i _ 0 rfl hpos;have HX:Hid (ParseX .ret (pre++[x]) w3):=⟨j,by simp;omega,by rw[List.length_append,List.length_singleton,Nat.add_sub_cancel,HOLD.out j hj1,hER];exact hj2⟩;have f2:=h24.frozen;have f3:=h34.frozen;have c2:=h24.cell;have c3:=h34.cell;generalize findF (z2p pre) en.root pre.length 0=f at *;clear hER;gi_wp2;exact⟨((HK4.out.trans (KeepsOthers.setCell _ _ _)).trans (KeepsOthers.setCell _ _ _)).from _,HX.out⟩
  ·have hneg:findF (z2p pre) en.root pre.length 0<0:=by omega
   have c4:=hv4.cell;generalize findF (z2p pre) en.root pre.length 0=f at *;have HER:Hid (z2p (pre++[x]) pre.length=en):=hER;clear hpos hER;have hl4:=hEO4.row;have hsz5:w.heap.size<=w3.heap.size:=hB4.size;have hnews:Hid (∀(j:Nat) (u:Value),[Value.string en.root,.slice xv.aP en.nP xv.cP,.slice xv.aQ en.nQ xv.cQ][j]?=some u->(w3.alloc (.cells #[.string en.root,.slice xv.aP en.nP xv.cP,.slice xv.aQ en.nQ xv.cQ] 71)).cell? ((⟨w3.heap.size,0,none⟩:Addr).add j)=some u):=fun j u hj=>by
    match j,hj with
    |0,hj=>simp at hj;subst hj;simp[go_sem,Addr.add]
    |1,hj=>simp at hj;subst hj;simp[go_sem,Addr.add]
    |2,hj=>simp at hj;subst hj;simp[go_sem,Addr.add]
    |j+3,hj=>simp at hj
   have hone1:Hid (∀u ∈ [Value.string en.root,.slice xv.aP en.nP xv.cP,.slice xv.aQ en.nQ xv.cQ],u.oneCell'=true):=fun u hu=>by simp at hu;rcases hu with rfl|rfl|rfl <;> rfl
   have hml:Hid (pre.length+1<=maxLen):=Nat.le_trans (by omega:pre.length+1<=4) (by decide);have hmb:Hid ((pre.length+1)*64<=140737488355328):=by show(pre.length+1)*64<=140737488355328;omega
   have hms:Hid (w.heap.size<=(w3.alloc (.cells #[.string en.root,.slice xv.aP en.nP xv.cP,.slice xv.aQ en.nQ xv.cQ] 71)).heap.size):=by show w.heap.size<=(w3.alloc _).heap.size;rw[World.size_alloc];omega
   have HL4:Hid _:=hl4.alloc (.cells #[.string en.root,.slice xv.aP en.nP xv.cP,.slice xv.aQ en.nQ xv.cQ] 71);have HEO4:Hid _:=hEO4;have HNX4:Hid _:=hN4;have HBX4:Hid _:=hB4;have Hh24:Hid _:=h24;have Hh34:Hid _:=h34;have Hh54:Hid _:=h54;have Hhv4:Hid _:=hv4;clear hl4 hEO4 hN4 hB4 h24 h34 h54 hv4 hsz4 hB;gi_wp2_with (gi_at_builtin;refine wpListIn_append_own _ rfl _ _ 35 rfl w.heap.size 71 i0 (.agg #[.string ⟨#[]⟩,.slice none 0 0,.slice none 0 0]) 3 64 Tryz.underlying35 hi hz0 hz1 hz2 rfl (by decide) (.slice a pre.length c) pre.length _ rfl HL4.out ⟨w3.heap.size,0,none⟩ 1 1 [.string en.root,.slice xv.aP en.nP xv.cP,.slice xv.aQ en.nQ xv.cQ] rfl rfl hnews.out hone1.out hml.out hmb.out hms.out ?_;intro v' w5 hown' hgrow _;obtain⟨g',cap',rfl⟩:=ownsRow_succ hown';obtain⟨hv1,hv2,hr2,hk2,hb2⟩:=Boxed.appended Hhv4.out (by decide) HEO4.out.row hsz5 (by omega) hown' hgrow;have hc1:=hv1.cell;have hf1:=hv1.frozen);have kk:z1B 0 w3 (w5.setCell ⟨w.heap.size+1+1,0,none⟩ (.slice (some ⟨g',0,none⟩) (pre.length+1) cap')):=
    ((z1B.of_below (w:=w3) (Nat.zero_le _) ((Below.refl _ w3).alloc (Nat.le_refl _) (.cells #[.string en.root,.slice xv.aP en.nP xv.cP,.slice xv.aQ en.nQ xv.cQ] 71))).trans (z1B.grown (w:=w3.alloc (.cells #[.string en.root,.slice xv.aP en.nP xv.cP,.slice xv.aQ en.nQ xv.cQ] 71)) (Nat.zero_le _) (Nat.zero_le _) HL4.out (by decide) hgrow)).trans (z1B.set hv1 (by decide) (Nat.zero_le _) _)
   have hAll:=z0C.added (fun i hi=>(HEO4.out.ins i hi).keeps kk) ((HNX4.out.within 0).keeps kk) hr2;refine⟨(HK4.out.trans hk2).from _,⟨HBW.out.trans hb2,(box_added Hh54.out (by decide) HEO4.out.row hgrow (by omega)).trans HT5.out.symm⟩,⟨⟨_,hv2,addV V pre.length xv,?_⟩,box_added Hh24.out (by decide) HEO4.out.row hgrow (by omega),box_added Hh34.out (by decide) HEO4.out.row hgrow (by omega),box_added Hh54.out (by decide) HEO4.out.row hgrow (by omega)⟩,HBX4.out.trans hb2⟩;rw[List.length_append,List.length_singleton];refine hAll.congr fun i hi=>⟨rfl,?_⟩
   unfold addV;by_cases h:i=pre.length
   ·rw[if_pos h,h,HER.out]
   ·rw[if_neg h,HOLD.out i (by omega)]
 case done=>
  rintro D ys W hD rfl ⟨⟨⟨v,hv,V,hEO⟩,h2,h3,h5⟩,hB⟩ hK;rw[upto_len]at hEO;obtain⟨a,c,rfl,hRow⟩:=hEO.ents;have c4:=hv.cell;have c2:=h2.cell;have c3:=h3.cell;have f2:=h2.frozen;have f3:=h3.frozen;gi_wp2;have hK':=((KeepsOthers.setCell W ⟨w.heap.size,0,none⟩ (.slice a k c)).trans (KeepsOthers.setCell _ ⟨w.heap.size+1,0,none⟩ .nilIface)).same D _ hK rfl;refine⟨by simp,.inl ⟨_,_,rfl,run_takeDeferred hK',?_⟩⟩;have b2n:Boxed ((W.setCell ⟨w.heap.size,0,none⟩ (.slice a k c)).setCell ⟨w.heap.size+1,0,none⟩ .nilIface) w.heap.size 35 (.slice a k c):=(Below.heap_setCell _ _ _ _ (by simp)).trans (h2.set _);have b3m:Boxed (W.setCell ⟨w.heap.size,0,none⟩ (.slice a k c)) (w.heap.size+1) 25 .nilIface:=(Below.heap_setCell _ _ _ _ (by simp)).trans h3;have b3n:Boxed ((W.setCell ⟨w.heap.size,0,none⟩ (.slice a k c)).setCell ⟨w.heap.size+1,0,none⟩ .nilIface) (w.heap.size+1) 25 .nilIface:=b3m.set _;have hDo:∀j,j<W0.heap.size->j≠D:=fun j hj=>by omega
  have g2:=cell_kept b2n.cell (grownBy_putObj' _ D (.deferred none)) (fun r e=>by cases e;exact⟨_,hK',rfl⟩);have g3:=cell_kept b3n.cell (grownBy_putObj' _ D (.deferred none)) (fun r e=>by cases e;exact⟨_,hK',rfl⟩);have hkp:z1B 0 W (((W.setCell ⟨w.heap.size,0,none⟩ (.slice a k c)).setCell ⟨w.heap.size+1,0,none⟩ .nilIface).putObj D (.deferred none)):=
   ((z1B.set h2 (by decide) (Nat.zero_le _) _).trans (z1B.set b3m (by decide) (Nat.zero_le _) _)).trans ⟨fun j hj=>absurd hj (Nat.not_lt_zero _),fun j C t _ hj=>z2J (grownBy_putObj' _ D (.deferred none)) (fun r e=>by cases e;exact⟨_,hK',rfl⟩) hj⟩
  have hEN:z0C (((W.setCell ⟨w.heap.size,0,none⟩ (.slice a k c)).setCell ⟨w.heap.size+1,0,none⟩ .nilIface).putObj D (.deferred none)) 0 w.heap.size (.slice a k c) k V (z2p (upto X k)):=hEO.keeps hkp (fun b e=>by
   obtain⟨C,hC⟩:=z4r hEO.row e;have n2:b≠w.heap.size:=fun e'=>by subst e';rw[show W.heap[w.heap.size]?=_ from h2]at hC;simp at hC
   have n3:b≠w.heap.size+1:=fun e'=>by subst e';rw[show W.heap[w.heap.size+1]?=_ from h3]at hC;simp at hC
   have hC2:((W.setCell ⟨w.heap.size,0,none⟩ (.slice a k c)).setCell ⟨w.heap.size+1,0,none⟩ .nilIface).heap[b]?=W.heap[b]?:=(Below.heap_setCell _ _ _ _ n3).trans (Below.heap_setCell _ _ _ _ n2);exact(z2J (grownBy_putObj' _ D (.deferred none)) (fun r e=>by cases e;exact⟨_,hK',rfl⟩) (hC2.trans hC)).trans hC2)
  refine⟨.tuple #[.slice a k c,.nilIface],?_,_,V,_,rfl,hEN,fun i hi'=>?_,((hB.setCell (p:=⟨w.heap.size,0,none⟩) (Nat.le_refl _) _).setCell (p:=⟨w.heap.size+1,0,none⟩) (by simp) _).trans (belowK_b (w:=w) (Nat.le_refl _) _ D _ _ (by omega) hK' rfl rfl)⟩
  ·simp[results,Tryz.results91,go_sem,g2,g3]
  ·have e2:z2p (upto X k) i=(z3A (X i).1).2:=by
    unfold z2p upto;rw[List.getD_eq_getElem?_getD];simp[hi']
   rw[e2,hX i hi'];exact(hX0 i hi').2
 case stop=>
  rintro D cc pre W hD hpre ⟨i,hi,he⟩ hK;exfalso;obtain⟨r,hr⟩:=hpre;have hl:pre.length<=k:=by
   have:=congrArg List.length hr;rw[List.length_append,upto_len]at this;omega
  have key:∀j,j<pre.length->(z2p pre j).root=(E j).root:=fun j hj=>by
   have e1:z2p pre j=z2p (upto X k) j:=by
    unfold z2p;rw[<-hr,List.map_append,List.getD_eq_getElem?_getD,List.getD_eq_getElem?_getD,List.getElem?_append_left (by simpa using hj)]
   have e2:z2p (upto X k) j=(z3A (X j).1).2:=by
    unfold z2p upto;rw[List.getD_eq_getElem?_getD];simp[show j<k by omega]
   rw[e1,e2,hX j (by omega)];exact(hX0 j (by omega)).2.root
  rw[key i (by omega),key _ (by omega)]at he;have:=hone _ _ (by omega) (by omega) he;omega
end
end Go.Proofs.YtbcpcbonlhlhpaaGreatDoor
