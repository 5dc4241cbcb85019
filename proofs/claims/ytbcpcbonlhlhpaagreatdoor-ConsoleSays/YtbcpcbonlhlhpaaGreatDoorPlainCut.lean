/- An object that is being read: its four rows are the call's -/
import Derived.Test.YtbcpcbonlhlhpaaGreatDoorPlainNumb
import Derived.Deep.QuietTactic
import Derived.BigQuiet
import Derived.Laws.IdiomStrings
namespace Go.Proofs.YtbcpcbonlhlhpaaGreatDoor
open Go.RowKit
def catV(g:Nat->List Value):Nat->List Value
 |0=>[]
 |k+1=>catV g k++g k
theorem z7a {g h:Nat->List Value}{n:Nat}(e:∀i,i<n->g i=h i):catV g n=catV h n:=by
 induction n with
 |zero=>rfl
 |succ n ih=>simp only[catV,ih (fun i hi=>e i (by omega)),e n (by omega)]
theorem catV_len{g:Nat->List Value}{s n:Nat}(e:∀i,i<n->(g i).length=s):(catV g n).length=n*s:=by
 induction n with
 |zero=>simp[catV]
 |succ n ih=>simp only[catV,List.length_append,ih (fun i hi=>e i (by omega)),e n (by omega),Nat.add_mul];omega
theorem catV_at{g:Nat->List Value}{s n i j:Nat}(e:∀i,i<n->(g i).length=s)(hi:i<n)(hj:j<s):(catV g n)[i*s+j]?=(g i)[j]?:=by
 induction n with
 |zero=>omega
 |succ n ih=>
  have hl:=catV_len (g:=g) (s:=s) (n:=n) (fun i hi=>e i (by omega));simp only[catV];by_cases h:i=n
  ·subst h;rw[List.getElem?_append_right (by omega),hl];congr 1;omega
  ·have hlt:i*s+j<n*s:=by
    have h1:(i+1)*s<=n*s:=Nat.mul_le_mul_right s (by omega);rw[Nat.add_mul]at h1;omega
   rw[List.getElem?_append_left (by omega)];exact ih (fun i hi=>e i (by omega)) (by omega)
def needC(o:ObjF)(i:Nat):List Value:=[.string (o.needs i)]
def wordC(o:ObjF)(i:Nat):List Value:=[.int .i64 (o.words i)]
def symC(o:ObjF)(i:Nat):List Value:=[.string (o.sName i),.int .i64 (o.sAt i),.bool (o.sWeak i)]
def tieC(o:ObjF)(i:Nat):List Value:=[.int .i64 (o.tAt i),.int .i64 (o.tKind i),.int .i64 (o.tAdd i),.string (o.tName i),.bool (o.tWeak i)]
def z2f (o:ObjF)(s:ByteArray):ObjF:={o with nN:=o.nN+1,needs:=fun i=>if i=o.nN then s else o.needs i}
def z1L (o:ObjF)(n:Int):ObjF:={o with nW:=o.nW+1,words:=fun i=>if i=o.nW then n else o.words i}
def z2R (o:ObjF)(s:ByteArray)(a:Int)(b:Bool):ObjF:={o with nS:=o.nS+1,sName:=fun i=>if i=o.nS then s else o.sName i,sAt:=fun i=>if i=o.nS then a else o.sAt i,sWeak:=fun i=>if i=o.nS then b else o.sWeak i}
def z1G (o:ObjF)(x k d:Int)(s:ByteArray)(b:Bool):ObjF:={o with nT:=o.nT+1,tAt:=fun i=>if i=o.nT then x else o.tAt i,tKind:=fun i=>if i=o.nT then k else o.tKind i,tAdd:=fun i=>if i=o.nT then d else o.tAdd i,tName:=fun i=>if i=o.nT then s else o.tName i,tWeak:=fun i=>if i=o.nT then b else o.tWeak i}
structure Kept(B bo:Nat)(w w':World):Prop where
 os:w'.os=w.os
 tape:w'.tape=w.tape
 output:w'.output=w.output
 size:w.heap.size<=w'.heap.size
 block:∀k,k<B->k≠bo->w'.heap[k]?=w.heap[k]?
theorem Kept.refl(B bo:Nat)(w:World):Kept B bo w w:=⟨rfl,rfl,rfl,Nat.le_refl _,fun _ _ _=>rfl⟩
theorem Kept.trans{B bo:Nat}{a b c:World}(h:Kept B bo a b)(k:Kept B bo b c):Kept B bo a c:=
 ⟨k.os.trans h.os,k.tape.trans h.tape,k.output.trans h.output,Nat.le_trans h.size k.size,fun i hi hn=>(k.block i hi hn).trans (h.block i hi hn)⟩
theorem Kept.of{B C bo:Nat}{w w':World}(h:Below C w w')(hB:B<=C):Kept B bo w w':=⟨h.os,h.tape,h.output,h.size,fun k hk _=>h.block k (Nat.lt_of_lt_of_le hk hB)⟩
theorem Kept.below{B bo:Nat}{w w':World}(h:Kept B bo w w'):Below (min B bo) w w':=⟨h.os,h.tape,h.output,h.size,fun k hk=>h.block k (by omega) (by omega)⟩
structure z0n (B:Nat)(w:World)(bo:Nat)(vN vW vS vT:Value)(o:ObjF):Prop where
 lo:B<=w.heap.size
 blk:w.heap[bo]?=some (.cells #[vN,vW,vS,vT] 56 (0,0))
 needs:w.ownsRow B 9 1 vN o.nN (catV (needC o) o.nN)
 words:w.ownsRow B 3 1 vW o.nW (catV (wordC o) o.nW)
 syms:w.ownsRow B 96 3 vS o.nS (catV (symC o) o.nS)
 ties:w.ownsRow B 98 5 vT o.nT (catV (tieC o) o.nT)
theorem own_ne{w:World}{B g s n:Nat}{e t:TypeId}{v:Value}{xs:List Value}{c:Array Value}(h:w.ownsRow B e s v n xs)(hb:w.heap[g]?=some (.cells c t (0,0)))(hne:e≠t):some g≠v.ownBlock:=by
 intro hv;rcases h.2 with⟨rfl,_⟩|⟨g',cap,cur,rfl,_,hg,_⟩
 ·simp[Value.ownBlock]at hv
 ·simp[Value.ownBlock]at hv;subst hv;rw[hg]at hb;injection hb with hb;injection hb with h1 h2;exact hne h2
theorem z4k {w:World}{B B' s s' n n':Nat}{e t:TypeId}{v v':Value}{xs xs':List Value}(h:w.ownsRow B e s v n xs)(h':w.ownsRow B' t s' v' n' xs')(hne:e≠t):v'.ownBlock=none∨v'.ownBlock≠v.ownBlock:=by
 rcases h'.2 with⟨rfl,_⟩|⟨g',cap,cur,rfl,_,hg,_⟩
 ·exact .inl rfl
 ·exact .inr (own_ne h hg hne)
theorem z0n.below{B bo:Nat}{w w':World}{vN vW vS vT:Value}{o:ObjF}(h:z0n B w bo vN vW vS vT o)(hb:Below w.heap.size w w'):z0n B w' bo vN vW vS vT o:=by
 have keep:∀ {e:TypeId} {s n:Nat} {v:Value} {xs:List Value},w.ownsRow B e s v n xs->w'.ownsRow B e s v n xs:=by
  intro e s n v xs h;refine h.kept (row:=none) ⟨hb.os,hb.tape,hb.output,hb.size,fun k hk _=>hb.block k hk⟩ ?_;cases hv:v.ownBlock <;> simp
 exact⟨Nat.le_trans h.lo hb.size,(hb.block bo (Array.getElem?_eq_some_iff.1 h.blk).1).trans h.blk,keep h.needs,keep h.words,keep h.syms,keep h.ties⟩
theorem z0n.lt{B bo:Nat}{w:World}{vN vW vS vT:Value}{o:ObjF}(h:z0n B w bo vN vW vS vT o):bo<w.heap.size:=(Array.getElem?_eq_some_iff.1 h.blk).1
theorem z0n.c0{B bo:Nat}{w:World}{vN vW vS vT:Value}{o:ObjF}(h:z0n B w bo vN vW vS vT o):w.cell? ⟨bo,0,none⟩=some vN:=by simp[World.cell?,h.blk]
theorem z0n.c1{B bo:Nat}{w:World}{vN vW vS vT:Value}{o:ObjF}(h:z0n B w bo vN vW vS vT o):w.cell? ⟨bo,1,none⟩=some vW:=by simp[World.cell?,h.blk]
theorem z0n.c2{B bo:Nat}{w:World}{vN vW vS vT:Value}{o:ObjF}(h:z0n B w bo vN vW vS vT o):w.cell? ⟨bo,2,none⟩=some vS:=by simp[World.cell?,h.blk]
theorem z0n.c3{B bo:Nat}{w:World}{vN vW vS vT:Value}{o:ObjF}(h:z0n B w bo vN vW vS vT o):w.cell? ⟨bo,3,none⟩=some vT:=by simp[World.cell?,h.blk]
theorem heap_setCell(w:World)(b i:Nat)(c:Array Value)(t:TypeId)(v:Value)(h:w.heap[b]?=some (.cells c t (0,0))):(w.setCell ⟨b,i,none⟩ v).heap[b]?=some (.cells (c.set! i v) t (0,0)):=by
 show(w.heap.modify b _)[b]?=_;rw[Array.getElem?_modify,if_pos rfl,h];rfl
theorem grownBy_setCell(w:World)(b i:Nat)(v:Value):w.grownBy (w.setCell ⟨b,i,none⟩ v) (some b):=by
 refine⟨rfl,rfl,rfl,by simp[World.setCell],fun k hk hne=>?_⟩;show(w.heap.modify b _)[k]?=_;rw[Array.getElem?_modify,if_neg (fun e=>hne (by rw[e]))]
theorem z1m {w:World}{B g i s n:Nat}{e t:TypeId}{v u:Value}{xs:List Value}{c:Array Value}(h:w.ownsRow B e s v n xs)(hb:w.heap[g]?=some (.cells c t (0,0)))(hne:e≠t):(w.setCell ⟨g,i,none⟩ u).ownsRow B e s v n xs:=
 h.kept (grownBy_setCell w g i u) (by
  cases hv:v.ownBlock with
  |none=>exact .inl rfl
  |some k=>exact .inr (fun he=>own_ne h hb hne (by rw[hv];exact he.symm)))
theorem z0n.need{B bo:Nat}{w W:World}{vN vW vS vT v':Value}{o:ObjF}{a:ByteArray}(h:z0n B w bo vN vW vS vT o)(hg:w.grownBy W vN.ownBlock)(hN:W.ownsRow B 9 1 v' (o.nN+1) (catV (needC o) o.nN++[.string a])) :
 W.heap[bo]?=some (.cells #[vN,vW,vS,vT] 56 (0,0))/\z0n B (W.setCell ⟨bo,0,none⟩ v') bo v' vW vS vT (z2f o a):=by
 have hb:W.heap[bo]?=some (.cells #[vN,vW,vS,vT] 56 (0,0)):=(hg.block bo h.lt (own_ne h.needs h.blk (by decide))).trans h.blk;have e:catV (needC (z2f o a)) (o.nN+1)=catV (needC o) o.nN++[.string a]:=by
  show catV (needC (z2f o a)) o.nN++needC (z2f o a) o.nN=_;congr 1
  ·exact z7a (fun i hi=>by simp[needC,z2f,Nat.ne_of_lt hi])
  ·simp[needC,z2f]
 refine⟨hb,Nat.le_trans h.lo (Nat.le_trans hg.size (by simp[World.setCell])),heap_setCell W bo 0 _ _ v' hb,?_,z1m (h.words.kept hg (z4k h.needs h.words (by decide))) hb (by decide),z1m (h.syms.kept hg (z4k h.needs h.syms (by decide))) hb (by decide),z1m (h.ties.kept hg (z4k h.needs h.ties (by decide))) hb (by decide)⟩;show(W.setCell ⟨bo,0,none⟩ v').ownsRow B 9 1 v' (o.nN+1) (catV (needC (z2f o a)) (o.nN+1));rw[e];exact z1m hN hb (by decide)
theorem z0n.word{B bo:Nat}{w W:World}{vN vW vS vT v':Value}{o:ObjF}{a:Int}(h:z0n B w bo vN vW vS vT o)(hg:w.grownBy W vW.ownBlock)(hN:W.ownsRow B 3 1 v' (o.nW+1) (catV (wordC o) o.nW++[.int .i64 a])) :
 W.heap[bo]?=some (.cells #[vN,vW,vS,vT] 56 (0,0))/\z0n B (W.setCell ⟨bo,1,none⟩ v') bo vN v' vS vT (z1L o a):=by
 have hb:W.heap[bo]?=some (.cells #[vN,vW,vS,vT] 56 (0,0)):=(hg.block bo h.lt (own_ne h.words h.blk (by decide))).trans h.blk;have e:catV (wordC (z1L o a)) (o.nW+1)=catV (wordC o) o.nW++[.int .i64 a]:=by
  show catV (wordC (z1L o a)) o.nW++wordC (z1L o a) o.nW=_;congr 1
  ·exact z7a (fun i hi=>by simp[wordC,z1L,Nat.ne_of_lt hi])
  ·simp[wordC,z1L]
 refine⟨hb,Nat.le_trans h.lo (Nat.le_trans hg.size (by simp[World.setCell])),heap_setCell W bo 1 _ _ v' hb,z1m (h.needs.kept hg (z4k h.words h.needs (by decide))) hb (by decide),?_,z1m (h.syms.kept hg (z4k h.words h.syms (by decide))) hb (by decide),z1m (h.ties.kept hg (z4k h.words h.ties (by decide))) hb (by decide)⟩;show(W.setCell ⟨bo,1,none⟩ v').ownsRow B 3 1 v' (o.nW+1) (catV (wordC (z1L o a)) (o.nW+1));rw[e];exact z1m hN hb (by decide)
theorem z0n.sym{B bo:Nat}{w W:World}{vN vW vS vT v':Value}{o:ObjF}{s:ByteArray}{a:Int}{b:Bool}(h:z0n B w bo vN vW vS vT o)(hg:w.grownBy W vS.ownBlock)(hN:W.ownsRow B 96 3 v' (o.nS+1) (catV (symC o) o.nS++[.string s,.int .i64 a,.bool b])) :
 W.heap[bo]?=some (.cells #[vN,vW,vS,vT] 56 (0,0))/\z0n B (W.setCell ⟨bo,2,none⟩ v') bo vN vW v' vT (z2R o s a b):=by
 have hb:W.heap[bo]?=some (.cells #[vN,vW,vS,vT] 56 (0,0)):=(hg.block bo h.lt (own_ne h.syms h.blk (by decide))).trans h.blk;have e:catV (symC (z2R o s a b)) (o.nS+1)=catV (symC o) o.nS++[.string s,.int .i64 a,.bool b]:=by
  show catV (symC (z2R o s a b)) o.nS++symC (z2R o s a b) o.nS=_;congr 1
  ·exact z7a (fun i hi=>by simp[symC,z2R,Nat.ne_of_lt hi])
  ·simp[symC,z2R]
 refine⟨hb,Nat.le_trans h.lo (Nat.le_trans hg.size (by simp[World.setCell])),heap_setCell W bo 2 _ _ v' hb,z1m (h.needs.kept hg (z4k h.syms h.needs (by decide))) hb (by decide),z1m (h.words.kept hg (z4k h.syms h.words (by decide))) hb (by decide),?_,z1m (h.ties.kept hg (z4k h.syms h.ties (by decide))) hb (by decide)⟩;show(W.setCell ⟨bo,2,none⟩ v').ownsRow B 96 3 v' (o.nS+1) (catV (symC (z2R o s a b)) (o.nS+1));rw[e];exact z1m hN hb (by decide)
theorem z0n.tie{B bo:Nat}{w W:World}{vN vW vS vT v':Value}{o:ObjF}{x k d:Int}{s:ByteArray}{b:Bool}(h:z0n B w bo vN vW vS vT o)(hg:w.grownBy W vT.ownBlock)(hN:W.ownsRow B 98 5 v' (o.nT+1) (catV (tieC o) o.nT++[.int .i64 x,.int .i64 k,.int .i64 d,.string s,.bool b])) :
 W.heap[bo]?=some (.cells #[vN,vW,vS,vT] 56 (0,0))/\z0n B (W.setCell ⟨bo,3,none⟩ v') bo vN vW vS v' (z1G o x k d s b):=by
 have hb:W.heap[bo]?=some (.cells #[vN,vW,vS,vT] 56 (0,0)):=(hg.block bo h.lt (own_ne h.ties h.blk (by decide))).trans h.blk;have e:catV (tieC (z1G o x k d s b)) (o.nT+1)=catV (tieC o) o.nT++[.int .i64 x,.int .i64 k,.int .i64 d,.string s,.bool b]:=by
  show catV (tieC (z1G o x k d s b)) o.nT++tieC (z1G o x k d s b) o.nT=_;congr 1
  ·exact z7a (fun i hi=>by simp[tieC,z1G,Nat.ne_of_lt hi])
  ·simp[tieC,z1G]
 refine⟨hb,Nat.le_trans h.lo (Nat.le_trans hg.size (by simp[World.setCell])),heap_setCell W bo 3 _ _ v' hb,z1m (h.needs.kept hg (z4k h.ties h.needs (by decide))) hb (by decide),z1m (h.words.kept hg (z4k h.ties h.words (by decide))) hb (by decide),z1m (h.syms.kept hg (z4k h.ties h.syms (by decide))) hb (by decide),?_⟩;show(W.setCell ⟨bo,3,none⟩ v').ownsRow B 98 5 v' (o.nT+1) (catV (tieC (z1G o x k d s b)) (o.nT+1));rw[e];exact z1m hN hb (by decide)
theorem z4z (t e:TypeId)(size bytes:Nat)(z:Value)(ht:Tryz.prog.underlying t=some (.slice e))(hinfo:(Tryz.prog.info? e).map (fun i=>(i.zero,i.size,i.bytes))=some (some z,size,bytes))(hzs:z.cells.size=size)(hsz:0<size)
 (B:Nat) (w:World) (v:Value) (n:Nat) (xs news:List Value) (hown:w.ownsRow B e size v n xs) (hl:news.length=size) (h1:∀u∈news,u.oneCell'=true) (hB:B<=w.heap.size) (hn:n+1<=1000000) (hby:bytes<=1000) :
 ∃g cap W,(Builtin.append_ #[t,t] t #[v,.slice (some ⟨w.heap.size,0,none⟩) 1 1]).run Tryz.prog (w.alloc (.cells news.toArray e))=.ok (.slice (some ⟨g,0,none⟩) (n+1) cap) W/\W.ownsRow B e size (.slice (some ⟨g,0,none⟩) (n+1) cap) (n+1) (xs++news)/\(w.alloc (.cells news.toArray e)).grownBy W v.ownBlock:=by
 obtain⟨i,hi,hzz⟩:=Option.map_eq_some_iff.1 hinfo;simp only[Prod.mk.injEq]at hzz;obtain⟨hz,hs,hb⟩:=hzz;obtain⟨v',W,h2,h3,h4,_⟩:=run_append_own (P:=Tryz.prog) (w.alloc (.cells news.toArray e)) B t t e i z size bytes ht hi hz hs hb hzs hsz v n xs (hown.alloc _) ⟨w.heap.size,0,none⟩ 1 1 news (by omega)
  (by
    intro j u hj;have hadd:(⟨w.heap.size,0,none⟩:Addr).add j=⟨w.heap.size,j,none⟩:=by
     cases j with
     |zero=>rfl
     |succ j=>simp[Addr.add]
    rw[hadd];simp[go_sem,hj])
  h1 (by simp only[maxLen];omega) (by
   have:(n+1)*bytes<=1000000*1000:=Nat.mul_le_mul hn hby;omega) (by simp;omega)
 rcases h3.2 with⟨_,h0⟩|⟨g,cap,cur,rfl,_⟩
 ·omega
 ·exact⟨g,cap,W,h2,h3,h4⟩
theorem z2k {P:Program}{ops:Array Oper}{o:Oper}{a:Act}{w W:World}{K:Act->World->Prop}{Q:Exit->Act->World->Prop}{E:Prop}
 (hg:o.guard=none) (s x:Operand) (t:TypeId) (hop:o.op=Op.call {callee:=Callee.builtin Builtin.append,args:=#[s,x],argTypes:=#[t,t]}) (v sl v':Value)
 (hs:a.eval s=v) (hx:a.eval x=sl) (hrun:(Builtin.append_ #[t,t] o.type #[v,sl]).run P w=.ok v' W) (hK:K (a.put o.dst v') W) :
 if Region.wanted o (yielded ops a.tmps)=true then Oper.wp P o a w K Q else E:=by
 have hw:Region.wanted o (yielded ops a.tmps)=true:=by simp[Region.wanted,hg]
 rw[if_pos hw];unfold Oper.wp;simp[execOp,hop,resolve,invoke,builtin,hs,hx,hrun,Result.andThen];exact hK
end Go.Proofs.YtbcpcbonlhlhpaaGreatDoor
namespace Go.Proofs.YtbcpcbonlhlhpaaGreatDoor
open Go.RowKit
theorem z5T (s:ByteArray)(w:World)(hE:Env w)(hs:s.size<=1000000) :
 Calls Tryz.prog 176 #[.string s] w fun e w'=>e=.returned (.int .i64 (numF s.data.toList))/\Below w.heap.size w w':=by
 generalize hF:numF s.data.toList=F;unfold numF at hF;cases hq:Lib.atoiAll s.data.toList with
 |ok v=>
  rw[hq]at hF;have HA:=Tryz.strconv_Atoi_ok s (by omega) v hq w;have HE:Hid (v=F):=hF;clear hF hq;go_enter Tryz.func176,Tryz.ntmps176;go_wp2_with fail;refine HA.mono ?_;rintro e w' ⟨rfl,hw⟩;have hb:Below w.heap.size w w':=by
   rcases hw with rfl|⟨t,rfl⟩
   ·exact Below.refl _ _
   ·exact Lib.bytesWorld_below _ _ _
  clear hw HA;go_wp2;go_ret;exact⟨z3l HE.out,hb⟩
 |range=>
  rw[hq]at hF;obtain⟨ev,hv,hev⟩:=hE.errR;have HA:=Tryz.strconv_Atoi_range s (by omega) hq ev w hv hev;have HE:Hid (Lib.atoiSat s.data.toList=F):=hF;generalize Lib.atoiSat s.data.toList=v at *;clear hF hq hv hev;go_enter Tryz.func176,Tryz.ntmps176;go_wp2_with fail;refine HA.mono ?_;rintro e w' ⟨N,rfl,_,_,hb⟩;clear HA;go_wp2;go_ret;exact⟨z3l HE.out,hb⟩
 |_=>
  rw[hq]at hF;obtain⟨ev,hv,hev⟩:=hE.errS;have HA:=Tryz.strconv_Atoi_syntax s (by omega) hq ev w hv hev;have HE:Hid (0=F):=hF;clear hF hq hv hev;go_enter Tryz.func176,Tryz.ntmps176;go_wp2_with fail;refine HA.mono ?_;rintro e w' ⟨N,rfl,_,_,hb⟩;clear HA;go_wp2;go_ret;exact⟨z3l HE.out,hb⟩
theorem clone_any(s:ByteArray)(w:World)(hs:s.size<=1000000) :
 Calls Tryz.prog 102 #[.string s] w fun e w'=>e=.returned (.string s)/\Below w.heap.size w w':=by
 have HA:=Tryz.stringslite_Clone s w (by omega);go_enter Tryz.func102,Tryz.ntmps102;go_wp2_with fail;refine HA.mono ?_;rintro e w' ⟨rfl,hb⟩;clear HA;go_wp2;go_ret;exact⟨rfl,hb⟩
end Go.Proofs.YtbcpcbonlhlhpaaGreatDoor
namespace Go.Proofs.YtbcpcbonlhlhpaaGreatDoor
open Go.RowKit
theorem z6Z {B bo i:Nat}{w w2 W:World}{row:Option Nat}{u:Value}{o:Obj}(hb:Kept B bo w w2)(hB:B<=w2.heap.size)(hg:(w2.alloc o).grownBy W row)(hr:∀k,row=some k->B<=k):Kept B bo w (W.setCell ⟨bo,i,none⟩ u):=
 (hb.trans (Kept.of (((Below.refl B w2).alloc hB o).grown hg (by simp;omega) hr) (Nat.le_refl _))).trans ⟨rfl,rfl,rfl,by simp[World.setCell],fun k _ hk=>Below.heap_setCell _ _ _ _ hk⟩
theorem z0n.needGrow{B bo:Nat}{w w2:World}{vN vW vS vT:Value}{o:ObjF}(h:z0n B w2 bo vN vW vS vT o)(hb:Kept B bo w w2)(a:ByteArray)(hn:o.nN+1<=1000000) :
 ∃g cap W,(Builtin.append_ #[22,22] 22 #[vN,.slice (some ⟨w2.heap.size,0,none⟩) 1 1]).run Tryz.prog (w2.alloc (.cells #[.string a] 9))=.ok (.slice (some ⟨g,0,none⟩) (o.nN+1) cap) W/\W.cell? ⟨bo,0,none⟩=some vN/\W.frozen? ⟨bo,0,none⟩=false /\
  (∃v0 v1 v2 v3,z0n B (W.setCell ⟨bo,0,none⟩ (.slice (some ⟨g,0,none⟩) (o.nN+1) cap)) bo v0 v1 v2 v3 (z2f o a))/\Kept B bo w (W.setCell ⟨bo,0,none⟩ (.slice (some ⟨g,0,none⟩) (o.nN+1) cap)):=by
 have hB:B<=w2.heap.size:=h.lo;obtain⟨g,cap,W,happ,hown,hgr⟩:=z4z 22 9 1 16 (.string ⟨#[]⟩) (by kernel_rfl) (by kernel_rfl) (by rfl) (by decide) B w2 vN o.nN (catV (needC o) o.nN) [.string a] h.needs rfl (by simp[Value.oneCell']) hB hn (by decide);obtain⟨hbo,hRn⟩:=(h.below (show Below w2.heap.size w2 (w2.alloc (.cells #[.string a] 9))from(Below.refl _ _).alloc (Nat.le_refl _) _)).need hgr hown;exact⟨g,cap,W,happ,by simp[World.cell?,hbo],by simp[World.frozen?,hbo],⟨_,_,_,_,hRn⟩,z6Z hb hB hgr (fun k hk=>(h.needs.lt k hk).1)⟩
theorem z0n.wordGrow{B bo:Nat}{w w2:World}{vN vW vS vT:Value}{o:ObjF}(h:z0n B w2 bo vN vW vS vT o)(hb:Kept B bo w w2)(a:Int)(hn:o.nW+1<=1000000) :
 ∃g cap W,(Builtin.append_ #[52,52] 52 #[vW,.slice (some ⟨w2.heap.size,0,none⟩) 1 1]).run Tryz.prog (w2.alloc (.cells #[.int .i64 a] 3))=.ok (.slice (some ⟨g,0,none⟩) (o.nW+1) cap) W/\W.cell? ⟨bo,1,none⟩=some vW/\W.frozen? ⟨bo,1,none⟩=false /\
  (∃v0 v1 v2 v3,z0n B (W.setCell ⟨bo,1,none⟩ (.slice (some ⟨g,0,none⟩) (o.nW+1) cap)) bo v0 v1 v2 v3 (z1L o a))/\Kept B bo w (W.setCell ⟨bo,1,none⟩ (.slice (some ⟨g,0,none⟩) (o.nW+1) cap)):=by
 have hB:B<=w2.heap.size:=h.lo;obtain⟨g,cap,W,happ,hown,hgr⟩:=z4z 52 3 1 8 (.int .i64 0) (by kernel_rfl) (by kernel_rfl) (by rfl) (by decide) B w2 vW o.nW (catV (wordC o) o.nW) [.int .i64 a] h.words rfl (by simp[Value.oneCell']) hB hn (by decide);obtain⟨hbo,hRn⟩:=(h.below (show Below w2.heap.size w2 (w2.alloc (.cells #[.int .i64 a] 3))from(Below.refl _ _).alloc (Nat.le_refl _) _)).word hgr hown;exact⟨g,cap,W,happ,by simp[World.cell?,hbo],by simp[World.frozen?,hbo],⟨_,_,_,_,hRn⟩,z6Z hb hB hgr (fun k hk=>(h.words.lt k hk).1)⟩
theorem z0n.symGrow{B bo:Nat}{w w2:World}{vN vW vS vT:Value}{o:ObjF}(h:z0n B w2 bo vN vW vS vT o)(hb:Kept B bo w w2)(s:ByteArray)(a:Int)(b:Bool)(hn:o.nS+1<=1000000) :
 ∃g cap W,(Builtin.append_ #[53,53] 53 #[vS,.slice (some ⟨w2.heap.size,0,none⟩) 1 1]).run Tryz.prog (w2.alloc (.cells #[.string s,.int .i64 a,.bool b] 96))=.ok (.slice (some ⟨g,0,none⟩) (o.nS+1) cap) W/\W.cell? ⟨bo,2,none⟩=some vS/\W.frozen? ⟨bo,2,none⟩=false /\
  (∃v0 v1 v2 v3,z0n B (W.setCell ⟨bo,2,none⟩ (.slice (some ⟨g,0,none⟩) (o.nS+1) cap)) bo v0 v1 v2 v3 (z2R o s a b))/\Kept B bo w (W.setCell ⟨bo,2,none⟩ (.slice (some ⟨g,0,none⟩) (o.nS+1) cap)):=by
 have hB:B<=w2.heap.size:=h.lo;obtain⟨g,cap,W,happ,hown,hgr⟩:=z4z 53 96 3 32 (.agg #[.string ⟨#[]⟩,.int .i64 0,.bool false]) (by kernel_rfl) (by kernel_rfl) (by rfl) (by decide) B w2 vS o.nS (catV (symC o) o.nS) [.string s,.int .i64 a,.bool b] h.syms rfl (by simp[Value.oneCell']) hB hn (by decide);obtain⟨hbo,hRn⟩:=(h.below (show Below w2.heap.size w2 (w2.alloc (.cells #[.string s,.int .i64 a,.bool b] 96))from(Below.refl _ _).alloc (Nat.le_refl _) _)).sym hgr hown;exact⟨g,cap,W,happ,by simp[World.cell?,hbo],by simp[World.frozen?,hbo],⟨_,_,_,_,hRn⟩,z6Z hb hB hgr (fun k hk=>(h.syms.lt k hk).1)⟩
theorem z0n.tieGrow{B bo:Nat}{w w2:World}{vN vW vS vT:Value}{o:ObjF}(h:z0n B w2 bo vN vW vS vT o)(hb:Kept B bo w w2)(x k d:Int)(s:ByteArray)(b:Bool)(hn:o.nT+1<=1000000) :
 ∃g cap W,(Builtin.append_ #[54,54] 54 #[vT,.slice (some ⟨w2.heap.size,0,none⟩) 1 1]).run Tryz.prog (w2.alloc (.cells #[.int .i64 x,.int .i64 k,.int .i64 d,.string s,.bool b] 98))=.ok (.slice (some ⟨g,0,none⟩) (o.nT+1) cap) W/\W.cell? ⟨bo,3,none⟩=some vT/\W.frozen? ⟨bo,3,none⟩=false /\
  (∃v0 v1 v2 v3,z0n B (W.setCell ⟨bo,3,none⟩ (.slice (some ⟨g,0,none⟩) (o.nT+1) cap)) bo v0 v1 v2 v3 (z1G o x k d s b))/\Kept B bo w (W.setCell ⟨bo,3,none⟩ (.slice (some ⟨g,0,none⟩) (o.nT+1) cap)):=by
 have hB:B<=w2.heap.size:=h.lo;obtain⟨g,cap,W,happ,hown,hgr⟩:=z4z 54 98 5 48 (.agg #[.int .i64 0,.int .i64 0,.int .i64 0,.string ⟨#[]⟩,.bool false]) (by kernel_rfl) (by kernel_rfl) (by rfl) (by decide) B w2 vT o.nT (catV (tieC o) o.nT) [.int .i64 x,.int .i64 k,.int .i64 d,.string s,.bool b] h.ties rfl (by simp[Value.oneCell']) hB hn (by decide);obtain⟨hbo,hRn⟩:=(h.below (show Below w2.heap.size w2 (w2.alloc (.cells #[.int .i64 x,.int .i64 k,.int .i64 d,.string s,.bool b] 98))from(Below.refl _ _).alloc (Nat.le_refl _) _)).tie hgr hown;exact⟨g,cap,W,happ,by simp[World.cell?,hbo],by simp[World.frozen?,hbo],⟨_,_,_,_,hRn⟩,z6Z hb hB hgr (fun k hk=>(h.ties.lt k hk).1)⟩
end Go.Proofs.YtbcpcbonlhlhpaaGreatDoor
namespace Go.Proofs.YtbcpcbonlhlhpaaGreatDoor
open Go.RowKit
set_option maxHeartbeats 400000
theorem same_nil(f:Int)(w:World) :
 Calls Tryz.prog 6 #[.nilIface,.int .i64 f] w fun e w'=>e=.returned (.bool (f==0))/\w=w':=by
 go_enter Tryz.func6,Tryz.ntmps6;go_wp2;go_ret;exact⟨rfl,rfl⟩
theorem assert_errno(n:Int)(w:World):(Instr.typeAssert (.iface 43 (.int .i64 n)) 25 43 true).run Tryz.prog w=.ok (.tuple #[.int .i64 n,.bool true]) w:=by kernel_rfl
theorem same_errno(n f:Int)(w:World) :
 Calls Tryz.prog 6 #[.iface 43 (.int .i64 n),.int .i64 f] w fun e w'=>e=.returned (.bool (decide (0<f)&&n==f))/\w=w':=by
 have ha:=assert_errno n;by_cases h:0<f
 all_goals
  go_enter Tryz.func6,Tryz.ntmps6;go_wp2;go_ret;exact⟨z0w (by first|(simp[h];done)|(simp;omega)),rfl⟩
theorem same_errV(a b:Nat)(w:World) :
 Calls Tryz.prog 6 #[errV a,.int .i64 (b:Int)] w fun e w'=>e=.returned (.bool (decide (a=b)))/\w=w':=by
 cases a with
 |zero=>
  refine(same_nil (b:Int) w).mono ?_;rintro e w' ⟨rfl,rfl⟩;exact⟨z0w (by rw[Bool.eq_iff_iff,beq_iff_eq,decide_eq_true_eq];omega),rfl⟩
 |succ a=>
  refine(same_errno ((a+1:Nat):Int) (b:Int) w).mono ?_;rintro e w' ⟨rfl,rfl⟩;exact⟨z0w (by rw[Bool.eq_iff_iff,Bool.and_eq_true,beq_iff_eq,decide_eq_true_eq,decide_eq_true_eq];omega),rfl⟩
end Go.Proofs.YtbcpcbonlhlhpaaGreatDoor
namespace Go.Proofs.YtbcpcbonlhlhpaaGreatDoor
open Go.RowKit
set_option maxHeartbeats 1000000
theorem fit_yes(n:Int)(b:Bool)(h:(97<=n/\n<=122)∨(b=false/\((48<=n/\n<=57)∨n=95))):fit n b=true:=by
 simp only[fit,Bool.or_eq_true,Bool.and_eq_true,decide_eq_true_eq,Bool.not_eq_true',beq_iff_eq];exact h
theorem fit_no(n:Int)(b:Bool)(h:¬((97<=n/\n<=122)∨(b=false/\((48<=n/\n<=57)∨n=95)))):fit n b=false:=by
 rw[<-Bool.not_eq_true];simp only[fit,Bool.or_eq_true,Bool.and_eq_true,decide_eq_true_eq,Bool.not_eq_true',beq_iff_eq];exact h
theorem z2d (s:ByteArray)(w:World)(hs:s.size<=maxLen) :
 Calls Tryz.prog 39 #[.string s] w fun e w'=>e=.returned (.int .i64 ((z0r s.data.toList:Nat):Int))/\w=w':=by
 unfold maxLen at hs;have hl:s.data.toList.length=s.size:=by simp
 by_cases h0:s.size<1
 ·have HF:Hid (z0r s.data.toList=1):=z4I _ (by omega);have hz:(s.size:Int)<1:=by omega
  clear hl h0;go_enter Tryz.func39,Tryz.ntmps39;go_wp2;go_ret;rw[HF.out];exact⟨rfl,rfl⟩
 ·have hz:¬(s.size:Int)<1:=by omega
  by_cases h8:8<s.size
  ·have HF:Hid (z0r s.data.toList=1):=z4I _ (by omega);have h8':(8:Int)<s.size:=by omega
   clear hl h0 h8;go_enter Tryz.func39,Tryz.ntmps39;go_wp2;go_ret;rw[HF.out];exact⟨rfl,rfl⟩
  ·have HL:Hid (s.data.toList.length=s.size):=hl;clear hl;go_enter Tryz.func39,Tryz.ntmps39;go_wp2;go_loop [3] (fun i=>∃k:Nat,k<=s.size/\i=.int .i64 k/\Hid (z6p s.data.toList k=true)) (fun i=>s.size-(intOf i).toNat)
   case atStart=>exact⟨0,Nat.zero_le _,rfl,rfl⟩
   case round=>
    obtain⟨k,hk,rfl,HK⟩:=hrel;by_cases hlt:k<s.size
    ·have hb:(s[k].toNat:Int)<256:=by have:=s[k].toNat_lt;omega
     have HS:Hid (z6p s.data.toList (k+1)=fit (s[k].toNat:Int) ((k:Int)==0)):=fitTo_succ s k hlt HK.out;have HN:Hid (z6p s.data.toList (k+1)=false->z0r s.data.toList=3):=fun hf=>nameF_shape _ (by rw[HL.out];omega) (fitTo_false _ (k+1) _ (by rw[HL.out];omega) hf)
     by_cases a1:(97:Int)<=s[k].toNat
     all_goals by_cases a2:(s[k].toNat:Int)<=122
     all_goals by_cases a3:(48:Int)<=s[k].toNat
     all_goals by_cases a4:(s[k].toNat:Int)<=57
     all_goals by_cases a5:((s[k].toNat:Int)==95)=true
     all_goals try (exfalso;rw[beq_iff_eq]at a5;omega)
     all_goals try (exfalso;clear a5;omega)
     all_goals by_cases hk0:((k:Int)==0)=true
     all_goals
      try simp only[Bool.not_eq_true]at a5
      try simp only[Bool.not_eq_true]at hk0
      go_wp2
      first
       |(go_round
         case rel=>exact⟨k+1,by omega,by go_num,HS.out.trans (fit_yes _ _ (by first|(left;constructor <;> omega)|(refine Or.inr ⟨hk0,Or.inl ⟨?_,?_⟩⟩ <;> omega)|exact Or.inr ⟨hk0,Or.inr (beq_iff_eq.1 a5)⟩))⟩
         case measure=>simp[intOf];omega)
       |(go_ret
         rw[HN.out (HS.out.trans (fit_no _ _ (by rintro(⟨x,y⟩|⟨z,(⟨x,y⟩|x)⟩) <;> first|omega|exact absurd (z.symm.trans hk0) (by decide)|(rw[x]at a5;exact absurd a5 (by decide)))))];exact⟨rfl,rfl⟩)
    ·have HF:Hid (z0r s.data.toList=0):=nameF_ok _ (by rw[HL.out];omega) (by rw[HL.out];have e:k=s.size:=by omega
                                                                             rw[<-e];exact HK.out)
     go_wp2;go_ret;rw[HF.out];exact⟨rfl,rfl⟩
end Go.Proofs.YtbcpcbonlhlhpaaGreatDoor
namespace Go.Proofs.YtbcpcbonlhlhpaaGreatDoor
open Go.RowKit
theorem z7r (n:Int)(w:World) :
 Calls Tryz.prog 54 #[.int .i64 n] w fun e w'=>e=.returned (.bool (z0y n))/\w=w':=by
 by_cases h0:(-2147483648:Int)<=n
 all_goals by_cases h1:n<=2147483647
 all_goals
  go_enter Tryz.func54,Tryz.ntmps54;go_wp2;go_ret;exact⟨z0w (by simp[z0y,h0,h1]),rfl⟩
theorem undrew{w w':World}(h:Below w.drew.heap.size w.drew w'):Below w.heap.size w w':=⟨h.os,h.tape,h.output,h.size,h.block⟩
end Go.Proofs.YtbcpcbonlhlhpaaGreatDoor
namespace Go.Proofs.YtbcpcbonlhlhpaaGreatDoor
open Go.RowKit
set_option maxRecDepth 100000
theorem wr64(n:Int)(h0:-9223372036854775808<=n)(h1:n<=9223372036854775807):IntKind.i64.wrap n=n:=by
 simp[IntKind.wrap,IntKind.bits,IntKind.signed];omega
theorem wr8(n:Int)(h0:0<=n)(h1:n<256):IntKind.u8.wrap n=n:=by
 simp[IntKind.wrap,IntKind.bits,IntKind.signed];omega
theorem after_alloc{w w':World}{v:Value}{t:TypeId}(h:Below (w.alloc (.cells #[v] t)).heap.size (w.alloc (.cells #[v] t)) w'):w'.cell? ⟨w.heap.size,0,none⟩=some v:=cell_later h (by simp[go_sem])
def digB(d:Nat):ByteArray:=⟨#[UInt8.ofNat (48+d)]⟩
theorem conv_digit(d:Nat)(hd:d<10)(w:World)(b:Nat)(hc:w.cell? ⟨b,0,none⟩=some (.int .u8 (48+(d:Int)))) :
 (convert 102 9 (.slice (some ⟨b,0,none⟩) 1 1)).run Tryz.prog w=.ok (.string (digB d)) w:=by
 have e:=run_convert_bytes_back (P:=Tryz.prog) w 102 9 5 ⟨b,0,none⟩ 1 [UInt8.ofNat (48+d)] Tryz.underlying102 Tryz.underlying5 Tryz.underlying9 (by
  intro j hj;simp at hj;subst hj;have e1:(UInt8.ofNat (48+d)).toNat=48+d:=by rw[UInt8.toNat_ofNat'];omega
  simp only[List.getElem_cons_zero,e1];rw[show(⟨b,0,none⟩:Addr).add 0=⟨b,0,none⟩from rfl,hc];simp)
 exact e
theorem decimal_small(n:Nat)(h:n<10)(w:World) :
 Calls Tryz.prog 17 #[.int .i64 (n:Int)] w fun e w'=>(∃t:ByteArray,e=.returned (.string t)/\t.data.toList=Lib.decDigits n)/\Below w.heap.size w w':=by
 have h0:¬(n:Int)<0:=by omega
 have h1:(n:Int)<10:=by omega
 have HC:=conv_digit n h;have hE:(digB n).data.toList=Lib.decDigits n:=(Lib.decDigits_one h).symm;have hB:∀ob:Obj,Below w.heap.size w (w.alloc ob):=fun ob=>(Below.refl _ _).alloc (Nat.le_refl _) ob
 clear h;go_enter Tryz.func17,Tryz.ntmps17;go_wp2;go_ret;exact⟨⟨_,rfl,hE⟩,hB _⟩
theorem decimal_nat(k:Nat):∀(n:Nat),n<=k->n<=9223372036854775807->∀w:World,
 Calls Tryz.prog 17 #[.int .i64 (n:Int)] w fun e w'=>(∃t:ByteArray,e=.returned (.string t)/\t.data.toList=Lib.decDigits n)/\Below w.heap.size w w':=by
 induction k with
 |zero=>
  intro n hn _ w;exact decimal_small n (by omega) w
 |succ k ih=>
  intro n hn hm w;by_cases h:n<10
  ·exact decimal_small n h w
  ·have h0:¬(n:Int)<0:=by omega
   have h1:¬(n:Int)<10:=by omega
   replace ih:=ih (n / 10) (by omega) (by omega);have hq:(n:Int) / 10=((n / 10:Nat):Int):=by omega
   have hr:(n:Int).tmod 10=((n % 10:Nat):Int):=by rw[Int.tmod_eq_emod_of_nonneg (by omega)];omega
   have hE:Hid (Lib.decDigits n=Lib.decDigits (n / 10)++(digB (n % 10)).data.toList):=by
    show Lib.decDigits n=_;rw[Lib.decDigits,dif_neg h];rfl
   have HC:=conv_digit (n % 10) (by omega);have hql:((n / 10:Nat):Int)<=9223372036854775807:=by omega
   have hrl:((n % 10:Nat):Int)<10:=by omega
   have hB:∀ob:Obj,Below w.heap.size w (w.alloc ob):=fun ob=>(Below.refl _ _).alloc (Nat.le_refl _) ob
   have hw1:IntKind.i64.wrap ((n / 10:Nat):Int)=((n / 10:Nat):Int):=wr64 _ (by omega) (by omega);have hw2:IntKind.i64.wrap (48+((n % 10:Nat):Int))=48+((n % 10:Nat):Int):=wr64 _ (by omega) (by omega);have hw3:IntKind.u8.wrap (48+((n % 10:Nat):Int))=48+((n % 10:Nat):Int):=wr8 _ (by omega) (by omega);have hz:∀t:ByteArray,t.data.toList=Lib.decDigits (n / 10)->¬9223372036854775807<t.size+(digB (n % 10)).size:=by
    intro t ht
    have h1:=z1N 18 (n / 10) (by have:(10:Nat) ^ (18+1)=10000000000000000000:=by decide
                                 omega)
    rw[<-ht]at h1;have h2:t.data.toList.length=t.size:=by simp
    have h3:(digB (n % 10)).size=1:=rfl;omega
   generalize n / 10=q at *;generalize n % 10=r at *;clear hn h;go_enter Tryz.func17,Tryz.ntmps17;go_wp2;go_region_law (go_simp;go_at_call 17;refine(ih _).mono ?_;rintro e w2 ⟨⟨t,rfl,ht⟩,hb⟩;have hzt:=hz t ht;replace hb:=undrew hb;first|(have hcv:=HC w2 w.heap.size (after_alloc hb);replace hb:=(hB _).trans (hb.mono (hB _).size))|skip)
   all_goals
    go_wp2;go_ret;refine⟨⟨_,rfl,by rw[hE.out,<-ht];simp⟩,?_⟩
    first|exact hb|exact hb.alloc hb.size _
theorem z0U (n:Int)(h0:-9223372036854775807<=n)(h1:n<=9223372036854775807)(w:World) :
 Calls Tryz.prog 17 #[.int .i64 n] w fun e w'=>(∃t:ByteArray,e=.returned (.string t)/\t.data.toList=Lib.itoa n)/\Below w.heap.size w w':=by
 by_cases hn:n<0
 ·have HD:=decimal_nat n.natAbs n.natAbs (Nat.le_refl _) (by omega) w;have e1:((n.natAbs:Nat):Int)=-n:=by omega
  rw[e1]at HD;have hE:Hid (Lib.itoa n=45 :: Lib.decDigits n.natAbs):=if_pos hn;have hz:∀t:ByteArray,t.data.toList=Lib.decDigits n.natAbs->¬9223372036854775807<1+t.size:=by
   intro t ht
   have h1:=z1N 18 n.natAbs (by have:(10:Nat) ^ (18+1)=10000000000000000000:=by decide
                                omega)
   rw[<-ht]at h1;have h2:t.data.toList.length=t.size:=by simp
   omega
  have hne:(n == -9223372036854775808)=false:=by rw[beq_eq_false_iff_ne];omega
  have hw:IntKind.i64.wrap (-n)=-n:=wr64 _ (by omega) (by omega);clear e1;go_enter Tryz.func17,Tryz.ntmps17;go_wp2_with fail;refine HD.mono ?_;rintro e w2 ⟨⟨t,rfl,ht⟩,hb⟩;have hzt:=hz t ht;clear HD hz;go_wp2;go_ret;refine⟨⟨_,rfl,by rw[hE.out,<-ht];simp⟩,hb⟩
 ·have HD:=decimal_nat n.toNat n.toNat (Nat.le_refl _) (by omega) w;have e1:((n.toNat:Nat):Int)=n:=by omega
  rw[e1]at HD;have hE:Lib.itoa n=Lib.decDigits n.toNat:=if_neg hn;rw[hE];exact HD
end Go.Proofs.YtbcpcbonlhlhpaaGreatDoor
namespace Go.Proofs.YtbcpcbonlhlhpaaGreatDoor
def z1U (c:UInt8)(st:List (List UInt8)×List UInt8)(b:UInt8):List (List UInt8)×List UInt8:=if b=c then(st.1++[st.2],[])else(st.1,st.2++[b])
def cut(c:UInt8)(l:List UInt8):List (List UInt8)×List UInt8:=l.foldl (z1U c) ([],[])
theorem cut_no(c:UInt8):∀(p:List UInt8) (d:List (List UInt8)) (w:List UInt8),c ∉ p->p.foldl (z1U c) (d,w)=(d,w++p)
 | [],d,w,_=>by simp
 |b :: p,d,w,h=>by
  have h1:b≠c:=fun e=>h (by rw[e];simp)
  rw[List.foldl_cons];show p.foldl (z1U c) (if b=c then _ else _)=_;rw[if_neg h1,cut_no c p _ _ (fun e=>h (List.mem_cons_of_mem _ e))];simp
theorem cut_mid(c:UInt8)(p r:List UInt8)(d:List (List UInt8))(w:List UInt8)(h:c ∉ p):(p++c :: r).foldl (z1U c) (d,w)=r.foldl (z1U c) (d++[w++p],[]):=by
 rw[List.foldl_append,cut_no c p d w h,List.foldl_cons];show r.foldl (z1U c) (if c=c then _ else _)=_;rw[if_pos rfl]
theorem cut_from(c:UInt8):∀(l:List UInt8) (d e:List (List UInt8)) (w:List UInt8),l.foldl (z1U c) (d++e,w)=(d++(l.foldl (z1U c) (e,w)).1,(l.foldl (z1U c) (e,w)).2)
 | [],d,e,w=>rfl
 |b :: l,d,e,w=>by
  rw[List.foldl_cons,List.foldl_cons];by_cases h:b=c
  ·have e1:z1U c (d++e,w) b=(d++(e++[w]),[]):=by simp[z1U,h]
   have e2:z1U c (e,w) b=(e++[w],[]):=by simp[z1U,h]
   rw[e1,e2,cut_from c l d (e++[w]) []]
  ·have e1:z1U c (d++e,w) b=(d++e,w++[b]):=by simp[z1U,h]
   have e2:z1U c (e,w) b=(e,w++[b]):=by simp[z1U,h]
   rw[e1,e2,cut_from c l d e (w++[b])]
theorem cut_end(c:UInt8)(p:List UInt8)(h:c ∉ p):cut c p=([],p):=cut_no c p [] [] h
theorem cut_first(c:UInt8)(p r:List UInt8)(h:c ∉ p):cut c (p++c :: r)=(p :: (cut c r).1,(cut c r).2):=by
 unfold cut;rw[cut_mid c p r [] [] h];exact cut_from c r [p] [] []
def z0O (l:List UInt8):List (List UInt8):=(cut 32 l).1++[(cut 32 l).2]
theorem z1H (p:List UInt8)(h:(32:UInt8) ∉ p):z0O p=[p]:=by unfold z0O;rw[cut_end 32 p h];rfl
theorem z0N (p r:List UInt8)(h:(32:UInt8) ∉ p):z0O (p++32 :: r)=p :: z0O r:=by unfold z0O;rw[cut_first 32 p r h];rfl
def val(l:List UInt8):Nat:=l.foldl (fun n b=>10*n+(b.toNat-48)) 0
theorem val_snoc(l:List UInt8)(b:UInt8):val (l++[b])=10*val l+(b.toNat-48):=by unfold val;rw[List.foldl_append];rfl
def z2n (b:UInt8):Bool:=decide (48<=b.toNat)&&decide (b.toNat<=57)
theorem val_lt:∀(n:Nat) (l:List UInt8),l.length=n->l.all z2n=true->val l<10 ^ n:=by
 intro n
 induction n with
 |zero=>
  intro l h _;rw[List.length_eq_zero_iff.1 h];decide
 |succ n ih=>
  intro l h hd;have hne:l ≠ []:=by intro e;rw[e]at h;simp at h
  rw[<-List.dropLast_concat_getLast hne]at h hd ⊢;rw[List.all_append,Bool.and_eq_true]at hd;rw[List.length_append,List.length_singleton]at h;have h1:=ih l.dropLast (by omega) hd.1;have h2:z2n (l.getLast hne)=true:=by simpa using hd.2
  simp only[z2n,Bool.and_eq_true,decide_eq_true_eq]at h2;rw[val_snoc,Nat.pow_succ];omega
def magR(l:List UInt8):List UInt8:=if l.head? = some 45 then l.tail else l
def z1I (l:List UInt8):Option Int:=
 if (magR l).length<1∨18<(magR l).length∨((magR l).head? = some 48/\1<l.length)then none
 else if (magR l).all z2n=true then some (if (magR l).length<l.length then -(val (magR l):Int)else(val (magR l):Int))else none
def numR(l:List UInt8):Int:=(z1I l).getD (-1099511627776)
theorem numR_le(l:List UInt8):-1000000000000000000<=numR l/\numR l<=1000000000000000000:=by
 unfold numR z1I;split
 ·simp
 ·rename_i h;split
  ·rename_i hd;have h1:=val_lt _ _ rfl hd;have h2:(10:Nat) ^ (magR l).length<=10 ^ 18:=Nat.pow_le_pow_right (by omega) (by omega);have h3:(10:Nat) ^ 18=1000000000000000000:=by decide
   simp only[Option.getD_some];split <;> omega
  ·simp
end Go.Proofs.YtbcpcbonlhlhpaaGreatDoor
