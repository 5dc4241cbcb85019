/- What read returns, for every text: what is read of it, line -/
import Derived.Test.YtbcpcbonlhlhpaaGreatDoorTextWalk
set_option maxRecDepth 100000
set_option maxHeartbeats 2000000
namespace Go.Proofs.YtbcpcbonlhlhpaaGreatDoor
open Go.RowKit
theorem own_at{w:World}{B s n:Nat}{e:TypeId}{v:Value}{g:Nat->List Value}(h:w.ownsRow B e s v n (catV g n))(hg:∀i,i<n->(g i).length=s) :
 ∃(a:Option Addr) (cap:Nat),v=.slice a n cap/\n<=cap/\(n=0∨∃b,a=some ⟨b,0,none⟩/\∀i,i<n->∀j,j<s->w.cell? ⟨b,0+i*s+j,none⟩=(g i)[j]?):=by
 obtain⟨hl,hv⟩:=h;rcases hv with⟨rfl,rfl⟩|⟨b,cap,cur,rfl,_,hb,hc,_,hsz,ht⟩
 ·exact⟨none,0,rfl,Nat.le_refl _,.inl rfl⟩
 ·refine⟨_,cap,rfl,hc,.inr ⟨b,rfl,fun i hi j hj=>?_⟩⟩;have hlt:i*s+j<n*s:=by
   have h1:(i+1)*s<=n*s:=Nat.mul_le_mul_right s (by omega);rw[Nat.add_mul]at h1;omega
  have h1:cur[i*s+j]?=(g i)[j]?:=by
   rw[<-catV_at hg hi hj,<-ht,List.getElem?_take,if_pos hlt,Array.getElem?_toList]
  rw[<-h1];simp[World.cell?,hb]
theorem z0n.objAt{B bo:Nat}{w:World}{vN vW vS vT:Value}{o:ObjF}(h:z0n B w bo vN vW vS vT o):∃v:ObjV,#[vN,vW,vS,vT]=v.cells o/\z1C w v o:=by
 obtain⟨aN,cN,rfl,lN,hN⟩:=own_at h.needs (fun _ _=>rfl);obtain⟨aW,cW,rfl,lW,hW⟩:=own_at h.words (fun _ _=>rfl);obtain⟨aS,cS,rfl,lS,hS⟩:=own_at h.syms (fun _ _=>rfl);obtain⟨aT,cT,rfl,lT,hT⟩:=own_at h.ties (fun _ _=>rfl);refine⟨⟨aN,cN,aW,cW,aS,cS,aT,cT⟩,rfl,?_,?_,?_,?_,lN,lS⟩
 ·rcases hN with h0|⟨b,ha,hc⟩
  ·exact .inl h0
  ·exact .inr ⟨b,0,ha,fun i hi=>by have:=hc i hi 0 (by omega);simpa[needC]using this⟩
 ·rcases hW with h0|⟨b,ha,hc⟩
  ·exact .inl h0
  ·exact .inr ⟨b,0,ha,fun i hi=>by have:=hc i hi 0 (by omega);simpa[wordC]using this⟩
 ·rcases hS with h0|⟨b,ha,hc⟩
  ·exact .inl h0
  ·exact .inr ⟨b,0,ha,fun i hi=>⟨hc i hi 0 (by omega),hc i hi 1 (by omega),hc i hi 2 (by omega)⟩⟩
 ·rcases hT with h0|⟨b,ha,hc⟩
  ·exact .inl h0
  ·exact .inr ⟨b,0,ha,fun i hi=>⟨hc i hi 0 (by omega),hc i hi 1 (by omega),hc i hi 2 (by omega),hc i hi 3 (by omega),hc i hi 4 (by omega)⟩⟩
theorem z0n.other{B bo g i:Nat}{w:World}{vN vW vS vT u:Value}{o:ObjF}{c:Array Value}(h:z0n B w bo vN vW vS vT o)(hg:w.heap[g]?=some (.cells c 56 (0,0)))(hne:bo≠g):z0n B (w.setCell ⟨g,i,none⟩ u) bo vN vW vS vT o:=
 ⟨Nat.le_trans h.lo (by simp[World.setCell]),(Below.heap_setCell _ _ _ _ hne).trans h.blk,z1m h.needs hg (by decide),z1m h.words hg (by decide),z1m h.syms hg (by decide),z1m h.ties hg (by decide)⟩
theorem z0n.store4{B bo g:Nat}{w:World}{vN vW vS vT:Value}{o:ObjF}{c:Array Value}(h:z0n B w bo vN vW vS vT o)(hg:w.heap[g]?=some (.cells c 56 (0,0)))(hne:bo≠g)(a0 a1 a2 a3:Value) :
 z0n B ((((w.setCell ⟨g,0,none⟩ a0).setCell ⟨g,1,none⟩ a1).setCell ⟨g,2,none⟩ a2).setCell ⟨g,3,none⟩ a3) bo vN vW vS vT o:=by
 have h1:=heap_setCell w g 0 c _ a0 hg;have h2:=heap_setCell _ g 1 _ _ a1 h1;have h3:=heap_setCell _ g 2 _ _ a2 h2;exact(((h.other hg hne).other h1 hne).other h2 hne).other h3 hne
theorem z0F {B g:Nat}{w w':World}(h:Below B w w')(hg:B<=g)(a0 a1 a2 a3:Value):Below B w ((((w'.setCell ⟨g,0,none⟩ a0).setCell ⟨g,1,none⟩ a1).setCell ⟨g,2,none⟩ a2).setCell ⟨g,3,none⟩ a3):=
 (((h.setCell (p:=⟨g,0,none⟩) hg _).setCell (p:=⟨g,1,none⟩) hg _).setCell (p:=⟨g,2,none⟩) hg _).setCell (p:=⟨g,3,none⟩) hg _
theorem fold_counts(ls:List ByteArray):∀(o:ObjF) (n:Nat),(o.nN<=n/\o.nW<=n/\o.nS<=n/\o.nT<=n)->((ls.foldl z4Y o).nN<=n+ls.length/\(ls.foldl z4Y o).nW<=n+ls.length/\(ls.foldl z4Y o).nS<=n+ls.length/\(ls.foldl z4Y o).nT<=n+ls.length):=by
 induction ls with
 |nil=>intro o n h;exact h
 |cons l ls ih=>
  intro o n h;have:=ih (z4Y o l) (n+1) (wordsF_counts o _ _ n h);simp only[List.foldl_cons,List.length_cons];omega
def z7h (B:Nat)(a:Option Addr)(n:Nat):Prop:=n=0∨∃b o,a=some ⟨b,o,none⟩/\B<=b
theorem z7h.lower{B B':Nat}{a:Option Addr}{n:Nat}(h:z7h B a n)(hB:B'<=B):z7h B' a n:=by
 rcases h with h|⟨b,o,h1,h2⟩
 ·exact .inl h
 ·exact .inr ⟨b,o,h1,Nat.le_trans hB h2⟩
theorem z4a {w:World}{B:Nat}{e:TypeId}{s n c:Nat}{a:Option Addr}{xs:List Value}(h:w.ownsRow B e s (.slice a n c) n xs):z7h B a n:=by
 rcases h.2 with⟨_,h0⟩|⟨g,cap,cur,hv,hB,_⟩
 ·exact .inl h0
 ·injection hv with h1 _ _;exact .inr ⟨g,0,h1,hB⟩
structure z2Q (B:Nat)(v:ObjV)(o:ObjF):Prop where
 needs:z7h B v.aN o.nN
 words:z7h B v.aW o.nW
 syms:z7h B v.aS o.nS
 ties:z7h B v.aT o.nT
theorem z2Q.lower{B B':Nat}{v:ObjV}{o:ObjF}(h:z2Q B v o)(hB:B'<=B):z2Q B' v o:=⟨h.needs.lower hB,h.words.lower hB,h.syms.lower hB,h.ties.lower hB⟩
structure ReadSt(w3 wr:World)(R:Nat)(o:ObjF):Prop where
 is:∃v0 v1 v2 v3,z0n (R+3) wr (R+1) v0 v1 v2 v3 o
 kept:Kept (R+3) (R+1) w3 wr
theorem read_any(s:ByteArray)(w:World)(hE:Env w)(hs:s.size<=100000) :
 Calls Tryz.prog 94 #[.string s] w fun e w'=>(∃v:ObjV,e=.returned (.agg (v.cells (readF s)))/\z1C w' v (readF s)/\z2Q w.heap.size v (readF s))/\Below w.heap.size w w':=by
 obtain⟨m,hm⟩:=hE.maxLen;have hls:(z5x s).length=Lib.countB s ⟨#[10]⟩+1:=Lib.splitB_all ⟨#[10]⟩ (by decide) 0 _ s rfl;have hcl:=Lib.countB_le ⟨#[10]⟩ (by decide) _ s (Nat.le_refl _);have hsz:∀x∈z5x s,x.size<=100000:=fun x hx=>by
  have:=z4D _ _ _ _ hx;omega
 have HF:Hid (readF s=(z5x s).foldl z4Y z0d):=rfl;have hb1:Below w.heap.size w ((w.alloc (.cells #[.slice none 0 0,.slice none 0 0,.slice none 0 0,.slice none 0 0] 56)).alloc (.cells #[.slice none 0 0,.slice none 0 0,.slice none 0 0,.slice none 0 0] 56)):=((Below.refl _ _).alloc (Nat.le_refl _) _).alloc (by simp) _;have HS:=Tryz.strings_Split s ⟨#[10]⟩ m ((w.alloc (.cells #[.slice none 0 0,.slice none 0 0,.slice none 0 0,.slice none 0 0] 56)).alloc (.cells #[.slice none 0 0,.slice none 0 0,.slice none 0 0,.slice none 0 0] 56)) (by omega) (cell_later hb1 hm) (by decide);have HL:Lib.splitB ⟨#[10]⟩ 0 (Lib.countB s ⟨#[10]⟩) s=z5x s:=rfl;rw[HL]at HS;generalize readF s=F at *;generalize z5x s=ls at *;generalize Lib.countB s ⟨#[10]⟩=n at *;clear HL;have h3a:∀j,j<n+1->∃x,ls[j]?=some x:=fun j hj=>⟨ls[j]'(by omega),List.getElem?_eq_getElem _⟩
 have hW:Below w.heap.size w (((w.alloc (.cells #[.slice none 0 0,.slice none 0 0,.slice none 0 0,.slice none 0 0] 56)).alloc (.cells #[.slice none 0 0,.slice none 0 0,.slice none 0 0,.slice none 0 0] 56)).alloc (.cells (ls.map Value.string).toArray 9)):=hb1.alloc (by simp;omega) _;have hR0:(((w.alloc (.cells #[.slice none 0 0,.slice none 0 0,.slice none 0 0,.slice none 0 0] 56)).alloc (.cells #[.slice none 0 0,.slice none 0 0,.slice none 0 0,.slice none 0 0] 56)).alloc (.cells (ls.map Value.string).toArray 9)).heap[w.heap.size]?=some (.cells #[.slice none 0 0,.slice none 0 0,.slice none 0 0,.slice none 0 0] 56 (0,0)):=by
  show(((w.heap.push _).push _).push _)[w.heap.size]?=_;rw[Array.getElem?_push,if_neg (by simp;omega),Array.getElem?_push,if_neg (by simp),Array.getElem?_push_size]
 have hR1:(((w.alloc (.cells #[.slice none 0 0,.slice none 0 0,.slice none 0 0,.slice none 0 0] 56)).alloc (.cells #[.slice none 0 0,.slice none 0 0,.slice none 0 0,.slice none 0 0] 56)).alloc (.cells (ls.map Value.string).toArray 9)).heap[w.heap.size+1]?=some (.cells #[.slice none 0 0,.slice none 0 0,.slice none 0 0,.slice none 0 0] 56 (0,0)):=by
  show(((w.heap.push _).push _).push _)[w.heap.size+1]?=_;rw[Array.getElem?_push,if_neg (by simp),Array.getElem?_push,if_pos (by simp)]
 have hR2:(((w.alloc (.cells #[.slice none 0 0,.slice none 0 0,.slice none 0 0,.slice none 0 0] 56)).alloc (.cells #[.slice none 0 0,.slice none 0 0,.slice none 0 0,.slice none 0 0] 56)).alloc (.cells (ls.map Value.string).toArray 9)).heap[w.heap.size+2]?=some (.cells (ls.map Value.string).toArray 9 (0,0)):=by
  show(((w.heap.push _).push _).push _)[w.heap.size+2]?=_;rw[Array.getElem?_push,if_pos (by simp)]
 have hsz3:(((w.alloc (.cells #[.slice none 0 0,.slice none 0 0,.slice none 0 0,.slice none 0 0] 56)).alloc (.cells #[.slice none 0 0,.slice none 0 0,.slice none 0 0,.slice none 0 0] 56)).alloc (.cells (ls.map Value.string).toArray 9)).heap.size=w.heap.size+3:=by simp
 clear hb1 hm;go_enter Tryz.func94,Tryz.ntmps94;go_wp2_with fail;refine HS.mono ?_;rintro e w3 ⟨rfl,hw3⟩;rw[<-hw3]at hW hR0 hR1 hR2 hsz3;clear hw3 HS;have hS:ReadSt w3 w3 w.heap.size z0d:=⟨⟨.slice none 0 0,.slice none 0 0,.slice none 0 0,.slice none 0 0,by omega,hR1,World.ownsRow_nil _ _ _ _,World.ownsRow_nil _ _ _ _,World.ownsRow_nil _ _ _ _,World.ownsRow_nil _ _ _ _⟩,Kept.refl _ _ _⟩;go_wp2;go_loopw [9] (fun x wr=>∃k:Nat,k<=n+1/\x=.int .i64 k/\ReadSt w3 wr w.heap.size ((ls.take k).foldl z4Y z0d)) (fun x _=>n+1-(intOf x).toNat)
 case atStart=>exact⟨0,Nat.zero_le _,rfl,hS⟩
 case round=>
  clear hS;obtain⟨k,hk,rfl,⟨⟨v0,v1,v2,v3,hRd⟩,hK⟩⟩:=hrel;have hBw:Below w.heap.size w wr:=hW.trans (hK.below.mono (by omega));by_cases hlt:k<n+1
  ·obtain⟨x,hx⟩:=h3a k hlt;have hE':=hE.later hBw;have hxs:x.size<=100000:=hsz x (List.mem_of_getElem? hx);have hcn:=fold_counts (ls.take k) z0d 0 ⟨Nat.le_refl _,Nat.le_refl _,Nat.le_refl _,Nat.le_refl _⟩;have htk:(ls.take k).length=k:=by rw[List.length_take];omega
   rw[htk]at hcn;have hcell:wr.cell? ⟨w.heap.size+1+1,k,none⟩=some (.string x):=by
    have h2:=(hK.block (w.heap.size+2) (by omega) (by omega)).trans hR2;show wr.cell? ⟨w.heap.size+2,k,none⟩=_;simp[World.cell?,h2,hx]
   have HN:Hid ((ls.take (k+1)).foldl z4Y z0d=z4Y ((ls.take k).foldl z4Y z0d) x):=by
    show(ls.take (k+1)).foldl z4Y z0d=_;rw[List.take_add_one,hx,List.foldl_append];rfl
   clear hx htk hBw h3a hsz hR0 hR1 hR2 HF;generalize (ls.take k).foldl z4Y z0d=X at *;go_wp2_with fail;refine(readLine_any (w.heap.size+3) (w.heap.size+1) v0 v1 v2 v3 X x _ hE' hRd (by omega) (by omega)).mono ?_;rintro e w4 ⟨rfl,hRn,hKn⟩;have hS:ReadSt w3 w4 w.heap.size ((ls.take (k+1)).foldl z4Y z0d):=by rw[HN.out];exact⟨hRn,hK.trans hKn⟩
   clear hRn hKn hK hRd hcell hE' HN;go_wp2;go_roundw
   case rel=>exact⟨k+1,by omega,by go_num,hS⟩
   case measure=>simp[intOf];omega
  ·have e:k=n+1:=by omega
   subst e;have et:ls.take (n+1)=ls:=List.take_of_length_le (by omega);rw[et,<-HF.out]at hRd;obtain⟨v,hv,_⟩:=hRd.objAt;obtain⟨rfl,rfl,rfl,rfl⟩:v0=.slice v.aN F.nN v.cN/\v1=.slice v.aW F.nW v.cW/\v2=.slice v.aS F.nS v.cS/\v3=.slice v.aT F.nT v.cT:=by simpa[ObjV.cells]using hv
   clear hv;have c0:=hRd.c0;have c1:=hRd.c1;have c2:=hRd.c2;have c3:=hRd.c3;have hq:=(hK.block w.heap.size (by omega) (by omega)).trans hR0;have q0:wr.cell? ⟨w.heap.size,0,none⟩=some (.slice none 0 0):=by simp[World.cell?,hq]
   have q1:wr.cell? ⟨w.heap.size,1,none⟩=some (.slice none 0 0):=by simp[World.cell?,hq]
   have q2:wr.cell? ⟨w.heap.size,2,none⟩=some (.slice none 0 0):=by simp[World.cell?,hq]
   have q3:wr.cell? ⟨w.heap.size,3,none⟩=some (.slice none 0 0):=by simp[World.cell?,hq]
   have f0:wr.frozen? ⟨w.heap.size,0,none⟩=false:=by simp[World.frozen?,hq]
   have f1:wr.frozen? ⟨w.heap.size,1,none⟩=false:=by simp[World.frozen?,hq]
   have f2:wr.frozen? ⟨w.heap.size,2,none⟩=false:=by simp[World.frozen?,hq]
   have f3:wr.frozen? ⟨w.heap.size,3,none⟩=false:=by simp[World.frozen?,hq]
   have hnew:z2Q w.heap.size v F:=z2Q.lower (B:=w.heap.size+3) ⟨z4a hRd.needs,z4a hRd.words,z4a hRd.syms,z4a hRd.ties⟩ (by omega);have hfin:=(hRd.store4 hq (by omega) (.slice v.aN F.nN v.cN) (.slice v.aW F.nW v.cW) (.slice v.aS F.nS v.cS) (.slice v.aT F.nT v.cT)).objAt;have hBf:=z0F hBw (Nat.le_refl w.heap.size) (.slice v.aN F.nN v.cN) (.slice v.aW F.nW v.cW) (.slice v.aS F.nS v.cS) (.slice v.aT F.nT v.cT);clear hq hRd hR0 hR1 hR2 h3a hsz HF hK hW hBw;go_wp2;refine bodyPost_ret (v:=.agg #[.slice v.aN F.nN v.cN,.slice v.aW F.nW v.cW,.slice v.aS F.nS v.cS,.slice v.aT F.nT v.cT]) (by simp[results,Tryz.results94,go_sem,q0,q1,q2,q3]) rfl ⟨?_,hBf⟩;obtain⟨v',hv,ho⟩:=hfin;refine⟨v',by rw[hv],ho,?_⟩;obtain⟨aN,cN,aW,cW,aS,cS,aT,cT⟩:=v;obtain⟨aN',cN',aW',cW',aS',cS',aT',cT'⟩:=v';simp[ObjV.cells]at hv;obtain⟨⟨rfl,_⟩,⟨rfl,_⟩,⟨rfl,_⟩,⟨rfl,_⟩⟩:=hv;exact⟨hnew.needs,hnew.words,hnew.syms,hnew.ties⟩
end Go.Proofs.YtbcpcbonlhlhpaaGreatDoor
namespace Go.Proofs.YtbcpcbonlhlhpaaGreatDoor
open Go.RowKit
theorem text_fault(v:ObjV)(o:ObjF)(w:World)(hA:z1C w v o)(hf:z6z o)(h0:objF o≠0) :
 Calls Tryz.prog 95 #[.agg (v.cells o)] w fun e w'=>(∃s:ByteArray,e=.returned (.tuple #[.string s,errV (z1X o).1])/\s.data.toList=(z1X o).2)/\Below w.heap.size w w':=by
 obtain⟨aN,cN,aW,cW,aS,cS,aT,cT⟩:=v;have hb0:∀ob:Obj,Below w.heap.size w (w.alloc ob):=fun ob=>(Below.refl _ _).alloc (Nat.le_refl _) ob
 have HC:=fun(w':World) (hx:Below w.heap.size w w')=>checkObj_any ⟨aN,cN,aW,cW,aS,cS,aT,cT⟩ o w' (hA.later hx) hf
 have ht:z1X o=(objF o,[]):=if_neg h0;rw[ht];simp only[z1J h0]at HC ⊢;unfold ObjV.cells at HC;unfold ObjV.cells;generalize objF o=f at *;clear ht;go_enter Tryz.func95,Tryz.ntmps95;go_wp2_with fail;refine(HC _ (hb0 _)).mono ?_;rintro e w1 ⟨rfl,hb1⟩;clear HC;have hx:Below w.heap.size w w1:=(hb0 _).trans (hb1.mono (hb0 _).size);clear hb1 hb0;go_wp2;go_ret2;exact⟨⟨⟨#[]⟩,rfl,rfl⟩,hx⟩
theorem text_any(v:ObjV)(o:ObjF)(w:World)(hE:Env w)(hA:z1C w v o)(hf:z6z o) :
 Calls Tryz.prog 95 #[.agg (v.cells o)] w fun e w'=>(∃s:ByteArray,e=.returned (.tuple #[.string s,errV (z1X o).1])/\s.data.toList=(z1X o).2)/\Below w.heap.size w w':=by
 by_cases h0:objF o=0
 ·exact text_ok v o w hE hA hf h0
 ·exact text_fault v o w hA hf h0
end Go.Proofs.YtbcpcbonlhlhpaaGreatDoor
namespace Go.Proofs.YtbcpcbonlhlhpaaGreatDoor
open Go.RowKit
structure z1F (o:ObjF):Prop where
 needs:∀i,(o.needs i).size<=maxLen
 words:∀i,(Lit.int .i64 (o.words i)).wf=true
 syms:∀i,(o.sName i).size<=maxLen/\(Lit.int .i64 (o.sAt i)).wf=true
 ties:∀i,(o.tName i).size<=maxLen/\(Lit.int .i64 (o.tAt i)).wf=true/\(Lit.int .i64 (o.tKind i)).wf=true/\(Lit.int .i64 (o.tAdd i)).wf=true
theorem num_wf(l:List UInt8):(Lit.int .i64 (numF l)).wf=true:=by
 have h:=numF_wf l;have e1:IntKind.i64.min=-9223372036854775808:=by decide
 have e2:IntKind.i64.max=9223372036854775807:=by decide
 simp only[Lit.wf,e1,e2,Bool.and_eq_true,decide_eq_true_eq];exact h
theorem z1F.need{o:ObjF}(h:z1F o)(s:ByteArray)(hs:s.size<=maxLen):z1F (z2f o s):=
 ⟨fun i=>by simp only[z2f];split;exact hs;exact h.needs i,h.words,h.syms,h.ties⟩
theorem z1F.word{o:ObjF}(h:z1F o)(l:List UInt8):z1F (z1L o (numF l)):=
 ⟨h.needs,fun i=>by simp only[z1L];split;exact num_wf l;exact h.words i,h.syms,h.ties⟩
theorem z1F.sym{o:ObjF}(h:z1F o)(s:ByteArray)(l:List UInt8)(b:Bool)(hs:s.size<=maxLen):z1F (z2R o s (numF l) b):=
 ⟨h.needs,h.words,fun i=>by simp only[z2R];split;exact⟨hs,num_wf l⟩;exact h.syms i,h.ties⟩
theorem z1F.tie{o:ObjF}(h:z1F o)(x d:List UInt8)(k:Int)(s:ByteArray)(b:Bool)(hs:s.size<=maxLen)(hk:(Lit.int .i64 k).wf=true):z1F (z1G o (numF x) k (numF d) s b):=
 ⟨h.needs,h.words,h.syms,fun i=>by simp only[z1G];split;exact⟨hs,num_wf x,hk,num_wf d⟩;exact h.ties i⟩
theorem z1F.words_{o:ObjF}(h:z1F o)(wk:Bool)(xs:List ByteArray)(hx:∀x∈xs,x.size<=maxLen):z1F (z2q o wk xs):=by
 unfold z2q;split
 ·split
  ·exact h.need _ (hx _ (by simp))
  ·split
   ·exact h.word _
   ·exact h
 ·split
  ·exact h.sym _ _ _ (hx _ (by simp))
  ·split
   ·exact h.tie _ _ _ _ _ (by decide) (by decide)
   ·exact h
 ·split
  ·exact h.tie _ _ _ _ _ (hx _ (by simp)) (by decide)
  ·split
   ·exact h.tie _ _ _ _ _ (hx _ (by simp)) (by decide)
   ·exact h
 ·exact h
theorem z1F.fold(ls:List ByteArray):∀o,z1F o->(∀x∈ls,x.size<=maxLen)->z1F (ls.foldl z4Y o):=by
 induction ls with
 |nil=>intro o h _;exact h
 |cons l ls ih=>
  intro o h hx;refine ih _ (h.words_ _ _ fun x hm=>?_) (fun x hm=>hx x (List.mem_cons_of_mem _ hm));have h1:=z4D _ _ _ _ hm;have h2:=unWeak_size l;have h3:=hx l (by simp);omega
theorem emptyO_fit:z1F z0d:=
 have h1:(⟨#[]⟩:ByteArray).size<=maxLen:=by decide
 have h2:(Lit.int .i64 0).wf=true:=by decide
 ⟨fun _=>h1,fun _=>h2,fun _=>⟨h1,h2⟩,fun _=>⟨h1,h2,h2,h2⟩⟩
theorem readF_fit(s:ByteArray)(hs:s.size<=100000):z6z (readF s):=by
 have hls:(z5x s).length=Lib.countB s ⟨#[10]⟩+1:=Lib.splitB_all ⟨#[10]⟩ (by decide) 0 _ s rfl;have hcl:=Lib.countB_le ⟨#[10]⟩ (by decide) _ s (Nat.le_refl _);have hc:=fold_counts (z5x s) z0d 0 ⟨Nat.le_refl _,Nat.le_refl _,Nat.le_refl _,Nat.le_refl _⟩;have hA:z1F (readF s):=z1F.fold (z5x s) z0d emptyO_fit fun x hx=>by
  have:=z4D _ _ _ _ hx;simp only[maxLen];omega
 have hm:(100001:Nat)<=maxLen:=by decide
 unfold readF at hA ⊢;exact⟨by omega,by omega,by omega,by omega,fun i _=>hA.needs i,fun i _=>hA.words i,fun i _=>hA.syms i,fun i _=>hA.ties i⟩
def z0k (s:ByteArray):Nat×ObjF:=if 1200<s.size then(2,z0d)else if (z1X (readF s)).1=0/\(z1X (readF s)).2=s.data.toList then(0,readF s)else(4,z0d)
def noV:ObjV:=⟨none,0,none,0,none,0,none,0⟩
theorem z4l (w:World):z1C w noV z0d:=⟨.inl rfl,.inl rfl,.inl rfl,.inl rfl,Nat.le_refl _,Nat.le_refl _⟩
theorem z2Y (B:Nat):z2Q B noV z0d:=⟨.inl rfl,.inl rfl,.inl rfl,.inl rfl⟩
def Slices(c:Array Value):Prop:=∀(j:Nat) (x:Value),c[j]?=some x->∃a n k,x=.slice a n k
theorem z2D {w:World}{g i b j:Nat}{c:Array Value}{t:TypeId}{u x:Value}(hg:w.heap[g]?=some (.cells c t (0,0)))(hc:Slices c)(h:w.cell? ⟨b,j,none⟩=some x)(hx:∀a n k,x ≠ .slice a n k):(w.setCell ⟨g,i,none⟩ u).cell? ⟨b,j,none⟩=some x:=by
 by_cases e:b=g
 ·subst e;simp[World.cell?,hg]at h;obtain⟨a,n,k,hs⟩:=hc j x h;exact absurd hs (hx a n k)
 ·exact(World.cell?_of_block (Below.heap_setCell _ _ _ _ e)).trans h
theorem z1C.store{w:World}{v:ObjV}{o:ObjF}{g i:Nat}{c:Array Value}{t:TypeId}{u:Value}(h:z1C w v o)(hg:w.heap[g]?=some (.cells c t (0,0)))(hc:Slices c):z1C (w.setCell ⟨g,i,none⟩ u) v o where
 needs:=by
  rcases h.needs with h|⟨b,f,ha,h⟩
  ·exact .inl h
  ·exact .inr ⟨b,f,ha,fun i hi=>z2D hg hc (h i hi) (by simp)⟩
 words:=by
  rcases h.words with h|⟨b,f,ha,h⟩
  ·exact .inl h
  ·exact .inr ⟨b,f,ha,fun i hi=>z2D hg hc (h i hi) (by simp)⟩
 syms:=by
  rcases h.syms with h|⟨b,f,ha,h⟩
  ·exact .inl h
  ·exact .inr ⟨b,f,ha,fun i hi=>⟨z2D hg hc (h i hi).1 (by simp),z2D hg hc (h i hi).2.1 (by simp),z2D hg hc (h i hi).2.2 (by simp)⟩⟩
 ties:=by
  rcases h.ties with h|⟨b,f,ha,h⟩
  ·exact .inl h
  ·exact .inr ⟨b,f,ha,fun i hi=>⟨z2D hg hc (h i hi).1 (by simp),z2D hg hc (h i hi).2.1 (by simp),z2D hg hc (h i hi).2.2.1 (by simp),z2D hg hc (h i hi).2.2.2.1 (by simp),z2D hg hc (h i hi).2.2.2.2 (by simp)⟩⟩
 capN:=h.capN
 capS:=h.capS
theorem Slices.set{c:Array Value}(h:Slices c)(i:Nat)(a:Option Addr)(n k:Nat):Slices (c.set! i (.slice a n k)):=by
 intro j x hx;rw[Array.set!_eq_setIfInBounds,Array.getElem?_setIfInBounds]at hx;split at hx
 ·split at hx
  ·injection hx with hx;exact⟨a,n,k,hx.symm⟩
  ·cases hx
 ·exact h j x hx
theorem slices4:Slices #[.slice none 0 0,.slice none 0 0,.slice none 0 0,.slice none 0 0]:=by
 intro j x hx
 match j,hx with
 |0,hx=>exact⟨none,0,0,by simpa using hx.symm⟩
 |1,hx=>exact⟨none,0,0,by simpa using hx.symm⟩
 |2,hx=>exact⟨none,0,0,by simpa using hx.symm⟩
 |3,hx=>exact⟨none,0,0,by simpa using hx.symm⟩
 |j+4,hx=>simp at hx
theorem z1C.store4{w:World}{v:ObjV}{o:ObjF}{g:Nat}{t:TypeId}(h:z1C w v o)(hg:w.heap[g]?=some (.cells #[.slice none 0 0,.slice none 0 0,.slice none 0 0,.slice none 0 0] t (0,0)))(a0:Option Addr)(n0 k0:Nat)(a1:Option Addr)(n1 k1:Nat)(a2:Option Addr)(n2 k2:Nat)(a3:Option Addr)(n3 k3:Nat) :
 z1C ((((w.setCell ⟨g,0,none⟩ (.slice a0 n0 k0)).setCell ⟨g,1,none⟩ (.slice a1 n1 k1)).setCell ⟨g,2,none⟩ (.slice a2 n2 k2)).setCell ⟨g,3,none⟩ (.slice a3 n3 k3)) v o:=by
 have h1:=heap_setCell w g 0 _ _ (.slice a0 n0 k0) hg;have h2:=heap_setCell _ g 1 _ _ (.slice a1 n1 k1) h1;have h3:=heap_setCell _ g 2 _ _ (.slice a2 n2 k2) h2;exact(((h.store hg slices4).store h1 (slices4.set _ _ _ _)).store h2 ((slices4.set _ _ _ _).set _ _ _ _)).store h3 (((slices4.set _ _ _ _).set _ _ _ _).set _ _ _ _)
theorem parse_long(s:ByteArray)(w:World)(hm:1200<s.size) :
 Calls Tryz.prog 65 #[.string s] w fun e w'=>(∃v:ObjV,e=.returned (.tuple #[.agg (v.cells (z0k s).2),errV (z0k s).1])/\z1C w' v (z0k s).2/\z2Q w.heap.size v (z0k s).2)/\Below w.heap.size w w':=by
 have hp:z0k s=(2,z0d):=if_pos hm;rw[hp];have hm':(1200:Int)<(s.size:Int):=by omega
 clear hp hm;go_enter Tryz.func65,Tryz.ntmps65;go_wp2;refine bodyPost_ret (v:=.tuple #[.agg #[.slice none 0 0,.slice none 0 0,.slice none 0 0,.slice none 0 0],.iface 43 (.int .i64 2)]) (by simp[results,Tryz.results65,go_sem]) rfl ⟨⟨noV,rfl,z4l _,z2Y _⟩,(Below.refl _ _).alloc (Nat.le_refl _) _⟩
theorem parse_short(s:ByteArray)(w:World)(hE:Env w)(hm:¬1200<s.size) :
 Calls Tryz.prog 65 #[.string s] w fun e w'=>(∃v:ObjV,e=.returned (.tuple #[.agg (v.cells (z0k s).2),errV (z0k s).1])/\z1C w' v (z0k s).2/\z2Q w.heap.size v (z0k s).2)/\Below w.heap.size w w':=by
 have HP:Hid (z0k s=if (z1X (readF s)).1=0/\(z1X (readF s)).2=s.data.toList then(0,readF s)else(4,z0d)):=if_neg hm;have hfit:=readF_fit s (by omega);have HR:=fun(w':World) (hx:Below w.heap.size w w')=>read_any s w' (hE.later hx) (by omega)
 have hm':¬(1200:Int)<(s.size:Int):=by omega
 have hb0:∀ob:Obj,Below w.heap.size w (w.alloc ob):=fun ob=>(Below.refl _ _).alloc (Nat.le_refl _) ob
 have hR0:(w.alloc (.cells #[.slice none 0 0,.slice none 0 0,.slice none 0 0,.slice none 0 0] 56)).heap[w.heap.size]?=some (.cells #[.slice none 0 0,.slice none 0 0,.slice none 0 0,.slice none 0 0] 56 (0,0)):=by
  show(w.heap.push _)[w.heap.size]?=_;rw[Array.getElem?_push_size]
 generalize readF s=F at *;clear hm;go_enter Tryz.func65,Tryz.ntmps65;go_wp2_with fail;refine(HR _ (hb0 _)).mono ?_;rintro e w2 ⟨⟨⟨aN,cN,aW,cW,aS,cS,aT,cT⟩,rfl,hA,hNw⟩,hb2⟩;have hbw:=(hb0 _).trans (hb2.mono (hb0 _).size);have hlt:w.heap.size<w2.heap.size:=by have:=hb2.size;simp at this;omega
 replace hR0:=(hb2.block w.heap.size (by simp)).trans hR0;clear HR hb2 hb0;have hb3:∀ob:Obj,Below w2.heap.size w2 (w2.alloc ob):=fun ob=>(Below.refl _ _).alloc (Nat.le_refl _) ob
 have HT:=fun ob=>text_any ⟨aN,cN,aW,cW,aS,cS,aT,cT⟩ F (w2.alloc ob) ((hE.later hbw).later (hb3 ob)) (hA.later (hb3 ob)) hfit
 unfold ObjV.cells at HT;unfold ObjV.cells;go_wp2_with fail;refine(HT _).mono ?_;rintro e w4 ⟨⟨t,rfl,ht⟩,hb4⟩;have d0:w4.cell? ⟨w2.heap.size,0,none⟩=some (.slice aN F.nN cN):=cell_later hb4 (by simp[go_sem]);have d1:w4.cell? ⟨w2.heap.size,1,none⟩=some (.slice aW F.nW cW):=cell_later hb4 (by simp[go_sem]);have d2:w4.cell? ⟨w2.heap.size,2,none⟩=some (.slice aS F.nS cS):=cell_later hb4 (by simp[go_sem]);have d3:w4.cell? ⟨w2.heap.size,3,none⟩=some (.slice aT F.nT cT):=cell_later hb4 (by simp[go_sem]);have hb5:=(hb3 _).trans (hb4.mono (hb3 _).size);have hbf:Below w.heap.size w w4:=hbw.trans (hb5.mono hbw.size);replace hR0:=(hb5.block w.heap.size hlt).trans hR0;replace hA:=hA.later hb5;clear hb3 hb4 hb5 HT hbw hlt hE;have q0:w4.cell? ⟨w.heap.size,0,none⟩=some (.slice none 0 0):=by simp[World.cell?,hR0]
 have q1:w4.cell? ⟨w.heap.size,1,none⟩=some (.slice none 0 0):=by simp[World.cell?,hR0]
 have q2:w4.cell? ⟨w.heap.size,2,none⟩=some (.slice none 0 0):=by simp[World.cell?,hR0]
 have q3:w4.cell? ⟨w.heap.size,3,none⟩=some (.slice none 0 0):=by simp[World.cell?,hR0]
 have f0:w4.frozen? ⟨w.heap.size,0,none⟩=false:=by simp[World.frozen?,hR0]
 have f1:w4.frozen? ⟨w.heap.size,1,none⟩=false:=by simp[World.frozen?,hR0]
 have f2:w4.frozen? ⟨w.heap.size,2,none⟩=false:=by simp[World.frozen?,hR0]
 have f3:w4.frozen? ⟨w.heap.size,3,none⟩=false:=by simp[World.frozen?,hR0]
 have hN:=z0F hbf (Nat.le_refl w.heap.size) (.slice none 0 0) (.slice none 0 0) (.slice none 0 0) (.slice none 0 0);by_cases h0:(z1X F).1=0
 ·rw[z3j h0];by_cases he:t=s
  ·subst he;have HQ:Hid (z0k t=(0,F)):=HP.out.trans (if_pos ⟨h0,ht.symm⟩);have hY:=z0F hbf (Nat.le_refl w.heap.size) (.slice aN F.nN cN) (.slice aW F.nW cW) (.slice aS F.nS cS) (.slice aT F.nT cT);have hAY:=hA.store4 hR0 aN F.nN cN aW F.nW cW aS F.nS cS aT F.nT cT;clear hR0 HP hN hfit hA hbf ht h0;go_wp2;refine bodyPost_ret (v:=.tuple #[.agg #[.slice aN F.nN cN,.slice aW F.nW cW,.slice aS F.nS cS,.slice aT F.nT cT],.nilIface]) (by simp[results,Tryz.results65,go_sem,q0,q1,q2,q3]) rfl ?_;rw[HQ.out];exact⟨⟨⟨aN,cN,aW,cW,aS,cS,aT,cT⟩,rfl,hAY,hNw.lower (by simp)⟩,hY⟩
  ·have HQ:Hid (z0k s=(4,z0d)):=HP.out.trans (if_neg (fun h=>he (by rw[<-z2x t,<-z2x s,ht,h.2])));have hne:(t.toList==s.toList)=false:=by rw[z0z];simp[he]
   clear hR0 HP hfit hA hbf ht h0 he;go_wp2;refine bodyPost_ret (v:=.tuple #[.agg #[.slice none 0 0,.slice none 0 0,.slice none 0 0,.slice none 0 0],.iface 43 (.int .i64 4)]) (by simp[results,Tryz.results65,go_sem,q0,q1,q2,q3]) rfl ?_;rw[HQ.out];exact⟨⟨noV,rfl,z4l _,z2Y _⟩,hN⟩
 ·have HQ:Hid (z0k s=(4,z0d)):=HP.out.trans (if_neg (fun h=>h0 h.1));rw[z1J h0];clear hR0 HP hfit hA hbf ht h0;go_wp2;refine bodyPost_ret (v:=.tuple #[.agg #[.slice none 0 0,.slice none 0 0,.slice none 0 0,.slice none 0 0],.iface 43 (.int .i64 4)]) (by simp[results,Tryz.results65,go_sem,q0,q1,q2,q3]) rfl ?_;rw[HQ.out];exact⟨⟨noV,rfl,z4l _,z2Y _⟩,hN⟩
theorem parse_new(s:ByteArray)(w:World)(hE:Env w) :
 Calls Tryz.prog 65 #[.string s] w fun e w'=>(∃v:ObjV,e=.returned (.tuple #[.agg (v.cells (z0k s).2),errV (z0k s).1])/\z1C w' v (z0k s).2/\z2Q w.heap.size v (z0k s).2)/\Below w.heap.size w w':=by
 by_cases hm:1200<s.size
 ·exact parse_long s w hm
 ·exact parse_short s w hE hm
theorem parse_any(s:ByteArray)(w:World)(hE:Env w) :
 Calls Tryz.prog 65 #[.string s] w fun e w'=>(∃v:ObjV,e=.returned (.tuple #[.agg (v.cells (z0k s).2),errV (z0k s).1])/\z1C w' v (z0k s).2)/\Below w.heap.size w w':=
 (parse_new s w hE).mono fun _ _ ⟨⟨v,h1,h2,_⟩,h3⟩=>⟨⟨v,h1,h2⟩,h3⟩
end Go.Proofs.YtbcpcbonlhlhpaaGreatDoor
namespace Go.Proofs.YtbcpcbonlhlhpaaGreatDoor
theorem z6f {g h:Nat->List UInt8}{n:Nat}(e:∀i,i<n->g i=h i):z2z g n=z2z h n:=by
 induction n with
 |zero=>rfl
 |succ n ih=>simp only[z2z,ih (fun i hi=>e i (by omega)),e n (by omega)]
theorem z4q {g h:Nat->Nat}{n:Nat}(e:∀i,i<n->g i=h i):z0a g n=z0a h n:=by
 induction n with
 |zero=>rfl
 |succ n ih=>simp only[z0a,ih (fun i hi=>e i (by omega)),e n (by omega)]
theorem dupF_congr{f g:Nat->ByteArray}{i:Nat}(e:∀j,j<=i->f j=g j):dupF f i=dupF g i:=by
 unfold dupF;refine z3o fun j hj=>?_
 rw[e j (by omega),e i (Nat.le_refl _)]
theorem textL_congr{a b:ObjF}(h:z6q a b):z3Q a=z3Q b:=by
 unfold z3Q z0G z1a z2K z4v;rw[h.nN,h.nW,h.nS,h.nT,z6f (g:=fun i=>z5e (a.needs i)) (h:=fun i=>z5e (b.needs i)) (fun i hi=>by rw[h.needs i hi]),
  z6f (g:=fun i=>z5d (a.words i)) (h:=fun i=>z5d (b.words i)) (fun i hi=>by rw[h.words i hi]),
  z6f (g:=fun i=>symLn (a.sName i) (a.sAt i) (a.sWeak i)) (h:=fun i=>symLn (b.sName i) (b.sAt i) (b.sWeak i)) (fun i hi=>by obtain⟨h1,h2,h3⟩:=h.syms i hi;rw[h1,h2,h3]),
  z6f (g:=fun i=>z3R (a.tAt i) (a.tKind i) (a.tAdd i) (a.tName i) (a.tWeak i)) (h:=fun i=>z3R (b.tAt i) (b.tKind i) (b.tAdd i) (b.tName i) (b.tWeak i)) (fun i hi=>by obtain⟨h1,h2,h3,h4,h5⟩:=h.ties i hi;rw[h1,h2,h3,h4,h5])]
theorem objF_congr{a b:ObjF}(h:z6q a b):objF a=objF b:=by
 have e0:z2j a=z2j b:=by unfold z2j;rw[h.nN,h.nW,h.nS,h.nT]
 have e1:z0a (z3w a.needs) a.nN=z0a (z3w b.needs) b.nN:=by
  rw[h.nN];refine z4q fun i hi=>?_
  unfold z3w;rw[h.needs i hi,dupF_congr fun j hj=>h.needs j (by omega)]
 have e2:z0a (z4w a.words) a.nW=z0a (z4w b.words) b.nW:=by
  rw[h.nW];refine z4q fun i hi=>?_
  unfold z4w;rw[h.words i hi]
 have e3:z0a (symF a.nW a.sName a.sAt) a.nS=z0a (symF b.nW b.sName b.sAt) b.nS:=by
  rw[h.nS];refine z4q fun i hi=>?_
  unfold symF;rw[(h.syms i hi).1,(h.syms i hi).2.1,h.nW,dupF_congr fun j hj=>(h.syms j (by omega)).1]
 have e4:z0a (tieF a) a.nT=z0a (tieF b) b.nT:=by
  rw[h.nT];refine z4q fun i hi=>?_
  have ep:z5J a.tAt i=z5J b.tAt i:=by
   cases i with
   |zero=>rfl
   |succ i=>exact(h.ties i (by omega)).1
  obtain⟨h1,h2,h3,h4,h5⟩:=h.ties i hi;unfold tieF;rw[h1,h2,h3,h4,h5,h.nW,ep]
 unfold objF;rw[e0,e1,e2,e3,e4]
theorem textF_congr{a b:ObjF}(h:z6q a b):z1X a=z1X b:=by
 unfold z1X;rw[objF_congr h,textL_congr h]
theorem z6Q {o:ObjF}(h:(z1X o).1=0):objF o=0/\(z3Q o).length<=1200/\z1X o=(0,z3Q o):=by
 by_cases h0:objF o=0
 ·by_cases h1:1200<(z3Q o).length
  ·exfalso;have e:z1X o=(2,[]):=by unfold z1X;rw[if_pos h0,if_pos h1]
   rw[e]at h;exact absurd h (by decide)
  ·refine⟨h0,by omega,?_⟩;unfold z1X;rw[if_pos h0,if_neg h1]
 ·exfalso;have e:z1X o=(objF o,[]):=if_neg h0;rw[e]at h;exact h0 h
theorem parse_text{o:ObjF}{t:ByteArray}(h:(z1X o).1=0)(ht:t.data.toList=(z1X o).2):(z0k t).1=0/\z6q (z0k t).2 o:=by
 obtain⟨h0,hl,he⟩:=z6Q h;have hr:readF t=built o:=by rw[readF_foldT,ht,he];exact read_text (objOk h0)
 have hs:¬1200<t.size:=by
  have:t.size=(z3Q o).length:=by
   have e:t.data.toList.length=t.size:=by simp
   rw[<-e,ht,he]
  omega
 have hF:z1X (readF t)=z1X o:=by rw[hr];exact textF_congr (built_same o)
 have hp:z0k t=(0,readF t):=by
  unfold z0k;rw[if_neg hs,if_pos ⟨by rw[hF,h],by rw[hF,ht]⟩]
 rw[hp];exact⟨rfl,by rw[hr];exact built_same o⟩
theorem parse_back{s:ByteArray}(h:(z0k s).1=0):(z1X (z0k s).2).1=0/\(z1X (z0k s).2).2=s.data.toList/\z6z (z0k s).2:=by
 unfold z0k at h ⊢;by_cases h1:1200<s.size
 ·rw[if_pos h1]at h;exact absurd h (by decide)
 ·rw[if_neg h1]at h ⊢;by_cases h2:(z1X (readF s)).1=0/\(z1X (readF s)).2=s.data.toList
  ·rw[if_pos h2];exact⟨h2.1,h2.2,readF_fit s (by omega)⟩
  ·rw[if_neg h2]at h;exact absurd h (by decide)
end Go.Proofs.YtbcpcbonlhlhpaaGreatDoor
