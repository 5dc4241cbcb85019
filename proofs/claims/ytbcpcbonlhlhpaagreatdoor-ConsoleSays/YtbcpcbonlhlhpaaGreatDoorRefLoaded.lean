/- What Loaded of the document returns, for all files and -/
import Derived.Test.YtbcpcbonlhlhpaaGreatDoorImageLoad
set_option maxRecDepth 100000
set_option maxHeartbeats 8000000
namespace Go.Proofs.YtbcpcbonlhlhpaaGreatDoor
open Go.RowKit Go.Maps
theorem z3V (f:Nat->Int)(n:Nat):z0i (intC f) n=(List.range n).map fun i=>Value.int .i64 (f i):=by
 induction n with
 |zero=>rfl
 |succ n ih=>
  show z0i (intC f) n++intC f n=_;rw[ih,List.range_succ,List.map_append];rfl
theorem ownInt_put{w:World}{B n c g y:Nat}{f f':Nat->Int}(h:w.ownsRow B 3 1 (.slice (some ⟨g,0,none⟩) n c) n (z0i (intC f) n))(hy:y<n)(v:Int)(e:∀j,f' j=if j=y then v else f j) :
 (w.setCell ⟨g,y,none⟩ (.int .i64 v)).ownsRow B 3 1 (.slice (some ⟨g,0,none⟩) n c) n (z0i (intC f') n):=by
 obtain⟨_,h⟩:=h;rcases h with⟨e0,_⟩|⟨g',cap,cur,hv,hb,hg,hnc,hcm,hcs,htk⟩
 ·cases e0
 ·injection hv with hv1 hv2 hv3;injection hv1 with hv1;injection hv1 with hv1;subst hv1;subst hv3;refine⟨by rw[z3V];simp,.inr ⟨g,c,cur.set! y (.int .i64 v),rfl,hb,?_,hnc,hcm,by simp[hcs],?_⟩⟩
  ·show(w.heap.modify g _)[g]?=_;rw[Array.getElem?_modify,if_pos rfl,hg];rfl
  ·have e1:(cur.set! y (.int .i64 v)).toList=cur.toList.set y (.int .i64 v):=by simp
   rw[e1,List.take_set,htk,z3V,z3V];refine List.ext_getElem (by simp) fun i h1 h2=>?_
   simp only[List.getElem_set,List.getElem_map,List.getElem_range,e];by_cases q:i=y
   ·subst q;simp
   ·rw[if_neg (fun h=>q h.symm),if_neg q]
structure RPs(w:World)(B:Nat)(v:Value)(n:Nat)(nm:Nat->ByteArray)(Bs:Nat->Int)(A:Nat->Option Addr)(M C:Nat->Nat)(X:Nat->Nat->Int):Prop where
 own:w.ownsRow B 110 3 v n (z0i (z4Z nm Bs A M C) n)
 row:∀i,i<n->w.ownsRow B 3 1 (.slice (A i) (M i) (C i)) (M i) (z0i (intC (X i)) (M i))
theorem RPs.later{w w':World}{B:Nat}{v:Value}{n:Nat}{nm:Nat->ByteArray}{Bs:Nat->Int}{A:Nat->Option Addr}{M C:Nat->Nat}{X:Nat->Nat->Int}(h:RPs w B v n nm Bs A M C X)(hb:Below w.heap.size w w'):RPs w' B v n nm Bs A M C X:=⟨z0e h.own hb,fun i hi=>z0e (h.row i hi) hb⟩
theorem RPs.base{w:World}{B B':Nat}{v:Value}{n:Nat}{nm:Nat->ByteArray}{Bs:Nat->Int}{A:Nat->Option Addr}{M C:Nat->Nat}{X:Nat->Nat->Int}(h:RPs w B v n nm Bs A M C X)(hB:B'<=B):RPs w B' v n nm Bs A M C X:=⟨World.ownsRow.mono h.own hB,fun i hi=>World.ownsRow.mono (h.row i hi) hB⟩
theorem RPs.rows{w:World}{B:Nat}{v:Value}{n:Nat}{nm:Nat->ByteArray}{Bs:Nat->Int}{A:Nat->Option Addr}{M C:Nat->Nat}{X:Nat->Nat->Int}(h:RPs w B v n nm Bs A M C X):∃a c,v=.slice a n c/\n<=c/\z7s w a n nm Bs A M C X:=by
 obtain⟨a,c,rfl,hc⟩:=z0c h.own;refine⟨a,c,rfl,hc,?_⟩;by_cases h0:n=0
 ·exact .inl h0
 ·have key:∀i,i<n->∀j u,(z4Z nm Bs A M C i)[j]?=some u->j<3->∃g,a=some ⟨g,0,none⟩/\B<=g/\w.cell? ⟨g,i*3+j,none⟩=some u:=fun i hi j u hu hj=>
   z0K h.own (by rw[z2G (s:=3) (fun i _=>rfl) hi hj];exact hu)
  obtain⟨g0,ha,_,_⟩:=key 0 (by omega) 0 _ rfl (by omega);refine .inr ⟨g0,0,ha,fun i hi=>?_⟩;have get:∀j u,(z4Z nm Bs A M C i)[j]?=some u->j<3->w.cell? ⟨g0,i*3+j,none⟩=some u:=fun j u hu hj=>by
   obtain⟨g',ha',_,hc'⟩:=key i hi j u hu hj;rw[ha]at ha';injection ha' with ha';injection ha' with ha';subst ha';exact hc'
  obtain⟨a',c',e,_,hr⟩:=z5a (h.row i hi);injection e with e1 _ _;rw[<-e1]at hr;exact⟨by rw[Nat.zero_add];exact get 0 _ rfl (by omega),by rw[Nat.zero_add];exact get 1 _ rfl (by omega),by rw[Nat.zero_add];exact get 2 _ rfl (by omega),hr⟩
inductive RLoadEnd (w:World) (B0:Nat) (rd:ByteArray->Nat×ObjF) (root:ByteArray):Ending->Prop
 |bad (F:Nat) (h:ReckIs rd root F) (hf:F≠0):RLoadEnd w B0 rd root (.returned (.tuple #[.slice none 0 0,.slice none 0 0,.int .i64 (F:Int)]))
 |ok (m:Nat) (Bs:Nat->Int) (P Q:ByteArray->Int) (u v:Value) (A:Nat->Option Addr) (C:Nat->Nat) (h:z0Z rd root m Bs P Q) (hu:RPs w B0 u m (nmAt rd root) Bs A (fun i=>(obAt rd root i).nW) C (z4m rd root m Bs P Q))
  (hv:w.ownsRow B0 114 3 v (z0l rd root m Bs P Q).length (z3x (z0l rd root m Bs P Q))):RLoadEnd w B0 rd root (.returned (.tuple #[u,v,.int .i64 0]))
theorem int_cellsL{w:World}{a:Option Addr}{n:Nat}{f:Nat->Int}(h:z1z w a n fun i=>.int .i64 (f i)):n=0∨∃b o,a=some ⟨b,o,none⟩/\∀j u,(z0i (intC f) n)[j]?=some u->w.cell? ⟨b,o+j,none⟩=some u:=by
 rcases h with h|⟨b,o,ha,hc⟩
 ·exact .inl h
 ·refine .inr ⟨b,o,ha,fun j u hj=>?_⟩;rw[z3V]at hj;have hlt:j<n:=by have:=(List.getElem?_eq_some_iff.1 hj).1;simpa using this
  rw[List.getElem?_map,List.getElem?_eq_getElem (by simpa using hlt)]at hj;simp at hj;subst hj;exact hc j hlt
theorem ints_new(w:World)(a:Option Addr)(n c:Nat)(f:Nat->Int)(hr:z1z w a n fun i=>.int .i64 (f i))(hn:n<=1000) :
 ∃v' W,(Builtin.append_ #[52,52] 52 #[.slice none 0 0,.slice a n c]).run Tryz.prog w=.ok v' W/\W.ownsRow w.heap.size 3 1 v' n (z0i (intC f) n)/\Below w.heap.size w W:=by
 obtain⟨v',W,happ,hG⟩:=z0J 52 3 1 8 (.int .i64 0) (by kernel_rfl) (by kernel_rfl) (by rfl) (by decide) w.heap.size w (.slice none 0 0) 0 []
  (World.ownsRow_nil _ _ _ _) a n c (z0i (intC f) n) (by rw[z3B (fun i _=>z6S f i)]) (int_cellsL hr) (fun u hu=>by
    rw[z3V]at hu;obtain⟨i,_,rfl⟩:=List.mem_map.1 hu;rfl) (Nat.le_refl _) (by omega) (by decide)
 exact⟨v',W,happ,by simpa using hG.own,hG.below⟩
theorem patOk_place{n:Nat}{M:Nat->Nat}{p t:Int}(h:z7e n M p t=true):∃x y:Nat,p=x/\t=y/\x<n/\y<M x:=by
 simp[z7e,z0j]at h;obtain⟨⟨h1,h2⟩,h3,h4⟩:=h;exact⟨p.toNat,t.toNat,by omega,by omega,by omega,by omega⟩
theorem refLoaded_any(B:Nat)(w:World)(q:Nat)(L:List z0u)(k:Nat)(D:DataW Unit)(T:ByteArray->ByteArray)(root:ByteArray)(h:RAt B w q L k)(hL:L.length<=1000)(hA:z3I D L)(hI:Inv D k)(hT:z4C D T) :
 Calls Tryz.prog 43 #[.pointer (some ⟨q,0,none⟩),.string root] w fun e w'=>RLoadEnd w' w.heap.size (rdD D T) root e/\Below w.heap.size w w':=by
 have HO:=refScopeOf_any B w q L k D T root h hL hA hI hT;have hfew:=z6y (T:=T) hI;have HOK:Hid (∀s,(rdD D T s).1=0->z3J (rdD D T s).2):=fun s h=>rd_ok h
 clear h hL hA hT hI;generalize rdD D T=rd at *;go_enter Tryz.func43,Tryz.ntmps43;go_wp2_with fail;refine(show Calls _ _ _ _ _ from HO).mono ?_;rintro e w1 ⟨he,hb1⟩;clear HO;cases he with
 |bad F i h hf=>
  have hpos:(0:Int)<(F:Int):=by omega
  have HF:Hid (RLoadEnd w1 w.heap.size rd root (.returned (.tuple #[.slice none 0 0,.slice none 0 0,.int .i64 (F:Int)]))):=.bad F (.of i h hf) hf;clear h hf hfew;go_wp2;go_ret3;exact⟨HF.out,hb1⟩
 |ok m u x V h hu hx=>
  obtain⟨hS,hlen,hnm⟩:=z4s h hfew;have hok:∀j,j<m->z3J (obAt rd root j):=fun j hj=>HOK.out _ (by rw[hS.read j hj])
  have hm6:=hS.few;have hgetN:∀j,j<m->(z0g rd root m).getD j ⟨#[]⟩=nmAt rd root j:=fun j hj=>by
   have hr:z5L rd root m:=by
    generalize hF:(0:Nat)=F at h;cases h with
    |bad _ _ _ hf=>exact absurd hF.symm hf
    |ok _ h hi=>exact h
   rw[List.getD_eq_getElem?_getD,z6C (Nat.le_of_lt hj) (hr j hj).1];rfl
  clear hS hfew hnm HOK;obtain⟨xa,xc,rfl,_,hrow⟩:=hx.own.row hx.at';go_wp2;go_loopw [10,11] (fun y10 y11 wr=>∃(i:Nat) (v:Value),i<=m/\y11=.int .i64 i/\y10=v/\wr.ownsRow w1.heap.size 3 1 v i (z0i (intC (szAt rd root)) i)/\Below w1.heap.size w1 wr) (fun _ y11 _=>m-(intOf y11).toNat)
  case atStart=>exact⟨0,.slice none 0 0,Nat.zero_le _,rfl,rfl,World.ownsRow_nil _ _ _ _,Below.refl _ _⟩
  case round=>
   obtain⟨i,v,hi,rfl,rfl,ho,hb⟩:=hrel;by_cases hlt:i<m
   ·rcases hrow.later hb with h0|⟨bk,o,rfl,hc⟩
    ·omega
    have c1:=(hc i hlt).c1;have hi0:(0:Int)<=(i:Int):=by omega
    have hi1:(i:Int)<(m:Int):=by omega
    have hw4:(rd (nmAt rd root i)).2.nW<=40:=(hok i hlt).nW;obtain⟨v1,W1,happ1,hG1⟩:=growInt (w:=wr) (((rd (nmAt rd root i)).2.nW:Nat):Int) hb.size ho (by omega);have ho1:=hG1.own;rw[joinInt (b':=szAt rd root) (fun i _=>rfl) rfl]at ho1;have hb2:Below w1.heap.size w1 W1:=(hb.alloc hb.size _).trans hG1.below;clear hG1 ho hb hc;dsimp only at c1;generalize (rd (nmAt rd root i)).2=ob at *;go_wp2_with (at_builtin;refine z0b rfl (.tmp 34) (.tmp 41) 52 rfl u10 (.slice (some ⟨wr.heap.size,0,none⟩) 1 1) _ rfl rfl happ1 ?_);go_roundw
    case rel=>exact⟨i+1,v1,by omega,by go_num,rfl,ho1,hb2⟩
    case measure=>simp[intOf];omega
   ·obtain rfl:i=m:=by omega
    have hb12:=hb1.trans (hb.mono hb1.size);obtain⟨a2,c2,rfl,_,hr2⟩:=z5a ho;have HB:=refBases_any (szAt rd root) (fun _=>0) (fun _=>0) a2 none i c2 0 0 wr (by unfold maxLen;omega) (by unfold maxLen;omega) hr2 (.inl rfl);have hu2:=z0e hu hb;have hx2:=hx.below hb;clear hu hx ho hr2 hrow;go_wp2_with fail;refine(show Calls _ _ _ _ _ from HB).mono ?_;rintro e w3 ⟨he,hb3⟩;have hb13:=hb12.trans (hb3.mono hb12.size);have hu3:=z0e hu2 hb3;have hx3:=hx2.below hb3;clear HB hu2 hx2;cases he with
    |bad F Bs hf hB=>
     have hpos:(0:Int)<(F:Int):=by omega
     have HF:Hid (RLoadEnd w3 w.heap.size rd root (.returned (.tuple #[.slice none 0 0,.slice none 0 0,.int .i64 (F:Int)]))):=.bad F (.bases i Bs h hB hf) hf;clear h hf hB hok hgetN hu3 hx3 hb3;go_wp2;go_ret3;exact⟨HF.out,hb13⟩
    |ok Bs v3 hB hv3=>
     obtain⟨P,Q,hP⟩:=finds_some (z1T i (obAt rd root));have hBc:=hB.cut;have hz:=fun j=>cutB_zero (m:=i) (b:=Bs) j
     rw[z1f (h:=intC (cutB i Bs)) (fun j hj=>by unfold intC;rw[<-cutB_is (b:=Bs) hj])]at hv3;clear hB;generalize cutB i Bs=B' at *;obtain⟨xa,xc,hxe,_,hrow⟩:=hx3.own.row hx3.at';cases hxe;obtain⟨a3,c3,rfl,_,hr3⟩:=z5a hv3;have HA:=refPatches_any xa a3 i xc i c3 V (obAt rd root) B' P Q w3 (by omega) (by unfold maxLen;omega) hrow hr3 hok hP;clear hr3 hrow;go_wp2_with fail;refine(show Calls _ _ _ _ _ from HA).mono ?_;rintro e w4 ⟨he,hb4⟩;have hb14:=hb13.trans (hb4.mono hb13.size);have hu4:=z0e hu3 hb4;have hx4:=hx3.below hb4;have hv4:=z0e hv3 hb4;clear HA hu3 hx3 hv3;cases he with
     |bad hf=>
      have HF:Hid (RLoadEnd w4 w.heap.size rd root (.returned (.tuple #[.slice none 0 0,.slice none 0 0,.int .i64 (((allF i (obAt rd root) P Q i B':Nat)):Int)]))):=.bad _ (.all i B' P Q h hBc hz hP rfl hf) hf;have hpos:(0:Int)<((allF i (obAt rd root) P Q i B':Nat):Int):=by omega
      clear h hBc hz hP hok hgetN hu4 hx4 hv4 hb4 hf;generalize allF i (obAt rd root) P Q i B'=F at *;go_wp2;go_ret3;exact⟨HF.out,hb14⟩
     |ok hf v4 ho4=>
      have hReck:z0Z rd root i B' P Q:=⟨h,hBc,hz,hP,hf⟩;have hall:=pats_ok (O:=obAt rd root) (P:=P) (Q:=Q) (B:=B') (m:=i) hok;have hlenP:(z0A (obAt rd root) P Q B' i).length<=6*i:=z6H (O:=obAt rd root) P Q B' (i:=i) fun j hj=>(hok j hj).nT
      have hw40:∀j,j<i->(obAt rd root j).nW<=40:=fun j hj=>(hok j hj).nW
      have HFIN:Hid (∀(W:World) (u v:Value) (A:Nat->Option Addr) (C:Nat->Nat),RPs W w.heap.size u i (nmAt rd root) B' A (fun j=>(obAt rd root j).nW) C (fun a b=>putF (fun a b=>(obAt rd root a).words b) (pP (z0A (obAt rd root) P Q B' i)) (pT (z0A (obAt rd root) P Q B' i)) (pV (z0A (obAt rd root) P Q B' i)) (z0A (obAt rd root) P Q B' i).length a b)->W.ownsRow w.heap.size 114 3 v (z0A (obAt rd root) P Q B' i).length (z3x (z0A (obAt rd root) P Q B' i))->RLoadEnd W w.heap.size rd root (.returned (.tuple #[u,v,.int .i64 0]))):=fun W u v A C hu hv=>.ok i B' P Q u v A C hReck hu hv
      obtain⟨xa4,xc4,hxe4,_,hrow40⟩:=hx4.own.row hx4.at';cases hxe4;have hrow4:z3U w4 xa i V (obAt rd root):=hrow40;clear hrow40;obtain⟨a4,c4,e4,_,hr4⟩:=z5a hv4;cases e4;obtain⟨aq,cq,rfl,_,hrq⟩:=rows_pat ho4;obtain⟨au,cu,rfl,_,hru⟩:=z3H hu4;rw[hlen]at hru;rw[hlen];clear h hBc hz hP hf hok hReck hx4 hv4 hu4;have hPO:=ho4;clear ho4;generalize z0A (obAt rd root) P Q B' i=pl at *;generalize obAt rd root=O at *;go_wp2;go_loopw [14,15,16,17] (fun y14 y15 _ _ wx=>∃(r:Nat) (v:Value) (A:Nat->Option Addr) (C:Nat->Nat),r<=i/\y15=.int .i64 r/\y14=v/\RPs wx w4.heap.size v r (nmAt rd root) B' A (fun j=>(O j).nW) C (fun a b=>putF (fun a b=>(O a).words b) (pP pl) (pT pl) (pV pl) pl.length a b)/\Below w4.heap.size w4 wx) (fun _ y15 _ _ _=>i-(intOf y15).toNat)
      case atStart=>exact⟨0,.slice none 0 0,fun _=>none,fun _=>0,Nat.zero_le _,rfl,rfl,⟨World.ownsRow_nil _ _ _ _,fun j hj=>by omega⟩,Below.refl _ _⟩
      case round=>
       obtain⟨r,v,A,C,hr,rfl,rfl,hRP,hbr⟩:=hrel;by_cases hlr:r<i
       ·rcases hrow4.later hbr with h0|⟨bk,o,rfl,hc⟩
        ·omega
        rcases hru.later hbr with h0|⟨bu,fu,rfl,hcu⟩
        ·omega
        rcases hr4.later hbr with h0|⟨b4,f4,rfl,hc4⟩
        ·omega
        have H:=hc r hlr;have c1:=H.c1;have cn:wr.cell? ⟨bu,fu+r,none⟩=some (.string (nmAt rd root r)):=by rw[hcu r hlr];show some (Value.string _)=some (Value.string _);rw[hgetN r hlr]
        have cb:wr.cell? ⟨b4,f4+r,none⟩=some (.int .i64 (B' r)):=hc4 r hlr;have hr0:(0:Int)<=(r:Int):=by omega
        have hr1:(r:Int)<(i:Int):=by omega
        have hw:=hw40 r hlr;obtain⟨v1,W1,happ1,hO1,hbW1⟩:=ints_new wr (V r).aW (O r).nW (V r).cW (fun j=>(O r).words j) H.here.words (by omega);obtain⟨aw,cw,rfl,_⟩:=z0c hO1;have hBr:w4.heap.size<=wr.heap.size:=hbr.size;clear H hc hcu hc4;obtain⟨wq,rfl⟩:∃W,W=wr:=⟨_,rfl⟩;obtain⟨vo,rfl⟩:∃v,v=u14:=⟨_,rfl⟩;go_wp2_with (at_builtin;refine z0b rfl (.const (.slice none 0 0)) (.tmp 70) 52 rfl (.slice none 0 0) (.slice (V r).aW (O r).nW (V r).cW) _ rfl rfl happ1 ?_);clear happ1 c1;go_loopw [17] (fun y17 wy=>∃z:Nat,z<=pl.length/\y17=.int .i64 z/\wy.ownsRow wq.heap.size 3 1 (.slice aw (O r).nW cw) (O r).nW (z0i (intC fun j=>putF (fun a b=>(O a).words b) (pP pl) (pT pl) (pV pl) z r j) (O r).nW)/\Below wq.heap.size wq wy) (fun y17 _=>pl.length-(intOf y17).toNat)
        case atStart=>exact⟨0,Nat.zero_le _,rfl,hO1,hbW1⟩
        case round=>
         clear hO1 hbW1;obtain⟨z,hz,rfl,hOz,hbz⟩:=hrel;have hb4z:=hbr.trans (hbz.mono hbr.size);by_cases hlz:z<pl.length
         ·rcases hrq.later hb4z with h0|⟨bp,op,rfl,hcp⟩
          ·omega
          obtain⟨p0,p1,p2⟩:=hcp z hlz;have hz0:(0:Int)<=(z:Int):=by omega
          have hz1:(z:Int)<(pl.length:Int):=by omega
          clear hcp;by_cases e1:pP pl z=(r:Int)
          ·have e1':(pP pl z==(r:Int))=true:=by simp[e1]
           obtain⟨x,y,hx,hy,hxi,hyM⟩:=patOk_place (hall z hlz);obtain rfl:x=r:=by omega
           rw[hy]at p1;obtain⟨gw,hgw,hgB,hcy⟩:∃gw,aw=some ⟨gw,0,none⟩/\wq.heap.size<=gw/\wr.cell? ⟨gw,y,none⟩=some (.int .i64 (putF (fun a b=>(O a).words b) (pP pl) (pT pl) (pV pl) z x y)):=z0K hOz (by rw[z3V,List.getElem?_map,List.getElem?_eq_getElem (by simpa using hyM)];simp);subst hgw;have hfz:wr.frozen? ⟨gw,y,none⟩=false:=by
            rcases hOz.2 with⟨e0,_⟩|⟨g',cap,cur,hv,_,hg,_⟩
            ·cases e0
            ·injection hv with hv1 _ _;injection hv1 with hv1;injection hv1 with hv1;subst hv1;simp[World.frozen?,hg]
           have hO2:=ownInt_put hOz hyM (pV pl z) (f':=fun j=>putF (fun a b=>(O a).words b) (pP pl) (pT pl) (pV pl) (z+1) x j) (fun j=>by
            show(if pP pl z=(x:Int)/\pT pl z=(j:Int)then pV pl z else putF (fun a b=>(O a).words b) (pP pl) (pT pl) (pV pl) z x j)=_;by_cases e:j=y
            ·rw[if_pos ⟨e1,by rw[hy,e]⟩,if_pos e]
            ·rw[if_neg (fun h=>e (by have:=h.2;omega)),if_neg e])
           have hb2:=hbz.setCell (p:=⟨gw,y,none⟩) hgB (.int .i64 (pV pl z));have hy0:(0:Int)<=(y:Int):=by omega
           have hy1:(y:Int)<((O x).nW:Int):=by omega
           clear e1 hx hy hOz hbz hb4z;go_wp2;go_region;go_wp2;go_roundw
           case rel=>exact⟨z+1,by omega,by go_num,hO2,below_drewN hb2 _⟩
           case measure=>simp[intOf];omega
          ·have e1':(pP pl z==(r:Int))=false:=by rw[beq_eq_false_iff_ne];exact e1
           have hO2:wr.ownsRow wq.heap.size 3 1 (.slice aw (O r).nW cw) (O r).nW (z0i (intC fun j=>putF (fun a b=>(O a).words b) (pP pl) (pT pl) (pV pl) (z+1) r j) (O r).nW):=by
            rw[z1f (h:=intC fun j=>putF (fun a b=>(O a).words b) (pP pl) (pT pl) (pV pl) z r j) (fun j _=>by unfold intC;simp only[putF];rw[if_neg (fun h=>e1 h.1)])];exact hOz
           clear e1 hOz;go_wp2;go_roundw
           case rel=>exact⟨z+1,by omega,by go_num,hO2,hbz⟩
           case measure=>simp[intOf];omega
         ·obtain rfl:z=pl.length:=by omega
          have cn':=cell_later hbz cn;have cb':=cell_later hbz cb;clear cn cb hrq hrow4 hru hr4;have hRPz:=hRP.later hbz;clear hRP;go_upto_region 25 with fail;have hOz':wr.drew.ownsRow wq.heap.size 3 1 (.slice aw (O r).nW cw) (O r).nW (z0i (intC fun j=>putF (fun a b=>(O a).words b) (pP pl) (pT pl) (pV pl) pl.length r j) (O r).nW):=hOz;have hRPd:RPs wr.drew w4.heap.size vo r (nmAt rd root) B' A (fun j=>(O j).nW) C (fun a b=>putF (fun a b=>(O a).words b) (pP pl) (pT pl) (pV pl) pl.length a b):=⟨hRPz.own,hRPz.row⟩;have hbd:=hbz.trans ((Below.refl _ wr).drew.mono hbz.size);have hSS:(fun w':World=>w'.cell? ⟨bu,fu+r,none⟩=some (.string (nmAt rd root r))/\w'.cell? ⟨b4,f4+r,none⟩=some (.int .i64 (B' r))) wr.drew:=⟨cn',cb'⟩;refine z0f (fun w':World=>w'.cell? ⟨bu,fu+r,none⟩=some (.string (nmAt rd root r))/\w'.cell? ⟨b4,f4+r,none⟩=some (.int .i64 (B' r))) 12 14 (by kernel_rfl) rfl ?_;clear hOz hRPz hbz cn' cb' hb4z;generalize wr.drew=wd at *;refine tW 0 hSS ?_;refine tW 1 hSS ?_;refine tW 2 hSS ?_;refine tW 3 hSS ?_;refine tW 5 hSS ?_;refine tW 6 hSS ?_;refine tW 7 hSS ?_;refine tW 9 hSS ?_;refine tR 4 [11,10] hSS ?_;refine tR 8 [11,10] hSS ?_;refine tW 10 hSS ?_;obtain⟨v2,W2,happ2,hG2⟩:=growPart (w:=wd) (nmAt rd root r) (B' r) aw (O r).nW cw (Nat.le_trans hBr hbd.size) hRPd.own (by omega);have hbal:Below wd.heap.size wd (wd.alloc (.cells #[.string (nmAt rd root r),.int .i64 (B' r),.slice aw (O r).nW cw] 110)):=(Below.refl _ _).alloc (Nat.le_refl _) _;have hRP3:RPs W2 w4.heap.size v2 (r+1) (nmAt rd root) B' (fun j=>if j=r then aw else A j) (fun j=>(O j).nW) (fun j=>if j=r then cw else C j) (fun a b=>putF (fun a b=>(O a).words b) (pP pl) (pT pl) (pV pl) pl.length a b):=by
           refine⟨?_,fun j hj=>?_⟩
           ·show W2.ownsRow w4.heap.size 110 3 v2 (r+1) (z0i (z4Z (nmAt rd root) B' (fun j=>if j=r then aw else A j) (fun j=>(O j).nW) (fun j=>if j=r then cw else C j)) r++z4Z (nmAt rd root) B' (fun j=>if j=r then aw else A j) (fun j=>(O j).nW) (fun j=>if j=r then cw else C j) r);rw[z1f (h:=z4Z (nmAt rd root) B' A (fun j=>(O j).nW) C) (fun j hj=>by unfold z4Z;simp only[if_neg (show j≠r by omega)])];have:=hG2.own;unfold z4Z;simp only[if_pos];exact this
           ·by_cases e:j=r
            ·subst e;simp only[if_pos];exact World.ownsRow.mono ((hOz'.alloc _).kept hG2.grown (z4j hOz' hRPd.own (by decide))) hBr
            ·simp only[if_neg e];exact((hRPd.row j (by omega)).alloc _).kept hG2.grown (z4j (hRPd.row j (by omega)) hRPd.own (by decide))
          have hb5:Below w4.heap.size w4 W2:=((hbr.trans (hbd.mono hbr.size)).trans (hbal.mono (Nat.le_trans hBr hbd.size))).trans hG2.below;clear hG2;refine oG 11 fun K hK=>?_
          go_wp2_with fail;refine hK _ _ ⟨cell_later hbal hSS.1,cell_later hbal hSS.2⟩ ?_;clear hK hSS hbal hOz' hRPd hbd;refine lG 12 fun K hK=>?_
          go_wp2_with (at_builtin;refine z0b rfl (.tmp 97) (.tmp 108) 64 rfl _ _ _ rfl rfl happ2 ?_);refine hK _ _ ?_;clear hK happ2;refine tA 13 ?_;refine z1c (by kernel_rfl) ?_ _;go_wp2;go_roundw
          case rel=>exact⟨r+1,v2,_,_,by omega,by go_num,rfl,hRP3,hb5⟩
          case measure=>simp[intOf];omega
       ·obtain rfl:r=i:=by omega
        have hpo:=World.ownsRow.mono (z0e hPO hbr) hb13.size;have hFN:Hid (RLoadEnd wr w.heap.size rd root (.returned (.tuple #[u14,.slice aq pl.length cq,.int .i64 0]))):=HFIN.out wr u14 (.slice aq pl.length cq) A C (hRP.base hb14.size) hpo;have hbz:=hb14.trans (hbr.mono hb14.size);clear HFIN hRP hpo hPO hrq hrow4 hru hr4 hbr;go_wp2;go_ret3;exact⟨hFN.out,hbz⟩
end Go.Proofs.YtbcpcbonlhlhpaaGreatDoor
