/- What ObjectOf of the document returns, in the words of the -/
import Derived.Test.YtbcpcbonlhlhpaaGreatDoorRefOf
import Derived.Test.YtbcpcbonlhlhpaaGreatDoorEntryStm
set_option maxRecDepth 100000
set_option maxHeartbeats 8000000
namespace Go.Proofs.YtbcpcbonlhlhpaaGreatDoor
section
open Go.RowKit Go.Maps
theorem cells_same{a b:ObjF}(e:z6q a b)(v:ObjV):v.cells b=v.cells a:=by
 unfold ObjV.cells;rw[e.nN,e.nW,e.nS,e.nT]
theorem z1C.same{w:World}{v:ObjV}{a b:ObjF}(h:z1C w v b)(e:z6q a b):z1C w v a where
 needs:=by
  rw[e.nN];exact h.needs.imp id fun⟨bk,o,ha,hc⟩=>⟨bk,o,ha,fun i hi=>by rw[hc i hi];show some (Value.string _)=some (Value.string _);rw[e.needs i hi]⟩
 words:=by
  rw[e.nW];exact h.words.imp id fun⟨bk,o,ha,hc⟩=>⟨bk,o,ha,fun i hi=>by rw[hc i hi];show some (Value.int .i64 _)=some (Value.int .i64 _);rw[e.words i hi]⟩
 syms:=by
  rw[e.nS];exact h.syms.imp id fun⟨bk,o,ha,hc⟩=>⟨bk,o,ha,fun i hi=>by
   obtain⟨h1,h2,h3⟩:=hc i hi;obtain⟨e1,e2,e3⟩:=e.syms i hi;rw[e1,e2,e3];exact⟨h1,h2,h3⟩⟩
 ties:=by
  rw[e.nT];exact h.ties.imp id fun⟨bk,o,ha,hc⟩=>⟨bk,o,ha,fun i hi=>by
   obtain⟨h1,h2,h3,h4,h5⟩:=hc i hi;obtain⟨e1,e2,e3,e4,e5⟩:=e.ties i hi;rw[e1,e2,e3,e4,e5];exact⟨h1,h2,h3,h4,h5⟩⟩
 capN:=by rw[e.nN];exact h.capN
 capS:=by rw[e.nS];exact h.capS
theorem z2Q.same{B:Nat}{v:ObjV}{a b:ObjF}(h:z2Q B v b)(e:z6q a b):z2Q B v a:=
 ⟨by rw[e.nN];exact h.needs,by rw[e.nW];exact h.words,by rw[e.nS];exact h.syms,by rw[e.nT];exact h.ties⟩
theorem z7j (s:ByteArray)(w:World) :
 Calls Tryz.prog 16 #[.string s] w fun e w'=>(∃v:ObjV,e=.returned (.tuple #[.agg (v.cells (z0k s).2),.int .i64 (((z0k s).1:Nat):Int)])/\z1C w' v (z0k s).2/\z2Q w.heap.size v (z0k s).2)/\Below w.heap.size w w':=
 (objectOf_new s w).mono fun e w' ⟨⟨v,h1,h2,h3⟩,h4⟩=>by
   obtain⟨e1,e2,_⟩:=ref_same s;exact⟨⟨v,by rw[h1,e1,cells_same e2],h2.same e2,h3.same e2⟩,h4⟩
theorem readR_is(B:Nat)(w:World)(q:Nat)(L:List z0u)(k:Nat)(D:DataW Unit)(s:ByteArray)(h:RAt B w q L k)(hL:L.length<=1000)(hA:z3I D L)(hI:Inv D k) :
 Calls Tryz.prog 21 #[.pointer (some ⟨q,0,none⟩),.string s] w fun e w'=>(∃(t:ByteArray) (n:Int) (f:Nat),e=.returned (.tuple #[.string t,.int .i64 n,.int .i64 (f:Int)])/\ReadIs D s t n f)/\Below w.heap.size w w':=
 (readR_any B w q L k s h hL).mono fun e w' ⟨⟨t,n,f,he,hc⟩,hb⟩=>by
   refine⟨⟨t,n,f,he,?_,?_⟩,hb⟩
   ·intro hh;rcases hc with⟨x,hx,rfl,rfl,rfl,rfl⟩|⟨hno,_⟩
    ·exact⟨rfl,((hA.mem x).1 hx).2⟩
    ·obtain⟨x,hx,e⟩:=(hA.has hI s).1 hh;exact absurd e (hno x hx)
   ·intro hh;rcases hc with⟨x,hx,rfl,_,_,_⟩|⟨_,h1,h2,h3⟩
    ·rw[((hA.mem x).1 hx).1]at hh;cases hh
    ·exact⟨h3,h1,h2⟩
end
section
open Go.RowKit Go.Maps
inductive ROfEnd (w:World) (B:Nat) (rd:ByteArray->Nat×ObjF) (root:ByteArray):Ending->Prop
 |bad (F i:Nat) (h:OfIs rd root F i) (hf:F≠0):ROfEnd w B rd root (.returned (.tuple #[.slice none 0 0,.slice none 0 0,.int .i64 (F:Int)]))
 |ok (i:Nat) (u x:Value) (V:Nat->ObjV) (h:OfIs rd root 0 i) (hu:z5n w B u (z0g rd root i)) (hx:ObjsIn w B x i V fun j=>(rd (nmAt rd root j)).2):ROfEnd w B rd root (.returned (.tuple #[u,x,.int .i64 0]))
theorem any_mem(N:List ByteArray)(s:ByteArray)(n:Nat)(hn:n=N.length):z0H (fun j=>decide (N.getD j ⟨#[]⟩=s)) n=memB N s:=by subst hn;exact anyTo_mem
theorem grown_drewN{w W:World}{row:Option Nat}(h:w.grownBy W row)(j:Nat):w.grownBy (W.drewN j) row:=⟨h.os,h.tape,h.output,h.size,h.block⟩
theorem refScopeOf_any(B:Nat)(w:World)(q:Nat)(L:List z0u)(k:Nat)(D:DataW Unit)(T:ByteArray->ByteArray)(root:ByteArray)(h:RAt B w q L k)(hL:L.length<=1000)(hA:z3I D L)(hI:Inv D k)(hT:z4C D T) :
 Calls Tryz.prog 56 #[.pointer (some ⟨q,0,none⟩),.string root] w fun e w'=>ROfEnd w' w.heap.size (rdD D T) root e/\Below w.heap.size w w':=by
 have hO0:z5n (w.alloc (.cells #[.string root] 9)) w.heap.size (.slice (some ⟨w.heap.size,0,none⟩) 1 1) [root]:=by
  have e:(w.alloc (.cells #[.string root] 9)).heap[w.heap.size]?=some (.cells #[.string root] 9):=by
   show(w.heap.push _)[w.heap.size]?=_;rw[Array.getElem?_push_size]
  exact⟨rfl,.inr ⟨w.heap.size,1,#[.string root],rfl,Nat.le_refl _,e,Nat.le_refl _,by simp[maxLen],rfl,rfl⟩⟩
 have hx0:Below w.heap.size w (w.alloc (.cells #[.string root] 9)):=(Below.refl _ _).alloc (Nat.le_refl _) _;have hfew:=z6y (T:=T) hI;have HRD:Hid (∀s,rdD D T s=if Maps.has D (keyB s)=true then z0k (T s)else(5,z0d)):=fun s=>rfl
 have HOK:Hid (∀s,(rdD D T s).1=0->z3J (rdD D T s).2):=fun s h=>rd_ok h
 generalize rdD D T=rd at *;go_enter Tryz.func56,Tryz.ntmps56;go_wp2;go_loopw [7,8,9,10,11,12,13,14,15,16] (fun a b z _ _ _ _ _ _ _ wr=>∃(i:Nat) (u x:Value) (V:Nat->ObjV),i<=6/\z=.int .i64 i/\a=u/\b=x/\z5n wr w.heap.size u (z0g rd root i)/\ObjsIn wr w.heap.size x i V (fun j=>(rd (nmAt rd root j)).2) /\
  (∀j,j<i->z2g (V j) (rd (nmAt rd root j)).2 u.ownBlock/\z2g (V j) (rd (nmAt rd root j)).2 x.ownBlock)/\Hid (z5L rd root i)/\Below w.heap.size w wr) (fun _ _ z _ _ _ _ _ _ _ _=>7-(intOf z).toNat)
 case atStart=>exact⟨0,_,_,fun _=>noV,by omega,rfl,rfl,rfl,hO0,⟨World.ownsRow_nil _ _ _ _,fun j hj=>by omega⟩,fun j hj=>by omega,fun j hj=>by omega,hx0⟩
 case round=>
  clear hO0 hx0;obtain⟨i,u,x,V,hi6,rfl,rfl,rfl,ho,hx,hsep,HR,hb⟩:=hrel;have hnn:∀j,j<i->(rd (nmAt rd root j)).2.nN<=4:=fun j hj=>(HOK.out _ (HR.out j hj).2).nN
  have hlen:=names_len rd root i hnn;by_cases hlt:i<(z0g rd root i).length
  ·have hRd:=readR_is B wr q L k D (nmAt rd root i) (h.later hb) hL hA hI;obtain⟨au,cu,rfl,hcu,hru⟩:=z3H ho;have hB:=hb.size;rcases hru with h0|⟨bu,fu,rfl,hcn⟩
   ·omega
   have hci:wr.cell? ⟨bu,fu+i,none⟩=some (.string (nmAt rd root i)):=hcn i hlt;clear hcn;have hltu:∀j,(Value.slice (some ⟨bu,fu,none⟩) (z0g rd root i).length cu).ownBlock=some j->j<wr.heap.size:=fun j e=>(ho.lt j e).2
   have hltx:∀j,u8.ownBlock=some j->j<wr.heap.size:=fun j e=>(hx.own.lt j e).2
   have hi0:(0:Int)<=(i:Int):=by omega
   have hi1:(i:Int)<((z0g rd root i).length:Int):=by omega
   have HE:(rd (nmAt rd root i)).1≠0->OfIs rd root (rd (nmAt rd root i)).1 i:=fun hf=>.bad i HR.out hlt hf
   have HRi:=HRD.out (nmAt rd root i);go_wp2_with fail;refine(show Calls _ _ _ _ _ from hRd).mono ?_;rintro e w0 ⟨⟨t,st,f,rfl,hRI⟩,hb0⟩;clear hRd hci;have hb1:=hb.trans (hb0.mono hb.size);cases hh:Maps.has D (keyB (nmAt rd root i))with
   |false=>
    obtain⟨rfl,rfl,rfl⟩:=hRI.no hh;rw[hh,if_neg (by decide)]at HRi;rw[HRi]at HE;have HEE:Hid (OfIs rd root 5 i):=HE (by decide);clear HE HRi hRI hh hsep hltu hltx hx ho;go_wp2;go_ret3;exact⟨.bad 5 i HEE.out (by decide),hb1⟩
   |true=>
    obtain⟨rfl,hat⟩:=hRI.yes hh;obtain rfl:=hT.is _ _ _ hh hat;rw[hh,if_pos rfl]at HRi;clear hat hRI;have HOb:=z7j (T (nmAt rd root i)) w0;rw[<-HRi]at HOb;by_cases hf:(rd (nmAt rd root i)).1=0
    ·have HR2:Hid (z5L rd root (i+1)):=fun j hj=>by
      by_cases e:j=i
      ·subst e;exact⟨hlt,hf⟩
      ·exact HR.out j (by omega)
     have hi7:i+1<=6:=HR2.out.few hfew;have hok:z3J (rd (nmAt rd root i)).2:=HOK.out _ hf;have hn4:=hok.nN;rw[hf]at HOb;clear HRi HE hh;go_wp2_with fail;refine(show Calls _ _ _ _ _ from HOb).mono ?_;rintro e w1 ⟨⟨v,rfl,hAt,hNw⟩,hb1'⟩;clear HOb;have hb01:=hb0.trans (hb1'.mono hb0.size);have ho1:=z0e ho hb01;have hx1:∀j,j<i->z1C w1 (V j) (rd (nmAt rd root j)).2:=fun j hj=>(hx.at' j hj).later hb01
     have hxo1:=z0e hx.own hb01;have hb2:=hb.trans (hb01.mono hb.size);have hs1:=hb01.size;have hNu:=(hNw.lower hb0.size).sep hltu;have hNx:=(hNw.lower hb0.size).sep hltx;clear hNw hltu hltx hb01 hb0 hb1' hb1 hb hx ho;obtain⟨aN,cN,aW,cW,aS,cS,aT,cT⟩:=v;obtain⟨x',W,happ,hxW,hgW,hsnW⟩:=growObj (w:=w1.alloc (.cells #[.slice aN (rd (nmAt rd root i)).2.nN cN,.slice aW (rd (nmAt rd root i)).2.nW cW,.slice aS (rd (nmAt rd root i)).2.nS cS,.slice aT (rd (nmAt rd root i)).2.nT cT] 56)) (V:=V) (V':=fun j=>if j=i then⟨aN,cN,aW,cW,aS,cS,aT,cT⟩else V j) (O:=fun j=>(rd (nmAt rd root j)).2) ⟨aN,cN,aW,cW,aS,cS,aT,cT⟩ (by simp;have:=hb2.size;omega) (hxo1.alloc _) (by omega) (fun j hj=>by simp only[if_neg (show j≠i by omega)]) (by simp);have e1:(w1.alloc (.cells #[.slice aN (rd (nmAt rd root i)).2.nN cN,.slice aW (rd (nmAt rd root i)).2.nW cW,.slice aS (rd (nmAt rd root i)).2.nS cS,.slice aT (rd (nmAt rd root i)).2.nT cT] 56)).heap.size=w1.heap.size+1:=by simp
     rw[e1]at happ hsnW;clear e1;have hbA:Below w1.heap.size w1 ((w1.alloc (.cells #[.slice aN (rd (nmAt rd root i)).2.nN cN,.slice aW (rd (nmAt rd root i)).2.nW cW,.slice aS (rd (nmAt rd root i)).2.nS cS,.slice aT (rd (nmAt rd root i)).2.nT cT] 56)).alloc (.cells #[.slice aN (rd (nmAt rd root i)).2.nN cN,.slice aW (rd (nmAt rd root i)).2.nW cW,.slice aS (rd (nmAt rd root i)).2.nS cS,.slice aT (rd (nmAt rd root i)).2.nT cT] 56)):=((Below.refl _ _).alloc (Nat.le_refl _) _).alloc (by simp) _;have hoW:z5n W w.heap.size (.slice (some ⟨bu,fu,none⟩) (z0g rd root i).length cu) (z0g rd root i):=((ho1.alloc _).alloc _).kept hgW (z4j ho1 hxo1 (by decide));have hxW1:∀j,j<i->z1C W (V j) (rd (nmAt rd root j)).2:=fun j hj=>((hx1 j hj).later hbA).grown hgW (hsep j hj).2
     have hAW:z1C W ⟨aN,cN,aW,cW,aS,cS,aT,cT⟩ (rd (nmAt rd root i)).2:=(hAt.later hbA).grown hgW hNx;have hne:some w1.heap.size≠u8.ownBlock:=fun e=>by have:=(hxo1.lt _ e.symm).2;omega
     have hneu:some w1.heap.size≠(Value.slice (some ⟨bu,fu,none⟩) (z0g rd root i).length cu).ownBlock:=fun e=>by have:=(ho1.lt _ e.symm).2;omega
     have c0:W.cell? ⟨w1.heap.size,0,none⟩=some (.slice aN (rd (nmAt rd root i)).2.nN cN):=hgW.cell (by simp[go_sem]) hne;have hbW:Below w.heap.size w W:=(hb2.trans (hbA.mono hb2.size)).grown hgW (Nat.le_trans hb2.size hbA.size) (fun j e=>(hxo1.lt j e).1);have hsx2:∀j,j<i+1->z2g ((fun j=>if j=i then(⟨aN,cN,aW,cW,aS,cS,aT,cT⟩:ObjV)else V j) j) (rd (nmAt rd root j)).2 x'.ownBlock:=fun j hj=>by
      by_cases e:j=i
      ·subst e;simp only[if_pos];exact z2g.next hAt hNx (Nat.le_succ _) hsnW
      ·simp only[if_neg e];exact z2g.next (hx1 j (by omega)) (hsep j (by omega)).2 (Nat.le_succ _) hsnW
     have hsu:∀j,j<i+1->z1C W ((fun j=>if j=i then(⟨aN,cN,aW,cW,aS,cS,aT,cT⟩:ObjV)else V j) j) (rd (nmAt rd root j)).2/\z2g ((fun j=>if j=i then(⟨aN,cN,aW,cW,aS,cS,aT,cT⟩:ObjV)else V j) j) (rd (nmAt rd root j)).2 (Value.slice (some ⟨bu,fu,none⟩) (z0g rd root i).length cu).ownBlock:=fun j hj=>by
      by_cases e:j=i
      ·subst e;simp only[if_pos];exact⟨hAW,hNu⟩
      ·simp only[if_neg e];exact⟨hxW1 j (by omega),(hsep j (by omega)).1⟩
     have hrN:=hAW.needs;have hsepN:=hNu.needs;clear hx1 hAt hNu hNx hsep hxW1 hAW hbA hb2 ho1 hxo1 hsnW hne hgW hi0 hi1;unfold ObjV.cells;generalize (fun j=>if j=i then(⟨aN,cN,aW,cW,aS,cS,aT,cT⟩:ObjV)else V j)=V2 at *;have hsuc:z0g rd root (i+1)=z2C (z0g rd root i) (z0V (rd (nmAt rd root i)).2 (rd (nmAt rd root i)).2.nN):=rfl;have HSUC:Hid (z0g rd root (i+1)=z2C (z0g rd root i) (z0V (rd (nmAt rd root i)).2 (rd (nmAt rd root i)).2.nN)):=hsuc;clear hsuc hf hok hfew HR hlt hnn HOK HRD;dsimp only at hrN hsepN;go_wp2_with (at_builtin;refine z0b rfl (.tmp 46) (.tmp 48) 137 rfl u8 (.slice (some ⟨w1.heap.size+1,0,none⟩) 1 1) _ rfl rfl happ ?_);generalize hO:(rd (nmAt rd root i)).2=o at *;generalize hN:z0g rd root i=N at *;go_loopw [7,14,15,16] (fun y7 y14 _ _ wk=>∃(m:Nat) (uu:Value),m<=o.nN/\y14=.int .i64 m/\y7=uu/\z5n wk w.heap.size uu (z2C N (z0V o m))/\z2M W.heap.size (.slice (some ⟨bu,fu,none⟩) N.length cu) uu/\W.grownBy wk (Value.slice (some ⟨bu,fu,none⟩) N.length cu).ownBlock) (fun _ y14 _ _ _=>o.nN-(intOf y14).toNat)
     case atStart=>exact⟨0,_,Nat.zero_le _,rfl,rfl,hoW,.inl rfl,grownBy_refl _ _⟩
     case round=>
      obtain⟨m,uu,hm,rfl,rfl,hou,hsn,hg⟩:=hrel;have hlen2:=joinL_len N (z0V o m);have hln2:(z0V o m).length=m:=by simp[z0V]
      have c0k:=hg.cell c0 hneu;by_cases hlm:m<o.nN
      ·have hrk:=hrN.grown hg hsepN;rcases hrk with h0|⟨bN,fN,rfl,hcN⟩
       ·omega
       have hcm:=hcN m hlm;obtain⟨av,cv,rfl,_,hrv⟩:=z3H hou;have hm0:(0:Int)<=(m:Int):=by omega
       have hm1:(m:Int)<(o.nN:Int):=by omega
       have hsuc2:=joinL_snoc N (z0V o m) (o.needs m);rw[<-needsTo_succ]at hsuc2;have hszk:w.heap.size<=wr.heap.size:=Nat.le_trans hbW.size hg.size;clear hcN;obtain⟨M,hM⟩:∃M,z2C N (z0V o m)=M:=⟨_,rfl⟩;rw[hM]at hsuc2 hou hlen2 hrv hsn;rw[hM];go_wp2;go_loopw [15,16] (fun y15 y16 wz=>∃(z d:Nat),z<=M.length/\y16=.int .i64 z/\y15=.bool (z0H (fun j=>decide (M.getD j ⟨#[]⟩=o.needs m)) z)/\wz=wr.drewN d) (fun _ y16 _=>M.length-(intOf y16).toNat)
       case atStart=>exact⟨0,0,Nat.zero_le _,rfl,rfl,rfl⟩
       case round=>
        obtain⟨z,d,hz,rfl,rfl,rfl⟩:=hrel;by_cases hlz:z<M.length
        ·rcases hrv with h0|⟨bv,fv,rfl,hcv⟩
         ·omega
         have hcz:wr.cell? ⟨bv,fv+z,none⟩=some (.string (M.getD z ⟨#[]⟩)):=hcv z hlz;have hz0:(0:Int)<=(z:Int):=by omega
         have hz1:(z:Int)<(M.length:Int):=by omega
         have z7c:z0H (fun j=>decide (M.getD j ⟨#[]⟩=o.needs m)) (z+1)=(z0H (fun j=>decide (M.getD j ⟨#[]⟩=o.needs m)) z||decide (M.getD z ⟨#[]⟩=o.needs m)):=rfl;obtain⟨b0,hb0⟩:∃b0,z0H (fun j=>decide (M.getD j ⟨#[]⟩=o.needs m)) z=b0:=⟨_,rfl⟩;obtain⟨b1,hb1⟩:∃b1,z0H (fun j=>decide (M.getD j ⟨#[]⟩=o.needs m)) (z+1)=b1:=⟨_,rfl⟩;rw[hb0,hb1]at z7c;have HB1:Hid (z0H (fun j=>decide (M.getD j ⟨#[]⟩=o.needs m)) (z+1)=b1):=hb1;rw[hb0];clear hb0 hb1;have hq:((M.getD z ⟨#[]⟩).toList==(o.needs m).toList)=decide (M.getD z ⟨#[]⟩=o.needs m):=z0z _ _;generalize decide (M.getD z ⟨#[]⟩=o.needs m)=dz at *;generalize M.getD z ⟨#[]⟩=nz at *;clear hcv;cases b0 with
         |true=>
          have hb1t:b1=true:=z7c;subst hb1t;clear hq z7c;go_wp2;go_quiet (fail);go_wp2;go_roundw
          case rel=>exact⟨z+1,_,by omega,by go_num,by rw[HB1.out],rfl⟩
          case measure=>simp[intOf];omega
         |false=>
          rw[Bool.false_or]at z7c;subst z7c;go_wp2;go_quiet (fail);go_wp2;go_roundw
          case rel=>exact⟨z+1,_,by omega,by go_num,by rw[HB1.out],rfl⟩
          case measure=>simp[intOf];omega
        ·obtain rfl:z=M.length:=by omega
         have hgd:=grown_drewN hg d;have houd:z5n (wr.drewN d) w.heap.size (.slice av M.length cv) M:=hou;rw[any_mem M (o.needs m) M.length rfl];cases hmem:memB M (o.needs m)with
         |true=>
          rw[if_pos hmem]at hsuc2;have ho2:z5n (wr.drewN d) w.heap.size (.slice av M.length cv) (z2C N (z0V o (m+1))):=by rw[hsuc2];exact houd
          clear hsuc2 hmem hou houd hM;go_wp2;go_roundw
          case rel=>exact⟨m+1,_,by omega,by go_num,rfl,ho2,hsn,hgd⟩
          case measure=>simp[intOf];omega
         |false=>
          rw[if_neg (by simp[hmem])]at hsuc2;have hszd:w.heap.size<=(wr.drewN d).heap.size:=hszk;obtain⟨v1,W1,happ1,hO1,hg1,hsn1⟩:=growTx (o.needs m) hszd houd (by omega);rw[<-hsuc2]at hO1;have hg2:W.grownBy W1 (Value.slice (some ⟨bu,fu,none⟩) N.length cu).ownBlock:=(hgd.andThen (World.grownBy_alloc (wr.drewN d) (.cells #[.string (o.needs m)] 9) none) (fun j hj=>by cases hj)).andThen hg1 (fun j hj=>by
           rcases hsn with e|⟨j',e,hj'⟩
           ·rw[e]at hj;exact .inr hj
           ·rw[e]at hj;injection hj with hj;subst hj;exact .inl hj')
          have hsn2:z2M W.heap.size (.slice (some ⟨bu,fu,none⟩) N.length cu) v1:=by
           rcases hsn1 with e|⟨j',e,hj'⟩
           ·rcases hsn with e2|⟨j2,e2,hj2⟩
            ·exact .inl (e.trans e2)
            ·exact .inr ⟨j2,e.trans e2,hj2⟩
           ·exact .inr ⟨j',e,Nat.le_trans hgd.size hj'⟩
          clear hsuc2 hmem hou houd hg1 hsn1 hsn hg hgd hM;go_wp2_with (at_builtin;refine z0b rfl (.tmp 78) (.tmp 84) 22 rfl (.slice av M.length cv) (.slice (some ⟨(wr.drewN d).heap.size,0,none⟩) 1 1) _ rfl rfl happ1 ?_);go_roundw
          case rel=>exact⟨m+1,v1,by omega,by go_num,rfl,hO1,hsn2,hg2⟩
          case measure=>simp[intOf];omega
      ·obtain rfl:m=o.nN:=by omega
       have hxW2:z5v w.heap.size wr x' (i+1) V2 (fun j=>(rd (nmAt rd root j)).2):=hxW.kept hg (z4j hxW hoW (by decide));have hA2:∀j,j<i+1->z1C wr (V2 j) (rd (nmAt rd root j)).2:=fun j hj=>(hsu j hj).1.grown hg (hsu j hj).2
       have hsep2:∀j,j<i+1->z2g (V2 j) (rd (nmAt rd root j)).2 u7.ownBlock/\z2g (V2 j) (rd (nmAt rd root j)).2 x'.ownBlock:=fun j hj=>⟨z2g.next (hsu j hj).1 (hsu j hj).2 (Nat.le_refl _) hsn,hsx2 j hj⟩
       have hbW2:Below w.heap.size w wr:=hbW.grown hg hbW.size (fun j e=>(hoW.lt j e).1);have hu2:z5n wr w.heap.size u7 (z0g rd root (i+1)):=by rw[HSUC.out];exact hou
       clear hou hsn hg hsu hsx2 hxW hoW hbW happ c0 hrN;go_wp2;go_roundw
       case rel=>exact⟨i+1,u7,x',V2,hi7,by go_num,rfl,rfl,hu2,⟨hxW2,hA2⟩,hsep2,HR2,hbW2⟩
       case measure=>simp[intOf];omega
    ·have HEE:Hid (OfIs rd root (rd (nmAt rd root i)).1 i):=HE hf;have H0:Hid ((rd (nmAt rd root i)).1≠0):=hf;have hpos:(0:Int)<(((rd (nmAt rd root i)).1:Nat):Int):=by omega
     clear hf HE HRi hsep hltu hltx hx ho hh;generalize (rd (nmAt rd root i)).1=F at *;go_wp2_with fail;refine(show Calls _ _ _ _ _ from HOb).mono ?_;rintro e w1 ⟨⟨v,rfl,hAt,hNw⟩,hb1'⟩;obtain⟨aN,cN,aW,cW,aS,cS,aT,cT⟩:=v;have hb2:=hb1.trans (hb1'.mono hb1.size);clear HOb hAt hNw;unfold ObjV.cells;go_wp2;go_ret3;exact⟨.bad _ i HEE.out H0.out,hb2.alloc hb2.size _⟩
  ·have hei:(z0g rd root i).length=i:=by
    have:i<=(z0g rd root i).length:=by
     cases i with
     |zero=>omega
     |succ j=>
      have h1:=(HR.out j (by omega)).1;have h2:(z0g rd root j).length<=(z0g rd root (j+1)).length:=(z4F rd root (Nat.le_succ j)).length_le;omega
    omega
   have HE:Hid (OfIs rd root 0 i):=.ok i HR.out hei;obtain⟨au,cu,rfl,hcu,hru⟩:=z3H ho;clear hru hsep HR;go_wp2;go_ret3;exact⟨.ok i _ _ V HE.out ho hx,hb⟩
end
section
open Go.RowKit Go.Maps
theorem z3V (f:Nat->Int)(n:Nat):z0i (intC f) n=(List.range n).map fun i=>Value.int .i64 (f i):=by
 induction n with
 |zero=>rfl
 |succ n ih=>
  show z0i (intC f) n++intC f n=_;rw[ih,List.range_succ,List.map_append];rfl
theorem ownInt_put{w:World}{B n c g y:Nat}{f f':Nat->Int}(h:w.ownsRow B 3 1 (.slice (some ⟨g,0,none⟩) n c) n (z0i (intC f) n))(hy:y<n)(v:Int)(e:∀j,f' j=if j=y then v else f j) :
 (w.setCell ⟨g,y,none⟩ (.int .i64 v)).ownsRow B 3 1 (.slice (some ⟨g,0,none⟩) n c) n (z0i (intC f') n):=by
 obtain⟨_,h⟩:=h;rcases h with⟨e0,_⟩|⟨g',cap,cur,hv,hb,hg,hnc,hcm,hcs,htk⟩
 ·cases e0
 ·injection hv with hv1 hv2 hv3;injection hv1 with hv1;injection hv1 with hv1;subst hv1;subst hv3;refine⟨by rw[z3V];simp,.inr ⟨g,c,cur.set! y (.int .i64 v),rfl,hb,?_,hnc,hcm,by simp[hcs],?_⟩⟩
  ·show(w.heap.modify g _)[g]?=_;rw[Array.getElem?_modify,if_pos rfl,hg];rfl
  ·have e1:(cur.set! y (.int .i64 v)).toList=cur.toList.set y (.int .i64 v):=by simp
   rw[e1,List.take_set,htk,z3V,z3V];refine List.ext_getElem (by simp) fun i h1 h2=>?_
   simp only[List.getElem_set,List.getElem_map,List.getElem_range,e];by_cases q:i=y
   ·subst q;simp
   ·rw[if_neg (fun h=>q h.symm),if_neg q]
structure RPs(w:World)(B:Nat)(v:Value)(n:Nat)(nm:Nat->ByteArray)(Bs:Nat->Int)(A:Nat->Option Addr)(M C:Nat->Nat)(X:Nat->Nat->Int):Prop where
 own:w.ownsRow B 110 3 v n (z0i (z4Z nm Bs A M C) n)
 row:∀i,i<n->w.ownsRow B 3 1 (.slice (A i) (M i) (C i)) (M i) (z0i (intC (X i)) (M i))
theorem RPs.later{w w':World}{B:Nat}{v:Value}{n:Nat}{nm:Nat->ByteArray}{Bs:Nat->Int}{A:Nat->Option Addr}{M C:Nat->Nat}{X:Nat->Nat->Int}(h:RPs w B v n nm Bs A M C X)(hb:Below w.heap.size w w'):RPs w' B v n nm Bs A M C X:=⟨z0e h.own hb,fun i hi=>z0e (h.row i hi) hb⟩
theorem RPs.base{w:World}{B B':Nat}{v:Value}{n:Nat}{nm:Nat->ByteArray}{Bs:Nat->Int}{A:Nat->Option Addr}{M C:Nat->Nat}{X:Nat->Nat->Int}(h:RPs w B v n nm Bs A M C X)(hB:B'<=B):RPs w B' v n nm Bs A M C X:=⟨World.ownsRow.mono h.own hB,fun i hi=>World.ownsRow.mono (h.row i hi) hB⟩
theorem RPs.rows{w:World}{B:Nat}{v:Value}{n:Nat}{nm:Nat->ByteArray}{Bs:Nat->Int}{A:Nat->Option Addr}{M C:Nat->Nat}{X:Nat->Nat->Int}(h:RPs w B v n nm Bs A M C X):∃a c,v=.slice a n c/\n<=c/\z7s w a n nm Bs A M C X:=by
 obtain⟨a,c,rfl,hc⟩:=z0c h.own;refine⟨a,c,rfl,hc,?_⟩;by_cases h0:n=0
 ·exact .inl h0
 ·have key:∀i,i<n->∀j u,(z4Z nm Bs A M C i)[j]?=some u->j<3->∃g,a=some ⟨g,0,none⟩/\B<=g/\w.cell? ⟨g,i*3+j,none⟩=some u:=fun i hi j u hu hj=>
   z0K h.own (by rw[z2G (s:=3) (fun i _=>rfl) hi hj];exact hu)
  obtain⟨g0,ha,_,_⟩:=key 0 (by omega) 0 _ rfl (by omega);refine .inr ⟨g0,0,ha,fun i hi=>?_⟩;have get:∀j u,(z4Z nm Bs A M C i)[j]?=some u->j<3->w.cell? ⟨g0,i*3+j,none⟩=some u:=fun j u hu hj=>by
   obtain⟨g',ha',_,hc'⟩:=key i hi j u hu hj;rw[ha]at ha';injection ha' with ha';injection ha' with ha';subst ha';exact hc'
  obtain⟨a',c',e,_,hr⟩:=z5a (h.row i hi);injection e with e1 _ _;rw[<-e1]at hr;exact⟨by rw[Nat.zero_add];exact get 0 _ rfl (by omega),by rw[Nat.zero_add];exact get 1 _ rfl (by omega),by rw[Nat.zero_add];exact get 2 _ rfl (by omega),hr⟩
inductive RLoadEnd (w:World) (B0:Nat) (rd:ByteArray->Nat×ObjF) (root:ByteArray):Ending->Prop
 |bad (F:Nat) (h:ReckIs rd root F) (hf:F≠0):RLoadEnd w B0 rd root (.returned (.tuple #[.slice none 0 0,.slice none 0 0,.int .i64 (F:Int)]))
 |ok (m:Nat) (Bs:Nat->Int) (P Q:ByteArray->Int) (u v:Value) (A:Nat->Option Addr) (C:Nat->Nat) (h:z0Z rd root m Bs P Q) (hu:RPs w B0 u m (nmAt rd root) Bs A (fun i=>(obAt rd root i).nW) C (z4m rd root m Bs P Q))
  (hv:w.ownsRow B0 114 3 v (z0l rd root m Bs P Q).length (z3x (z0l rd root m Bs P Q))):RLoadEnd w B0 rd root (.returned (.tuple #[u,v,.int .i64 0]))
theorem int_cellsL{w:World}{a:Option Addr}{n:Nat}{f:Nat->Int}(h:z1z w a n fun i=>.int .i64 (f i)):n=0∨∃b o,a=some ⟨b,o,none⟩/\∀j u,(z0i (intC f) n)[j]?=some u->w.cell? ⟨b,o+j,none⟩=some u:=by
 rcases h with h|⟨b,o,ha,hc⟩
 ·exact .inl h
 ·refine .inr ⟨b,o,ha,fun j u hj=>?_⟩;rw[z3V]at hj;have hlt:j<n:=by have:=(List.getElem?_eq_some_iff.1 hj).1;simpa using this
  rw[List.getElem?_map,List.getElem?_eq_getElem (by simpa using hlt)]at hj;simp at hj;subst hj;exact hc j hlt
theorem ints_new(w:World)(a:Option Addr)(n c:Nat)(f:Nat->Int)(hr:z1z w a n fun i=>.int .i64 (f i))(hn:n<=1000) :
 ∃v' W,(Builtin.append_ #[52,52] 52 #[.slice none 0 0,.slice a n c]).run Tryz.prog w=.ok v' W/\W.ownsRow w.heap.size 3 1 v' n (z0i (intC f) n)/\Below w.heap.size w W:=by
 obtain⟨v',W,happ,hG⟩:=z0J 52 3 1 8 (.int .i64 0) (by kernel_rfl) (by kernel_rfl) (by rfl) (by decide) w.heap.size w (.slice none 0 0) 0 []
  (World.ownsRow_nil _ _ _ _) a n c (z0i (intC f) n) (by rw[z3B (fun i _=>z6S f i)]) (int_cellsL hr) (fun u hu=>by
    rw[z3V]at hu;obtain⟨i,_,rfl⟩:=List.mem_map.1 hu;rfl) (Nat.le_refl _) (by omega) (by decide)
 exact⟨v',W,happ,by simpa using hG.own,hG.below⟩
theorem patOk_place{n:Nat}{M:Nat->Nat}{p t:Int}(h:z7e n M p t=true):∃x y:Nat,p=x/\t=y/\x<n/\y<M x:=by
 simp[z7e,z0j]at h;obtain⟨⟨h1,h2⟩,h3,h4⟩:=h;exact⟨p.toNat,t.toNat,by omega,by omega,by omega,by omega⟩
theorem refLoaded_any(B:Nat)(w:World)(q:Nat)(L:List z0u)(k:Nat)(D:DataW Unit)(T:ByteArray->ByteArray)(root:ByteArray)(h:RAt B w q L k)(hL:L.length<=1000)(hA:z3I D L)(hI:Inv D k)(hT:z4C D T) :
 Calls Tryz.prog 43 #[.pointer (some ⟨q,0,none⟩),.string root] w fun e w'=>RLoadEnd w' w.heap.size (rdD D T) root e/\Below w.heap.size w w':=by
 have HO:=refScopeOf_any B w q L k D T root h hL hA hI hT;have hfew:=z6y (T:=T) hI;have HOK:Hid (∀s,(rdD D T s).1=0->z3J (rdD D T s).2):=fun s h=>rd_ok h
 clear h hL hA hT hI;generalize rdD D T=rd at *;go_enter Tryz.func43,Tryz.ntmps43;go_wp2_with fail;refine(show Calls _ _ _ _ _ from HO).mono ?_;rintro e w1 ⟨he,hb1⟩;clear HO;cases he with
 |bad F i h hf=>
  have hpos:(0:Int)<(F:Int):=by omega
  have HF:Hid (RLoadEnd w1 w.heap.size rd root (.returned (.tuple #[.slice none 0 0,.slice none 0 0,.int .i64 (F:Int)]))):=.bad F (.of i h hf) hf;clear h hf hfew;go_wp2;go_ret3;exact⟨HF.out,hb1⟩
 |ok m u x V h hu hx=>
  obtain⟨hS,hlen,hnm⟩:=z4s h hfew;have hok:∀j,j<m->z3J (obAt rd root j):=fun j hj=>HOK.out _ (by rw[hS.read j hj])
  have hm6:=hS.few;have hgetN:∀j,j<m->(z0g rd root m).getD j ⟨#[]⟩=nmAt rd root j:=fun j hj=>by
   have hr:z5L rd root m:=by
    generalize hF:(0:Nat)=F at h;cases h with
    |bad _ _ _ hf=>exact absurd hF.symm hf
    |ok _ h hi=>exact h
   rw[List.getD_eq_getElem?_getD,z6C (Nat.le_of_lt hj) (hr j hj).1];rfl
  clear hS hfew hnm HOK;obtain⟨xa,xc,rfl,_,hrow⟩:=hx.own.row hx.at';go_wp2;go_loopw [10,11] (fun y10 y11 wr=>∃(i:Nat) (v:Value),i<=m/\y11=.int .i64 i/\y10=v/\wr.ownsRow w1.heap.size 3 1 v i (z0i (intC (szAt rd root)) i)/\Below w1.heap.size w1 wr) (fun _ y11 _=>m-(intOf y11).toNat)
  case atStart=>exact⟨0,.slice none 0 0,Nat.zero_le _,rfl,rfl,World.ownsRow_nil _ _ _ _,Below.refl _ _⟩
  case round=>
   obtain⟨i,v,hi,rfl,rfl,ho,hb⟩:=hrel;by_cases hlt:i<m
   ·rcases hrow.later hb with h0|⟨bk,o,rfl,hc⟩
    ·omega
    have c1:=(hc i hlt).c1;have hi0:(0:Int)<=(i:Int):=by omega
    have hi1:(i:Int)<(m:Int):=by omega
    have hw4:(rd (nmAt rd root i)).2.nW<=40:=(hok i hlt).nW;obtain⟨v1,W1,happ1,hG1⟩:=growInt (w:=wr) (((rd (nmAt rd root i)).2.nW:Nat):Int) hb.size ho (by omega);have ho1:=hG1.own;rw[joinInt (b':=szAt rd root) (fun i _=>rfl) rfl]at ho1;have hb2:Below w1.heap.size w1 W1:=(hb.alloc hb.size _).trans hG1.below;clear hG1 ho hb hc;dsimp only at c1;generalize (rd (nmAt rd root i)).2=ob at *;go_wp2_with (at_builtin;refine z0b rfl (.tmp 34) (.tmp 41) 52 rfl u10 (.slice (some ⟨wr.heap.size,0,none⟩) 1 1) _ rfl rfl happ1 ?_);go_roundw
    case rel=>exact⟨i+1,v1,by omega,by go_num,rfl,ho1,hb2⟩
    case measure=>simp[intOf];omega
   ·obtain rfl:i=m:=by omega
    have hb12:=hb1.trans (hb.mono hb1.size);obtain⟨a2,c2,rfl,_,hr2⟩:=z5a ho;have HB:=refBases_any (szAt rd root) (fun _=>0) (fun _=>0) a2 none i c2 0 0 wr (by unfold maxLen;omega) (by unfold maxLen;omega) hr2 (.inl rfl);have hu2:=z0e hu hb;have hx2:=hx.below hb;clear hu hx ho hr2 hrow;go_wp2_with fail;refine(show Calls _ _ _ _ _ from HB).mono ?_;rintro e w3 ⟨he,hb3⟩;have hb13:=hb12.trans (hb3.mono hb12.size);have hu3:=z0e hu2 hb3;have hx3:=hx2.below hb3;clear HB hu2 hx2;cases he with
    |bad F Bs hf hB=>
     have hpos:(0:Int)<(F:Int):=by omega
     have HF:Hid (RLoadEnd w3 w.heap.size rd root (.returned (.tuple #[.slice none 0 0,.slice none 0 0,.int .i64 (F:Int)]))):=.bad F (.bases i Bs h hB hf) hf;clear h hf hB hok hgetN hu3 hx3 hb3;go_wp2;go_ret3;exact⟨HF.out,hb13⟩
    |ok Bs v3 hB hv3=>
     obtain⟨P,Q,hP⟩:=finds_some (z1T i (obAt rd root));have hBc:=hB.cut;have hz:=fun j=>cutB_zero (m:=i) (b:=Bs) j
     rw[z1f (h:=intC (cutB i Bs)) (fun j hj=>by unfold intC;rw[<-cutB_is (b:=Bs) hj])]at hv3;clear hB;generalize cutB i Bs=B' at *;obtain⟨xa,xc,hxe,_,hrow⟩:=hx3.own.row hx3.at';cases hxe;obtain⟨a3,c3,rfl,_,hr3⟩:=z5a hv3;have HA:=refPatches_any xa a3 i xc i c3 V (obAt rd root) B' P Q w3 (by omega) (by unfold maxLen;omega) hrow hr3 hok hP;clear hr3 hrow;go_wp2_with fail;refine(show Calls _ _ _ _ _ from HA).mono ?_;rintro e w4 ⟨he,hb4⟩;have hb14:=hb13.trans (hb4.mono hb13.size);have hu4:=z0e hu3 hb4;have hx4:=hx3.below hb4;have hv4:=z0e hv3 hb4;clear HA hu3 hx3 hv3;cases he with
     |bad hf=>
      have HF:Hid (RLoadEnd w4 w.heap.size rd root (.returned (.tuple #[.slice none 0 0,.slice none 0 0,.int .i64 (((allF i (obAt rd root) P Q i B':Nat)):Int)]))):=.bad _ (.all i B' P Q h hBc hz hP rfl hf) hf;have hpos:(0:Int)<((allF i (obAt rd root) P Q i B':Nat):Int):=by omega
      clear h hBc hz hP hok hgetN hu4 hx4 hv4 hb4 hf;generalize allF i (obAt rd root) P Q i B'=F at *;go_wp2;go_ret3;exact⟨HF.out,hb14⟩
     |ok hf v4 ho4=>
      have hReck:z0Z rd root i B' P Q:=⟨h,hBc,hz,hP,hf⟩;have hall:=pats_ok (O:=obAt rd root) (P:=P) (Q:=Q) (B:=B') (m:=i) hok;have hlenP:(z0A (obAt rd root) P Q B' i).length<=6*i:=z6H (O:=obAt rd root) P Q B' (i:=i) fun j hj=>(hok j hj).nT
      have hw40:∀j,j<i->(obAt rd root j).nW<=40:=fun j hj=>(hok j hj).nW
      have HFIN:Hid (∀(W:World) (u v:Value) (A:Nat->Option Addr) (C:Nat->Nat),RPs W w.heap.size u i (nmAt rd root) B' A (fun j=>(obAt rd root j).nW) C (fun a b=>putF (fun a b=>(obAt rd root a).words b) (pP (z0A (obAt rd root) P Q B' i)) (pT (z0A (obAt rd root) P Q B' i)) (pV (z0A (obAt rd root) P Q B' i)) (z0A (obAt rd root) P Q B' i).length a b)->W.ownsRow w.heap.size 114 3 v (z0A (obAt rd root) P Q B' i).length (z3x (z0A (obAt rd root) P Q B' i))->RLoadEnd W w.heap.size rd root (.returned (.tuple #[u,v,.int .i64 0]))):=fun W u v A C hu hv=>.ok i B' P Q u v A C hReck hu hv
      obtain⟨xa4,xc4,hxe4,_,hrow40⟩:=hx4.own.row hx4.at';cases hxe4;have hrow4:z3U w4 xa i V (obAt rd root):=hrow40;clear hrow40;obtain⟨a4,c4,e4,_,hr4⟩:=z5a hv4;cases e4;obtain⟨aq,cq,rfl,_,hrq⟩:=rows_pat ho4;obtain⟨au,cu,rfl,_,hru⟩:=z3H hu4;rw[hlen]at hru;rw[hlen];clear h hBc hz hP hf hok hReck hx4 hv4 hu4;have hPO:=ho4;clear ho4;generalize z0A (obAt rd root) P Q B' i=pl at *;generalize obAt rd root=O at *;go_wp2;go_loopw [14,15,16,17] (fun y14 y15 _ _ wx=>∃(r:Nat) (v:Value) (A:Nat->Option Addr) (C:Nat->Nat),r<=i/\y15=.int .i64 r/\y14=v/\RPs wx w4.heap.size v r (nmAt rd root) B' A (fun j=>(O j).nW) C (fun a b=>putF (fun a b=>(O a).words b) (pP pl) (pT pl) (pV pl) pl.length a b)/\Below w4.heap.size w4 wx) (fun _ y15 _ _ _=>i-(intOf y15).toNat)
      case atStart=>exact⟨0,.slice none 0 0,fun _=>none,fun _=>0,Nat.zero_le _,rfl,rfl,⟨World.ownsRow_nil _ _ _ _,fun j hj=>by omega⟩,Below.refl _ _⟩
      case round=>
       obtain⟨r,v,A,C,hr,rfl,rfl,hRP,hbr⟩:=hrel;by_cases hlr:r<i
       ·rcases hrow4.later hbr with h0|⟨bk,o,rfl,hc⟩
        ·omega
        rcases hru.later hbr with h0|⟨bu,fu,rfl,hcu⟩
        ·omega
        rcases hr4.later hbr with h0|⟨b4,f4,rfl,hc4⟩
        ·omega
        have H:=hc r hlr;have c1:=H.c1;have cn:wr.cell? ⟨bu,fu+r,none⟩=some (.string (nmAt rd root r)):=by rw[hcu r hlr];show some (Value.string _)=some (Value.string _);rw[hgetN r hlr]
        have cb:wr.cell? ⟨b4,f4+r,none⟩=some (.int .i64 (B' r)):=hc4 r hlr;have hr0:(0:Int)<=(r:Int):=by omega
        have hr1:(r:Int)<(i:Int):=by omega
        have hw:=hw40 r hlr;obtain⟨v1,W1,happ1,hO1,hbW1⟩:=ints_new wr (V r).aW (O r).nW (V r).cW (fun j=>(O r).words j) H.here.words (by omega);obtain⟨aw,cw,rfl,_⟩:=z0c hO1;have hBr:w4.heap.size<=wr.heap.size:=hbr.size;clear H hc hcu hc4;obtain⟨wq,rfl⟩:∃W,W=wr:=⟨_,rfl⟩;obtain⟨vo,rfl⟩:∃v,v=u14:=⟨_,rfl⟩;go_wp2_with (at_builtin;refine z0b rfl (.const (.slice none 0 0)) (.tmp 70) 52 rfl (.slice none 0 0) (.slice (V r).aW (O r).nW (V r).cW) _ rfl rfl happ1 ?_);clear happ1 c1;go_loopw [17] (fun y17 wy=>∃z:Nat,z<=pl.length/\y17=.int .i64 z/\wy.ownsRow wq.heap.size 3 1 (.slice aw (O r).nW cw) (O r).nW (z0i (intC fun j=>putF (fun a b=>(O a).words b) (pP pl) (pT pl) (pV pl) z r j) (O r).nW)/\Below wq.heap.size wq wy) (fun y17 _=>pl.length-(intOf y17).toNat)
        case atStart=>exact⟨0,Nat.zero_le _,rfl,hO1,hbW1⟩
        case round=>
         clear hO1 hbW1;obtain⟨z,hz,rfl,hOz,hbz⟩:=hrel;have hb4z:=hbr.trans (hbz.mono hbr.size);by_cases hlz:z<pl.length
         ·rcases hrq.later hb4z with h0|⟨bp,op,rfl,hcp⟩
          ·omega
          obtain⟨p0,p1,p2⟩:=hcp z hlz;have hz0:(0:Int)<=(z:Int):=by omega
          have hz1:(z:Int)<(pl.length:Int):=by omega
          clear hcp;by_cases e1:pP pl z=(r:Int)
          ·have e1':(pP pl z==(r:Int))=true:=by simp[e1]
           obtain⟨x,y,hx,hy,hxi,hyM⟩:=patOk_place (hall z hlz);obtain rfl:x=r:=by omega
           rw[hy]at p1;obtain⟨gw,hgw,hgB,hcy⟩:∃gw,aw=some ⟨gw,0,none⟩/\wq.heap.size<=gw/\wr.cell? ⟨gw,y,none⟩=some (.int .i64 (putF (fun a b=>(O a).words b) (pP pl) (pT pl) (pV pl) z x y)):=z0K hOz (by rw[z3V,List.getElem?_map,List.getElem?_eq_getElem (by simpa using hyM)];simp);subst hgw;have hfz:wr.frozen? ⟨gw,y,none⟩=false:=by
            rcases hOz.2 with⟨e0,_⟩|⟨g',cap,cur,hv,_,hg,_⟩
            ·cases e0
            ·injection hv with hv1 _ _;injection hv1 with hv1;injection hv1 with hv1;subst hv1;simp[World.frozen?,hg]
           have hO2:=ownInt_put hOz hyM (pV pl z) (f':=fun j=>putF (fun a b=>(O a).words b) (pP pl) (pT pl) (pV pl) (z+1) x j) (fun j=>by
            show(if pP pl z=(x:Int)/\pT pl z=(j:Int)then pV pl z else putF (fun a b=>(O a).words b) (pP pl) (pT pl) (pV pl) z x j)=_;by_cases e:j=y
            ·rw[if_pos ⟨e1,by rw[hy,e]⟩,if_pos e]
            ·rw[if_neg (fun h=>e (by have:=h.2;omega)),if_neg e])
           have hb2:=hbz.setCell (p:=⟨gw,y,none⟩) hgB (.int .i64 (pV pl z));have hy0:(0:Int)<=(y:Int):=by omega
           have hy1:(y:Int)<((O x).nW:Int):=by omega
           clear e1 hx hy hOz hbz hb4z;go_wp2;go_region;go_wp2;go_roundw
           case rel=>exact⟨z+1,by omega,by go_num,hO2,below_drewN hb2 _⟩
           case measure=>simp[intOf];omega
          ·have e1':(pP pl z==(r:Int))=false:=by rw[beq_eq_false_iff_ne];exact e1
           have hO2:wr.ownsRow wq.heap.size 3 1 (.slice aw (O r).nW cw) (O r).nW (z0i (intC fun j=>putF (fun a b=>(O a).words b) (pP pl) (pT pl) (pV pl) (z+1) r j) (O r).nW):=by
            rw[z1f (h:=intC fun j=>putF (fun a b=>(O a).words b) (pP pl) (pT pl) (pV pl) z r j) (fun j _=>by unfold intC;simp only[putF];rw[if_neg (fun h=>e1 h.1)])];exact hOz
           clear e1 hOz;go_wp2;go_roundw
           case rel=>exact⟨z+1,by omega,by go_num,hO2,hbz⟩
           case measure=>simp[intOf];omega
         ·obtain rfl:z=pl.length:=by omega
          have cn':=cell_later hbz cn;have cb':=cell_later hbz cb;clear cn cb hrq hrow4 hru hr4;have hRPz:=hRP.later hbz;clear hRP;go_upto_region 25 with fail;have hOz':wr.drew.ownsRow wq.heap.size 3 1 (.slice aw (O r).nW cw) (O r).nW (z0i (intC fun j=>putF (fun a b=>(O a).words b) (pP pl) (pT pl) (pV pl) pl.length r j) (O r).nW):=hOz;have hRPd:RPs wr.drew w4.heap.size vo r (nmAt rd root) B' A (fun j=>(O j).nW) C (fun a b=>putF (fun a b=>(O a).words b) (pP pl) (pT pl) (pV pl) pl.length a b):=⟨hRPz.own,hRPz.row⟩;have hbd:=hbz.trans ((Below.refl _ wr).drew.mono hbz.size);have hSS:(fun w':World=>w'.cell? ⟨bu,fu+r,none⟩=some (.string (nmAt rd root r))/\w'.cell? ⟨b4,f4+r,none⟩=some (.int .i64 (B' r))) wr.drew:=⟨cn',cb'⟩;refine z0f (fun w':World=>w'.cell? ⟨bu,fu+r,none⟩=some (.string (nmAt rd root r))/\w'.cell? ⟨b4,f4+r,none⟩=some (.int .i64 (B' r))) 12 14 (by kernel_rfl) rfl ?_;clear hOz hRPz hbz cn' cb' hb4z;generalize wr.drew=wd at *;refine tW 0 hSS ?_;refine tW 1 hSS ?_;refine tW 2 hSS ?_;refine tW 3 hSS ?_;refine tW 5 hSS ?_;refine tW 6 hSS ?_;refine tW 7 hSS ?_;refine tW 9 hSS ?_;refine tR 4 [11,10] hSS ?_;refine tR 8 [11,10] hSS ?_;refine tW 10 hSS ?_;obtain⟨v2,W2,happ2,hG2⟩:=growPart (w:=wd) (nmAt rd root r) (B' r) aw (O r).nW cw (Nat.le_trans hBr hbd.size) hRPd.own (by omega);have hbal:Below wd.heap.size wd (wd.alloc (.cells #[.string (nmAt rd root r),.int .i64 (B' r),.slice aw (O r).nW cw] 110)):=(Below.refl _ _).alloc (Nat.le_refl _) _;have hRP3:RPs W2 w4.heap.size v2 (r+1) (nmAt rd root) B' (fun j=>if j=r then aw else A j) (fun j=>(O j).nW) (fun j=>if j=r then cw else C j) (fun a b=>putF (fun a b=>(O a).words b) (pP pl) (pT pl) (pV pl) pl.length a b):=by
           refine⟨?_,fun j hj=>?_⟩
           ·show W2.ownsRow w4.heap.size 110 3 v2 (r+1) (z0i (z4Z (nmAt rd root) B' (fun j=>if j=r then aw else A j) (fun j=>(O j).nW) (fun j=>if j=r then cw else C j)) r++z4Z (nmAt rd root) B' (fun j=>if j=r then aw else A j) (fun j=>(O j).nW) (fun j=>if j=r then cw else C j) r);rw[z1f (h:=z4Z (nmAt rd root) B' A (fun j=>(O j).nW) C) (fun j hj=>by unfold z4Z;simp only[if_neg (show j≠r by omega)])];have:=hG2.own;unfold z4Z;simp only[if_pos];exact this
           ·by_cases e:j=r
            ·subst e;simp only[if_pos];exact World.ownsRow.mono ((hOz'.alloc _).kept hG2.grown (z4j hOz' hRPd.own (by decide))) hBr
            ·simp only[if_neg e];exact((hRPd.row j (by omega)).alloc _).kept hG2.grown (z4j (hRPd.row j (by omega)) hRPd.own (by decide))
          have hb5:Below w4.heap.size w4 W2:=((hbr.trans (hbd.mono hbr.size)).trans (hbal.mono (Nat.le_trans hBr hbd.size))).trans hG2.below;clear hG2;refine oG 11 fun K hK=>?_
          go_wp2_with fail;refine hK _ _ ⟨cell_later hbal hSS.1,cell_later hbal hSS.2⟩ ?_;clear hK hSS hbal hOz' hRPd hbd;refine lG 12 fun K hK=>?_
          go_wp2_with (at_builtin;refine z0b rfl (.tmp 97) (.tmp 108) 64 rfl _ _ _ rfl rfl happ2 ?_);refine hK _ _ ?_;clear hK happ2;refine tA 13 ?_;refine z1c (by kernel_rfl) ?_ _;go_wp2;go_roundw
          case rel=>exact⟨r+1,v2,_,_,by omega,by go_num,rfl,hRP3,hb5⟩
          case measure=>simp[intOf];omega
       ·obtain rfl:r=i:=by omega
        have hpo:=World.ownsRow.mono (z0e hPO hbr) hb13.size;have hFN:Hid (RLoadEnd wr w.heap.size rd root (.returned (.tuple #[u14,.slice aq pl.length cq,.int .i64 0]))):=HFIN.out wr u14 (.slice aq pl.length cq) A C (hRP.base hb14.size) hpo;have hbz:=hb14.trans (hbr.mono hb14.size);clear HFIN hRP hpo hPO hrq hrow4 hru hr4 hbr;go_wp2;go_ret3;exact⟨hFN.out,hbz⟩
end
end Go.Proofs.YtbcpcbonlhlhpaaGreatDoor
