/- What ScopeOf of the document returns, for all files and -/
import Derived.Test.YtbcpcbonlhlhpaaGreatDoorRefRead
import Derived.Lib.SliceRun
set_option maxRecDepth 100000
set_option maxHeartbeats 8000000
namespace Go.Proofs.YtbcpcbonlhlhpaaGreatDoor
section
open Go.RowKit Go.Maps
inductive ROfEnd (w:World) (B:Nat) (rd:ByteArray->Nat×ObjF) (root:ByteArray):Ending->Prop
 |bad (F i:Nat) (h:OfIs rd root F i) (hf:F≠0):ROfEnd w B rd root (.returned (.tuple #[.slice none 0 0,.slice none 0 0,.int .i64 (F:Int)]))
 |ok (i:Nat) (u x:Value) (V:Nat->ObjV) (h:OfIs rd root 0 i) (hu:z5n w B u (z0g rd root i)) (hx:ObjsIn w B x i V fun j=>(rd (nmAt rd root j)).2):ROfEnd w B rd root (.returned (.tuple #[u,x,.int .i64 0]))
theorem any_mem(N:List ByteArray)(s:ByteArray)(n:Nat)(hn:n=N.length):z0H (fun j=>decide (N.getD j ⟨#[]⟩=s)) n=memB N s:=by subst hn;exact anyTo_mem
theorem grown_drewN{w W:World}{row:Option Nat}(h:w.grownBy W row)(j:Nat):w.grownBy (W.drewN j) row:=⟨h.os,h.tape,h.output,h.size,h.block⟩
theorem refScopeOf_any(B:Nat)(w:World)(q:Nat)(L:List z0u)(k:Nat)(D:DataW Unit)(T:ByteArray->ByteArray)(root:ByteArray)(h:RAt B w q L k)(hL:L.length<=1000)(hA:z3I D L)(hI:Inv D k)(hT:z4C D T) :
 Calls Tryz.prog 56 #[.pointer (some ⟨q,0,none⟩),.string root] w fun e w'=>ROfEnd w' w.heap.size (rdD D T) root e/\Below w.heap.size w w':=by
 have hO0:z5n (w.alloc (.cells #[.string root] 9)) w.heap.size (.slice (some ⟨w.heap.size,0,none⟩) 1 1) [root]:=by
  have e:(w.alloc (.cells #[.string root] 9)).heap[w.heap.size]?=some (.cells #[.string root] 9):=by
   show(w.heap.push _)[w.heap.size]?=_;rw[Array.getElem?_push_size]
  exact⟨rfl,.inr ⟨w.heap.size,1,#[.string root],rfl,Nat.le_refl _,e,Nat.le_refl _,by simp[maxLen],rfl,rfl⟩⟩
 have hx0:Below w.heap.size w (w.alloc (.cells #[.string root] 9)):=(Below.refl _ _).alloc (Nat.le_refl _) _;have hfew:=z6y (T:=T) hI;have HRD:Hid (∀s,rdD D T s=if Maps.has D (keyB s)=true then z0k (T s)else(5,z0d)):=fun s=>rfl
 have HOK:Hid (∀s,(rdD D T s).1=0->z3J (rdD D T s).2):=fun s h=>rd_ok h
 generalize rdD D T=rd at *;go_enter Tryz.func56,Tryz.ntmps56;go_wp2;go_loopw [7,8,9,10,11,12,13,14,15,16] (fun a b z _ _ _ _ _ _ _ wr=>∃(i:Nat) (u x:Value) (V:Nat->ObjV),i<=6/\z=.int .i64 i/\a=u/\b=x/\z5n wr w.heap.size u (z0g rd root i)/\ObjsIn wr w.heap.size x i V (fun j=>(rd (nmAt rd root j)).2) /\
  (∀j,j<i->z2g (V j) (rd (nmAt rd root j)).2 u.ownBlock/\z2g (V j) (rd (nmAt rd root j)).2 x.ownBlock)/\Hid (z5L rd root i)/\Below w.heap.size w wr) (fun _ _ z _ _ _ _ _ _ _ _=>7-(intOf z).toNat)
 case atStart=>exact⟨0,_,_,fun _=>noV,by omega,rfl,rfl,rfl,hO0,⟨World.ownsRow_nil _ _ _ _,fun j hj=>by omega⟩,fun j hj=>by omega,fun j hj=>by omega,hx0⟩
 case round=>
  clear hO0 hx0;obtain⟨i,u,x,V,hi6,rfl,rfl,rfl,ho,hx,hsep,HR,hb⟩:=hrel;have hnn:∀j,j<i->(rd (nmAt rd root j)).2.nN<=4:=fun j hj=>(HOK.out _ (HR.out j hj).2).nN
  have hlen:=names_len rd root i hnn;by_cases hlt:i<(z0g rd root i).length
  ·have hRd:=readR_is B wr q L k D (nmAt rd root i) (h.later hb) hL hA hI;obtain⟨au,cu,rfl,hcu,hru⟩:=z3H ho;have hB:=hb.size;rcases hru with h0|⟨bu,fu,rfl,hcn⟩
   ·omega
   have hci:wr.cell? ⟨bu,fu+i,none⟩=some (.string (nmAt rd root i)):=hcn i hlt;clear hcn;have hltu:∀j,(Value.slice (some ⟨bu,fu,none⟩) (z0g rd root i).length cu).ownBlock=some j->j<wr.heap.size:=fun j e=>(ho.lt j e).2
   have hltx:∀j,u8.ownBlock=some j->j<wr.heap.size:=fun j e=>(hx.own.lt j e).2
   have hi0:(0:Int)<=(i:Int):=by omega
   have hi1:(i:Int)<((z0g rd root i).length:Int):=by omega
   have HE:(rd (nmAt rd root i)).1≠0->OfIs rd root (rd (nmAt rd root i)).1 i:=fun hf=>.bad i HR.out hlt hf
   have HRi:=HRD.out (nmAt rd root i);go_wp2_with fail;refine(show Calls _ _ _ _ _ from hRd).mono ?_;rintro e w0 ⟨⟨t,st,f,rfl,hRI⟩,hb0⟩;clear hRd hci;have hb1:=hb.trans (hb0.mono hb.size);cases hh:Maps.has D (keyB (nmAt rd root i))with
   |false=>
    obtain⟨rfl,rfl,rfl⟩:=hRI.no hh;rw[hh,if_neg (by decide)]at HRi;rw[HRi]at HE;have HEE:Hid (OfIs rd root 5 i):=HE (by decide);clear HE HRi hRI hh hsep hltu hltx hx ho;go_wp2;go_ret3;exact⟨.bad 5 i HEE.out (by decide),hb1⟩
   |true=>
    obtain⟨rfl,hat⟩:=hRI.yes hh;obtain rfl:=hT.is _ _ _ hh hat;rw[hh,if_pos rfl]at HRi;clear hat hRI;have HOb:=z7j (T (nmAt rd root i)) w0;rw[<-HRi]at HOb;by_cases hf:(rd (nmAt rd root i)).1=0
    ·have HR2:Hid (z5L rd root (i+1)):=fun j hj=>by
      by_cases e:j=i
      ·subst e;exact⟨hlt,hf⟩
      ·exact HR.out j (by omega)
     have hi7:i+1<=6:=HR2.out.few hfew;have hok:z3J (rd (nmAt rd root i)).2:=HOK.out _ hf;have hn4:=hok.nN;rw[hf]at HOb;clear HRi HE hh;go_wp2_with fail;refine(show Calls _ _ _ _ _ from HOb).mono ?_;rintro e w1 ⟨⟨v,rfl,hAt,hNw⟩,hb1'⟩;clear HOb;have hb01:=hb0.trans (hb1'.mono hb0.size);have ho1:=z0e ho hb01;have hx1:∀j,j<i->z1C w1 (V j) (rd (nmAt rd root j)).2:=fun j hj=>(hx.at' j hj).later hb01
     have hxo1:=z0e hx.own hb01;have hb2:=hb.trans (hb01.mono hb.size);have hs1:=hb01.size;have hNu:=(hNw.lower hb0.size).sep hltu;have hNx:=(hNw.lower hb0.size).sep hltx;clear hNw hltu hltx hb01 hb0 hb1' hb1 hb hx ho;obtain⟨aN,cN,aW,cW,aS,cS,aT,cT⟩:=v;obtain⟨x',W,happ,hxW,hgW,hsnW⟩:=growObj (w:=w1.alloc (.cells #[.slice aN (rd (nmAt rd root i)).2.nN cN,.slice aW (rd (nmAt rd root i)).2.nW cW,.slice aS (rd (nmAt rd root i)).2.nS cS,.slice aT (rd (nmAt rd root i)).2.nT cT] 56)) (V:=V) (V':=fun j=>if j=i then⟨aN,cN,aW,cW,aS,cS,aT,cT⟩else V j) (O:=fun j=>(rd (nmAt rd root j)).2) ⟨aN,cN,aW,cW,aS,cS,aT,cT⟩ (by simp;have:=hb2.size;omega) (hxo1.alloc _) (by omega) (fun j hj=>by simp only[if_neg (show j≠i by omega)]) (by simp);have e1:(w1.alloc (.cells #[.slice aN (rd (nmAt rd root i)).2.nN cN,.slice aW (rd (nmAt rd root i)).2.nW cW,.slice aS (rd (nmAt rd root i)).2.nS cS,.slice aT (rd (nmAt rd root i)).2.nT cT] 56)).heap.size=w1.heap.size+1:=by simp
     rw[e1]at happ hsnW;clear e1;have hbA:Below w1.heap.size w1 ((w1.alloc (.cells #[.slice aN (rd (nmAt rd root i)).2.nN cN,.slice aW (rd (nmAt rd root i)).2.nW cW,.slice aS (rd (nmAt rd root i)).2.nS cS,.slice aT (rd (nmAt rd root i)).2.nT cT] 56)).alloc (.cells #[.slice aN (rd (nmAt rd root i)).2.nN cN,.slice aW (rd (nmAt rd root i)).2.nW cW,.slice aS (rd (nmAt rd root i)).2.nS cS,.slice aT (rd (nmAt rd root i)).2.nT cT] 56)):=((Below.refl _ _).alloc (Nat.le_refl _) _).alloc (by simp) _;have hoW:z5n W w.heap.size (.slice (some ⟨bu,fu,none⟩) (z0g rd root i).length cu) (z0g rd root i):=((ho1.alloc _).alloc _).kept hgW (z4j ho1 hxo1 (by decide));have hxW1:∀j,j<i->z1C W (V j) (rd (nmAt rd root j)).2:=fun j hj=>((hx1 j hj).later hbA).grown hgW (hsep j hj).2
     have hAW:z1C W ⟨aN,cN,aW,cW,aS,cS,aT,cT⟩ (rd (nmAt rd root i)).2:=(hAt.later hbA).grown hgW hNx;have hne:some w1.heap.size≠u8.ownBlock:=fun e=>by have:=(hxo1.lt _ e.symm).2;omega
     have hneu:some w1.heap.size≠(Value.slice (some ⟨bu,fu,none⟩) (z0g rd root i).length cu).ownBlock:=fun e=>by have:=(ho1.lt _ e.symm).2;omega
     have c0:W.cell? ⟨w1.heap.size,0,none⟩=some (.slice aN (rd (nmAt rd root i)).2.nN cN):=hgW.cell (by simp[go_sem]) hne;have hbW:Below w.heap.size w W:=(hb2.trans (hbA.mono hb2.size)).grown hgW (Nat.le_trans hb2.size hbA.size) (fun j e=>(hxo1.lt j e).1);have hsx2:∀j,j<i+1->z2g ((fun j=>if j=i then(⟨aN,cN,aW,cW,aS,cS,aT,cT⟩:ObjV)else V j) j) (rd (nmAt rd root j)).2 x'.ownBlock:=fun j hj=>by
      by_cases e:j=i
      ·subst e;simp only[if_pos];exact z2g.next hAt hNx (Nat.le_succ _) hsnW
      ·simp only[if_neg e];exact z2g.next (hx1 j (by omega)) (hsep j (by omega)).2 (Nat.le_succ _) hsnW
     have hsu:∀j,j<i+1->z1C W ((fun j=>if j=i then(⟨aN,cN,aW,cW,aS,cS,aT,cT⟩:ObjV)else V j) j) (rd (nmAt rd root j)).2/\z2g ((fun j=>if j=i then(⟨aN,cN,aW,cW,aS,cS,aT,cT⟩:ObjV)else V j) j) (rd (nmAt rd root j)).2 (Value.slice (some ⟨bu,fu,none⟩) (z0g rd root i).length cu).ownBlock:=fun j hj=>by
      by_cases e:j=i
      ·subst e;simp only[if_pos];exact⟨hAW,hNu⟩
      ·simp only[if_neg e];exact⟨hxW1 j (by omega),(hsep j (by omega)).1⟩
     have hrN:=hAW.needs;have hsepN:=hNu.needs;clear hx1 hAt hNu hNx hsep hxW1 hAW hbA hb2 ho1 hxo1 hsnW hne hgW hi0 hi1;unfold ObjV.cells;generalize (fun j=>if j=i then(⟨aN,cN,aW,cW,aS,cS,aT,cT⟩:ObjV)else V j)=V2 at *;have hsuc:z0g rd root (i+1)=z2C (z0g rd root i) (z0V (rd (nmAt rd root i)).2 (rd (nmAt rd root i)).2.nN):=rfl;have HSUC:Hid (z0g rd root (i+1)=z2C (z0g rd root i) (z0V (rd (nmAt rd root i)).2 (rd (nmAt rd root i)).2.nN)):=hsuc;clear hsuc hf hok hfew HR hlt hnn HOK HRD;dsimp only at hrN hsepN;go_wp2_with (at_builtin;refine z0b rfl (.tmp 46) (.tmp 48) 137 rfl u8 (.slice (some ⟨w1.heap.size+1,0,none⟩) 1 1) _ rfl rfl happ ?_);generalize hO:(rd (nmAt rd root i)).2=o at *;generalize hN:z0g rd root i=N at *;go_loopw [7,14,15,16] (fun y7 y14 _ _ wk=>∃(m:Nat) (uu:Value),m<=o.nN/\y14=.int .i64 m/\y7=uu/\z5n wk w.heap.size uu (z2C N (z0V o m))/\z2M W.heap.size (.slice (some ⟨bu,fu,none⟩) N.length cu) uu/\W.grownBy wk (Value.slice (some ⟨bu,fu,none⟩) N.length cu).ownBlock) (fun _ y14 _ _ _=>o.nN-(intOf y14).toNat)
     case atStart=>exact⟨0,_,Nat.zero_le _,rfl,rfl,hoW,.inl rfl,grownBy_refl _ _⟩
     case round=>
      obtain⟨m,uu,hm,rfl,rfl,hou,hsn,hg⟩:=hrel;have hlen2:=joinL_len N (z0V o m);have hln2:(z0V o m).length=m:=by simp[z0V]
      have c0k:=hg.cell c0 hneu;by_cases hlm:m<o.nN
      ·have hrk:=hrN.grown hg hsepN;rcases hrk with h0|⟨bN,fN,rfl,hcN⟩
       ·omega
       have hcm:=hcN m hlm;obtain⟨av,cv,rfl,_,hrv⟩:=z3H hou;have hm0:(0:Int)<=(m:Int):=by omega
       have hm1:(m:Int)<(o.nN:Int):=by omega
       have hsuc2:=joinL_snoc N (z0V o m) (o.needs m);rw[<-needsTo_succ]at hsuc2;have hszk:w.heap.size<=wr.heap.size:=Nat.le_trans hbW.size hg.size;clear hcN;obtain⟨M,hM⟩:∃M,z2C N (z0V o m)=M:=⟨_,rfl⟩;rw[hM]at hsuc2 hou hlen2 hrv hsn;rw[hM];go_wp2;go_loopw [15,16] (fun y15 y16 wz=>∃(z d:Nat),z<=M.length/\y16=.int .i64 z/\y15=.bool (z0H (fun j=>decide (M.getD j ⟨#[]⟩=o.needs m)) z)/\wz=wr.drewN d) (fun _ y16 _=>M.length-(intOf y16).toNat)
       case atStart=>exact⟨0,0,Nat.zero_le _,rfl,rfl,rfl⟩
       case round=>
        obtain⟨z,d,hz,rfl,rfl,rfl⟩:=hrel;by_cases hlz:z<M.length
        ·rcases hrv with h0|⟨bv,fv,rfl,hcv⟩
         ·omega
         have hcz:wr.cell? ⟨bv,fv+z,none⟩=some (.string (M.getD z ⟨#[]⟩)):=hcv z hlz;have hz0:(0:Int)<=(z:Int):=by omega
         have hz1:(z:Int)<(M.length:Int):=by omega
         have z7c:z0H (fun j=>decide (M.getD j ⟨#[]⟩=o.needs m)) (z+1)=(z0H (fun j=>decide (M.getD j ⟨#[]⟩=o.needs m)) z||decide (M.getD z ⟨#[]⟩=o.needs m)):=rfl;obtain⟨b0,hb0⟩:∃b0,z0H (fun j=>decide (M.getD j ⟨#[]⟩=o.needs m)) z=b0:=⟨_,rfl⟩;obtain⟨b1,hb1⟩:∃b1,z0H (fun j=>decide (M.getD j ⟨#[]⟩=o.needs m)) (z+1)=b1:=⟨_,rfl⟩;rw[hb0,hb1]at z7c;have HB1:Hid (z0H (fun j=>decide (M.getD j ⟨#[]⟩=o.needs m)) (z+1)=b1):=hb1;rw[hb0];clear hb0 hb1;have hq:((M.getD z ⟨#[]⟩).toList==(o.needs m).toList)=decide (M.getD z ⟨#[]⟩=o.needs m):=z0z _ _;generalize decide (M.getD z ⟨#[]⟩=o.needs m)=dz at *;generalize M.getD z ⟨#[]⟩=nz at *;clear hcv;cases b0 with
         |true=>
          have hb1t:b1=true:=z7c;subst hb1t;clear hq z7c;go_wp2;go_quiet (fail);go_wp2;go_roundw
          case rel=>exact⟨z+1,_,by omega,by go_num,by rw[HB1.out],rfl⟩
          case measure=>simp[intOf];omega
         |false=>
          rw[Bool.false_or]at z7c;subst z7c;go_wp2;go_quiet (fail);go_wp2;go_roundw
          case rel=>exact⟨z+1,_,by omega,by go_num,by rw[HB1.out],rfl⟩
          case measure=>simp[intOf];omega
        ·obtain rfl:z=M.length:=by omega
         have hgd:=grown_drewN hg d;have houd:z5n (wr.drewN d) w.heap.size (.slice av M.length cv) M:=hou;rw[any_mem M (o.needs m) M.length rfl];cases hmem:memB M (o.needs m)with
         |true=>
          rw[if_pos hmem]at hsuc2;have ho2:z5n (wr.drewN d) w.heap.size (.slice av M.length cv) (z2C N (z0V o (m+1))):=by rw[hsuc2];exact houd
          clear hsuc2 hmem hou houd hM;go_wp2;go_roundw
          case rel=>exact⟨m+1,_,by omega,by go_num,rfl,ho2,hsn,hgd⟩
          case measure=>simp[intOf];omega
         |false=>
          rw[if_neg (by simp[hmem])]at hsuc2;have hszd:w.heap.size<=(wr.drewN d).heap.size:=hszk;obtain⟨v1,W1,happ1,hO1,hg1,hsn1⟩:=growTx (o.needs m) hszd houd (by omega);rw[<-hsuc2]at hO1;have hg2:W.grownBy W1 (Value.slice (some ⟨bu,fu,none⟩) N.length cu).ownBlock:=(hgd.andThen (World.grownBy_alloc (wr.drewN d) (.cells #[.string (o.needs m)] 9) none) (fun j hj=>by cases hj)).andThen hg1 (fun j hj=>by
           rcases hsn with e|⟨j',e,hj'⟩
           ·rw[e]at hj;exact .inr hj
           ·rw[e]at hj;injection hj with hj;subst hj;exact .inl hj')
          have hsn2:z2M W.heap.size (.slice (some ⟨bu,fu,none⟩) N.length cu) v1:=by
           rcases hsn1 with e|⟨j',e,hj'⟩
           ·rcases hsn with e2|⟨j2,e2,hj2⟩
            ·exact .inl (e.trans e2)
            ·exact .inr ⟨j2,e.trans e2,hj2⟩
           ·exact .inr ⟨j',e,Nat.le_trans hgd.size hj'⟩
          clear hsuc2 hmem hou houd hg1 hsn1 hsn hg hgd hM;go_wp2_with (at_builtin;refine z0b rfl (.tmp 78) (.tmp 84) 22 rfl (.slice av M.length cv) (.slice (some ⟨(wr.drewN d).heap.size,0,none⟩) 1 1) _ rfl rfl happ1 ?_);go_roundw
          case rel=>exact⟨m+1,v1,by omega,by go_num,rfl,hO1,hsn2,hg2⟩
          case measure=>simp[intOf];omega
      ·obtain rfl:m=o.nN:=by omega
       have hxW2:z5v w.heap.size wr x' (i+1) V2 (fun j=>(rd (nmAt rd root j)).2):=hxW.kept hg (z4j hxW hoW (by decide));have hA2:∀j,j<i+1->z1C wr (V2 j) (rd (nmAt rd root j)).2:=fun j hj=>(hsu j hj).1.grown hg (hsu j hj).2
       have hsep2:∀j,j<i+1->z2g (V2 j) (rd (nmAt rd root j)).2 u7.ownBlock/\z2g (V2 j) (rd (nmAt rd root j)).2 x'.ownBlock:=fun j hj=>⟨z2g.next (hsu j hj).1 (hsu j hj).2 (Nat.le_refl _) hsn,hsx2 j hj⟩
       have hbW2:Below w.heap.size w wr:=hbW.grown hg hbW.size (fun j e=>(hoW.lt j e).1);have hu2:z5n wr w.heap.size u7 (z0g rd root (i+1)):=by rw[HSUC.out];exact hou
       clear hou hsn hg hsu hsx2 hxW hoW hbW happ c0 hrN;go_wp2;go_roundw
       case rel=>exact⟨i+1,u7,x',V2,hi7,by go_num,rfl,rfl,hu2,⟨hxW2,hA2⟩,hsep2,HR2,hbW2⟩
       case measure=>simp[intOf];omega
    ·have HEE:Hid (OfIs rd root (rd (nmAt rd root i)).1 i):=HE hf;have H0:Hid ((rd (nmAt rd root i)).1≠0):=hf;have hpos:(0:Int)<(((rd (nmAt rd root i)).1:Nat):Int):=by omega
     clear hf HE HRi hsep hltu hltx hx ho hh;generalize (rd (nmAt rd root i)).1=F at *;go_wp2_with fail;refine(show Calls _ _ _ _ _ from HOb).mono ?_;rintro e w1 ⟨⟨v,rfl,hAt,hNw⟩,hb1'⟩;obtain⟨aN,cN,aW,cW,aS,cS,aT,cT⟩:=v;have hb2:=hb1.trans (hb1'.mono hb1.size);clear HOb hAt hNw;unfold ObjV.cells;go_wp2;go_ret3;exact⟨.bad _ i HEE.out H0.out,hb2.alloc hb2.size _⟩
  ·have hei:(z0g rd root i).length=i:=by
    have:i<=(z0g rd root i).length:=by
     cases i with
     |zero=>omega
     |succ j=>
      have h1:=(HR.out j (by omega)).1;have h2:(z0g rd root j).length<=(z0g rd root (j+1)).length:=(z4F rd root (Nat.le_succ j)).length_le;omega
    omega
   have HE:Hid (OfIs rd root 0 i):=.ok i HR.out hei;obtain⟨au,cu,rfl,hcu,hru⟩:=z3H ho;clear hru hsep HR;go_wp2;go_ret3;exact⟨.ok i _ _ V HE.out ho hx,hb⟩
end
section
open Go.RowKit
def z6I (w:World)(a:Option Addr)(n:Nat)(f m:Nat->Int):Prop:=
 n=0∨∃bk o,a=some ⟨bk,o,none⟩/\∀i,i<n->w.cell? ⟨bk,o+i*2,none⟩=some (.int .i64 (f i))/\w.cell? ⟨bk,o+i*2+1,none⟩=some (.int .i64 (m i))
theorem z6I.later{w w':World}{a:Option Addr}{n:Nat}{f m:Nat->Int}(h:z6I w a n f m)(hb:Below w.heap.size w w'):z6I w' a n f m:=by
 rcases h with h|⟨bk,o,ha,hc⟩
 ·exact .inl h
 ·exact .inr ⟨bk,o,ha,fun i hi=>⟨cell_later hb (hc i hi).1,cell_later hb (hc i hi).2⟩⟩
theorem round_any(n:Int)(w:World)(h0:0<=n)(h1:n<=1000):Calls Tryz.prog 244 #[.int .i64 n] w fun e w'=>e=.returned (.int .i64 (z0x n))/\w=w':=by
 go_enter Tryz.func244,Tryz.ntmps244;go_wp2;go_ret;exact⟨z3l (by unfold z0x;omega),rfl⟩
theorem apart_any(x m y k:Int)(w:World)(hx:-1000<=x/\x<=1000)(hm:-1000<=m/\m<=1000)(hy:-1000<=y/\y<=1000)(hk:-1000<=k/\k<=1000) :
 Calls Tryz.prog 264 #[.agg #[.int .i64 x,.int .i64 m],.agg #[.int .i64 y,.int .i64 k]] w fun e w'=>e=.returned (.bool (z2W x m y k))/\Below w.heap.size w w':=by
 obtain⟨x0,x1⟩:=hx;obtain⟨y0,y1⟩:=hy;obtain⟨m0,m1⟩:=hm;obtain⟨k0,k1⟩:=hk;have hb:∀o1 o2:Obj,Below w.heap.size w ((w.alloc o1).alloc o2):=fun o1 o2=>((Below.refl _ _).alloc (Nat.le_refl _) o1).alloc (by simp) o2
 by_cases h1:m<=0
 ·have HE:Hid (true=z2W x m y k):=by unfold Hid z2W;rw[eq_comm,decide_eq_true_eq];omega
  go_enter Tryz.func264,Tryz.ntmps264;go_wp2;go_ret;exact⟨z0w HE.out,hb _ _⟩
 ·by_cases h2:k<=0
  ·have HE:Hid (true=z2W x m y k):=by unfold Hid z2W;rw[eq_comm,decide_eq_true_eq];omega
   go_enter Tryz.func264,Tryz.ntmps264;go_wp2;go_ret;exact⟨z0w HE.out,hb _ _⟩
  ·by_cases h3:y<x
   ·have HE:Hid (decide (k<=x-y)=z2W x m y k):=by unfold Hid z2W;rw[Bool.eq_iff_iff];simp only[decide_eq_true_eq];omega
    go_enter Tryz.func264,Tryz.ntmps264;go_wp2;go_ret;exact⟨z0w HE.out,hb _ _⟩
   ·have HE:Hid (decide (m<=y-x)=z2W x m y k):=by unfold Hid z2W;rw[Bool.eq_iff_iff];simp only[decide_eq_true_eq];omega
    go_enter Tryz.func264,Tryz.ntmps264;go_wp2;go_ret;exact⟨z0w HE.out,hb _ _⟩
theorem inWindow_any(n:Int)(w:World):Calls Tryz.prog 262 #[.int .i64 n] w fun e w'=>e=.returned (.bool (decide (0<=n)&&decide (n<=256)))/\w=w':=by
 by_cases h1:0<=n
 all_goals by_cases h2:n<=256
 all_goals
  go_enter Tryz.func262,Tryz.ntmps262;go_wp2;go_ret;exact⟨z0w (by simp <;> omega),rfl⟩
theorem placeCheck_any(sz tf tm:Nat->Int)(a a':Option Addr)(ns c nt c':Nat)(w:World)(hn:ns<=maxLen)(hn':nt<=maxLen)(hr:z1z w a ns fun i=>.int .i64 (sz i))(ht:z6I w a' nt tf tm) :
 Calls Tryz.prog 241 #[.slice a ns c,.slice a' nt c'] w fun e w'=>e=.returned (errV (z1S ns sz nt tf tm))/\Below w.heap.size w w':=by
 unfold maxLen at hn hn';generalize hF:z1S ns sz nt tf tm=F;unfold z1S at hF;by_cases h1:6<ns∨20<nt
 ·rw[if_pos h1]at hF;subst hF;by_cases g1:(6:Int)<(ns:Int)
  ·clear h1;go_enter Tryz.func241,Tryz.ntmps241;go_wp2;go_ret;exact⟨rfl,Below.refl _ _⟩
  ·have g2:(20:Int)<(nt:Int):=by omega
   clear h1;go_enter Tryz.func241,Tryz.ntmps241;go_wp2;go_ret;exact⟨rfl,Below.refl _ _⟩
 ·rw[if_neg h1]at hF;have HF:Hid ((if z0H (fun i=>decide (sz i<1∨40<sz i)) ns=true then 1 else if z0H (fun i=>decide (tf i<0∨256<tf i∨tm i<0∨256<tm i)) nt=true then 1 else 0)=F):=hF;have g1:¬(6:Int)<(ns:Int):=by omega
  have g2:¬(20:Int)<(nt:Int):=by omega
  clear hF h1;go_enter Tryz.func241,Tryz.ntmps241;go_wp2;go_loopw [20] (fun x wr=>∃k:Nat,k<=ns/\x=.int .i64 k/\wr=w/\Hid (z0H (fun i=>decide (sz i<1∨40<sz i)) k=false)) (fun x _=>ns-(intOf x).toNat)
  case atStart=>exact⟨0,Nat.zero_le _,rfl,rfl,rfl⟩
  case round=>
   obtain⟨k,hk,rfl,hw,HK⟩:=hrel;replace hw:=hw.symm;subst hw;by_cases hlt:k<ns
   ·rcases hr with h0|⟨b,o,rfl,hc⟩
    ·omega
    have hck:=hc k hlt;clear hc;by_cases hz:sz k<1∨40<sz k
    ·have HE:Hid (F=1):=by
      show F=1;rw[<-HF.out,if_pos (z1D hlt (decide_eq_true hz))]
     by_cases hz1:sz k<1
     ·clear hz;go_wp2;go_ret;rw[HE.out];exact⟨rfl,Below.refl _ _⟩
     ·have hz2:40<sz k:=by omega
      clear hz;go_wp2;go_ret;rw[HE.out];exact⟨rfl,Below.refl _ _⟩
    ·have HE:Hid (z0H (fun i=>decide (sz i<1∨40<sz i)) (k+1)=false):=z2U HK.out (decide_eq_false hz);have hz1:¬sz k<1:=by omega
     have hz2:¬40<sz k:=by omega
     clear hz;go_wp2;go_roundw
     case rel=>exact⟨k+1,by omega,by go_num,trivial,HE⟩
     case measure=>simp[intOf];omega
   ·have e:k=ns:=by omega
    have HG:Hid ((if z0H (fun i=>decide (tf i<0∨256<tf i∨tm i<0∨256<tm i)) nt=true then 1 else 0)=F):=by
     have hq:¬z0H (fun i=>decide (sz i<1∨40<sz i)) ns=true:=by rw[<-e,HK.out];decide
     have:=HF.out;rw[if_neg hq]at this;exact this
    clear HF HK;subst e;go_wp2;go_loopw [34] (fun x wr=>∃k:Nat,k<=nt/\x=.int .i64 k/\Below w.heap.size w wr/\Hid (z0H (fun i=>decide (tf i<0∨256<tf i∨tm i<0∨256<tm i)) k=false)) (fun x _=>nt-(intOf x).toNat)
    case atStart=>exact⟨0,Nat.zero_le _,rfl,Below.refl _ _,rfl⟩
    case round=>
     obtain⟨j,hj,rfl,hb,HK⟩:=hrel;by_cases hlt:j<nt
     ·rcases ht with h0|⟨b,o,rfl,hc⟩
      ·omega
      have hc0:=cell_later hb (hc j hlt).1;have hc1:=cell_later hb (hc j hlt).2;have hx:∀ob:Obj,Below w.heap.size w (wr.alloc ob):=fun ob=>hb.alloc hb.size ob
      have HA:=fun(w:World)=>inWindow_any (tf j) w
      have HB:=fun(w:World)=>inWindow_any (tm j) w
      clear hc hr;by_cases hz:tf j<0∨256<tf j∨tm j<0∨256<tm j
      ·have HE:Hid (F=1):=by
        show F=1;rw[<-HG.out,if_pos (z1D hlt (decide_eq_true hz))]
       by_cases hz1:tf j<0∨256<tf j
       ·have e1:(decide (0<=tf j)&&decide (tf j<=256))=false:=by rw[Bool.and_eq_false_iff];simp;omega
        rw[e1]at HA;clear hz hz1 e1;go_wp2_with fail;refine(HA _).mono ?_;rintro e w' ⟨rfl,rfl⟩;go_wp2;go_ret;rw[HE.out];exact⟨rfl,hx _⟩
       ·have e1:(decide (0<=tf j)&&decide (tf j<=256))=true:=by simp;omega
        have e2:(decide (0<=tm j)&&decide (tm j<=256))=false:=by rw[Bool.and_eq_false_iff];simp;omega
        rw[e1]at HA;rw[e2]at HB;clear hz hz1 e1 e2;go_wp2_with fail;refine(HA _).mono ?_;rintro e w' ⟨rfl,rfl⟩;go_wp2_with fail;refine(HB _).mono ?_;rintro e w' ⟨rfl,rfl⟩;go_wp2;go_ret;rw[HE.out];exact⟨rfl,hx _⟩
      ·have HE:Hid (z0H (fun i=>decide (tf i<0∨256<tf i∨tm i<0∨256<tm i)) (j+1)=false):=z2U HK.out (decide_eq_false hz);have e1:(decide (0<=tf j)&&decide (tf j<=256))=true:=by simp;omega
       have e2:(decide (0<=tm j)&&decide (tm j<=256))=true:=by simp;omega
       rw[e1]at HA;rw[e2]at HB;clear hz e1 e2;go_wp2_with fail;refine(HA _).mono ?_;rintro e w' ⟨rfl,rfl⟩;go_wp2_with fail;refine(HB _).mono ?_;rintro e w' ⟨rfl,rfl⟩;go_wp2;go_roundw
       case rel=>exact⟨j+1,by omega,by go_num,hx _,HE⟩
       case measure=>simp[intOf];omega
     ·have e:j=nt:=by omega
      have HE:Hid (F=0):=by
       show F=0;rw[<-HG.out,if_neg];rw[<-e,HK.out];decide
      go_wp2;go_ret;rw[HE.out];exact⟨rfl,hb⟩
end
section
open Go.RowKit
theorem pages_any(n:Int)(w:World)(h0:0<=n)(h1:n<=1000):Calls Tryz.prog 82 #[.int .i64 n] w fun e w'=>e=.returned (.int .i64 (z0x n))/\w=w':=by
 by_cases h:0<n % 16
 ·go_enter Tryz.func82,Tryz.ntmps82;go_wp2;go_ret;exact⟨z3l (by unfold z0x;omega),rfl⟩
 ·go_enter Tryz.func82,Tryz.ntmps82;go_wp2;go_ret;exact⟨z3l (by unfold z0x;omega),rfl⟩
end
section
def z6o (hf hm:Nat->Int)(n:Nat)(z:Nat):Bool:=z0H (fun j=>decide (hf j<=(z:Int)/\(z:Int)<hf j+hm j)) n
def z6j (hf hm:Nat->Int)(n k:Nat)(z:Nat):Bool:=z6o hf hm n z||decide (hf n<=(z:Int)/\(z:Int)<hf n+k)
theorem usedTo_zero(hf hm:Nat->Int)(n z:Nat):z6j hf hm n 0 z=z6o hf hm n z:=by
 unfold z6j;rw[decide_eq_false (by omega),Bool.or_false]
theorem usedTo_full{hf hm:Nat->Int}{n k:Nat}(hk:hm n=k)(z:Nat):z6j hf hm n k z=z6o hf hm (n+1) z:=by
 unfold z6j z6o;simp only[z0H,hk]
theorem usedTo_succ{hf hm:Nat->Int}{n k x:Nat}(hx:hf n+k=x)(z:Nat):z6j hf hm n (k+1) z=if z=x then true else z6j hf hm n k z:=by
 unfold z6j;by_cases e:z=x
 ·rw[if_pos e];rw[decide_eq_true (show hf n<=(z:Int)/\(z:Int)<hf n+((k+1:Nat):Int) by omega),Bool.or_true]
 ·rw[if_neg e];congr 1;rw[Bool.eq_iff_iff];simp only[decide_eq_true_eq];omega
theorem usedB_congr{hf hm hf' hm':Nat->Int}{n z:Nat}(h:∀j,j<n->hf j=hf' j/\hm j=hm' j):z6o hf hm n z=z6o hf' hm' n z:=
 z3o fun i hi=>by rw[(h i hi).1,(h i hi).2]
def z5g (hf hm:Nat->Int)(n x:Nat):Nat->Bool
 |0=>true
 |k+1=>z5g hf hm n x k && !(z6o hf hm n (x+k))
theorem clearB_iff{hf hm:Nat->Int}{n x k:Nat}:z5g hf hm n x k=true ↔ ∀j,j<k->z6o hf hm n (x+j)=false:=by
 induction k with
 |zero=>simp[z5g]
 |succ k ih=>
  simp only[z5g,Bool.and_eq_true,ih,Bool.not_eq_true'];constructor
  ·rintro⟨h,h'⟩ j hj;by_cases e:j=k
   ·subst e;exact h'
   ·exact h j (by omega)
  ·intro h;exact⟨fun j hj=>h j (by omega),h k (by omega)⟩
theorem clearB_meets{hf hm:Nat->Int}{n x k:Nat}:z5g hf hm n x k = !(z2N hf hm n (x:Int) (k:Int)):=by
 rw[Bool.eq_iff_iff,clearB_iff,Bool.not_eq_true',meetsB_false];constructor
 ·intro h j hj;rw[apartB_iff];rintro z ⟨⟨a,b⟩,c,d⟩;have:=h (z-x).toNat (by omega);rw[<-Bool.not_eq_true]at this;apply this;unfold z6o;rw[z5M];exact⟨j,hj,decide_eq_true (by omega)⟩
 ·intro h j hj;rw[<-Bool.not_eq_true];intro hu;unfold z6o at hu;rw[z5M]at hu;obtain⟨i,hi,e⟩:=hu;rw[decide_eq_true_eq]at e;exact apartB_iff.1 (h i hi) ((x+j:Nat):Int) ⟨by omega,by omega⟩
theorem clearB_mono{hf hm:Nat->Int}{n x k r:Nat}(hk:k<=r)(h:z5g hf hm n x k=false):z5g hf hm n x r=false:=by
 rw[<-Bool.not_eq_true,clearB_iff]at h ⊢;exact fun h'=>h fun j hj=>h' j (by omega)
theorem usedB_far{hf hm:Nat->Int}{n z:Nat}(h:∀j,j<n->hf j+hm j<=600)(hz:600<=z):z6o hf hm n z=false:=by
 rw[<-Bool.not_eq_true];intro hu;unfold z6o at hu;rw[z5M]at hu;obtain⟨i,hi,e⟩:=hu;rw[decide_eq_true_eq]at e;have:=h i hi;omega
theorem meets_far{hf hm:Nat->Int}{n k:Nat}{many:Int}(h:∀j,j<n->hf j+hm j<=600)(hk:600<=16*k):z2N hf hm n (16*(k:Int)) many=false:=by
 rw[meetsB_false];intro j hj;have:=h j hj;unfold z2W;rw[decide_eq_true_eq];omega
end
section
open Go.RowKit
def rngC(f m:Nat->Int)(i:Nat):List Value:=[.int .i64 (f i),.int .i64 (m i)]
def intC(b:Nat->Int)(i:Nat):List Value:=[.int .i64 (b i)]
theorem rngC_len(f m:Nat->Int)(i:Nat):(rngC f m i).length=2:=rfl
theorem z6S (b:Nat->Int)(i:Nat):(intC b i).length=1:=rfl
theorem owns_apart{w:World}{B B':Nat}{e e':TypeId}{s s' n n':Nat}{v v':Value}{xs xs':List Value}(h:w.ownsRow B e s v n xs)(h':w.ownsRow B' e' s' v' n' xs')(he:e≠e'):v.ownBlock=none∨v.ownBlock≠v'.ownBlock:=by
 rcases h.2 with⟨rfl,_⟩|⟨g,cap,cur,rfl,_,hg,_⟩
 ·exact .inl rfl
 ·rcases h'.2 with⟨rfl,_⟩|⟨g',cap',cur',rfl,_,hg',_⟩
  ·exact .inr (by simp[Value.ownBlock])
  ·refine .inr fun e2=>?_
   simp[Value.ownBlock]at e2;subst e2;rw[hg]at hg';injection hg' with hg';injection hg' with _ h2 _;exact he h2
theorem rows_rng{w:World}{B:Nat}{e:TypeId}{v:Value}{n:Nat}{f m:Nat->Int}(h:w.ownsRow B e 2 v n (z0i (rngC f m) n)):∃a c,v=.slice a n c/\n<=c/\z6I w a n f m:=by
 obtain⟨a,c,rfl,hc⟩:=z0c h;refine⟨a,c,rfl,hc,?_⟩;by_cases h0:n=0
 ·exact .inl h0
 ·have key:∀i,i<n->∀j u,(rngC f m i)[j]?=some u->j<2->∃g,a=some ⟨g,0,none⟩/\B<=g/\w.cell? ⟨g,i*2+j,none⟩=some u:=fun i hi j u hu hj=>
   z0K h (by rw[z2G (fun i _=>rngC_len f m i) hi hj];exact hu)
  obtain⟨g,ha,_,_⟩:=key 0 (by omega) 0 _ rfl (by omega);refine .inr ⟨g,0,ha,fun i hi=>?_⟩;obtain⟨g1,ha1,_,h1⟩:=key i hi 0 _ rfl (by omega);obtain⟨g2,ha2,_,h2⟩:=key i hi 1 _ rfl (by omega);rw[ha]at ha1 ha2;injection ha1 with ha1;injection ha1 with ha1;injection ha2 with ha2;injection ha2 with ha2;subst ha1 ha2;exact⟨by simpa using h1,by simpa using h2⟩
theorem z5a {w:World}{B:Nat}{e:TypeId}{v:Value}{n:Nat}{b:Nat->Int}(h:w.ownsRow B e 1 v n (z0i (intC b) n)):∃a c,v=.slice a n c/\n<=c/\z1z w a n fun i=>.int .i64 (b i):=by
 obtain⟨a,c,rfl,hc⟩:=z0c h;refine⟨a,c,rfl,hc,?_⟩;by_cases h0:n=0
 ·exact .inl h0
 ·have key:∀i,i<n->∃g,a=some ⟨g,0,none⟩/\B<=g/\w.cell? ⟨g,i,none⟩=some (.int .i64 (b i)):=fun i hi=>
   z0K h (by have:=z2G (g:=intC b) (s:=1) (n:=n) (i:=i) (j:=0) (fun i _=>z6S b i) hi (by omega);simpa[intC]using this)
  obtain⟨g,ha,_,_⟩:=key 0 (by omega);refine .inr ⟨g,0,ha,fun i hi=>?_⟩;obtain⟨g1,ha1,_,h1⟩:=key i hi;rw[ha]at ha1;injection ha1 with ha1;injection ha1 with ha1;subst ha1;simpa using h1
theorem growInt{B:Nat}{w:World}{v:Value}{n:Nat}{b:Nat->Int}(x:Int)(hB:B<=w.heap.size)(h:w.ownsRow B 3 1 v n (z0i (intC b) n))(hn:n<1000000) :
 ∃v' W,(Builtin.append_ #[52,52] 52 #[v,.slice (some ⟨w.heap.size,0,none⟩) 1 1]).run Tryz.prog (w.alloc (.cells #[.int .i64 x] 3))=.ok v' W/\Grown B 3 1 (w.alloc (.cells #[.int .i64 x] 3)) v (n+1) (z0i (intC b) n++[.int .i64 x]) v' W:=
 z0J 52 3 1 8 (.int .i64 0) (by kernel_rfl) (by kernel_rfl) (by rfl) (by decide) B _ v n _ (h.alloc _) (some ⟨w.heap.size,0,none⟩) 1 1 [.int .i64 x] rfl
  (.inr ⟨_,_,rfl,fun j u hj=>by
    match j,hj with
    |0,hj=>simp at hj;subst hj;simp[go_sem]
    |j+1,hj=>simp at hj⟩) (fun u hu=>by simp at hu;subst hu;rfl) (by simp;omega) (by omega) (by decide)
theorem growRng{B:Nat}{w:World}{v:Value}{n:Nat}{f m:Nat->Int}(x y:Int)(hB:B<=w.heap.size)(h:w.ownsRow B 166 2 v n (z0i (rngC f m) n))(hn:n<1000000) :
 ∃v' W,(Builtin.append_ #[164,164] 164 #[v,.slice (some ⟨w.heap.size,0,none⟩) 1 1]).run Tryz.prog (w.alloc (.cells #[.int .i64 x,.int .i64 y] 166))=.ok v' W/\Grown B 166 2 (w.alloc (.cells #[.int .i64 x,.int .i64 y] 166)) v (n+1) (z0i (rngC f m) n++[.int .i64 x,.int .i64 y]) v' W:=
 z0J 164 166 2 16 (.agg #[.int .i64 0,.int .i64 0]) (by kernel_rfl) (by kernel_rfl) (by rfl) (by decide) B _ v n _ (h.alloc _) (some ⟨w.heap.size,0,none⟩) 1 1 [.int .i64 x,.int .i64 y] rfl
  (.inr ⟨_,_,rfl,fun j u hj=>by
    match j,hj with
    |0,hj=>simp at hj;subst hj;simp[go_sem]
    |1,hj=>simp at hj;subst hj;simp[go_sem]
    |j+2,hj=>simp at hj⟩) (fun u hu=>by simp at hu;rcases hu with rfl|rfl <;> rfl) (by simp;omega) (by omega) (by decide)
theorem joinInt{b b':Nat->Int}{n:Nat}{x:Int}(h:∀i,i<n->b i=b' i)(hx:b' n=x):z0i (intC b) n++[.int .i64 x]=z0i (intC b') (n+1):=by
 show _=z0i (intC b') n++intC b' n;rw[z1f (h:=intC b') (fun i hi=>by simp[intC,h i hi])];simp[intC,hx]
theorem joinRng{f m f' m':Nat->Int}{n:Nat}{x y:Int}(h:∀i,i<n->f i=f' i/\m i=m' i)(hx:f' n=x)(hy:m' n=y):z0i (rngC f m) n++[.int .i64 x,.int .i64 y]=z0i (rngC f' m') (n+1):=by
 show _=z0i (rngC f' m') n++rngC f' m' n;rw[z1f (h:=rngC f' m') (fun i hi=>by simp[rngC,h i hi])];simp[rngC,hx,hy]
theorem rng_cells{w:World}{a:Option Addr}{n:Nat}{f m:Nat->Int}(h:z6I w a n f m):n=0∨∃b o,a=some ⟨b,o,none⟩/\∀j u,(z0i (rngC f m) n)[j]?=some u->w.cell? ⟨b,o+j,none⟩=some u:=by
 rcases h with h|⟨b,o,ha,hc⟩
 ·exact .inl h
 ·refine .inr ⟨b,o,ha,fun j u hj=>?_⟩;have hlt:j<n*2:=by
   have:=(List.getElem?_eq_some_iff.1 hj).1;rw[z3B (fun i _=>rngC_len f m i)]at this;exact this
  have e:j=j / 2*2+j % 2:=by omega
  rw[e,z2G (fun i _=>rngC_len f m i) (by omega:j / 2<n) (by omega:j % 2<2)]at hj;have:=hc (j / 2) (by omega);have hm:j % 2=0∨j % 2=1:=by omega
  rcases hm with h2|h2
  ·rw[h2]at hj;simp[rngC]at hj;rw[e,h2];simpa[hj]using this.1
  ·rw[h2]at hj;simp[rngC]at hj;rw[e,h2,<-Nat.add_assoc];simpa[hj]using this.2
theorem rng_one{f m:Nat->Int}{n:Nat}:∀u∈z0i (rngC f m) n,u.oneCell'=true:=fun u hu=>by
 obtain⟨i,_,h⟩:=joinC_mem hu;simp[rngC]at h;rcases h with rfl|rfl <;> rfl
theorem cloneRng_any(f m:Nat->Int)(a:Option Addr)(n c:Nat)(w:World)(hn:n<=1000000)(hr:z6I w a n f m) :
 Calls Tryz.prog 242 #[.slice a n c] w fun e w'=>(∃v',e=.returned v'/\w'.ownsRow w.heap.size 166 2 v' n (z0i (rngC f m) n))/\Below w.heap.size w w':=by
 have q:∀(w:World) (a:Option Addr) (n c n' c':Nat),(binOp .eql 164 (.slice a n c) (.slice none n' c')).run Tryz.prog w=.ok (.bool a.isNone) w:=fun w a n c n' c'=>Lib.run_eql_slice_nil w _ _ a n c n' c' Tryz.underlying164
 cases a with
 |none=>
  have h0:n=0:=by
   rcases hr with h|⟨b,o,h,_⟩
   ·exact h
   ·cases h
  subst h0;go_enter Tryz.func242,Tryz.ntmps242;go_wp2;go_ret;exact⟨⟨_,rfl,World.ownsRow_nil _ _ _ _⟩,Below.refl _ _⟩
 |some ad=>
  obtain⟨v',W,happ,hG⟩:=z0J 164 166 2 16 (.agg #[.int .i64 0,.int .i64 0]) (by kernel_rfl) (by kernel_rfl) (by rfl) (by decide) w.heap.size (w.alloc (.cells #[] 166)) (.slice (some ⟨w.heap.size,0,none⟩) 0 0) 0 []
   (World.ownsRow_made w #[] 0 (Nat.le_refl _) (Nat.zero_le _) rfl) (some ad) n c (z0i (rngC f m) n) (z3B (fun i _=>rngC_len f m i)) (rng_cells (hr.later ((Below.refl _ _).alloc (Nat.le_refl _) _))) rng_one (by simp) (by omega) (by decide)
  clear hr;go_enter Tryz.func242,Tryz.ntmps242;go_wp2_with (at_builtin;refine z0b rfl _ _ 164 rfl _ _ _ rfl rfl happ ?_);go_ret;exact⟨⟨v',rfl,by simpa using hG.own⟩,((Below.refl _ _).alloc (Nat.le_refl _) _).trans hG.below⟩
end
end Go.Proofs.YtbcpcbonlhlhpaaGreatDoor
