/- Plain words on the closed fact hello: what is answered to -/
import Derived.Test.YtbcpcbonlhlhpaaGreatDoorConsRun
namespace Go.Proofs.YtbcpcbonlhlhpaaGreatDoor
open Go.RowKit Go.Maps
def heX:Nat->ByteArray
 |0=>⟨#[108,105,110,101,32,119,111,114,100,32,53]⟩
 |1=>⟨#[108,105,110,101,32,98,97,115,101,32,48,32,51]⟩
 |2=>⟨#[111,98,106,101,99,116]⟩
 |3=>⟨#[119,114,105,116,101,32,97]⟩
 |4=>⟨#[108,111,97,100,32,97]⟩
 |5=>⟨#[98,117,105,108,100,32,97]⟩
 |6=>⟨#[108,111,97,100,32,97]⟩
 |7=>⟨#[101,110,116,114,121,32,97]⟩
 |8=>⟨#[102,108,121,32,104,105,103,104]⟩
 |_=>⟨#[]⟩
def heA:Nat->ByteArray
 |0=>⟨#[111,107]⟩
 |1=>⟨#[111,107]⟩
 |2=>⟨#[49,32,119,111,114,100,115]⟩
 |3=>⟨#[111,107]⟩
 |4=>⟨#[110,101,119,32,97,32,48,58,32,51]⟩
 |5=>⟨#[111,107]⟩
 |6=>⟨#[107,101,112,116,32,97,32,48,58,32,51]⟩
 |7=>⟨#[97,32,49,32,49,32,97,32,49,32,48,32,48,32,48,32,51]⟩
 |8=>⟨#[101,114,114,111,114,32,52]⟩
 |_=>⟨#[]⟩
theorem itoaK_one:Lib.itoa 1=[49]:=by
 unfold Lib.itoa;rw[if_neg (by decide),Lib.decDigits_one (by decide)];rfl
theorem itoaK_zero:Lib.itoa 0=[48]:=by
 unfold Lib.itoa;rw[if_neg (by decide),Lib.decDigits_one (by decide)];rfl
theorem itoaK_three:Lib.itoa 3=[51]:=by
 unfold Lib.itoa;rw[if_neg (by decide),Lib.decDigits_one (by decide)];rfl
theorem itoaK_four:Lib.itoa 4=[52]:=by
 unfold Lib.itoa;rw[if_neg (by decide),Lib.decDigits_one (by decide)];rfl
abbrev heT1:ByteArray:=⟨#[119,111,114,100,32,53,10]⟩
theorem he_st1:stAt heX 1=⟨heT1,.map [],0,fun _=>z1g,0⟩:=by
 show(sayC st0 (z1n (heX 0).data.toList)).1=_;rw[show z1n (heX 0).data.toList=.line [119,111,114,100,32,53]from rfl];show(⟨(⟨#[]⟩:ByteArray)++⟨[119,111,114,100,32,53].toArray⟩++⟨#[10]⟩,.map [],0,fun _=>z1g,0⟩:CSt)=_;rw[show(⟨#[]⟩:ByteArray)++⟨[119,111,114,100,32,53].toArray⟩++⟨#[10]⟩=heT1 by apply ByteArray.ext;simp]
theorem he_st2:stAt heX 2=⟨zzT,.map [],0,fun _=>z1g,0⟩:=by
 show(sayC (stAt heX 1) (z1n (heX 1).data.toList)).1=_;rw[he_st1,show z1n (heX 1).data.toList=.line [98,97,115,101,32,48,32,51]from rfl];show(⟨heT1++⟨[98,97,115,101,32,48,32,51].toArray⟩++⟨#[10]⟩,.map [],0,fun _=>z1g,0⟩:CSt)=_;rw[show heT1++⟨[98,97,115,101,32,48,32,51].toArray⟩++⟨#[10]⟩=zzT by apply ByteArray.ext;simp]
theorem he_st3:stAt heX 3=⟨zzT,.map [],0,fun _=>z1g,0⟩:=by
 show(sayC (stAt heX 2) (z1n (heX 2).data.toList)).1=_;rw[he_st2,show z1n (heX 2).data.toList=.object from rfl];rfl
theorem he_st4:stAt heX 4=⟨zzT,fia,1,fun _=>z1g,0⟩:=by
 show(sayC (stAt heX 3) (z1n (heX 3).data.toList)).1=_;rw[he_st3,show z1n (heX 3).data.toList=.write bnA from rfl];show(if writeF (.map []) 0 bnA zzT=0 then(⟨zzT,fia,1,fun _=>z1g,0⟩:CSt)else⟨zzT,.map [],0,fun _=>z1g,0⟩)=_;rw[if_pos write_ia]
theorem he_st5:stAt heX 5=⟨zzT,fia,1,fun _=>z1g,0⟩:=by
 show(sayC (stAt heX 4) (z1n (heX 4).data.toList)).1=_;rw[he_st4,show z1n (heX 4).data.toList=.load bnA from rfl];rfl
theorem names_ia:z2X fia:=fun x hx=>by
 by_cases e:x=bnA
 ·subst e;decide
 ·rw[has_put_other (fun q=>e (z2A q))]at hx;simp[Maps.has]at hx
theorem pos_ia:z1y fia:=z1y.put Inv.empty z1y.empty
theorem stamp_ia:stD fia bnA=1:=by
 have h2:fia.atKey (keyB bnA) (z1s [] 0)=z1s zzT.data.toList (((0:Nat):Int)+1):=atKey_put_same ⟨[],rfl⟩ (z4p bnA) _ _;exact((z6n fia).is bnA _ _ has_ia h2).symm
abbrev heS:CSt:=⟨zzT,fia,1,fun _=>z1g,0⟩
theorem he_made:∃(P Q:ByteArray->Int) (en:EntF),z0Z (rdC heS) bnA 1 (fun _=>0) P Q/\z4m (rdC heS) bnA 1 (fun _=>0) P Q 0 0=3/\(obAt (rdC heS) bnA 0).nW=1/\nmAt (rdC heS) bnA 0=bnA /\
 en=z4t (rdC heS) (stD fia) bnA 1 (fun _=>0) (z0l (rdC heS) bnA 1 (fun _=>0) P Q)/\entF en=0/\z5c fia (stD fia) en=true/\builtC heS bnA=(0,addV (fun _=>z1g) 0 en,1)/\getE (addV (fun _=>z1g) 0 en) 1 bnA=(true,en)/\(z0D en).dropLast=[97,32,49,32,49,32,97,32,49,32,48,32,48,32,48,32,51]:=by
 have hrd:rdC heS bnA=z0k zzT:=rd_ia (txD_is fia);obtain⟨P,Q,hR,hbd,hnW,hp⟩:=reck_one hrd;have e0:nmAt (rdC heS) bnA 0=bnA:=rfl;have hEF:=z7I (S:=stD fia) inv_ia names_ia pos_ia (z6n fia) (by decide) hR;have hfr:=made_fresh (S:=stD fia) inv_ia hR;refine⟨P,Q,_,hR,hbd,hnW,e0,rfl,hEF,hfr,?_,?_,?_⟩
 ·have hB:RBuilt heS.E heS.k (rdC heS) (stD heS.D) bnA _ _:=.put 1 (fun _=>0) P Q hR;rw[builtC_is hB];exact putE_add hEF (by rw[z4g (by decide)];decide) (by decide)
 ·have er:putE (fun _=>z1g) 0 (z4t (rdC heS) (stD fia) bnA 1 (fun _=>0) (z0l (rdC heS) bnA 1 (fun _=>0) P Q))=(0,addV (fun _=>z1g) 0 (z4t (rdC heS) (stD fia) bnA 1 (fun _=>0) (z0l (rdC heS) bnA 1 (fun _=>0) P Q)),1):=putE_add hEF (by rw[z4g (by decide)];decide) (by decide);exact getE_put er rfl fun i j hi hj _=>by
   have hi':i<1:=hi;have hj':j<1:=hj;omega
 ·unfold z0D entW z2c;rw[hp];show(Lib.join ([bnA.data.toList,Lib.itoa ((1:Nat):Int),Lib.itoa ((1:Nat):Int)]++([]++[(nmAt (rdC heS) bnA 0).data.toList,Lib.itoa (stD fia (nmAt (rdC heS) bnA 0)),Lib.itoa 0])++([]++[Lib.itoa (pP [(0,0,3)] 0),Lib.itoa (pT [(0,0,3)] 0),Lib.itoa (pV [(0,0,3)] 0)])) [32]++[10]).dropLast=_;rw[e0,stamp_ia,show pP [(0,0,3)] 0=0 from rfl,show pT [(0,0,3)] 0=0 from rfl,show pV [(0,0,3)] 0=3 from rfl,show Lib.itoa ((1:Nat):Int)=[49]from itoaK_one,show Lib.itoa 1=[49]from itoaK_one,itoaK_zero,itoaK_three];rfl
theorem he_load{P Q:ByteArray->Int}(hR:z0Z (rdC heS) bnA 1 (fun _=>0) P Q)(hbd:z4m (rdC heS) bnA 1 (fun _=>0) P Q 0 0=3)(hnW:(obAt (rdC heS) bnA 0).nW=1)(e0:nmAt (rdC heS) bnA 0=bnA):loadC (rdC heS) bnA=(0,[97,32,48,58,32,51]):=by
 rw[loadC_ok hR];show(0,Lib.join ([]++[partT (nmAt (rdC heS) bnA 0) 0 (z4m (rdC heS) bnA 1 (fun _=>0) P Q 0) (obAt (rdC heS) bnA 0).nW]) [59,32])=_;rw[e0,hnW];unfold partT;show(0,Lib.join ([]++[bnA.data.toList++[32]++Lib.itoa 0++[58]++([]++([32]++Lib.itoa (z4m (rdC heS) bnA 1 (fun _=>0) P Q 0 0)))]) [59,32])=_;rw[hbd,itoaK_zero,itoaK_three];rfl
theorem hello_ans:∀i,i<9->ansAt heX i=(heA i).data.toList:=by
 obtain⟨P,Q,en,hR,hbd,hnW,e0,hen,hEF,hfr,hbc,hget,hln⟩:=he_made;have hld:=he_load hR hbd hnW e0;have st6:stAt heX 6=⟨zzT,fia,1,addV (fun _=>z1g) 0 en,1⟩:=by
  show(sayC (stAt heX 5) (z1n (heX 5).data.toList)).1=_;rw[he_st5,show z1n (heX 5).data.toList=.build bnA from rfl];show(⟨zzT,fia,1,(builtC heS bnA).2.1,(builtC heS bnA).2.2⟩:CSt)=_;rw[hbc]
 have st7:stAt heX 7=⟨zzT,fia,1,addV (fun _=>z1g) 0 en,1⟩:=by
  show(sayC (stAt heX 6) (z1n (heX 6).data.toList)).1=_;rw[st6,show z1n (heX 6).data.toList=.load bnA from rfl];rfl
 have st8:stAt heX 8=⟨zzT,fia,1,addV (fun _=>z1g) 0 en,1⟩:=by
  show(sayC (stAt heX 7) (z1n (heX 7).data.toList)).1=_;rw[st7,show z1n (heX 7).data.toList=.entry bnA from rfl];rfl
 intro i hi
 match i,hi with
 |0,_=>
  show(sayC st0 (z1n (heX 0).data.toList)).2=_;rw[show z1n (heX 0).data.toList=.line [119,111,114,100,32,53]from rfl];rfl
 |1,_=>
  show(sayC (stAt heX 1) (z1n (heX 1).data.toList)).2=_;rw[show z1n (heX 1).data.toList=.line [98,97,115,101,32,48,32,51]from rfl];rfl
 |2,_=>
  show(sayC (stAt heX 2) (z1n (heX 2).data.toList)).2=_;rw[he_st2,show z1n (heX 2).data.toList=.object from rfl];show(if (z0k zzT).1=0 then Lib.itoa (((z0k zzT).2.nW:Nat):Int)++manyT else _)=_;rw[if_pos parse_zz.1,parse_zz.2.nW];show Lib.itoa ((1:Nat):Int)++manyT=_;rw[show Lib.itoa ((1:Nat):Int)=[49]from itoaK_one];rfl
 |3,_=>
  show(sayC (stAt heX 3) (z1n (heX 3).data.toList)).2=_;rw[he_st3,show z1n (heX 3).data.toList=.write bnA from rfl];show z5z (writeF (.map []) 0 bnA zzT)=_;rw[write_ia];rfl
 |4,_=>
  show(sayC (stAt heX 4) (z1n (heX 4).data.toList)).2=_;rw[he_st4,show z1n (heX 4).data.toList=.load bnA from rfl];show(if (loadC (rdC heS) bnA).1=0 then(if keptC heS bnA=true then keptT else newT)++(loadC (rdC heS) bnA).2 else _)=_;rw[hld,if_pos rfl];have hk:keptC heS bnA=false:=by
   unfold keptC;rw[show getE heS.E heS.k bnA=(false,z1g)from if_pos (by rw[z4g (by decide)];decide)];rfl
  rw[hk];rfl
 |5,_=>
  show(sayC (stAt heX 5) (z1n (heX 5).data.toList)).2=_;rw[he_st5,show z1n (heX 5).data.toList=.build bnA from rfl];show z5z (builtC heS bnA).1=_;rw[hbc];rfl
 |6,_=>
  show(sayC (stAt heX 6) (z1n (heX 6).data.toList)).2=_;rw[st6,show z1n (heX 6).data.toList=.load bnA from rfl];show(if (loadC (rdC heS) bnA).1=0 then(if ((getE (addV (fun _=>z1g) 0 en) 1 bnA).1&&z5c fia (stD fia) (getE (addV (fun _=>z1g) 0 en) 1 bnA).2)=true then keptT else newT)++(loadC (rdC heS) bnA).2 else _)=_;rw[hld,if_pos rfl,hget];show(if (true&&z5c fia (stD fia) en)=true then keptT else newT)++_=_;rw[hfr];rfl
 |7,_=>
  show(sayC (stAt heX 7) (z1n (heX 7).data.toList)).2=_;rw[st7,show z1n (heX 7).data.toList=.entry bnA from rfl];show(if (getE (addV (fun _=>z1g) 0 en) 1 bnA).1=true then(z0D (getE (addV (fun _=>z1g) 0 en) 1 bnA).2).dropLast else _)=_;rw[hget];show(if true=true then(z0D en).dropLast else _)=_;rw[if_pos rfl,hln];rfl
 |8,_=>
  show(sayC (stAt heX 8) (z1n (heX 8).data.toList)).2=_;rw[show z1n (heX 8).data.toList=.bad from rfl];show z1h 4=_;unfold z1h;rw[show(((4:Nat):Int))=4 from rfl,itoaK_four];rfl
theorem hello_arm:∀i,i<9->(32:UInt8)∈(heX i).data.toList->wOf (heX i).data.toList≠cArm:=by
 intro i hi
 match i,hi with
 |0,_=>exact fun _=>by decide
 |1,_=>exact fun _=>by decide
 |2,_=>exact fun _=>by decide
 |3,_=>exact fun _=>by decide
 |4,_=>exact fun _=>by decide
 |5,_=>exact fun _=>by decide
 |6,_=>exact fun _=>by decide
 |7,_=>exact fun _=>by decide
 |8,_=>exact fun _=>by decide
end Go.Proofs.YtbcpcbonlhlhpaaGreatDoor
