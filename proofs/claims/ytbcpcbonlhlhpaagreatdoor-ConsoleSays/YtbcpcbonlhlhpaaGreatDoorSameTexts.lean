/- What Run of the console returns: to each line its answer; -/
import Derived.Test.YtbcpcbonlhlhpaaGreatDoorRefDrop
set_option maxRecDepth 100000
set_option maxHeartbeats 4000000
namespace Go.Proofs.YtbcpcbonlhlhpaaGreatDoor
section
open Go.RowKit Go.Maps
noncomputable def ansL (X:Nat->ByteArray):Nat->List (List UInt8)
 |0=>[]
 |i+1=>ansL X i++[ansAt X i]
theorem ansL_len(X:Nat->ByteArray):∀n,(ansL X n).length=n
 |0=>rfl
 |n+1=>by
  show(ansL X n++[_]).length=n+1;rw[List.length_append,ansL_len X n];rfl
theorem ansL_at(X:Nat->ByteArray):∀ {n i:Nat},i<n->(ansL X n)[i]?=some (ansAt X i)
 |0,_,h=>absurd h (Nat.not_lt_zero _)
 |n+1,i,h=>by
  show(ansL X n++[ansAt X n])[i]?=_;by_cases e:i=n
  ·subst e;rw[List.getElem?_append_right (by rw[ansL_len];exact Nat.le_refl _),ansL_len];simp
  ·rw[List.getElem?_append_left (by rw[ansL_len];omega)];exact ansL_at X (by omega)
abbrev st0:CSt:=⟨⟨#[]⟩,.map [],0,fun _=>z1g,0⟩
theorem begin_any(w:World)(hE:Env w) :
 Calls Tryz.prog 9 #[] w fun e w'=>∃z p pf bm l g s,e=.returned (.tuple #[.pointer (some ⟨z,0,none⟩),.nilIface])/\CAt w w' w.heap.size z p pf bm l g s st0/\CLow w w.heap.size z pf bm/\Well st0 0:=by
 have HN:=diskNew_any w 120 (by decide) (by decide);go_enter Tryz.func9,Tryz.ntmps9;go_wp2_with fail;refine(show Calls _ _ _ _ _ from HN).mono ?_;rintro e w1 ⟨p,rfl,hD1,hb1⟩;clear HN;have HF:=format_any w1 w.heap.size p 120 DSt.fresh (fun _=>z1g) hD1 rfl (by decide) rfl;go_wp2_with fail;refine(show Calls _ _ _ _ _ from HF).mono ?_;rintro e w2 ⟨rfl,⟨s,hD2,hSt,hl⟩,hS2⟩;clear HF;have hb2:=hb1.trans hS2.below;have HNF:=new_any w2;clear hD1 hS2 hb1;go_wp2_with fail;refine(show Calls _ _ _ _ _ from HNF).mono ?_;rintro e w3 ⟨pf,bm,rfl,hp,hbm,hF3,hb3⟩;clear HNF;have hD3:=hD2.later hb3;have hb3':=hb2.trans (hb3.mono hb2.size);have hpw:w.heap.size<=pf:=Nat.le_trans hb2.size hp;have hbw:w.heap.size<=bm:=Nat.le_trans hb2.size hbm;have HL:=loaderNew_any w3 w.heap.size p 120 pf s (fun _=>z1g) 0 hD3 hSt (hE.later hb3');clear hD2 hb2 hb3 hp hbm;go_wp2_with fail;refine(show Calls _ _ _ _ _ from HL).mono ?_;rintro e w4 ⟨l,g,rfl,_,hl4,hg4,hb4⟩;clear HL;have hb4':=hb3'.trans (hb4.mono hb3'.size);have hbx:Below w4.heap.size w4 (w4.alloc (.cells (sessC pf p l ⟨#[]⟩) 87)):=(Below.refl _ _).alloc (Nat.le_refl _) _;have hx:(w4.alloc (.cells (sessC pf p l ⟨#[]⟩) 87)).heap[w4.heap.size]?=some (.cells (sessC pf p l ⟨#[]⟩) 87 (0,0)):=Array.getElem?_push_size;have hF4:=hF3.later hb4;have HFIN:Hid (CAt w (w4.alloc (.cells (sessC pf p l ⟨#[]⟩) 87)) w.heap.size w4.heap.size p pf bm l g s st0/\CLow w w.heap.size w4.heap.size pf bm/\Well st0 0):=
  ⟨⟨hx,(hD3.later hb4).later hbx,hSt,hl,hl4.later hbx,hg4.later hbx,hF4.later hbx,hb4'.trans (hbx.mono hb4'.size)⟩,⟨Nat.le_refl _,hb4'.size,hpw,hbw⟩,
   ⟨Nat.zero_le _,Inv.empty,z2X.empty,z1y.empty,Nat.le_refl _,fun j hj=>absurd hj (Nat.not_lt_zero _),hSt.good,real_of hF4⟩⟩
 clear hD3 hSt hl hl4 hg4 hF3 hF4 hb4 hbx hx hb3' hb4';go_wp2;go_ret2;obtain⟨h1,h2,h3⟩:=HFIN.out;exact⟨_,_,_,_,_,_,_,rfl,h1,h2,h3⟩
theorem run_any(a:Option Addr)(n c:Nat)(X:Nat->ByteArray)(w:World)(hE:Env w)(hr:z1z w a n fun i=>.string (X i))(hn:n<=60)(harm:∀i,i<n->(32:UInt8)∈(X i).data.toList->wOf (X i).data.toList≠cArm) :
 Calls Tryz.prog 5 #[.slice a n c] w fun e w'=>(∃v,e=.returned (.tuple #[v,.nilIface])/\w'.ownsRow w.heap.size 9 1 v n (z1A (ansL X n))/\∀j,j<=n->Well (stAt X j) j)/\Below w.heap.size w w':=by
 have HB:=begin_any w hE;have hn6:¬(60:Int)<(n:Int):=by omega
 go_enter Tryz.func5,Tryz.ntmps5;go_wp2_with fail;refine(show Calls _ _ _ _ _ from HB).mono ?_;rintro e w1 ⟨z,p,pf,bm,l,g,s,rfl,hC,hlo,hw0⟩;clear HB;have HW0:Hid (∀j,j<=0->Well (stAt X j) j):=fun j hj=>by
  obtain rfl:j=0:=by omega
  exact hw0
 go_wp2;go_loopw [6,22] (fun y6 y22 wr=>∃(i l g:Nat) (s:DSt),i<=n/\y22=.int .i64 i/\wr.ownsRow w.heap.size 9 1 y6 i (z1A (ansL X i))/\CAt w wr w.heap.size z p pf bm l g s (stAt X i)/\Hid (∀j,j<=i->Well (stAt X j) j)) (fun _ y22 _=>n-(intOf y22).toNat)
 case atStart=>exact⟨0,l,g,s,Nat.zero_le _,rfl,World.ownsRow_nil _ _ _ _,hC,HW0⟩
 case round=>
  clear hC hw0 HW0;obtain⟨i,l,g,s,hi,rfl,hrow,hC,HW⟩:=hrel;by_cases hlt:i<n
  ·have hr2:=hr.later hC.below;rcases hr2 with h0|⟨bk,o,hao,hcc⟩
   ·omega
   have x0:wr.cell? ⟨bk,o+i,none⟩=some (.string (X i)):=hcc i hlt;have HA:=answer_any w wr w.heap.size z p pf bm l g s (stAt X i) i (X i) hC hlo (HW.out i (Nat.le_refl _)) (by omega) hE (harm i hlt);have hi0:(0:Int)<=(i:Int):=by omega
   have hi1:(i:Int)<(n:Int):=by omega
   have hnx:stAt X (i+1)=(sayC (stAt X i) (z1n (X i).data.toList)).1:=rfl;have hax:ansL X (i+1)=ansL X i++[(sayC (stAt X i) (z1n (X i).data.toList)).2]:=rfl;rw[<-hnx]at HA;obtain⟨a6,c6,rfl,_⟩:=z0c hrow;subst hao;clear hcc hr;generalize hnS:stAt X (i+1)=S1 at *;generalize hAL:ansL X (i+1)=A1 at *;have HNS:Hid (stAt X (i+1)=S1):=hnS;have HAL:Hid (ansL X (i+1)=A1):=hAL;generalize (sayC (stAt X i) (z1n (X i).data.toList)).2=an at *;have HAX:Hid (A1=ansL X i++[an]):=hax;clear hnx hax hnS hAL hC;generalize X i=ln at *;go_wp2_with fail;refine(show Calls _ _ _ _ _ from HA).mono ?_;rintro e w2 ⟨⟨t,rfl,ht⟩,⟨⟨l2,g2,s2,hC2⟩,hw2,ho2⟩⟩;clear HA x0;have hrow2:=z7G hrow ho2 (by decide);obtain⟨v9,W9,happ,hown,hbg,hgr⟩:=growStrs t an ht hC2.below.size hrow2 (by omega);have hal:Below w2.heap.size w2 (w2.alloc (.cells #[.string t] 9)):=(Below.refl _ _).alloc (Nat.le_refl _) _;have hC3:=hC2.later hal;have hC4:CAt w W9 w.heap.size z p pf bm l2 g2 s2 S1:=by
    have ho:Only [some 9] (w2.alloc (.cells #[.string t] 9)) W9:=⟨fun k ob hk hob=>(hgr.block k (Array.getElem?_eq_some_iff.1 hk).1 (fun e=>hob (by
     obtain⟨cc,hcc⟩:=z3C (hrow2.alloc (.cells #[.string t] 9)) e.symm;rw[hcc]at hk;injection hk with hk;subst hk;simp[z5l]))).trans hk⟩
    exact⟨ho.block _ _ hC3.sess (by simp[z5l]),hC3.disk.only ho (by decide) (by decide) (by decide),hC3.stands,hC3.calm,hC3.loader.only ho (by decide),hC3.shelf.only ho (by decide),hC3.files.only ho (by decide) (by decide),hC2.below.trans hbg⟩
   rw[<-HAX.out]at hown;obtain⟨a9,c9,rfl,_⟩:=z0c hown;have HNW:Hid (∀j,j<=i+1->Well (stAt X j) j):=fun j hj=>by
    by_cases e:j=i+1
    ·subst e;rw[HNS.out];exact hw2
    ·exact HW.out j (by omega)
   rw[<-HNS.out]at hC4;rw[<-HAL.out]at hown;clear hrow hrow2 hC2 hC3 hw2 ho2 hbg hgr hal HW ht HNS HAL HAX;go_wp2_with (at_builtin;refine z0b rfl (.tmp 26) (.tmp 30) 22 rfl _ _ _ rfl rfl happ ?_);go_wp2;go_roundw
   case rel=>exact⟨i+1,l2,g2,s2,by omega,by go_num,hown,hC4,HNW⟩
   case measure=>simp[intOf];omega
  ·obtain rfl:i=n:=by omega
   obtain⟨a6,c6,rfl,_⟩:=z0c hrow;have hb:=hC.below;have HROW:Hid (wr.ownsRow w.heap.size 9 1 (.slice a6 i c6) i (z1A (ansL X i))):=hrow;clear hrow hC hr harm;go_wp2;go_ret2;exact⟨⟨_,rfl,HROW.out,HW.out⟩,hb⟩
theorem runMany_any(a:Option Addr)(n c:Nat)(w:World)(hn:60<n) :
 Calls Tryz.prog 5 #[.slice a n c] w fun e w'=>e=.returned (.tuple #[.slice none 0 0,errV 2])/\w'=w:=by
 have hn6:(60:Int)<(n:Int):=by omega
 go_enter Tryz.func5,Tryz.ntmps5;go_wp2;go_ret2;exact⟨rfl,rfl⟩
end
section
open Go.RowKit Go.Maps
theorem write_ia:writeF (.map []) 0 bnA zzT=0:=by decide
abbrev fia:DataW Unit:=DataW.put (.map []) (keyB bnA) (z1s zzT.data.toList (((0:Nat):Int)+1))
theorem inv_ia:Inv fia 1:=Inv.put Inv.empty write_ia
theorem has_ia:Maps.has fia (keyB bnA)=true:=has_put_same ⟨[],rfl⟩ (z4p bnA) _
theorem rd_ia{T:ByteArray->ByteArray}(hT:z4C fia T):rdD fia T bnA=z0k zzT:=by
 have h2:fia.atKey (keyB bnA) (z1s [] 0)=z1s zzT.data.toList (((0:Nat):Int)+1):=atKey_put_same ⟨[],rfl⟩ (z4p bnA) _ _;have h3:=hT.is bnA zzT _ has_ia h2;unfold rdD;rw[if_pos has_ia,<-h3]
theorem of_one{rd:ByteArray->Nat×ObjF}{n:ByteArray}(hA:rd n=z0k zzT):OfIs rd n 0 1/\nmAt rd n 0=n:=by
 have e0:nmAt rd n 0=n:=rfl;have hn1:z0g rd n 1=[n]:=by
  show z2C [n] (z0V (rd n).2 (rd n).2.nN)=_;rw[hA,parse_zz.2.nN];rfl
 refine⟨.ok 1 (fun j hj=>?_) (by rw[hn1];rfl),e0⟩;obtain rfl:j=0:=by omega
 exact⟨by simp[z0g],by rw[e0,hA];exact parse_zz.1⟩
theorem reck_one{rd:ByteArray->Nat×ObjF}{n:ByteArray}(hA:rd n=z0k zzT):∃P Q,z0Z rd n 1 (fun _=>0) P Q/\z4m rd n 1 (fun _=>0) P Q 0 0=3/\(obAt rd n 0).nW=1/\(z0l rd n 1 (fun _=>0) P Q)=[(0,0,3)]:=by
 obtain⟨hO,e0⟩:=of_one hA;have o0:obAt rd n 0=(z0k zzT).2:=by show(rd (nmAt rd n 0)).2=_;rw[e0,hA]
 have sA:=parse_zz.2;obtain⟨P,Q,hP⟩:=finds_some (z1T 1 (obAt rd n));have t0:=sA.ties 0 (by decide);have hw:whereF (obAt rd n) P Q (fun _=>0) 0 0=some 0:=by
  unfold whereF;rw[o0,t0.2.1];rw[if_pos (by decide)]
 have ht:tieW (obAt rd n) P Q (fun _=>0) 0 0=(0,3):=by
  unfold tieW;rw[hw,o0,t0.2.1,t0.1,t0.2.2.1];decide
 have n0:(obAt rd n 0).nT=1:=by rw[o0,sA.nT];rfl
 have hp:z0l rd n 1 (fun _=>0) P Q=[(0,0,3)]:=by
  show []++z1E (obAt rd n) P Q (fun _=>0) 0 (obAt rd n 0).nT=_;rw[n0];show []++([]++[(0,(obAt rd n 0).tAt 0,(tieW (obAt rd n) P Q (fun _=>0) 0 0).2)])=_;rw[ht,o0,t0.1];rfl
 refine⟨P,Q,⟨hO,bases_zz.sizes fun i hi=>?_,fun _ _=>rfl,hP,?_⟩,?_,?_,hp⟩
 ·obtain rfl:i=0:=by omega
  show(1:Int)=((obAt rd n 0).nW:Int);rw[o0,sA.nW];rfl
 ·unfold allF;rw[if_neg (by decide),if_neg (by decide)];show seqF 0 (z0a (fun k=>(tieW (obAt rd n) P Q (fun _=>0) 0 k).1) (obAt rd n 0).nT)=0;rw[n0];show seqF 0 (seqF 0 (tieW (obAt rd n) P Q (fun _=>0) 0 0).1)=0;rw[ht];decide
 ·unfold z4m;rw[hp];show(if pP [(0,0,3)] 0=((0:Nat):Int)/\pT [(0,0,3)] 0=((0:Nat):Int)then pV [(0,0,3)] 0 else _)=3;rw[if_pos (by decide)];decide
 ·rw[o0,sA.nW];rfl
end
section
open Go.RowKit Go.Maps
def heX:Nat->ByteArray
 |0=>⟨#[108,105,110,101,32,119,111,114,100,32,53]⟩
 |1=>⟨#[108,105,110,101,32,98,97,115,101,32,48,32,51]⟩
 |2=>⟨#[111,98,106,101,99,116]⟩
 |3=>⟨#[119,114,105,116,101,32,97]⟩
 |4=>⟨#[108,111,97,100,32,97]⟩
 |5=>⟨#[98,117,105,108,100,32,97]⟩
 |6=>⟨#[108,111,97,100,32,97]⟩
 |7=>⟨#[101,110,116,114,121,32,97]⟩
 |8=>⟨#[102,108,121,32,104,105,103,104]⟩
 |_=>⟨#[]⟩
def heA:Nat->ByteArray
 |0=>⟨#[111,107]⟩
 |1=>⟨#[111,107]⟩
 |2=>⟨#[49,32,119,111,114,100,115]⟩
 |3=>⟨#[111,107]⟩
 |4=>⟨#[110,101,119,32,97,32,48,58,32,51]⟩
 |5=>⟨#[111,107]⟩
 |6=>⟨#[107,101,112,116,32,97,32,48,58,32,51]⟩
 |7=>⟨#[97,32,49,32,49,32,97,32,49,32,48,32,48,32,48,32,51]⟩
 |8=>⟨#[101,114,114,111,114,32,52]⟩
 |_=>⟨#[]⟩
theorem itoaK_one:Lib.itoa 1=[49]:=by
 unfold Lib.itoa;rw[if_neg (by decide),Lib.decDigits_one (by decide)];rfl
theorem itoaK_zero:Lib.itoa 0=[48]:=by
 unfold Lib.itoa;rw[if_neg (by decide),Lib.decDigits_one (by decide)];rfl
theorem itoaK_three:Lib.itoa 3=[51]:=by
 unfold Lib.itoa;rw[if_neg (by decide),Lib.decDigits_one (by decide)];rfl
theorem itoaK_four:Lib.itoa 4=[52]:=by
 unfold Lib.itoa;rw[if_neg (by decide),Lib.decDigits_one (by decide)];rfl
abbrev heT1:ByteArray:=⟨#[119,111,114,100,32,53,10]⟩
theorem he_st1:stAt heX 1=⟨heT1,.map [],0,fun _=>z1g,0⟩:=by
 show(sayC st0 (z1n (heX 0).data.toList)).1=_;rw[show z1n (heX 0).data.toList=.line [119,111,114,100,32,53]from rfl];show(⟨(⟨#[]⟩:ByteArray)++⟨[119,111,114,100,32,53].toArray⟩++⟨#[10]⟩,.map [],0,fun _=>z1g,0⟩:CSt)=_;rw[show(⟨#[]⟩:ByteArray)++⟨[119,111,114,100,32,53].toArray⟩++⟨#[10]⟩=heT1 by apply ByteArray.ext;simp]
theorem he_st2:stAt heX 2=⟨zzT,.map [],0,fun _=>z1g,0⟩:=by
 show(sayC (stAt heX 1) (z1n (heX 1).data.toList)).1=_;rw[he_st1,show z1n (heX 1).data.toList=.line [98,97,115,101,32,48,32,51]from rfl];show(⟨heT1++⟨[98,97,115,101,32,48,32,51].toArray⟩++⟨#[10]⟩,.map [],0,fun _=>z1g,0⟩:CSt)=_;rw[show heT1++⟨[98,97,115,101,32,48,32,51].toArray⟩++⟨#[10]⟩=zzT by apply ByteArray.ext;simp]
theorem he_st3:stAt heX 3=⟨zzT,.map [],0,fun _=>z1g,0⟩:=by
 show(sayC (stAt heX 2) (z1n (heX 2).data.toList)).1=_;rw[he_st2,show z1n (heX 2).data.toList=.object from rfl];rfl
theorem he_st4:stAt heX 4=⟨zzT,fia,1,fun _=>z1g,0⟩:=by
 show(sayC (stAt heX 3) (z1n (heX 3).data.toList)).1=_;rw[he_st3,show z1n (heX 3).data.toList=.write bnA from rfl];show(if writeF (.map []) 0 bnA zzT=0 then(⟨zzT,fia,1,fun _=>z1g,0⟩:CSt)else⟨zzT,.map [],0,fun _=>z1g,0⟩)=_;rw[if_pos write_ia]
theorem he_st5:stAt heX 5=⟨zzT,fia,1,fun _=>z1g,0⟩:=by
 show(sayC (stAt heX 4) (z1n (heX 4).data.toList)).1=_;rw[he_st4,show z1n (heX 4).data.toList=.load bnA from rfl];rfl
theorem names_ia:z2X fia:=fun x hx=>by
 by_cases e:x=bnA
 ·subst e;decide
 ·rw[has_put_other (fun q=>e (z2A q))]at hx;simp[Maps.has]at hx
theorem pos_ia:z1y fia:=z1y.put Inv.empty z1y.empty
theorem stamp_ia:stD fia bnA=1:=by
 have h2:fia.atKey (keyB bnA) (z1s [] 0)=z1s zzT.data.toList (((0:Nat):Int)+1):=atKey_put_same ⟨[],rfl⟩ (z4p bnA) _ _;exact((z6n fia).is bnA _ _ has_ia h2).symm
abbrev heS:CSt:=⟨zzT,fia,1,fun _=>z1g,0⟩
theorem he_made:∃(P Q:ByteArray->Int) (en:EntF),z0Z (rdC heS) bnA 1 (fun _=>0) P Q/\z4m (rdC heS) bnA 1 (fun _=>0) P Q 0 0=3/\(obAt (rdC heS) bnA 0).nW=1/\nmAt (rdC heS) bnA 0=bnA /\
 en=z4t (rdC heS) (stD fia) bnA 1 (fun _=>0) (z0l (rdC heS) bnA 1 (fun _=>0) P Q)/\entF en=0/\z5c fia (stD fia) en=true/\builtC heS bnA=(0,addV (fun _=>z1g) 0 en,1)/\getE (addV (fun _=>z1g) 0 en) 1 bnA=(true,en)/\(z0D en).dropLast=[97,32,49,32,49,32,97,32,49,32,48,32,48,32,48,32,51]:=by
 have hrd:rdC heS bnA=z0k zzT:=rd_ia (txD_is fia);obtain⟨P,Q,hR,hbd,hnW,hp⟩:=reck_one hrd;have e0:nmAt (rdC heS) bnA 0=bnA:=rfl;have hEF:=z7I (S:=stD fia) inv_ia names_ia pos_ia (z6n fia) (by decide) hR;have hfr:=made_fresh (S:=stD fia) inv_ia hR;refine⟨P,Q,_,hR,hbd,hnW,e0,rfl,hEF,hfr,?_,?_,?_⟩
 ·have hB:RBuilt heS.E heS.k (rdC heS) (stD heS.D) bnA _ _:=.put 1 (fun _=>0) P Q hR;rw[builtC_is hB];exact putE_add hEF (by rw[z4g (by decide)];decide) (by decide)
 ·have er:putE (fun _=>z1g) 0 (z4t (rdC heS) (stD fia) bnA 1 (fun _=>0) (z0l (rdC heS) bnA 1 (fun _=>0) P Q))=(0,addV (fun _=>z1g) 0 (z4t (rdC heS) (stD fia) bnA 1 (fun _=>0) (z0l (rdC heS) bnA 1 (fun _=>0) P Q)),1):=putE_add hEF (by rw[z4g (by decide)];decide) (by decide);exact getE_put er rfl fun i j hi hj _=>by
   have hi':i<1:=hi;have hj':j<1:=hj;omega
 ·unfold z0D entW z2c;rw[hp];show(Lib.join ([bnA.data.toList,Lib.itoa ((1:Nat):Int),Lib.itoa ((1:Nat):Int)]++([]++[(nmAt (rdC heS) bnA 0).data.toList,Lib.itoa (stD fia (nmAt (rdC heS) bnA 0)),Lib.itoa 0])++([]++[Lib.itoa (pP [(0,0,3)] 0),Lib.itoa (pT [(0,0,3)] 0),Lib.itoa (pV [(0,0,3)] 0)])) [32]++[10]).dropLast=_;rw[e0,stamp_ia,show pP [(0,0,3)] 0=0 from rfl,show pT [(0,0,3)] 0=0 from rfl,show pV [(0,0,3)] 0=3 from rfl,show Lib.itoa ((1:Nat):Int)=[49]from itoaK_one,show Lib.itoa 1=[49]from itoaK_one,itoaK_zero,itoaK_three];rfl
theorem he_load{P Q:ByteArray->Int}(hR:z0Z (rdC heS) bnA 1 (fun _=>0) P Q)(hbd:z4m (rdC heS) bnA 1 (fun _=>0) P Q 0 0=3)(hnW:(obAt (rdC heS) bnA 0).nW=1)(e0:nmAt (rdC heS) bnA 0=bnA):loadC (rdC heS) bnA=(0,[97,32,48,58,32,51]):=by
 rw[loadC_ok hR];show(0,Lib.join ([]++[partT (nmAt (rdC heS) bnA 0) 0 (z4m (rdC heS) bnA 1 (fun _=>0) P Q 0) (obAt (rdC heS) bnA 0).nW]) [59,32])=_;rw[e0,hnW];unfold partT;show(0,Lib.join ([]++[bnA.data.toList++[32]++Lib.itoa 0++[58]++([]++([32]++Lib.itoa (z4m (rdC heS) bnA 1 (fun _=>0) P Q 0 0)))]) [59,32])=_;rw[hbd,itoaK_zero,itoaK_three];rfl
theorem hello_ans:∀i,i<9->ansAt heX i=(heA i).data.toList:=by
 obtain⟨P,Q,en,hR,hbd,hnW,e0,hen,hEF,hfr,hbc,hget,hln⟩:=he_made;have hld:=he_load hR hbd hnW e0;have st6:stAt heX 6=⟨zzT,fia,1,addV (fun _=>z1g) 0 en,1⟩:=by
  show(sayC (stAt heX 5) (z1n (heX 5).data.toList)).1=_;rw[he_st5,show z1n (heX 5).data.toList=.build bnA from rfl];show(⟨zzT,fia,1,(builtC heS bnA).2.1,(builtC heS bnA).2.2⟩:CSt)=_;rw[hbc]
 have st7:stAt heX 7=⟨zzT,fia,1,addV (fun _=>z1g) 0 en,1⟩:=by
  show(sayC (stAt heX 6) (z1n (heX 6).data.toList)).1=_;rw[st6,show z1n (heX 6).data.toList=.load bnA from rfl];rfl
 have st8:stAt heX 8=⟨zzT,fia,1,addV (fun _=>z1g) 0 en,1⟩:=by
  show(sayC (stAt heX 7) (z1n (heX 7).data.toList)).1=_;rw[st7,show z1n (heX 7).data.toList=.entry bnA from rfl];rfl
 intro i hi
 match i,hi with
 |0,_=>
  show(sayC st0 (z1n (heX 0).data.toList)).2=_;rw[show z1n (heX 0).data.toList=.line [119,111,114,100,32,53]from rfl];rfl
 |1,_=>
  show(sayC (stAt heX 1) (z1n (heX 1).data.toList)).2=_;rw[show z1n (heX 1).data.toList=.line [98,97,115,101,32,48,32,51]from rfl];rfl
 |2,_=>
  show(sayC (stAt heX 2) (z1n (heX 2).data.toList)).2=_;rw[he_st2,show z1n (heX 2).data.toList=.object from rfl];show(if (z0k zzT).1=0 then Lib.itoa (((z0k zzT).2.nW:Nat):Int)++manyT else _)=_;rw[if_pos parse_zz.1,parse_zz.2.nW];show Lib.itoa ((1:Nat):Int)++manyT=_;rw[show Lib.itoa ((1:Nat):Int)=[49]from itoaK_one];rfl
 |3,_=>
  show(sayC (stAt heX 3) (z1n (heX 3).data.toList)).2=_;rw[he_st3,show z1n (heX 3).data.toList=.write bnA from rfl];show z5z (writeF (.map []) 0 bnA zzT)=_;rw[write_ia];rfl
 |4,_=>
  show(sayC (stAt heX 4) (z1n (heX 4).data.toList)).2=_;rw[he_st4,show z1n (heX 4).data.toList=.load bnA from rfl];show(if (loadC (rdC heS) bnA).1=0 then(if keptC heS bnA=true then keptT else newT)++(loadC (rdC heS) bnA).2 else _)=_;rw[hld,if_pos rfl];have hk:keptC heS bnA=false:=by
   unfold keptC;rw[show getE heS.E heS.k bnA=(false,z1g)from if_pos (by rw[z4g (by decide)];decide)];rfl
  rw[hk];rfl
 |5,_=>
  show(sayC (stAt heX 5) (z1n (heX 5).data.toList)).2=_;rw[he_st5,show z1n (heX 5).data.toList=.build bnA from rfl];show z5z (builtC heS bnA).1=_;rw[hbc];rfl
 |6,_=>
  show(sayC (stAt heX 6) (z1n (heX 6).data.toList)).2=_;rw[st6,show z1n (heX 6).data.toList=.load bnA from rfl];show(if (loadC (rdC heS) bnA).1=0 then(if ((getE (addV (fun _=>z1g) 0 en) 1 bnA).1&&z5c fia (stD fia) (getE (addV (fun _=>z1g) 0 en) 1 bnA).2)=true then keptT else newT)++(loadC (rdC heS) bnA).2 else _)=_;rw[hld,if_pos rfl,hget];show(if (true&&z5c fia (stD fia) en)=true then keptT else newT)++_=_;rw[hfr];rfl
 |7,_=>
  show(sayC (stAt heX 7) (z1n (heX 7).data.toList)).2=_;rw[st7,show z1n (heX 7).data.toList=.entry bnA from rfl];show(if (getE (addV (fun _=>z1g) 0 en) 1 bnA).1=true then(z0D (getE (addV (fun _=>z1g) 0 en) 1 bnA).2).dropLast else _)=_;rw[hget];show(if true=true then(z0D en).dropLast else _)=_;rw[if_pos rfl,hln];rfl
 |8,_=>
  show(sayC (stAt heX 8) (z1n (heX 8).data.toList)).2=_;rw[show z1n (heX 8).data.toList=.bad from rfl];show z1h 4=_;unfold z1h;rw[show(((4:Nat):Int))=4 from rfl,itoaK_four];rfl
theorem hello_arm:∀i,i<9->(32:UInt8)∈(heX i).data.toList->wOf (heX i).data.toList≠cArm:=by
 intro i hi
 match i,hi with
 |0,_=>exact fun _=>by decide
 |1,_=>exact fun _=>by decide
 |2,_=>exact fun _=>by decide
 |3,_=>exact fun _=>by decide
 |4,_=>exact fun _=>by decide
 |5,_=>exact fun _=>by decide
 |6,_=>exact fun _=>by decide
 |7,_=>exact fun _=>by decide
 |8,_=>exact fun _=>by decide
end
section
open Go.RowKit
theorem z7f (a c:Option Addr)(ca cb:Nat)(w:World) :
 Calls Tryz.prog 8 #[.slice a 0 ca,.slice c 0 cb] w fun e w'=>e=.returned (.bool true)/\∃k,w'=w.drewN k:=by
 go_enter Tryz.func8,Tryz.ntmps8;go_wp2;refine wp_loop_rounds 1 ?_;rw[rounds_succ];go_wp2;go_ret;exact⟨rfl,0,rfl⟩
theorem sameTexts_some(f:Nat->ByteArray)(n:Nat)(bx ox cx bY oY cy:Nat)(w:World)(hm:n<=1000000000)
 (hx:∀i,i<n->w.cell? ⟨bx,ox+i,none⟩=some (.string (f i)))
 (hy:∀i,i<n->w.cell? ⟨bY,oY+i,none⟩=some (.string (f i))) :
 Calls Tryz.prog 8 #[.slice (some ⟨bx,ox,none⟩) n cx,.slice (some ⟨bY,oY,none⟩) n cy] w fun e w'=>e=.returned (.bool true)/\∃k,w'=w.drewN k:=by
 go_enter Tryz.func8,Tryz.ntmps8;go_wp2;go_loopw [5] (fun i wr=>∃k j:Nat,k<=n/\i=.int .i64 k/\wr=w.drewN j) (fun i _=>n-(intOf i).toNat)
 case atStart=>exact⟨0,0,Nat.zero_le _,rfl,rfl⟩
 case round=>
  obtain⟨k,j,hk,rfl,rfl⟩:=hrel;by_cases hlt:k<n
  ·have hxk:=hx k hlt;have hyk:=hy k hlt;clear hx hy;generalize f k=z at *;go_wp2;go_quiet (fail);go_wp2;go_roundw
   case rel=>exact⟨k+1,j+nq,by omega,by go_num,rfl⟩
   case measure=>simp[intOf];omega
  ·have hkn:k=n:=by omega
   subst hkn;clear hx hy;go_wp2;go_ret;exact⟨rfl,j,rfl⟩
theorem z5u (f g:Nat->ByteArray)(n:Nat)(a c:Option Addr)(ca cb:Nat)(w:World)(hm:n<=1000000000)
 (hx:z1z w a n fun i=>.string (f i)) (hy:z1z w c n fun i=>.string (g i)) (he:∀i,i<n->f i=g i) :
 Calls Tryz.prog 8 #[.slice a n ca,.slice c n cb] w fun e w'=>e=.returned (.bool true)/\∃k,w'=w.drewN k:=by
 rcases hx with h0|⟨b,o,rfl,hx⟩
 ·subst h0;exact z7f a c ca cb w
 ·rcases hy with h0|⟨b',o',rfl,hy⟩
  ·subst h0;exact z7f _ c ca cb w
  ·exact sameTexts_some f n b o ca b' o' cb w hm hx (fun i hi=>by rw[hy i hi,he i hi])
end
end Go.Proofs.YtbcpcbonlhlhpaaGreatDoor
