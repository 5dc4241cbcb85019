/- What Format, Open, Put, Get and Roots of package shelf do, -/
import Derived.Test.YtbcpcbonlhlhpaaGreatDoorPlainPut
import Derived.ArgAppend
set_option maxRecDepth 100000
set_option maxHeartbeats 8000000
namespace Go.Proofs.YtbcpcbonlhlhpaaGreatDoor
section
open Go.RowKit
theorem format_stands{s:DSt}{n:Nat}(h:s.down=false)(hn:112<=n)(hl:s.left=-1)(hx:s.next<64)(E:Nat->EntF):s.headF n 0 0=0/\z0X (s.headed n 0 0) n E 0/\(s.headed n 0 0).left=-1:=by
 have hf:s.falls=false:=by simp[DSt.falls,h,hl]
 obtain⟨e1,e2⟩:=write_head (s:=s) (n:=n) 0 0 hn;rw[if_neg (by simp[hf])]at e1 e2;have hf2:(s.stepped.put 0 (z3g 0 0)).falls=false:=by
  have:=z2I hl;show(s.down||decide (s.stepped.left=0))=false;simp[h,this]
 unfold DSt.headF DSt.headed;rw[e1,e2,if_pos rfl,if_pos rfl];unfold DSt.flushF DSt.flushed;rw[if_neg (by simp[hf2]),if_neg (by simp[hf2])];refine⟨rfl,⟨h,hn,fun _ _=>rfl,⟨by decide,fun i hi=>absurd hi (Nat.not_lt_zero _),fun i _ hi=>absurd hi (Nat.not_lt_zero _)⟩,0,0,by decide,by decide,?_,rfl⟩,z2I (z2I hl)⟩;show z2B 18446744073709551615 _ _=_;have k0:(s.stepped.put 0 (z3g 0 0)).K 0=⟨(s.K 0).kept,z1Y (s.K 0).late s.next++[(s.next,z3g 0 0)]⟩:=by
  show(if (0:Nat)=0 then _ else s.K 0)=_;rw[if_pos rfl];rfl
 show z2B _ ((s.stepped.put 0 (z3g 0 0)).K 0).kept ((s.stepped.put 0 (z3g 0 0)).K 0).late=_;rw[k0,keepTo_snoc,bitOf_all _ hx,if_pos rfl];rfl
theorem format_any(w:World)(B p n:Nat)(s:DSt)(E:Nat->EntF)(h:Disk w B p n s)(hup:s.down=false)(hn:112<=n)(hl:s.left=-1) :
 Calls Tryz.prog 31 #[.pointer (some ⟨p,0,none⟩)] w fun e w'=>e=.returned .nilIface/\(∃s',Disk w' B p n s'/\z0X s' n E 0/\s'.left=-1)/\Spun B w w':=by
 obtain⟨e0,hSt,hlf⟩:=format_stands hup hn hl h.nx E;have HS:=z6u w B p n s h;have HW:=writeHead_any w B p n s 0 0 h;rw[e0,show errV 0=.nilIface from rfl]at HW;simp only[show(((0:UInt8).toNat:Nat):Int)=0 from rfl]at HW;have hn':¬(n:Int)<112:=by omega
 go_enter Tryz.func31,Tryz.ntmps31;go_wp2_with fail;refine(show Calls _ _ _ _ _ from HS).mono ?_;rintro e w1 ⟨rfl,hw1⟩;subst hw1;clear HS;go_wp2_with fail;refine(show Calls _ _ _ _ _ from HW).mono ?_;rintro e w2 ⟨rfl,hD,hSp⟩;clear HW;go_wp2;go_ret;exact⟨rfl,⟨_,hD,hSt,hlf⟩,hSp⟩
theorem open_any(w:World)(B p n:Nat)(s:DSt)(E:Nat->EntF)(k:Nat)(h:Disk w B p n s)(hS:z0X s n E k)(hE:Env w) :
 Calls Tryz.prog 46 #[.pointer (some ⟨p,0,none⟩)] w fun e w'=>∃g,e=.returned (.tuple #[.pointer (some ⟨g,0,none⟩),.nilIface])/\w.heap.size<=g/\z0T w' g p/\Below w.heap.size w w':=by
 have hb0:Below w.heap.size w (w.alloc (.cells #[.pointer (some ⟨p,0,none⟩)] 148)):=(Below.refl _ _).alloc (Nat.le_refl _) _;have hg0:z0T (w.alloc (.cells #[.pointer (some ⟨p,0,none⟩)] 148)) w.heap.size p:=Array.getElem?_push_size;have HE:=z4G _ B p n w.heap.size s E k (h.later hb0) hS hg0 (hE.later hb0);go_enter Tryz.func46,Tryz.ntmps46;go_wp2_with fail;refine(show Calls _ _ _ _ _ from HE).mono ?_;rintro e w1 ⟨v,V,E',rfl,hEO,_,hb1⟩;clear HE;obtain⟨a,c,rfl,_⟩:=hEO.ents;have HF:Hid (∃g,Ending.returned (.tuple #[.pointer (some ⟨w.heap.size,0,none⟩),.nilIface])=.returned (.tuple #[.pointer (some ⟨g,0,none⟩),.nilIface])/\w.heap.size<=g/\z0T w1 g p/\Below w.heap.size w w1):=⟨_,rfl,Nat.le_refl _,hg0.later hb1,hb0.trans (hb1.mono hb0.size)⟩;go_wp2;go_ret2;exact HF.out
def getE(E:Nat->EntF)(k:Nat)(root:ByteArray):Bool×EntF:=if findF E root k 0<0 then(false,z1g)else(true,E (findF E root k 0).toNat)
theorem entNew_set{w:World}{g:Nat}{v:EntV}{en:EntF}{C:Array Value}(hA:z5N w 0 v en)(h:w.heap[g]?=some (.cells C 71 (0,0)))(a0 a1 a2:Value):z5N (((w.setCell ⟨g,0,none⟩ a0).setCell ⟨g,1,none⟩ a1).setCell ⟨g,2,none⟩ a2) 0 v en:=
 hA.keeps (((z1B.set h (by decide) (Nat.zero_le _) _).trans (z1B.set (z1i _ h) (by decide) (Nat.zero_le _) _)).trans (z1B.set (z1i _ (z1i _ h)) (by decide) (Nat.zero_le _) _))
theorem get_any(w:World)(B p n g:Nat)(s:DSt)(E:Nat->EntF)(k:Nat)(root:ByteArray)(h:Disk w B p n s)(hS:z0X s n E k)(hg:z0T w g p)(hE:Env w) :
 Calls Tryz.prog 147 #[.pointer (some ⟨g,0,none⟩),.string root] w fun e w'=>∃v en,e=.returned (.tuple #[.agg (z1r v en),.bool (getE E k root).1])/\z2H en (getE E k root).2/\z5N w' 0 v en/\Below w.heap.size w w':=by
 have hb0:Below w.heap.size w (w.alloc (.cells #[.string ⟨#[]⟩,.slice none 0 0,.slice none 0 0] 71)):=(Below.refl _ _).alloc (Nat.le_refl _) _;have hres:(w.alloc (.cells #[.string ⟨#[]⟩,.slice none 0 0,.slice none 0 0] 71)).heap[w.heap.size]?=some (.cells #[.string ⟨#[]⟩,.slice none 0 0,.slice none 0 0] 71 (0,0)):=Array.getElem?_push_size;have hz0:w.heap.size<(w.alloc (.cells #[.string ⟨#[]⟩,.slice none 0 0,.slice none 0 0] 71)).heap.size:=by simp
 have HE:=z4G _ B p n g s E k (h.later hb0) hS (hg.later hb0) (hE.later hb0);generalize hW:w.alloc (.cells #[.string ⟨#[]⟩,.slice none 0 0,.slice none 0 0] 71)=W0 at *;go_enter Tryz.func147,Tryz.ntmps147;go_wp2_with fail;refine(show Calls _ _ _ _ _ from HE).mono ?_;rintro e w1 ⟨v,V,E',rfl,hEO,hSm,hb1⟩;clear HE;obtain⟨a,c,rfl,hRow⟩:=hEO.ents;have hk3:=hS.good.few;have HF:=z4n a k c V E' root w1 (by omega) hRow;have efind:findF E' root k 0=findF E root k 0:=z6g (fun i hi=>(hSm i hi).root) _ 0 rfl;rw[efind]at HF;have hres1:=(hb1.block _ hz0).trans hres;have hlt1:w.heap.size<w1.heap.size:=Nat.lt_of_lt_of_le hz0 hb1.size;have hbA:=hb0.trans (hb1.mono hb0.size);clear hres hb1;go_wp2_with fail;refine(show Calls _ _ _ _ _ from HF).mono ?_;rintro e w2 ⟨rfl,hb2⟩;clear HF;have hres2:=(hb2.block _ hlt1).trans hres1;have hbB:=hbA.trans (hb2.mono hbA.size);have hEO2:=hEO.later (Nat.zero_le _) hb2;obtain⟨q0,q1,q2,f0,f1,f2⟩:=resAt hres2;by_cases hneg:findF E root k 0<0
 ·have HGE:Hid (getE E k root=(false,z1g)):=if_pos hneg;have hNB:=z5b hbB (Nat.le_refl w.heap.size) (.string ⟨#[]⟩) (.slice none 0 0) (.slice none 0 0);have hFN:=entNew_set ((z5R w2).within 0) hres2 (.string ⟨#[]⟩) (.slice none 0 0) (.slice none 0 0);generalize findF E root k 0=f at *;clear hRow hEO2 efind;go_wp2;refine bodyPost_ret (v:=.tuple #[.agg #[.string ⟨#[]⟩,.slice none 0 0,.slice none 0 0],.bool false]) (by simp[results,Tryz.results147,go_sem,q0,q1,q2]) rfl ?_;rw[HGE.out];exact⟨⟨none,0,none,0⟩,z1g,rfl,z2H.refl _,hFN,hNB⟩
 ·obtain⟨j,_,hj,_,hfj⟩:=z2i _ 0 rfl (show 0<=findF E root k 0 by omega);have HGE:Hid (getE E k root=(true,E j)):=by show getE E k root=_;unfold getE;rw[if_neg hneg,hfj];rfl
  rw[hfj];have hSj:=hSm j hj;have hIn:=hEO2.ins j hj;rcases hRow.later hb2 with h0|⟨bk,o,rfl,hc⟩
  ·omega
  obtain⟨c0,c1,c2,_⟩:=hc j hj;have hj0:(0:Int)<=(j:Int):=by omega
  have hj1:(j:Int)<(k:Int):=by omega
  generalize V j=x at *;generalize E' j=en at *;have hNB:=z5b hbB (Nat.le_refl w.heap.size) (.string en.root) (.slice x.aP en.nP x.cP) (.slice x.aQ en.nQ x.cQ);have hFN:=entNew_set hIn hres2 (.string en.root) (.slice x.aP en.nP x.cP) (.slice x.aQ en.nQ x.cQ);clear hc hEO2 efind hneg hfj;go_wp2;refine bodyPost_ret (v:=.tuple #[.agg #[.string en.root,.slice x.aP en.nP x.cP,.slice x.aQ en.nQ x.cQ],.bool true]) (by simp[results,Tryz.results147,go_sem,q0,q1,q2]) rfl ?_;rw[HGE.out];exact⟨x,en,rfl,hSj,hFN,hNB⟩
def set3(w:World)(g o:Nat)(x y z:Value):World:=((w.setCell ⟨g,o,none⟩ x).setCell ⟨g,o+1,none⟩ y).setCell ⟨g,o+2,none⟩ z
theorem set3_other{w:World}{g o q:Nat}{x y z:Value}(h:q<o∨o+3<=q):(set3 w g o x y z).cell? ⟨g,q,none⟩=w.cell? ⟨g,q,none⟩:=by
 have n:∀i,i<3->(⟨g,o+i,none⟩:Addr) ≠ ⟨g,q,none⟩:=fun i hi e=>by injection e;omega
 unfold set3;rw[World.cell?_setCell_other _ _ _ _ (n 2 (by decide)),World.cell?_setCell_other _ _ _ _ (n 1 (by decide))];exact World.cell?_setCell_other _ _ _ _ (n 0 (by decide))
theorem set3_same{w:World}{g o:Nat}{x y z a b c:Value}(h0:w.cell? ⟨g,o,none⟩=some a)(h1:w.cell? ⟨g,o+1,none⟩=some b)(h2:w.cell? ⟨g,o+2,none⟩=some c) :
 (set3 w g o x y z).cell? ⟨g,o,none⟩=some x/\(set3 w g o x y z).cell? ⟨g,o+1,none⟩=some y/\(set3 w g o x y z).cell? ⟨g,o+2,none⟩=some z:=by
 unfold set3;refine⟨?_,?_,?_⟩
 ·rw[World.cell?_setCell_other _ _ _ _ (by simp),World.cell?_setCell_other _ _ _ _ (by simp)];exact World.cell?_setCell_same' _ _ _ (by rw[h0];rfl)
 ·rw[World.cell?_setCell_other _ _ _ _ (by simp)];exact World.cell?_setCell_same' _ _ _ (by rw[World.cell?_setCell_other _ _ _ _ (by simp),h1];rfl)
 ·exact World.cell?_setCell_same' _ _ _ (by rw[World.cell?_setCell_other _ _ _ _ (by simp),World.cell?_setCell_other _ _ _ _ (by simp),h2];rfl)
theorem ents_set{w:World}{bk o k j:Nat}{V:Nat->EntV}{E:Nat->EntF}{x:EntV}{e:EntF}(hr:∀i,i<k->EntHere w bk (o+i*3) (V i) (E i))(hj:j<k)
 (hIn:∀i,i<k->z5k (set3 w bk (o+j*3) (.string e.root) (.slice x.aP e.nP x.cP) (.slice x.aQ e.nQ x.cQ)) (V i) (E i)) (hx:z5k (set3 w bk (o+j*3) (.string e.root) (.slice x.aP e.nP x.cP) (.slice x.aQ e.nQ x.cQ)) x e) :
 ∀i,i<k->EntHere (set3 w bk (o+j*3) (.string e.root) (.slice x.aP e.nP x.cP) (.slice x.aQ e.nQ x.cQ)) bk (o+i*3) (addV V j x i) (addV E j e i):=fun i hi=>by
 unfold addV;by_cases h:i=j
 ·subst h;rw[if_pos rfl,if_pos rfl];obtain⟨h0,h1,h2,_⟩:=hr i hi;obtain⟨g0,g1,g2⟩:=set3_same (x:=.string e.root) (y:=.slice x.aP e.nP x.cP) (z:=.slice x.aQ e.nQ x.cQ) h0 h1 h2;exact⟨g0,g1,g2,hx⟩
 ·rw[if_neg h,if_neg h];obtain⟨h0,h1,h2,_⟩:=hr i hi;exact⟨(set3_other (by omega)).trans h0,(set3_other (by omega)).trans h1,(set3_other (by omega)).trans h2,hIn i hi⟩
theorem set3_keeps{w:World}{B g o:Nat}{C:Array Value}(h:w.heap[g]?=some (.cells C 71 (0,0)))(hB:B<=g)(x y z:Value):z1B B w (set3 w g o x y z):=
 ((z1B.set h (by decide) hB _).trans (z1B.set (z1i _ h) (by decide) hB _)).trans (z1B.set (z1i _ (z1i _ h)) (by decide) hB _)
theorem set3_below{B g o:Nat}{w w':World}(h:Below B w w')(hg:B<=g)(x y z:Value):Below B w (set3 w' g o x y z):=
 h.trans ⟨rfl,rfl,rfl,by simp[set3,World.setCell],fun k hk=>(Below.heap_setCell _ _ _ _ (Nat.ne_of_lt (Nat.lt_of_lt_of_le hk hg))).trans ((Below.heap_setCell _ _ _ _ (Nat.ne_of_lt (Nat.lt_of_lt_of_le hk hg))).trans (Below.heap_setCell _ _ _ _ (Nat.ne_of_lt (Nat.lt_of_lt_of_le hk hg))))⟩
theorem growE{B0:Nat}{w:World}{v:Value}{n:Nat}{xs:List Value}(x y z:Value)(hx:x.oneCell'=true)(hy:y.oneCell'=true)(hz:z.oneCell'=true)(hB:B0<=w.heap.size)(h:w.ownsRow B0 71 3 v n xs)(hn:n<1000) :
 ∃v' W,(Builtin.append_ #[35,35] 35 #[v,.slice (some ⟨w.heap.size,0,none⟩) 1 1]).run Tryz.prog (w.alloc (.cells #[x,y,z] 71))=.ok v' W/\Grown B0 71 3 (w.alloc (.cells #[x,y,z] 71)) v (n+1) (xs++[x,y,z]) v' W:=
 z0J 35 71 3 64 (.agg #[.string ⟨#[]⟩,.slice none 0 0,.slice none 0 0]) (by kernel_rfl) (by kernel_rfl) (by rfl) (by decide) B0 _ v n _ (h.alloc _) (some ⟨w.heap.size,0,none⟩) 1 1 [x,y,z] rfl
  (.inr ⟨_,_,rfl,fun j u hj=>by
    match j,hj with
    |0,hj=>simp at hj;subst hj;simp[go_sem]
    |1,hj=>simp at hj;subst hj;simp[go_sem]
    |2,hj=>simp at hj;subst hj;simp[go_sem]
    |j+3,hj=>simp at hj⟩) (fun u hu=>by simp at hu;rcases hu with rfl|rfl|rfl <;> assumption) (by simp;omega) (by omega) (by decide)
theorem shelfPut_any(w:World)(B p n g:Nat)(s:DSt)(E:Nat->EntF)(k:Nat)(v:EntV)(en:EntF)(h:Disk w B p n s)(hS:z0X s n E k)(hg:z0T w g p)(hE:Env w)(hA:z5k w v en)(hf:EntFit en) :
 Calls Tryz.prog 104 #[.pointer (some ⟨g,0,none⟩),.agg (z1r v en)] w fun e w'=>∃s',ShPut s n E k (putE E k en) s' e/\Disk w' B p n s'/\Spun B w w':=by
 have hB:=h.base;have hb0:Below w.heap.size w (w.alloc (.cells (z1r v en) 71)):=(Below.refl _ _).alloc (Nat.le_refl _) _;have hX0:=EntBox.new w v en;have HC:=entCheck_any v en _ (hA.later hb0) hf;have q0:errV 0=.nilIface:=rfl;have c0:=hX0.c0;have c1:=hX0.c1;have c2:=hX0.c2;unfold z1r at hb0 hX0 HC c0 c1 c2;unfold z1r;generalize hW:w.alloc (.cells #[.string en.root,.slice v.aP en.nP v.cP,.slice v.aQ en.nQ v.cQ] 71)=W0 at *;by_cases hF:entF en=0
 ·rw[hF,q0]at HC;go_enter Tryz.func104,Tryz.ntmps104;go_wp2_with fail;refine(show Calls _ _ _ _ _ from HC).mono ?_;rintro e w1 ⟨rfl,hb1⟩;clear HC;have hbA:=hb0.trans (hb1.mono hb0.size);have HE:=z4G w1 B p n g s E k (h.later hbA) hS (hg.later hbA) (hE.later hbA);have hX1:=hX0.later hb1;clear hX0 c0 c1 c2 hb1 hb0;go_wp2_with fail;refine(show Calls _ _ _ _ _ from HE).mono ?_;rintro e w2 ⟨vl,V,E',rfl,hEO,hSm,hb2⟩;clear HE;obtain⟨a,c,rfl,hRow⟩:=hEO.ents;have hX2:=hX1.later hb2;have hbB:=hbA.trans (hb2.mono hbA.size);have hk3:=hS.good.few;have HFi:=z4n a k c V E' en.root w2 (by omega) hRow;have efind:findF E' en.root k 0=findF E en.root k 0:=z6g (fun i hi=>(hSm i hi).root) _ 0 rfl;rw[efind]at HFi;have hGood:z1M E' k:=hS.good.same fun i hi=>(hSm i hi).symm
  have c0:=hX2.c0;clear hX1;go_wp2_with fail;refine(show Calls _ _ _ _ _ from HFi).mono ?_;rintro e w3 ⟨rfl,hb3⟩;clear HFi c0;have hX3:=hX2.later hb3;have hbC:=hbB.trans (hb3.mono hbB.size);have hEO3:=hEO.later (Nat.zero_le _) hb3;have hRow3:=hRow.later hb3;have c0:=hX3.c0;have c1:=hX3.c1;have c2:=hX3.c2;have hw12:w.heap.size<=w1.heap.size:=hbA.size;clear hX2 hEO hRow hbB hb2 hb3 hbA;by_cases hneg:findF E en.root k 0<0
  ·by_cases hk:k=3
   ·subst hk;have HEND:ShPut s n E 3 (putE E 3 en) s (.returned (errV 2)):=by
     have e:=putE_many hF hneg;have:=ShPut.bad (s:=s) (n:=n) (E:=E) (k:=3) (r:=putE E 3 en) (s':=s) (by rw[e];exact(by decide:(2:Nat)≠0)) rfl;rw[e]at this ⊢;exact this
    generalize findF E en.root 3 0=f at *;go_wp2;go_ret;exact⟨s,HEND,h.later hbC,Spun.of hB hbC⟩
   ·have HP:Hid (putE E k en=(0,addV E k en,k+1)):=putE_add hF hneg hk;have hk':((k:Int)==3)=false:=by simp;omega
    have hnone:=findF_none _ 0 rfl hneg;have hG2:z1M (addV E' k en) (k+1):=add_ok hGood hk (fun j hj=>by rw[(hSm j hj).root];exact hnone j (Nat.zero_le _) hj) hF;obtain⟨v',W5,happ,hGr⟩:=growE (.string en.root) (.slice v.aP en.nP v.cP) (.slice v.aQ en.nQ v.cQ) rfl rfl rfl (hbC.size:w.heap.size<=w3.heap.size) (z7B hEO3.row hw12) (by omega);have hb5:Below w.heap.size w (w3.alloc (.cells #[.string en.root,.slice v.aP en.nP v.cP,.slice v.aQ en.nQ v.cQ] 71)):=hbC.trans (((Below.refl _ _).alloc (Nat.le_refl _) _).mono hbC.size);have hb6:=hb5.trans hGr.below;have hkp:z1B 0 w3 W5:=(z1B.of_below (Nat.zero_le _) ((Below.refl _ w3).alloc (Nat.le_refl _) _)).trans (z1B.grown (Nat.zero_le _) (Nat.zero_le _) (hEO3.row.alloc _) (by decide) hGr.grown);have hAll:=z0C.added (V:=V) (E:=E') (k:=k) (x:=v) (e:=en) (fun i hi=>((hEO3.ins i hi).keeps hkp).more (Nat.zero_le w.heap.size)) (hA.within.keeps ⟨fun j hj=>hb6.block j hj,fun j _ _ _ hj=>hb6.block j (Array.getElem?_eq_some_iff.1 hj).1⟩) hGr.own;obtain⟨a5,c5,rfl,hRow5⟩:=hAll.ents;have HKE:=keep_any W5 B p n g s E k a5 c5 _ _ (k+1) (h.later hb6) hS (hg.later hb6) (hE.later hb6) hRow5 hG2;have hsame:∀i,i<k+1->z2H (addV E' k en i) (addV E k en i):=fun i hi=>by
     unfold addV;split
     ·exact z2H.refl _
     ·exact hSm i (by omega)
    generalize findF E en.root k 0=f at *;go_wp2_with (at_builtin;refine z0b rfl (.tmp 36) (.tmp 38) 35 rfl (.slice a k c) (.slice (some ⟨w3.heap.size,0,none⟩) 1 1) _ rfl rfl happ ?_);refine(show Calls _ _ _ _ _ from HKE).mono ?_;rintro e w6 ⟨s',hKE,hD6,hS6⟩;have HEND:ShPut s n E k (putE E k en) s' e:=by rw[HP.out];exact .keep e rfl (hKE.same hsame)
    clear HKE;cases hKE with
    |ok _ _=>
     go_wp2;go_ret;exact⟨s',HEND,hD6,(Spun.of hB hb6).trans hS6⟩
    |fell _ _=>
     go_wp2;go_ret;exact⟨s',HEND,hD6,(Spun.of hB hb6).trans hS6⟩
  ·obtain⟨j,_,hj,hjr,hfj⟩:=z2i _ 0 rfl (show 0<=findF E en.root k 0 by omega);have HP:Hid (putE E k en=(0,addV E j en,k)):=putE_set hF hfj;rw[hfj];have hG2:z1M (addV E' j en) k:=set_ok hGood ((hSm j hj).root.trans hjr) hF;rcases hRow3 with h0|⟨bk,o,rfl,hc⟩
   ·omega
   obtain⟨C,hC⟩:=z4r hEO3.row (k:=bk) rfl;have hbk:w1.heap.size<=bk:=(hEO3.row.lt bk rfl).1;have hfr:∀q,w3.frozen? ⟨bk,q,none⟩=false:=fun q=>by simp[World.frozen?,hC]
   have fr0:=hfr (o+j*3);have fr1:=hfr (o+j*3+1);have fr2:=hfr (o+j*3+2);obtain⟨y0,y1,y2,_⟩:=hc j hj;have hj0:(0:Int)<=(j:Int):=by omega
   have hj1:(j:Int)<(k:Int):=by omega
   have hkp:=set3_keeps (B:=0) (o:=o+j*3) hC (Nat.zero_le _) (.string en.root) (.slice v.aP en.nP v.cP) (.slice v.aQ en.nQ v.cQ);have hb6:=set3_below (o:=o+j*3) hbC (Nat.le_trans hw12 hbk) (.string en.root) (.slice v.aP en.nP v.cP) (.slice v.aQ en.nQ v.cQ);have hRow5:=ents_set (x:=v) (e:=en) hc hj (fun i hi=>((hEO3.ins i hi).keeps hkp).here) (hA.later hb6);have HKE:=keep_any _ B p n g s E k (some ⟨bk,o,none⟩) c _ _ k (h.later hb6) hS (hg.later hb6) (hE.later hb6) (.inr ⟨bk,o,rfl,hRow5⟩) hG2;have hsame:∀i,i<k->z2H (addV E' j en i) (addV E j en i):=fun i hi=>by
    unfold addV;split
    ·exact z2H.refl _
    ·exact hSm i hi
   unfold set3 at HKE hb6;clear hfr hkp hc hRow5 hneg hfj hEO3;go_wp2_with fail;refine(show Calls _ _ _ _ _ from HKE).mono ?_;rintro e w6 ⟨s',hKE,hD6,hS6⟩;have HEND:ShPut s n E k (putE E k en) s' e:=by rw[HP.out];exact .keep e rfl (hKE.same hsame)
   clear HKE;cases hKE with
   |ok _ _=>
    go_wp2;go_ret;exact⟨s',HEND,hD6,(Spun.of hB hb6).trans hS6⟩
   |fell _ _=>
    go_wp2;go_ret;exact⟨s',HEND,hD6,(Spun.of hB hb6).trans hS6⟩
 ·obtain⟨z,hz⟩:=z5Y hF;have HEND:ShPut s n E k (putE E k en) s (.returned (errV (entF en))):=by
   have e:=putE_bad (E:=E) (k:=k) hF;have:=ShPut.bad (s:=s) (n:=n) (E:=E) (k:=k) (r:=putE E k en) (s':=s) (by rw[e];exact hF) rfl;rw[e]at this ⊢;exact this
  rw[hz]at HC HEND;go_enter Tryz.func104,Tryz.ntmps104;go_wp2_with fail;refine(show Calls _ _ _ _ _ from HC).mono ?_;rintro e w1 ⟨rfl,hb1⟩;clear HC;have hbA:=hb0.trans (hb1.mono hb0.size);go_wp2;go_ret;exact⟨s,HEND,h.later hbA,Spun.of hB hbA⟩
theorem growStr{B0:Nat}{w:World}{v:Value}{n:Nat}{xs:List Value}(s:ByteArray)(hB:B0<=w.heap.size)(h:w.ownsRow B0 9 1 v n xs)(hn:n<1000) :
 ∃v' W,(Builtin.append_ #[22,22] 22 #[v,.slice (some ⟨w.heap.size,0,none⟩) 1 1]).run Tryz.prog (w.alloc (.cells #[.string s] 9))=.ok v' W/\Grown B0 9 1 (w.alloc (.cells #[.string s] 9)) v (n+1) (xs++[.string s]) v' W:=
 z0J 22 9 1 16 (.string ⟨#[]⟩) (by kernel_rfl) (by kernel_rfl) (by rfl) (by decide) B0 _ v n _ (h.alloc _) (some ⟨w.heap.size,0,none⟩) 1 1 [.string s] rfl
  (.inr ⟨_,_,rfl,fun j u hj=>by
    match j,hj with
    |0,hj=>simp at hj;subst hj;simp[go_sem]
    |j+1,hj=>simp at hj⟩) (fun u hu=>by simp at hu;subst hu;rfl) (by simp;omega) (by omega) (by decide)
def z7d (E:Nat->EntF)(i:Nat):List Value:=[.string (E i).root]
theorem roots_any(w:World)(B p n g:Nat)(s:DSt)(E:Nat->EntF)(k:Nat)(h:Disk w B p n s)(hS:z0X s n E k)(hg:z0T w g p)(hE:Env w) :
 Calls Tryz.prog 98 #[.pointer (some ⟨g,0,none⟩)] w fun e w'=>∃v,e=.returned v/\w'.ownsRow w.heap.size 9 1 v k (z0i (z7d E) k)/\Below w.heap.size w w':=by
 have HE:=z4G w B p n g s E k h hS hg hE;have hk3:=hS.good.few;go_enter Tryz.func98,Tryz.ntmps98;go_wp2_with fail;refine(show Calls _ _ _ _ _ from HE).mono ?_;rintro e W ⟨vl,V,E',rfl,hEO,hSm,hb1⟩;clear HE;obtain⟨a,c,rfl,hRow⟩:=hEO.ents;go_wp2;go_loopw [5,17] (fun y5 y17 wr=>∃(i:Nat) (v:Value),i<=k/\y17=.int .i64 i/\y5=v/\wr.ownsRow W.heap.size 9 1 v i (z0i (z7d E) i)/\Below W.heap.size W wr) (fun _ y17 _=>k-(intOf y17).toNat)
 case atStart=>exact⟨0,_,Nat.zero_le _,rfl,rfl,World.ownsRow_nil _ _ _ _,Below.refl _ _⟩
 case round=>
  obtain⟨i,v,hi,rfl,rfl,hOw,hb⟩:=hrel;by_cases hlt:i<k
  ·rcases hRow.later hb with h0|⟨bk,o,rfl,hc⟩
   ·omega
   obtain⟨c0,c1,c2,_⟩:=hc i hlt;have hi0:(0:Int)<=(i:Int):=by omega
   have hi1:(i:Int)<(k:Int):=by omega
   have hr0:=(hSm i hlt).root;have d0:(wr.alloc (.cells #[.string (E' i).root,.slice (V i).aP (E' i).nP (V i).cP,.slice (V i).aQ (E' i).nQ (V i).cQ] 71)).cell? ⟨wr.heap.size,0,none⟩=some (.string (E' i).root):=by simp[go_sem]
   obtain⟨v',W5,happ,hGr⟩:=growStr (w:=wr.alloc (.cells #[.string (E' i).root,.slice (V i).aP (E' i).nP (V i).cP,.slice (V i).aQ (E' i).nQ (V i).cQ] 71)) (E' i).root (by have:=hb.size;simp;omega:W.heap.size<=_) (hOw.alloc _) (by omega);simp only[World.size_alloc]at happ;have hb5:Below W.heap.size W W5:=((hb.alloc hb.size _).alloc (by have:=hb.size;simp;omega) _).trans hGr.below;have hOw5:W5.ownsRow W.heap.size 9 1 v' (i+1) (z0i (z7d E) (i+1)):=by
    show W5.ownsRow _ _ _ _ _ (z0i (z7d E) i++z7d E i);unfold z7d;rw[<-hr0];exact hGr.own
   obtain⟨av,cv,rfl⟩:∃av cv,u5=.slice av i cv:=by
    obtain⟨av,cv,e,_⟩:=z0c hOw;exact⟨av,cv,e⟩
   obtain⟨g',cap',rfl⟩:=ownsRow_succ hOw5;clear hc hr0 hOw hGr;generalize E' i=en at *;generalize V i=x at *;go_wp2_with (at_builtin;refine z0b rfl (.tmp 21) (.tmp 24) 22 rfl (.slice av i cv) (.slice (some ⟨wr.heap.size+1,0,none⟩) 1 1) _ rfl rfl happ ?_);go_roundw
   case rel=>exact⟨i+1,_,by omega,by go_num,rfl,hOw5,hb5⟩
   case measure=>simp[intOf];omega
  ·obtain rfl:i=k:=by omega
   have HF:Hid (∃v',Ending.returned u5=.returned v'/\wr.ownsRow w.heap.size 9 1 v' i (z0i (z7d E) i)/\Below w.heap.size w wr):=⟨u5,rfl,z7B hOw hb1.size,hb1.trans (hb.mono hb1.size)⟩;go_wp2;go_ret;exact HF.out
end
section
open Go.RowKit
theorem joinC_take{f:Nat->List Value}(hf:∀i,(f i).length=3):∀ {k j:Nat},j<=k->(z0i f k).take (j*3)=z0i f j
 |0,j,h=>by obtain rfl:j=0:=by omega
            rfl
 |k+1,j,h=>by
  have hl:(z0i f k).length=k*3:=z3B fun i _=>hf i
  simp only[z0i];by_cases e:j=k+1
  ·subst e;rw[List.take_of_length_le (by simp[hl,hf];omega)];rfl
  ·rw[List.take_append_of_le_length (by omega)];exact joinC_take hf (by omega)
theorem joinC_drop{f:Nat->List Value}(hf:∀i,(f i).length=3):∀ {k j:Nat},j<=k->(z0i f k).drop (j*3)=z0i (fun q=>f (q+j)) (k-j)
 |0,j,h=>by obtain rfl:j=0:=by omega
            rfl
 |k+1,j,h=>by
  have hl:(z0i f k).length=k*3:=z3B fun i _=>hf i
  by_cases e:j=k+1
  ·subst e;rw[List.drop_of_length_le (by simp[z0i,hl,hf];omega),Nat.sub_self];rfl
  ·simp only[z0i];rw[List.drop_append_of_le_length (by omega),joinC_drop hf (by omega),show k+1-j=(k-j)+1 by omega];simp only[z0i];rw[show k-j+j=k by omega]
theorem joinC_cut{f:Nat->List Value}{j:Nat}:∀ {m:Nat},z0i f j++z0i (fun q=>f (q+(j+1))) m=z0i (cutV f j) (j+m)
 |0=>by
  show z0i f j++[]=_;rw[List.append_nil];exact z1f fun i hi=>by unfold cutV;rw[if_pos hi]
 |m+1=>by
  show z0i f j++(z0i (fun q=>f (q+(j+1))) m++f (m+(j+1)))=z0i (cutV f j) (j+m)++cutV f j (j+m);rw[<-List.append_assoc,joinC_cut];congr 1;unfold cutV;rw[if_neg (by omega)];congr 1;omega
theorem entL_cut(V:Nat->EntV)(E:Nat->EntF)(j:Nat):cutV (entL V E) j=entL (cutV V j) (cutV E j):=by
 funext i;by_cases h:i<j <;> simp[cutV,entL,h]
theorem entL_one(V:Nat->EntV)(E:Nat->EntF):∀k,∀u∈z0i (entL V E) k,u.oneCell'=true
 |0,u,hu=>by cases hu
 |k+1,u,hu=>by
  rcases List.mem_append.1 hu with hu|hu
  ·exact entL_one V E k u hu
  ·simp only[entL,List.mem_cons,List.not_mem_nil,or_false]at hu;rcases hu with rfl|rfl|rfl <;> rfl
theorem owns_less{w:World}{B g n m c s:Nat}{e:TypeId}{xs:List Value}(h:w.ownsRow B e s (.slice (some ⟨g,0,none⟩) n c) n xs)(hm:m<=n):w.ownsRow B e s (.slice (some ⟨g,0,none⟩) m c) m (xs.take (m*s)):=by
 have hms:m*s<=n*s:=Nat.mul_le_mul_right _ hm;refine⟨by rw[List.length_take,h.1];omega,.inr ?_⟩;rcases h.2 with⟨h0,_⟩|⟨g',cap,cur,e,h1,h2,h3,h4,h5,h6⟩
 ·cases h0
 ·cases e;refine⟨g,c,cur,rfl,h1,h2,by omega,h4,h5,?_⟩;rw[<-h6,List.take_take,Nat.min_eq_left hms]
theorem clear_ent(w:World)(ty:TypeId)(g o c:Nat)(ht:w.there g o 3) :
 (Builtin.clear_ #[35] ty #[.slice (some ⟨g,o,none⟩) 1 c]).run Tryz.prog w=.ok (.tuple #[]) (w.setCells g o [.string ⟨#[]⟩,.slice none 0 0,.slice none 0 0]):=by
 have hal:∀w,Sem.run Tryz.prog (zeroValue 71) w=.ok (.agg #[.string ⟨#[]⟩,.slice none 0 0,.slice none 0 0]) w:=Tryz.zeroValue71;have hst:=run_storeCells_cells (P:=Tryz.prog) g o [.string ⟨#[]⟩,.slice none 0 0,.slice none 0 0] 0 w (fun j hj=>by simpa using(ht j (by simpa using hj)).1) (fun j hj=>by simpa using(ht j (by simpa using hj)).2) (fun v hv=>by simp at hv;rcases hv with rfl|rfl <;> rfl);simp only[Nat.add_zero]at hst;have hz:(Builtin.zeroCells #[.string ⟨#[]⟩,.slice none 0 0,.slice none 0 0] 1).toList=[Value.string ⟨#[]⟩,.slice none 0 0,.slice none 0 0]:=by
  unfold Builtin.zeroCells;apply List.ext_getElem
  ·simp
  ·intro i h2 h3;have h4:i<3:=by simpa using h3
   match i,h4 with
   |0,_=>simp
   |1,_=>simp
   |2,_=>simp
 simp[Builtin.clear_,run_underlying Tryz.underlying35,hal,Value.cells,hz,hst]
theorem entDelete_any(w:World)(B g m c j:Nat)(V:Nat->EntV)(E:Nat->EntF)(h:z0C w 0 B (.slice (some ⟨g,0,none⟩) (m+1) c) (m+1) V E)(hm:m<=2)(hj:j<=m) :
 Calls Tryz.prog 146 #[.slice (some ⟨g,0,none⟩) (m+1) c,.int .i64 (j:Int),.int .i64 ((j:Int)+1)] w fun e w'=>e=.returned (.slice (some ⟨g,0,none⟩) m c)/\z0C w' 0 B (.slice (some ⟨g,0,none⟩) m c) m (cutV V j) (cutV E j)/\Below B w w':=by
 have hkc:m+1<=c:=by
  rcases h.row.2 with⟨h0,_⟩|⟨g',cap,cur,e,h1,h2,h3,h4,h5,h6⟩
  ·cases h0
  ·cases e;exact h3
 have i0:(0:Int)<=(j:Int):=by omega
 have i1:(j:Int)+1<=((m+1:Nat):Int):=by omega
 have i2:((m+1:Nat):Int)<=(c:Int):=by omega
 have i3:(j:Int)≠(j:Int)+1:=by omega
 have i4:(0:Int)<=(j:Int)+1:=by omega
 have n1:j<=c:=by omega
 have n2:j+1<=m+1:=by omega
 have n4:j+1<=c:=by omega
 have n5:¬c=m:=by omega
 obtain⟨A,hA,HA⟩:∃A:Addr,(if c=j+1 then some (⟨g,0,none⟩:Addr)else some ⟨g,(j+1)*3,none⟩)=some A/\Hid (c=j+1∨A=⟨g,(j+1)*3,none⟩):=by
  by_cases hc:c=j+1
  ·exact⟨_,if_pos hc,.inl hc⟩
  ·exact⟨_,if_neg hc,.inr rfl⟩
 have hlen:(z0i (entL V E) (m+1)).length=(m+1)*3:=h.row.1;obtain⟨news,hnews⟩:∃news,news=(z0i (entL V E) (m+1)).drop ((j+1)*3):=⟨_,rfl⟩;have hnl:news.length=(m+1-(j+1))*3:=by rw[hnews,List.length_drop,hlen];omega
 obtain⟨ti,hi,hz0,hz1,hz2⟩:=info_parts Tryz.infoEntry;have hseg:=z3v news (j*3) w.drew _ h.row (by rw[hnl,hlen];omega);have happ:(Builtin.append_ #[35,35] 35 #[.slice (some ⟨g,0,none⟩) j c,.slice (some A) (m-j) (c-(j+1))]).run Tryz.prog w.drew=.ok (.slice (some ⟨g,0,none⟩) m c) (w.drew.setCells g (j*3) news):=by
  have:=run_append_room_cells (P:=Tryz.prog) (w:=w.drew) 35 35 71 ti Tryz.underlying35 hi g 0 j c A (m+1-(j+1)) (c-(j+1)) news (by rw[hz1];exact hnl)
   (fun q u hu=>by
     rcases HA.out with hc|rfl
     ·have:news=[]:=List.length_eq_zero_iff.1 (by rw[hnl];omega);rw[this]at hu;simp at hu
     ·rw[Addr.add_lit];show w.cell? _=_;have hq:q<(m+1-(j+1))*3:=by rw[<-hnl];exact(List.getElem?_eq_some_iff.1 hu).1
      rw[h.row.cellAt ((j+1)*3+q) (by omega),<-hu,hnews,List.getElem?_drop])
   (fun u hu=>by
     rw[hnews]at hu;exact entL_one V E _ u (List.mem_of_mem_drop hu)) (by omega)
   (fun q hq=>by
     rw[hz1];show(w.cell? _).isSome=true;rw[Nat.zero_add,h.row.cellAt (j*3+q) (by omega),List.getElem?_eq_getElem (by rw[hlen];omega)];rfl)
   (fun q _=>h.row.frozenAt _)
  rw[hz1,Nat.zero_add,show m+1-(j+1)=m-j by omega,show j+(m-j)=m by omega]at this;exact this
 have hxs:(z0i (entL V E) (m+1)).take (j*3)++news++(z0i (entL V E) (m+1)).drop (j*3+news.length)=z0i (entL (cutV V j) (cutV E j)) m++(z0i (entL V E) (m+1)).drop (j*3+news.length):=by
  congr 1;rw[hnews,joinC_take (fun _=>rfl) (by omega),joinC_drop (fun _=>rfl) (by omega),joinC_cut,<-entL_cut];congr 1;omega
 rw[hxs]at hseg;obtain⟨hO1,hG1⟩:=hseg;have hl2:(z0i (entL (cutV V j) (cutV E j)) m).length=m*3:=z3B fun _ _=>rfl
 have hcl:∀ty,(Builtin.clear_ #[35] ty #[.slice (some ⟨g,m*3,none⟩) 1 (c-m)]).run Tryz.prog (w.drew.setCells g (j*3) news)=.ok (.tuple #[]) ((w.drew.setCells g (j*3) news).setCells g (m*3) [.string ⟨#[]⟩,.slice none 0 0,.slice none 0 0]):=fun ty=>
  clear_ent _ ty g (m*3) (c-m) (fun q hq=>⟨by rw[hO1.cellAt (m*3+q) (by omega),List.getElem?_eq_getElem (by rw[hO1.1];omega)];rfl,hO1.frozenAt _⟩)
 obtain⟨hO2,hG2⟩:=z3v [.string ⟨#[]⟩,.slice none 0 0,.slice none 0 0] (m*3) _ _ hO1 (by rw[hO1.1];simp;omega);have hO3:=owns_less hO2 (Nat.le_succ m);rw[List.append_assoc,List.take_append_of_le_length (by rw[List.length_take,hO1.1];omega),List.take_take,Nat.min_self,List.take_append_of_le_length (by omega),List.take_of_length_le (by omega)]at hO3;have hkp:z1B 0 w ((w.drew.setCells g (j*3) news).setCells g (m*3) [.string ⟨#[]⟩,.slice none 0 0,.slice none 0 0]):=
  z1B.trans (b:=w.drew.setCells g (j*3) news) (by have k1:=z1B.grown (w:=w.drew) (Nat.zero_le B) (Nat.zero_le _) (v:=.slice (some ⟨g,0,none⟩) (m+1) c) h.row (by decide) hG1;exact⟨k1.low,k1.kind⟩) (z1B.grown (v:=.slice (some ⟨g,0,none⟩) (m+1) c) (Nat.zero_le B) (Nat.zero_le _) hO1 (by decide) hG2)
 have HEO:Hid (z0C ((w.drew.setCells g (j*3) news).setCells g (m*3) [.string ⟨#[]⟩,.slice none 0 0,.slice none 0 0]) 0 B (.slice (some ⟨g,0,none⟩) m c) m (cutV V j) (cutV E j)):=⟨hO3,fun i hi'=>by
  unfold cutV;split
  ·exact(h.ins i (by omega)).keeps hkp
  ·exact(h.ins (i+1) (by omega)).keeps hkp⟩
 have hgB:B<=g:=(h.row.lt g rfl).1;have HBL:Hid (Below B w ((w.drew.setCells g (j*3) news).setCells g (m*3) [.string ⟨#[]⟩,.slice none 0 0,.slice none 0 0])):=⟨by rw[(z2e _ _ _ _).1,(z2e _ _ _ _).1];rfl,by rw[(z2e _ _ _ _).2.1,(z2e _ _ _ _).2.1];rfl,by rw[(z2e _ _ _ _).2.2,(z2e _ _ _ _).2.2];rfl,by rw[z6W,z6W];exact Nat.le_refl _,fun q hq=>by
  rw[z1Z _ _ _ _ _ (by omega),z1Z _ _ _ _ _ (by omega)];rfl⟩
 clear hxs hl2 hO1 hO2 hO3 hG1 hG2 hkp hnl hnews hlen h;generalize hW1:w.drew.setCells g (j*3) news=W1 at *;generalize hW2:W1.setCells g (m*3) [.string ⟨#[]⟩,.slice none 0 0,.slice none 0 0]=W2 at *;clear hW1 hW2;go_enter Tryz.func146,Tryz.ntmps146;go_wp2;have hSS:(fun _:World=>True) w.drew:=trivial;refine z0f (fun _=>True) 6 8 (by kernel_rfl) rfl ?_;refine tW 0 hSS ?_;refine tW 1 hSS ?_;refine tW 2 hSS ?_;refine tW 3 hSS ?_;refine tW 4 hSS ?_;refine tW 5 hSS ?_;refine lG 6 fun K hK=>?_
 go_wp2_with (at_builtin;refine z0b rfl (.tmp 22) (.tmp 25) 35 rfl (.slice (some ⟨g,0,none⟩) j c) (.slice (some A) (m-j) (c-(j+1))) _ rfl rfl happ ?_);refine hK _ _ ?_;clear hK;refine takeW 7 (v:=?v91) rfl (by kernel_rfl) (by kernel_rfl) (by kernel_rfl) (by kernel_rfl) (fun _ _ _ h=>h) (.inl (by kernel_rfl)) (.inl ⟨by rfl,fun w=>?hy91⟩) ?rest91
 case hy91=>(go_simp <;> with_reducible rfl)
 simp only[Go.Act.put,List.setIfInBounds_toArray,List.set_cons_zero];refine z1c (by kernel_rfl) ?_ _;go_wp2;go_ret;exact⟨rfl,HEO.out,HBL.out⟩
end
end Go.Proofs.YtbcpcbonlhlhpaaGreatDoor
