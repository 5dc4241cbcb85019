/- A session of the console in memory; what its load and its -/
import Derived.Test.YtbcpcbonlhlhpaaGreatDoorPlainFresh
set_option maxRecDepth 100000
set_option maxHeartbeats 8000000
namespace Go.Proofs.YtbcpcbonlhlhpaaGreatDoor
section
open Go.RowKit Go.Maps
abbrev sessC(pf p l:Nat)(t:ByteArray):Array Value:=#[.pointer (some ⟨pf,0,none⟩),.pointer (some ⟨p,0,none⟩),.pointer (some ⟨l,0,none⟩),.string t]
structure CAt(w0 W:World)(B z p pf bm l g:Nat)(s:DSt)(st:CSt):Prop where
 sess:W.heap[z]?=some (.cells (sessC pf p l st.text) 87 (0,0))
 disk:Disk W B p 120 s
 stands:z0X s 120 st.E st.k
 calm:s.left=-1
 loader:z1u W l pf g
 shelf:z0T W g p
 files:z0q W pf bm st.D st.kf
 below:Below w0.heap.size w0 W
structure CLow(w0:World)(B z pf bm:Nat):Prop where
 disk:w0.heap.size<=B
 sess:w0.heap.size<=z
 files:w0.heap.size<=pf
 map:w0.heap.size<=bm
section
variable {w0 W W':World} {B z p pf bm l g:Nat} {s:DSt} {st:CSt}
theorem CAt.lt(h:CAt w0 W B z p pf bm l g s st):z<W.heap.size:=(Array.getElem?_eq_some_iff.1 h.sess).1
theorem CAt.c0(h:CAt w0 W B z p pf bm l g s st):W.cell? ⟨z,0,none⟩=some (.pointer (some ⟨pf,0,none⟩)):=by simp[World.cell?,h.sess]
theorem CAt.c1(h:CAt w0 W B z p pf bm l g s st):W.cell? ⟨z,1,none⟩=some (.pointer (some ⟨p,0,none⟩)):=by simp[World.cell?,h.sess]
theorem CAt.c2(h:CAt w0 W B z p pf bm l g s st):W.cell? ⟨z,2,none⟩=some (.pointer (some ⟨l,0,none⟩)):=by simp[World.cell?,h.sess]
theorem CAt.c3(h:CAt w0 W B z p pf bm l g s st):W.cell? ⟨z,3,none⟩=some (.string st.text):=by simp[World.cell?,h.sess]
theorem CAt.f2(h:CAt w0 W B z p pf bm l g s st):W.frozen? ⟨z,2,none⟩=false:=by simp[World.frozen?,h.sess]
theorem CAt.f3(h:CAt w0 W B z p pf bm l g s st):W.frozen? ⟨z,3,none⟩=false:=by simp[World.frozen?,h.sess]
theorem CAt.later(h:CAt w0 W B z p pf bm l g s st)(hb:Below W.heap.size W W'):CAt w0 W' B z p pf bm l g s st:=
 ⟨(hb.block _ h.lt).trans h.sess,h.disk.later hb,h.stands,h.calm,h.loader.later hb,h.shelf.later hb,h.files.later hb,h.below.trans (hb.mono h.below.size)⟩
theorem CAt.put(h:CAt w0 W B z p pf bm l g s st)(hlo:CLow w0 B z pf bm)(x:ByteArray):CAt w0 (W.setCell ⟨z,3,none⟩ (.string x)) B z p pf bm l g s {st with text:=x}:=by
 have ho:=Only.set h.sess 3 (.string x);refine⟨heap_setCell W z 3 _ _ _ h.sess,h.disk.only ho (by decide) (by decide) (by decide),h.stands,h.calm,h.loader.only ho (by decide),h.shelf.only ho (by decide),h.files.only ho (by decide) (by decide),?_⟩;exact h.below.trans ⟨rfl,rfl,rfl,by simp[World.setCell],fun k hk=>Below.heap_setCell _ _ _ _ (Nat.ne_of_lt (Nat.lt_of_lt_of_le hk hlo.sess))⟩
theorem CAt.turn(h:CAt w0 W B z p pf bm l g s st)(hlo:CLow w0 B z pf bm){D':DataW Unit}{kf':Nat}(hT:Turned pf bm W W')(hF:z0q W' pf bm D' kf'):CAt w0 W' B z p pf bm l g s {st with D:=D',kf:=kf'}:=by
 have ho:=Only.of_turned hT h.files;exact⟨ho.block _ _ h.sess (by simp[z5l,tsFiles]),h.disk.only ho (by decide) (by decide) (by decide),h.stands,h.calm,h.loader.only ho (by decide),h.shelf.only ho (by decide),hF,h.below.trans (hT.below h.below.size hlo.files hlo.map)⟩
theorem CAt.spin(h:CAt w0 W B z p pf bm l g s st)(hlo:CLow w0 B z pf bm){s':DSt}{E':Nat->EntF}{k':Nat}(hD:Disk W' B p 120 s')(hS:Spun B W W')(hSt:z0X s' 120 E' k')(hl:s'.left=-1):CAt w0 W' B z p pf bm l g s' {st with E:=E',k:=k'}:=by
 have ho:=Only.of_spun hS;exact⟨ho.block _ _ h.sess (by simp[z5l,tsDisk]),hD,hSt,hl,h.loader.only ho (by decide),h.shelf.only ho (by decide),h.files.only ho (by decide) (by decide),h.below.trans (hS.below.mono hlo.disk)⟩
end
def Told(e:Ending)(a:List UInt8):Prop:=
 (∃t:ByteArray,e=.returned (.tuple #[.string t,.nilIface])/\t.data.toList=a)∨(∃(t:ByteArray) (F:Nat),F≠0/\F<=1000/\e=.returned (.tuple #[.string t,errV F])/\a=z1h F)
theorem Well.next{st:CSt}{i:Nat}(h:Well st i):Well st (i+1):={h with text:=by have:=h.text;omega,few:=by have:=h.few;omega}
theorem told_done{F:Nat}(h:F<=1000):Told (.returned (.tuple #[.string ⟨#[111,107]⟩,errV F])) (z5z F):=by
 unfold z5z;by_cases h0:F=0
 ·subst h0;rw[if_pos rfl];exact .inl ⟨_,rfl,rfl⟩
 ·rw[if_neg h0];exact .inr ⟨_,F,h0,h,rfl,rfl⟩
theorem putF_in{X:Nat->Nat->Int}{p t v:Nat->Int}{i j:Nat}(P:Int->Prop)(h0:P (X i j)):∀n,(∀k,k<n->P (v k))->P (putF X p t v n i j)
 |0,_=>h0
 |n+1,h=>by
  have ih:=putF_in (p:=p) (t:=t) P h0 n fun k hk=>h k (by omega)
  unfold putF;split
  ·exact h n (by omega)
  ·exact ih
theorem tell_ok{D:DataW Unit}{k:Nat}{T:ByteArray->ByteArray}{S:ByteArray->Int}{root:ByteArray}{m:Nat}{B:Nat->Int}{P Q:ByteArray->Int}(hI:Inv D k)(hN:z2X D)(hP:z1y D)(hS:z3q D S)(hk:k<=1000000)(h:z0Z (rdD D T) root m B P Q) :
 TellOk m (nmAt (rdD D T) root) B (fun i=>(obAt (rdD D T) root i).nW) (z4m (rdD D T) root m B P Q)/\0<m:=by
 have hok:=z5t (z7I hI hN hP hS hk h);obtain⟨hSc,_,_⟩:=z4s h.of (z6y (T:=T) hI);have hob:∀j,j<m->z3J (obAt (rdD D T) root j):=fun j hj=>rd_ok (D:=D) (T:=T) (s:=nmAt (rdD D T) root j) (by rw[hSc.read j hj])
 have hparts:∀i,i<m->z0r (nmAt (rdD D T) root i).data.toList=0/\0<=B i/\B i<256:=fun i hi=>by
  have:=hok.parts i hi;exact⟨this.1,this.2.2.2.1,this.2.2.2.2⟩
 refine⟨⟨hok.nP,fun i hi=>?_,fun i hi=>(hob i hi).nW,fun i hi=>?_,fun i hi j hj=>?_⟩,hok.nP0⟩
 ·have h1:=z1k (hparts i hi).1;have h2:(nmAt (rdD D T) root i).data.toList.length=(nmAt (rdD D T) root i).size:=by simp
  omega
 ·have:=hparts i hi;omega
 ·have:=putF_in (X:=fun a b=>(obAt (rdD D T) root a).words b) (p:=pP (z0l (rdD D T) root m B P Q)) (t:=pT (z0l (rdD D T) root m B P Q)) (v:=pV (z0l (rdD D T) root m B P Q)) (i:=i) (j:=j) (fun x=>-9223372036854775807<=x/\x<=9223372036854775807) (by have:=(hob i hi).words j hj;show -9223372036854775807<=(obAt (rdD D T) root i).words j/\(obAt (rdD D T) root i).words j<=9223372036854775807;omega) (z0l (rdD D T) root m B P Q).length fun q hq=>by
   obtain⟨_,_,_,_,h1,h2⟩:=hok.pats q hq;have h1':-2147483648<=pV (z0l (rdD D T) root m B P Q) q:=h1;have h2':pV (z0l (rdD D T) root m B P Q) q<=2147483647:=h2;omega
  exact this
theorem z1K {t:ByteArray}{a:List UInt8}(h:t.data.toList=a):Told (.returned (.tuple #[.string t,.nilIface])) a:=.inl ⟨t,rfl,h⟩
theorem cload_any(w0 W:World)(B z p pf bm l g:Nat)(s:DSt)(st:CSt)(i:Nat)(n:ByteArray)(h:CAt w0 W B z p pf bm l g s st)(hw:Well st i)(hi:i<=1000)(hE:Env w0)(hn:n.size<=100) :
 Calls Tryz.prog 78 #[.pointer (some ⟨z,0,none⟩),.string n] W fun e W'=>Told e (sayC st (.load n)).2/\Below W.heap.size W W':=by
 have HL:=loaderLoad_any W B p 120 l g pf bm s st.E st.k st.D st.kf (txD st.D) (stD st.D) n h.disk h.stands h.loader h.shelf (hE.later h.below) h.files hw.inv (txD_is _) (z6n _) (Nat.le_trans hn (by decide));have c2:=h.c2;have hkf:st.kf<=1000000:=by have:=hw.few;omega
 go_enter Tryz.func78,Tryz.ntmps78;go_wp2_with fail;refine(show Calls _ _ _ _ _ from HL).mono ?_;rintro e w1 ⟨hLE,hb1⟩;clear HL c2;obtain⟨u,F,wx,Bx,rfl,hkp,_,hbx,hLd⟩:=loads_flag hLE hw.inv (txD_is _) (z6n _) hw.held;have hAns:(sayC st (.load n)).2=if (loadC (rdC st) n).1=0 then(if keptC st n=true then keptT else newT)++(loadC (rdC st) n).2 else z1h (loadC (rdC st) n).1:=rfl
 obtain⟨fl,hfl⟩:∃fl,((getE st.E st.k n).1&&z5c st.D (stD st.D) (getE st.E st.k n).2)=fl:=⟨_,rfl⟩;have hkc:keptC st n=fl:=hfl;rw[hfl]at hkp ⊢;rcases hLd.which with⟨hF,rfl,hRk⟩|⟨rfl,m,Bs,P,Q,g1,A,C,G,hRk,hPI⟩
 ·have hle:=reckIs_le hRk;rw[loadC_bad hRk hF]at hAns;rw[if_neg hF]at hAns;have HT:Hid (Told (.returned (.tuple #[.string ⟨#[]⟩,errV F])) (sayC st (.load n)).2):=.inr ⟨_,F,hF,by omega,rfl,hAns⟩;obtain⟨zz,hz⟩:=z5Y hF;rw[hz]at HT;rw[hz];clear hLE hLd hRk hAns hbx hkp hfl hkc hz;go_wp2;go_ret2;exact⟨HT.out,hb1⟩
 ·obtain⟨hok,hm⟩:=tell_ok hw.inv hw.names hw.pos (z6n st.D) hkf hRk;rw[loadC_ok hRk]at hAns;rw[if_pos rfl,hkc]at hAns;obtain⟨au,cu,rfl,_,hrow⟩:=parts_row hPI;have HTL:=tell_any au m cu (nmAt (rdC st) n) Bs A _ C _ w1 (hE.later (h.below.trans (hb1.mono h.below.size))) (hrow.later hbx) hok hm;rw[show errV 0=.nilIface from rfl];generalize hjt:Lib.join (z1P (nmAt (rdC st) n) Bs (z4m (rdC st) n m Bs P Q) (fun i=>(obAt (rdC st) n i).nW) m) [59,32]=jt at *;have hjl:jt.length<=6012:=by rw[<-hjt];exact parts_join hok (Nat.le_refl _)
  have HAN:Hid ((sayC st (.load n)).2=(if fl=true then keptT else newT)++jt):=hAns;clear hLE hLd hRk hAns hPI hrow hok hbx hkp hfl hkc hjt;cases fl with
  |true=>
   have HAN2:Hid ((sayC st (.load n)).2=keptT++jt):=HAN.out;clear HAN;go_wp2_with fail;refine(show Calls _ _ _ _ _ from HTL).mono ?_;rintro e w2 ⟨⟨t,rfl,ht⟩,hb2⟩;clear HTL;have hts:t.size<=6012:=by rw[z1W ht];exact hjl
   have HT:Hid (Told (.returned (.tuple #[.string (⟨#[107,101,112,116,32]⟩++t),.nilIface])) (sayC st (.load n)).2):=z1K (by rw[HAN2.out,<-ht];simp);clear HAN2 ht;go_wp2;go_ret2;exact⟨HT.out,hb1.trans (hb2.mono hb1.size)⟩
  |false=>
   have HAN2:Hid ((sayC st (.load n)).2=newT++jt):=HAN.out;clear HAN;go_wp2_with fail;refine(show Calls _ _ _ _ _ from HTL).mono ?_;rintro e w2 ⟨⟨t,rfl,ht⟩,hb2⟩;clear HTL;have hts:t.size<=6012:=by rw[z1W ht];exact hjl
   have HT:Hid (Told (.returned (.tuple #[.string (⟨#[110,101,119,32]⟩++t),.nilIface])) (sayC st (.load n)).2):=z1K (by rw[HAN2.out,<-ht];simp);clear HAN2 ht;go_wp2;go_ret2;exact⟨HT.out,hb1.trans (hb2.mono hb1.size)⟩
theorem loaderGet_any(w:World)(B p n l f g:Nat)(s:DSt)(E:Nat->EntF)(k:Nat)(root:ByteArray)(h:Disk w B p n s)(hS:z0X s n E k)(hl:z1u w l f g)(hg:z0T w g p)(hE:Env w) :
 Calls Tryz.prog 108 #[.pointer (some ⟨l,0,none⟩),.string root] w fun e w'=>∃v en,e=.returned (.tuple #[.agg (z1r v en),.bool (getE E k root).1])/\z2H en (getE E k root).2/\z5k w' v en/\Below w.heap.size w w':=by
 have hb0:Below w.heap.size w (w.alloc (.cells #[.string ⟨#[]⟩,.slice none 0 0,.slice none 0 0] 71)):=(Below.refl _ _).alloc (Nat.le_refl _) _;have hres:(w.alloc (.cells #[.string ⟨#[]⟩,.slice none 0 0,.slice none 0 0] 71)).heap[w.heap.size]?=some (.cells #[.string ⟨#[]⟩,.slice none 0 0,.slice none 0 0] 71 (0,0)):=Array.getElem?_push_size;have hz0:w.heap.size<(w.alloc (.cells #[.string ⟨#[]⟩,.slice none 0 0,.slice none 0 0] 71)).heap.size:=by simp
 have HD:=get_any _ B p n g s E k root (h.later hb0) hS (hg.later hb0) (hE.later hb0);have c1:=(hl.later hb0).c1;generalize getE E k root=r at *;obtain⟨rb,re⟩:=r;dsimp only at *;go_enter Tryz.func108,Tryz.ntmps108;go_wp2_with fail;refine(show Calls _ _ _ _ _ from HD).mono ?_;rintro e w1 ⟨v,en,rfl,hSm,hA,hb1⟩;clear HD c1;have hres1:=(hb1.block _ hz0).trans hres;have hbA:=hb0.trans (hb1.mono hb0.size);obtain⟨q0,q1,q2,f0,f1,f2⟩:=resAt hres1;have hNB:=z5b hbA (Nat.le_refl w.heap.size) (.string en.root) (.slice v.aP en.nP v.cP) (.slice v.aQ en.nQ v.cQ);have hAn:=(entNew_set hA hres1 (.string en.root) (.slice v.aP en.nP v.cP) (.slice v.aQ en.nQ v.cQ)).here;clear hA hb0 hb1 hbA hres hres1 hz0;go_wp2;refine bodyPost_ret (v:=.tuple #[.agg #[.string en.root,.slice v.aP en.nP v.cP,.slice v.aQ en.nQ v.cQ],.bool rb]) (by simp[results,Tryz.results108,go_sem,q0,q1,q2]) rfl ?_;exact⟨v,en,rfl,hSm,hAn,hNB⟩
theorem trim_line(x:List UInt8):Lib.trimSuffix (x++[10]) [10]=(x++[10]).dropLast:=by
 have h:Lib.hasSuffix (x++[10]) [10]=true:=by
  unfold Lib.hasSuffix;rw[List.isSuffixOf_iff_suffix];exact List.suffix_append x [10]
 unfold Lib.trimSuffix;rw[if_pos h];simp
theorem centry_any(w0 W:World)(B z p pf bm l g:Nat)(s:DSt)(st:CSt)(n:ByteArray)(h:CAt w0 W B z p pf bm l g s st)(hE:Env w0) :
 Calls Tryz.prog 79 #[.pointer (some ⟨z,0,none⟩),.string n] W fun e W'=>Told e (sayC st (.entry n)).2/\Below W.heap.size W W':=by
 have HG:=loaderGet_any W B p 120 l pf g s st.E st.k n h.disk h.stands h.loader h.shelf (hE.later h.below);have c2:=h.c2;have hAns:(sayC st (.entry n)).2=if (getE st.E st.k n).1=true then(z0D (getE st.E st.k n).2).dropLast else z1h 5:=rfl
 have hgood:(getE st.E st.k n).1=true->entF (getE st.E st.k n).2=0:=fun hh=>by
  unfold getE at hh ⊢;split
  ·rename_i hlt;rw[if_pos hlt]at hh;cases hh
  ·rename_i hlt;obtain⟨j,_,hj,_,hfj⟩:=z2i _ 0 rfl (show 0<=findF st.E n st.k 0 by omega);rw[hfj];exact h.stands.good.ok j hj
 generalize getE st.E st.k n=r at *;obtain⟨rb,re⟩:=r;dsimp only at *;have HAN:Hid ((sayC st (.entry n)).2=if rb=true then(z0D re).dropLast else z1h 5):=hAns;have hEw:=hE.later h.below;clear hAns;go_enter Tryz.func79,Tryz.ntmps79;go_wp2_with fail;refine(show Calls _ _ _ _ _ from HG).mono ?_;rintro e w1 ⟨v,en,rfl,hSm,hA,hb1⟩;clear HG c2;have hbx:Below w1.heap.size w1 (w1.alloc (.cells (z1r v en) 71)):=(Below.refl _ _).alloc (Nat.le_refl _) _;have hx:(w1.alloc (.cells (z1r v en) 71)).heap[w1.heap.size]?=some (.cells (z1r v en) 71 (0,0)):=Array.getElem?_push_size;have hA2:=hA.later hbx;have hb2:=hb1.trans (hbx.mono hb1.size);cases rb with
 |false=>
  have HT:Hid (Told (.returned (.tuple #[.string ⟨#[]⟩,errV 5])) (sayC st (.entry n)).2):=.inr ⟨_,5,by decide,by decide,rfl,HAN.out⟩;clear HAN hgood hA hA2 hSm;go_wp2;go_ret2;exact⟨HT.out,hb2⟩
 |true=>
  obtain⟨hen,hln⟩:entF en=0/\z0D en=z0D re:=by
   have h1:=hgood rfl;have h2:=hSm.symm.line h1;exact⟨h2.1,h2.2.symm⟩
  have HTX:=z7l v en (w1.alloc (.cells (z1r v en) 71)) hA2 (z5t hen).fit ((hEw.later hb1).later hbx);rw[textE_ok hen]at HTX;have hsl:(z0D en).length<=100000:=by
   have hOk:=z5t hen;have h1:=(z3P (entW en) (z3X hOk)).1;have h2:=z6P en;have h3:=hOk.nP;have h4:=hOk.nQ;unfold z0D;rw[List.length_append,List.length_singleton];omega
  have hAN2:(sayC st (.entry n)).2=(z0D en).dropLast:=by rw[HAN.out,if_pos rfl,hln]
  have hlast:(z0D en)=Lib.join (entW en) [32]++[10]:=rfl;have hszz:(⟨(z0D en).toArray⟩:ByteArray).size<=100000:=by show(z0D en).toArray.size<=100000;simpa using hsl
  have HTR:=fun W=>Tryz.strings_TrimSuffix ⟨(z0D en).toArray⟩ ⟨#[10]⟩ W (by omega)
  have hd:(⟨(z0D en).toArray⟩:ByteArray).data.toList=z0D en:=by simp
  rw[hd]at HTR;have e10:(⟨#[10]⟩:ByteArray).data.toList=[10]:=rfl;rw[e10,hlast,trim_line,<-hlast]at HTR;have HT:Hid (Told (.returned (.tuple #[.string ⟨(z0D en).dropLast.toArray⟩,.nilIface])) (sayC st (.entry n)).2):=z1K (by rw[hAN2]);obtain⟨c0,c1,c2⟩:(w1.alloc (.cells (z1r v en) 71)).cell? ⟨w1.heap.size,0,none⟩=some (.string en.root)/\(w1.alloc (.cells (z1r v en) 71)).cell? ⟨w1.heap.size,1,none⟩=some (.slice v.aP en.nP v.cP)/\(w1.alloc (.cells (z1r v en) 71)).cell? ⟨w1.heap.size,2,none⟩=some (.slice v.aQ en.nQ v.cQ):=⟨by simp only[World.cell?,hx];rfl,by simp only[World.cell?,hx];rfl,by simp only[World.cell?,hx];rfl⟩;generalize (⟨(z0D en).toArray⟩:ByteArray)=tl at *;generalize (⟨(z0D en).dropLast.toArray⟩:ByteArray)=tt at *;rw[show errV 0=.nilIface from rfl]at HTX;clear HAN hgood hA hA2 hSm hAN2 hlast hd e10 hsl hln hen hx;go_wp2_with fail;refine(show Calls _ _ _ _ _ from HTX).mono ?_;rintro e w3 ⟨rfl,hb3⟩;clear HTX c0 c1 c2;go_wp2_with fail;refine(show Calls _ _ _ _ _ from HTR _).mono ?_;rintro e w4 ⟨rfl,rfl⟩;clear HTR;go_wp2;go_ret2;exact⟨HT.out,hb2.trans (hb3.mono hb2.size)⟩
end
section
open Go.RowKit
theorem hash_any(s:ByteArray)(w:World)(hs:s.size<=maxLen) :
 Calls Tryz.prog 81 #[.string s] w fun e w'=>e=.returned (.int .u32 ((z5r s.data.toList:Nat):Int))/\w=w':=by
 unfold maxLen at hs;go_enter Tryz.func81,Tryz.ntmps81;go_wp2;go_loop [3,7] (fun h i=>∃k:Nat,k<=s.size/\i=.int .i64 k/\h=.int .u32 ((z5r (s.data.toList.take k):Nat):Int)) (fun _ i=>s.size-(intOf i).toNat)
 case atStart=>exact⟨0,Nat.zero_le _,rfl,rfl⟩
 case round=>
  obtain⟨k,hk,rfl,rfl⟩:=hrel;have hx:=hashL_lt (s.data.toList.take k);by_cases hlt:k<s.size
  ·have HS:Hid (z5r (s.data.toList.take (k+1))=z7c (z5r (s.data.toList.take k)) s[k].toNat):=by
    rw[take_snoc s k hlt];exact hashL_snoc _ _
   have hb:(s[k].toNat:Int)<256:=by have:=s[k].toNat_lt;omega
   generalize z5r (s.data.toList.take k)=x at *;go_wp2;go_round
   case rel=>exact⟨k+1,by omega,by go_num,by rw[HS.out,hstep_code]⟩
   case measure=>simp[intOf];omega
  ·go_wp2;go_ret;have e:s.data.toList.take k=s.data.toList:=List.take_of_length_le (by simp;omega);rw[e];exact⟨rfl,rfl⟩
theorem refHash_any(s:ByteArray)(w:World)(hs:s.size<=maxLen) :
 Calls Tryz.prog 28 #[.string s] w fun e w'=>e=.returned (.int .i64 ((z5r s.data.toList:Nat):Int))/\w=w':=by
 unfold maxLen at hs;go_enter Tryz.func28,Tryz.ntmps28;go_wp2;go_loop [3,4] (fun h i=>∃k:Nat,k<=s.size/\i=.int .i64 k/\h=.int .i64 ((z5r (s.data.toList.take k):Nat):Int)) (fun _ i=>s.size-(intOf i).toNat)
 case atStart=>exact⟨0,Nat.zero_le _,rfl,rfl⟩
 case round=>
  obtain⟨k,hk,rfl,rfl⟩:=hrel;have hx:=hashL_lt (s.data.toList.take k);by_cases hlt:k<s.size
  ·have HS:Hid (z5r (s.data.toList.take (k+1))=z7c (z5r (s.data.toList.take k)) s[k].toNat):=by
    rw[take_snoc s k hlt];exact hashL_snoc _ _
   have hb:(s[k].toNat:Int)<256:=by have:=s[k].toNat_lt;omega
   generalize z5r (s.data.toList.take k)=x at *;go_wp2;go_round
   case rel=>exact⟨k+1,by omega,by go_num,by rw[HS.out,<-hstep_ref]⟩
   case measure=>simp[intOf];omega
  ·go_wp2;go_ret;have e:s.data.toList.take k=s.data.toList:=List.take_of_length_le (by simp;omega);rw[e];exact⟨rfl,rfl⟩
end
section
open Go.RowKit Go.Maps
theorem z0Q {w:ByteArray}{k:List UInt8}(h:w.data.toList=k):(w.toList==k)=true:=by rw[ByteArray.toList_eq,h];simp
theorem z0h {w:ByteArray}{k:List UInt8}(h:w.data.toList≠k):(w.toList==k)=false:=by rw[beq_eq_false_iff_ne,ByteArray.toList_eq];exact h
theorem build_is{s s':DSt}{n:Nat}{E:Nat->EntF}{k:Nat}{D:DataW Unit}{kf:Nat}{T:ByteArray->ByteArray}{S:ByteArray->Int}{root:ByteArray}{e:Ending}(h:BuildEnd s n E k (rdD D T) S root s' e)(hSt:z0X s n E k)(hl:s.left=-1)(hI:Inv D kf)(hT:z4C D T)(hS:z3q D S)(hH:∀i,i<k->Held D kf (E i)) :
 ∃(F:Nat) (r:(Nat->EntF)×Nat),e=.returned (errV F)/\s'.left=-1/\z0X s' n r.1 r.2/\(∀i,i<r.2->Held D kf (r.1 i))/\RBuilt E k (rdD D T) S root F r:=by
 cases h with
 |bad F h1 hf hs=>
  subst hs;exact⟨F,(E,k),rfl,hl,hSt,hH,.bad F h1 hf⟩
 |put m Bs P Q e h1 hp=>
  obtain⟨he,hl',hSt'⟩:=hp.calm hSt hl putE_kept;exact⟨_,(putE E k (z4t (rdD D T) S root m Bs (z0l (rdD D T) root m Bs P Q))).2,he,hl',hSt',held_putE hH (Held.new hI hT hS h1),.put m Bs P Q h1⟩
theorem real_of{W:World}{pf bm:Nat}{D:DataW Unit}{k:Nat}(h:z0q W pf bm D k):Real D:=⟨W,bm,_,h.own⟩
abbrev z7g:List (Option TypeId):=[some 87,some 118,some 177,some 174,some 125,none]
theorem Only.widen{ts ts':List (Option TypeId)}{w w':World}(h:Only ts w w')(hs:∀t,t∈ts->t∈ts'):Only ts' w w':=⟨fun k o hk ho=>h.block k o hk fun hm=>ho (hs _ hm)⟩
theorem Only.refl(ts:List (Option TypeId))(w:World):Only ts w w:=⟨fun _ _ hk _=>hk⟩
theorem z3d {w w':World}(h:Below w.heap.size w w'):Only z7g w w':=(Only.of_below h).widen (by decide)
theorem oTurned{pf bm:Nat}{w w':World}{D:DataW Unit}{k:Nat}(h:Turned pf bm w w')(hF:z0q w pf bm D k):Only z7g w w':=(Only.of_turned h hF).widen (by decide)
theorem oSpun{B:Nat}{w w':World}(h:Spun B w w'):Only z7g w w':=(Only.of_spun h).widen (by decide)
theorem oSet{w0 W:World}{B z p pf bm l g:Nat}{s:DSt}{st:CSt}(h:CAt w0 W B z p pf bm l g s st)(i:Nat)(v:Value):Only z7g W (W.setCell ⟨z,i,none⟩ v):=(Only.set h.sess i v).widen (by decide)
def z2E (w0:World)(B z p pf bm:Nat)(st':CSt)(i:Nat)(V W':World):Prop:=(∃l' g' s',CAt w0 W' B z p pf bm l' g' s' st')/\Well st' (i+1)/\Only z7g V W'
theorem z2E.later{w0 V W W':World}{B z p pf bm:Nat}{st:CSt}{i:Nat}(h:z2E w0 B z p pf bm st i V W)(hb:Below W.heap.size W W'):z2E w0 B z p pf bm st i V W':=by
 obtain⟨⟨l,g,s,h1⟩,h2,h3⟩:=h;exact⟨⟨l,g,s,h1.later hb⟩,h2,h3.trans (z3d hb)⟩
theorem z2E.behind{w0 V V' W:World}{B z p pf bm:Nat}{st:CSt}{i:Nat}(h:z2E w0 B z p pf bm st i V W)(ho:Only z7g V' V):z2E w0 B z p pf bm st i V' W:=⟨h.1,h.2.1,ho.trans h.2.2⟩
theorem named_any(w0 W:World)(B z p pf bm l g:Nat)(s:DSt)(st:CSt)(i:Nat)(word n:ByteArray)(h:CAt w0 W B z p pf bm l g s st)(hlo:CLow w0 B z pf bm)(hw:Well st i)(hi:i<=1000)(hE:Env w0)(hn:n.size<=100) :
 Calls Tryz.prog 53 #[.pointer (some ⟨z,0,none⟩),.string word,.string n] W fun e W'=>Told e (sayC st (z1e word.data.toList n)).2/\z2E w0 B z p pf bm (sayC st (z1e word.data.toList n)).1 i W W':=by
 have hnm:n.size<=maxLen:=Nat.le_trans hn (by decide);have hsz:Maps.size st.D<=1000:=by have:=hw.inv.size;omega
 have hkf:st.kf<=1000000:=by have:=hw.few;omega
 by_cases k1:word.data.toList=cWrite
 ·have e1:=z0Q k1;have hc:z1e word.data.toList n=.write n:=by unfold z1e;rw[if_pos k1]
  rw[hc];have h1:=h.later (Below.refl _ W).drew;have HW:=write_any W.drew pf bm st.D st.kf n st.text h1.files hnm hsz;have HFIN:Hid (∀W':World,Turned pf bm W.drew W'->(writeF st.D st.kf n st.text=0->z0q W' pf bm (st.D.put (keyB n) (z1s st.text.data.toList ((st.kf:Int)+1))) (st.kf+1))->(writeF st.D st.kf n st.text≠0->z0q W' pf bm st.D st.kf)->z2E w0 B z p pf bm (sayC st (.write n)).1 i W W'):=fun W' hT hy hn'=>by
   have hs:(sayC st (.write n)).1=if writeF st.D st.kf n st.text=0 then {st with D:=st.D.put (keyB n) (z1s st.text.data.toList ((st.kf:Int)+1)),kf:=st.kf+1}else st:=rfl
   by_cases h0:writeF st.D st.kf n st.text=0
   ·rw[hs,if_pos h0];have hF:=hy h0;exact⟨⟨l,g,s,h1.turn hlo hT hF⟩,⟨by have:=hw.text;show st.text.size<=61*(i+1);omega,hw.inv.put h0,hw.names.put h0,z1y.put hw.inv hw.pos,by have:=hw.few;show st.kf+1<=i+1;omega,fun j hj=>(hw.held j hj).step fun D0 k0 hsn=>hsn.put hw.inv,hw.good,real_of hF⟩,(z3d (Below.refl _ W).drew).trans (oTurned hT h1.files)⟩
   ·rw[hs,if_neg h0];have hF:=hn' h0;exact⟨⟨l,g,s,h1.turn (D':=st.D) (kf':=st.kf) hlo hT hF⟩,hw.next,(z3d (Below.refl _ W).drew).trans (oTurned hT h1.files)⟩
  have hle:=writeF_le st.D st.kf n st.text;have HT:Hid (Told (.returned (.tuple #[.string ⟨#[111,107]⟩,errV (writeF st.D st.kf n st.text)])) (sayC st (.write n)).2):=told_done (by omega);generalize writeF st.D st.kf n st.text=F at *;have mkS:∀V:World,CAt w0 V B z p pf bm l g s st->(fun w':World=>w'.cell? ⟨z,0,none⟩=some (.pointer (some ⟨pf,0,none⟩))/\w'.cell? ⟨z,3,none⟩=some (.string st.text)) V:=fun V hV=>⟨hV.c0,hV.c3⟩
  have hSS:=mkS _ h1;have HS6:Hid (∀V:World,Turned pf bm W.drew V->(fun w':World=>w'.cell? ⟨z,0,none⟩=some (.pointer (some ⟨pf,0,none⟩))/\w'.cell? ⟨z,3,none⟩=some (.string st.text)) V):=fun V hV=>by
   have hb:=(Only.of_turned hV h1.files).block _ _ h1.sess (by simp[z5l,tsFiles]);exact⟨by simp[World.cell?,hb],by simp[World.cell?,hb]⟩
  clear hc k1 mkS hnm hsz hle;go_enter Tryz.func53,Tryz.ntmps53;go_upto_region 3 with fail;refine z0f (fun w':World=>w'.cell? ⟨z,0,none⟩=some (.pointer (some ⟨pf,0,none⟩))/\w'.cell? ⟨z,3,none⟩=some (.string st.text)) 10 15 (by kernel_rfl) rfl ?_;generalize W.drew=W1 at *;refine tW 0 hSS ?_;refine tW 1 hSS ?_;refine tW 2 hSS ?_;refine tW 4 hSS ?_;refine tW 5 hSS ?_;refine tW 6 hSS ?_;refine tW 7 hSS ?_;refine tR 3 [9] hSS ?_;refine tR 8 [9] hSS ?_;clear hSS;refine oG 9 fun K hK=>?_
  go_wp2_with fail;refine(show Calls _ _ _ _ _ from HW).mono ?_;rintro e w6 ⟨rfl,hFy,hFn,hT6⟩;clear HW;have hSS6:=HS6.out w6 hT6;have HF:=HFIN.out w6 hT6 hFy hFn;have HHF:Hid (z2E w0 B z p pf bm (sayC st (.write n)).1 i W w6):=HF;have HD:=z4S (errV F) w6;clear HFIN HS6 hT6 hFy hFn HF;go_wp2;refine hK _ _ hSS6 ?_;clear hK hSS6;refine lG 10 fun K hK=>?_
  go_wp2_with fail;refine(show Calls _ _ _ _ _ from HD).mono ?_;rintro e w7 ⟨rfl,hw7⟩;subst w7;clear HD;go_wp2;refine hK _ _ ?_;clear hK;refine tA 11 ?_;refine tA 12 ?_;refine tA 13 ?_;refine tA 14 ?_;refine z1c (by kernel_rfl) ?_ _;go_wp2;go_ret2;exact⟨HT.out,HHF.out⟩
 have e1:=z0h k1;by_cases k2:word.data.toList=cRemove
 ·have e2:=z0Q k2;have hc:z1e word.data.toList n=.remove n:=by unfold z1e;rw[if_neg k1,if_pos k2]
  rw[hc];obtain⟨F,hF⟩:∃F:Nat,F=if Maps.has st.D (keyB n)=true then 0 else 5:=⟨_,rfl⟩
  have HW:=remove_any W pf bm st.D st.kf n h.files hnm F hF;have hle:F<=1000:=by rw[hF];split <;> decide
  have HT:Hid (Told (.returned (.tuple #[.string ⟨#[111,107]⟩,errV F])) (sayC st (.remove n)).2):=by
   have:(sayC st (.remove n)).2=z5z F:=by rw[hF];rfl
   show Told _ _;rw[this];exact told_done hle
  have c0:=h.c0;clear hc k1 k2 hF;go_enter Tryz.func53,Tryz.ntmps53;go_wp2_with fail;refine(show Calls _ _ _ _ _ from HW).mono ?_;rintro e w6 ⟨rfl,hF6,hT6⟩;clear HW c0;have HHF:Hid (z2E w0 B z p pf bm (sayC st (.remove n)).1 i W w6):=⟨⟨l,g,s,h.turn hlo hT6 hF6⟩,⟨by have:=hw.text;show st.text.size<=61*(i+1);omega,hw.inv.del,hw.names.del,hw.pos.del,by have:=hw.few;show st.kf<=i+1;omega,fun j hj=>(hw.held j hj).step fun D0 k0 hsn=>hsn.del,hw.good,real_of hF6⟩,oTurned hT6 h.files⟩;have HD:=z4S (errV F) w6;clear hF6 hT6;go_wp2_with fail;refine(show Calls _ _ _ _ _ from HD).mono ?_;rintro e w7 ⟨rfl,hw7⟩;subst w7;clear HD;go_wp2;go_ret2;exact⟨HT.out,HHF.out⟩
 have e2:=z0h k2;by_cases k3:word.data.toList=cStamp
 ·have e3:=z0Q k3;have hc:z1e word.data.toList n=.stamp n:=by unfold z1e;rw[if_neg k1,if_neg k2,if_pos k3]
  rw[hc];have HR:=z4b W pf bm st.D st.kf n h.files hnm;have c0:=h.c0;clear hc k1 k2 k3;go_enter Tryz.func53,Tryz.ntmps53;go_wp2_with fail;refine(show Calls _ _ _ _ _ from HR).mono ?_;rintro e w6 ⟨⟨t,nn,f,rfl,hRI⟩,hb6⟩;clear HR c0;have hAns:(sayC st (.stamp n)).2=if Maps.has st.D (keyB n)=true then Lib.itoa (stD st.D n)else z1h 5:=rfl
  have hcase:(f=0/\0<=nn/\nn<=1000000/\(sayC st (.stamp n)).2=Lib.itoa nn)∨(f=5/\nn=0/\(sayC st (.stamp n)).2=z1h 5):=by
   cases hh:Maps.has st.D (keyB n)with
   |true=>
    obtain⟨h1,h2⟩:=hRI.yes hh;have h3:=(z6n st.D).is n _ nn hh h2;have h4:=hw.pos n _ nn hh h2;obtain⟨t',n',h5,h6⟩:=hw.inv.st (keyB n) hh;have h7:=z4L (h2.symm.trans h5);rw[hh,if_pos rfl,<-h3]at hAns;exact .inl ⟨h1,by omega,by omega,hAns⟩
   |false=>
    obtain⟨h1,_,h3⟩:=hRI.no hh;rw[hh,if_neg (by decide)]at hAns;exact .inr ⟨h1,h3,hAns⟩
  have HHF:Hid (z2E w0 B z p pf bm (sayC st (.stamp n)).1 i W w6):=⟨⟨l,g,s,h.later hb6⟩,hw.next,z3d hb6⟩;have HC:=z6w nn w6 (hE.later (h.below.trans (hb6.mono h.below.size))) (by omega) (by omega);have HT:Hid (Told (.returned (.tuple #[.string ⟨(Lib.itoa nn).toArray⟩,errV f])) (sayC st (.stamp n)).2):=by
   rcases hcase with⟨rfl,_,_,ha⟩|⟨rfl,_,ha⟩
   ·exact z1K (by rw[ha])
   ·exact .inr ⟨_,5,by decide,by decide,rfl,ha⟩
  generalize (⟨(Lib.itoa nn).toArray⟩:ByteArray)=tt at *;clear hRI hAns hcase;generalize errV f=ev at *;go_wp2_with fail;refine(show Calls _ _ _ _ _ from HC).mono ?_;rintro e w7 ⟨rfl,hb7⟩;clear HC;go_wp2;go_ret2;exact⟨HT.out,HHF.out.later hb7⟩
 have e3:=z0h k3;by_cases k4:word.data.toList=cBuild
 ·have e4:=z0Q k4;have hc:z1e word.data.toList n=.build n:=by unfold z1e;rw[if_neg k1,if_neg k2,if_neg k3,if_pos k4]
  rw[hc];have HB:=loaderBuild_any W B p 120 l g pf bm s st.E st.k st.D st.kf (txD st.D) (stD st.D) n h.disk h.stands h.loader h.shelf (hE.later h.below) h.files hw.inv hw.names hw.pos (txD_is _) (z6n _) hkf hnm;have c2:=h.c2;clear hc k1 k2 k3 k4;go_enter Tryz.func53,Tryz.ntmps53;go_wp2_with fail;refine(show Calls _ _ _ _ _ from HB).mono ?_;rintro e w6 ⟨s',hBE,hD6,hS6⟩;clear HB c2;obtain⟨F,r,rfl,hl',hSt',hH',hRB⟩:=build_is hBE h.stands h.calm hw.inv (txD_is _) (z6n _) hw.held;have hbc:=builtC_is (st:=st) hRB;have hle:=rBuilt_le hRB;have hs1:(sayC st (.build n)).1={st with E:=(builtC st n).2.1,k:=(builtC st n).2.2}:=rfl;have hs2:(sayC st (.build n)).2=z5z (builtC st n).1:=rfl;rw[hbc]at hs1 hs2;have HHF:Hid (z2E w0 B z p pf bm (sayC st (.build n)).1 i W w6):=by
   show z2E _ _ _ _ _ _ _ _ _ _;rw[hs1];exact⟨⟨l,g,s',h.spin hlo hD6 hS6 hSt' hl'⟩,⟨by have:=hw.text;show st.text.size<=61*(i+1);omega,hw.inv,hw.names,hw.pos,by have:=hw.few;show st.kf<=i+1;omega,hH',hSt'.good,hw.real⟩,oSpun hS6⟩
  have HT:Hid (Told (.returned (.tuple #[.string ⟨#[111,107]⟩,errV F])) (sayC st (.build n)).2):=by
   show Told _ _;rw[hs2];exact told_done (by omega)
  have HD:=z4S (errV F) w6;clear hBE hD6 hS6 hl' hSt' hH' hRB hbc hs1 hs2;go_wp2_with fail;refine(show Calls _ _ _ _ _ from HD).mono ?_;rintro e w7 ⟨rfl,hw7⟩;subst w7;clear HD;go_wp2;go_ret2;exact⟨HT.out,HHF.out⟩
 have e4:=z0h k4;by_cases k5:word.data.toList=cDrop
 ·have e5:=z0Q k5;have hc:z1e word.data.toList n=.drop n:=by unfold z1e;rw[if_neg k1,if_neg k2,if_neg k3,if_neg k4,if_pos k5]
  rw[hc];have HB:=loaderDrop_any W B p 120 l pf g s st.E st.k n h.disk h.stands h.loader h.shelf (hE.later h.below);have c2:=h.c2;clear hc k1 k2 k3 k4 k5;go_enter Tryz.func53,Tryz.ntmps53;go_wp2_with fail;refine(show Calls _ _ _ _ _ from HB).mono ?_;rintro e w6 ⟨s',hPE,hD6,hS6⟩;clear HB c2;obtain⟨he,hl',hSt'⟩:=hPE.calm h.stands h.calm dropE_kept;subst he;have hle:=dropE_le st.E st.k n;have HHF:Hid (z2E w0 B z p pf bm (sayC st (.drop n)).1 i W w6):=⟨⟨l,g,s',h.spin hlo hD6 hS6 hSt' hl'⟩,⟨by have:=hw.text;show st.text.size<=61*(i+1);omega,hw.inv,hw.names,hw.pos,by have:=hw.few;show st.kf<=i+1;omega,held_dropE hw.held,hSt'.good,hw.real⟩,oSpun hS6⟩;have HT:Hid (Told (.returned (.tuple #[.string ⟨#[111,107]⟩,errV (z2F st.E st.k n).1])) (sayC st (.drop n)).2):=told_done (by omega);have HD:=z4S (errV (z2F st.E st.k n).1) w6;clear hPE hD6 hS6 hl' hSt' hle;generalize (z2F st.E st.k n).1=F at *;go_wp2_with fail;refine(show Calls _ _ _ _ _ from HD).mono ?_;rintro e w7 ⟨rfl,hw7⟩;subst w7;clear HD;go_wp2;go_ret2;exact⟨HT.out,HHF.out⟩
 have e5:=z0h k5;by_cases k6:word.data.toList=cLoad
 ·have e6:=z0Q k6;have hc:z1e word.data.toList n=.load n:=by unfold z1e;rw[if_neg k1,if_neg k2,if_neg k3,if_neg k4,if_neg k5,if_pos k6]
  rw[hc];have HL:=cload_any w0 W B z p pf bm l g s st i n h hw hi hE hn;clear hc k1 k2 k3 k4 k5 k6;go_enter Tryz.func53,Tryz.ntmps53;go_wp2_with fail;refine(show Calls _ _ _ _ _ from HL).mono ?_;rintro e w6 ⟨hT,hb6⟩;clear HL;have HHF:Hid (z2E w0 B z p pf bm (sayC st (.load n)).1 i W w6):=⟨⟨l,g,s,h.later hb6⟩,hw.next,z3d hb6⟩;rcases hT with⟨t,rfl,ht⟩|⟨t,F,hF,hle,rfl,ht⟩
  ·have HT:Hid (Told (.returned (.tuple #[.string t,.nilIface])) (sayC st (.load n)).2):=z1K ht;clear ht;go_wp2;go_ret2;exact⟨HT.out,HHF.out⟩
  ·have HT:Hid (Told (.returned (.tuple #[.string t,errV F])) (sayC st (.load n)).2):=.inr ⟨t,F,hF,hle,rfl,ht⟩;clear ht;generalize errV F=ev at *;go_wp2;go_ret2;exact⟨HT.out,HHF.out⟩
 have e6:=z0h k6;by_cases k7:word.data.toList=cEntry
 ·have e7:=z0Q k7;have hc:z1e word.data.toList n=.entry n:=by unfold z1e;rw[if_neg k1,if_neg k2,if_neg k3,if_neg k4,if_neg k5,if_neg k6,if_pos k7]
  rw[hc];have HL:=centry_any w0 W B z p pf bm l g s st n h hE;clear hc k1 k2 k3 k4 k5 k6 k7;go_enter Tryz.func53,Tryz.ntmps53;go_wp2_with fail;refine(show Calls _ _ _ _ _ from HL).mono ?_;rintro e w6 ⟨hT,hb6⟩;clear HL;have HHF:Hid (z2E w0 B z p pf bm (sayC st (.entry n)).1 i W w6):=⟨⟨l,g,s,h.later hb6⟩,hw.next,z3d hb6⟩;rcases hT with⟨t,rfl,ht⟩|⟨t,F,hF,hle,rfl,ht⟩
  ·have HT:Hid (Told (.returned (.tuple #[.string t,.nilIface])) (sayC st (.entry n)).2):=z1K ht;clear ht;go_wp2;go_ret2;exact⟨HT.out,HHF.out⟩
  ·have HT:Hid (Told (.returned (.tuple #[.string t,errV F])) (sayC st (.entry n)).2):=.inr ⟨t,F,hF,hle,rfl,ht⟩;clear ht;generalize errV F=ev at *;go_wp2;go_ret2;exact⟨HT.out,HHF.out⟩
 have e7:=z0h k7;by_cases k8:word.data.toList=cHash
 ·have e8:=z0Q k8;have hc:z1e word.data.toList n=.hash n:=by unfold z1e;rw[if_neg k1,if_neg k2,if_neg k3,if_neg k4,if_neg k5,if_neg k6,if_neg k7,if_pos k8]
  rw[hc];have HH:=hash_any n W hnm;have hlt:=hashL_lt n.data.toList;have HU:=formatUint_any (z5r n.data.toList) (by omega) W (hE.later h.below);have HHF:Hid (∀W',Below W.heap.size W W'->z2E w0 B z p pf bm (sayC st (.hash n)).1 i W W'):=fun W' hb=>⟨⟨l,g,s,h.later hb⟩,hw.next,z3d hb⟩
  have HT:Hid (Told (.returned (.tuple #[.string ⟨(Lib.itoa ((z5r n.data.toList:Nat):Int)).toArray⟩,.nilIface])) (sayC st (.hash n)).2):=z1K (by simp;rfl);generalize (⟨(Lib.itoa ((z5r n.data.toList:Nat):Int)).toArray⟩:ByteArray)=tt at *;generalize z5r n.data.toList=hv at *;clear hc k1 k2 k3 k4 k5 k6 k7 k8;go_enter Tryz.func53,Tryz.ntmps53;go_wp2_with fail;refine(show Calls _ _ _ _ _ from HH).mono ?_;rintro e w6 ⟨rfl,hw6⟩;subst w6;clear HH;have hwr:IntKind.u64.wrap (hv:Int)=(hv:Int):=by rw[IntKind.wrap_u64];omega
  go_wp2_with fail;refine(show Calls _ _ _ _ _ from HU).mono ?_;rintro e w7 ⟨rfl,hb7⟩;clear HU;have HH7:=HHF.out w7 hb7;go_wp2;go_ret2;exact⟨HT.out,HH7⟩
 have e8:=z0h k8;have hc:z1e word.data.toList n=.bad:=by unfold z1e;rw[if_neg k1,if_neg k2,if_neg k3,if_neg k4,if_neg k5,if_neg k6,if_neg k7,if_neg k8]
 rw[hc];have HHF:Hid (z2E w0 B z p pf bm (sayC st .bad).1 i W W):=⟨⟨l,g,s,h⟩,hw.next,Only.refl _ _⟩;have HT:Hid (Told (.returned (.tuple #[.string ⟨#[]⟩,errV 4])) (sayC st .bad).2):=.inr ⟨_,4,by decide,by decide,rfl,rfl⟩;clear hc k1 k2 k3 k4 k5 k6 k7 k8;go_enter Tryz.func53,Tryz.ntmps53;go_wp2;go_ret2;exact⟨HT.out,HHF.out⟩
end
end Go.Proofs.YtbcpcbonlhlhpaaGreatDoor
