/- What package loader does: New, Drop, Roots, Build and Load, -/
import Derived.Test.YtbcpcbonlhlhpaaGreatDoorShelfDrop
import Derived.Test.YtbcpcbonlhlhpaaGreatDoorUseAll
import Derived.Deep.CutBlock
set_option maxRecDepth 100000
set_option maxHeartbeats 8000000
namespace Go.Proofs.YtbcpcbonlhlhpaaGreatDoor
section
open Go.RowKit Go.Maps
def z1u (w:World)(l f g:Nat):Prop:=w.heap[l]?=some (.cells #[.pointer (some ⟨f,0,none⟩),.pointer (some ⟨g,0,none⟩)] 130 (0,0))
theorem z1u.lt{w:World}{l f g:Nat}(h:z1u w l f g):l<w.heap.size:=(Array.getElem?_eq_some_iff.1 h).1
theorem z1u.c0{w:World}{l f g:Nat}(h:z1u w l f g):w.cell? ⟨l,0,none⟩=some (.pointer (some ⟨f,0,none⟩)):=by simp[World.cell?,show w.heap[l]?=_ from h]
theorem z1u.c1{w:World}{l f g:Nat}(h:z1u w l f g):w.cell? ⟨l,1,none⟩=some (.pointer (some ⟨g,0,none⟩)):=by simp[World.cell?,show w.heap[l]?=_ from h]
theorem z1u.later{w w':World}{l f g:Nat}(h:z1u w l f g)(hb:Below w.heap.size w w'):z1u w' l f g:=(hb.block _ h.lt).trans h
theorem loaderNew_any(w:World)(B p n f:Nat)(s:DSt)(E:Nat->EntF)(k:Nat)(h:Disk w B p n s)(hS:z0X s n E k)(hE:Env w) :
 Calls Tryz.prog 33 #[.pointer (some ⟨f,0,none⟩),.pointer (some ⟨p,0,none⟩)] w fun e w'=>∃l g,e=.returned (.tuple #[.pointer (some ⟨l,0,none⟩),.nilIface])/\w.heap.size<=l/\z1u w' l f g/\z0T w' g p/\Below w.heap.size w w':=by
 have HO:=open_any w B p n s E k h hS hE;go_enter Tryz.func33,Tryz.ntmps33;go_wp2_with fail;refine(show Calls _ _ _ _ _ from HO).mono ?_;rintro e w1 ⟨g,rfl,_,hg,hb1⟩;clear HO;have hbn:Below w1.heap.size w1 (w1.alloc (.cells #[.pointer (some ⟨f,0,none⟩),.pointer (some ⟨g,0,none⟩)] 130)):=(Below.refl _ _).alloc (Nat.le_refl _) _;have hl:z1u (w1.alloc (.cells #[.pointer (some ⟨f,0,none⟩),.pointer (some ⟨g,0,none⟩)] 130)) w1.heap.size f g:=Array.getElem?_push_size;have HF:Hid (∃l' g',Ending.returned (.tuple #[.pointer (some ⟨w1.heap.size,0,none⟩),.nilIface])=.returned (.tuple #[.pointer (some ⟨l',0,none⟩),.nilIface])/\w.heap.size<=l'/\z1u (w1.alloc (.cells #[.pointer (some ⟨f,0,none⟩),.pointer (some ⟨g,0,none⟩)] 130)) l' f g'/\z0T (w1.alloc (.cells #[.pointer (some ⟨f,0,none⟩),.pointer (some ⟨g,0,none⟩)] 130)) g' p/\Below w.heap.size w (w1.alloc (.cells #[.pointer (some ⟨f,0,none⟩),.pointer (some ⟨g,0,none⟩)] 130))):=
  ⟨_,g,rfl,hb1.size,hl,hg.later hbn,hb1.trans (hbn.mono hb1.size)⟩
 clear hbn hl hg;go_wp2;go_ret2;exact HF.out
theorem loaderDrop_any(w:World)(B p n l f g:Nat)(s:DSt)(E:Nat->EntF)(k:Nat)(root:ByteArray)(h:Disk w B p n s)(hS:z0X s n E k)(hl:z1u w l f g)(hg:z0T w g p)(hE:Env w) :
 Calls Tryz.prog 77 #[.pointer (some ⟨l,0,none⟩),.string root] w fun e w'=>∃s',ShPut s n E k (z2F E k root) s' e/\Disk w' B p n s'/\Spun B w w':=by
 have HD:=drop_any w B p n g s E k root h hS hg hE;have c1:=hl.c1;go_enter Tryz.func77,Tryz.ntmps77;go_wp2_with fail;refine(show Calls _ _ _ _ _ from HD).mono ?_;rintro e w1 ⟨s',hPE,hD1,hS1⟩;clear HD;have HP:Hid (ShPut s n E k (z2F E k root) s' e):=hPE;obtain⟨v,rfl⟩:∃v,e=.returned v:=by
  cases hPE with
  |bad _ _=>exact⟨_,rfl⟩
  |keep _ _ hk=>cases hk <;> exact⟨_,rfl⟩
 clear hPE;go_wp2;go_ret;exact⟨s',HP.out,hD1,hS1⟩
theorem loaderRoots_any(w:World)(B p n l f g:Nat)(s:DSt)(E:Nat->EntF)(k:Nat)(h:Disk w B p n s)(hS:z0X s n E k)(hl:z1u w l f g)(hg:z0T w g p)(hE:Env w) :
 Calls Tryz.prog 68 #[.pointer (some ⟨l,0,none⟩)] w fun e w'=>∃v,e=.returned v/\w'.ownsRow w.heap.size 9 1 v k (z0i (z7d E) k)/\Below w.heap.size w w':=by
 have HD:=roots_any w B p n g s E k h hS hg hE;have c1:=hl.c1;go_enter Tryz.func68,Tryz.ntmps68;go_wp2_with fail;refine(show Calls _ _ _ _ _ from HD).mono ?_;rintro e w1 ⟨v,rfl,hO,hb⟩;clear HD;go_wp2;go_ret;exact⟨v,rfl,hO,hb⟩
inductive BuildEnd (s:DSt) (n:Nat) (E:Nat->EntF) (k:Nat) (rd:ByteArray->Nat×ObjF) (S:ByteArray->Int) (root:ByteArray) (s':DSt):Ending->Prop
 |bad (F:Nat) (h:ReckIs rd root F) (hf:F≠0) (hs:s'=s):BuildEnd s n E k rd S root s' (.returned (errV F))
 |put (m:Nat) (B:Nat->Int) (P Q:ByteArray->Int) (e:Ending) (h:z0Z rd root m B P Q) (hp:ShPut s n E k (putE E k (z4t rd S root m B (z0l rd root m B P Q))) s' e):BuildEnd s n E k rd S root s' e
theorem loaderBuild_any(w:World)(B p n l g pf bm:Nat)(s:DSt)(E:Nat->EntF)(k:Nat)(D:DataW Unit)(kf:Nat)(T:ByteArray->ByteArray)(S:ByteArray->Int)(root:ByteArray)(h:Disk w B p n s)(hS:z0X s n E k)(hl:z1u w l pf g)(hg:z0T w g p)(hE:Env w)
 (hF:z0q w pf bm D kf) (hI:Inv D kf) (hN:z2X D) (hP:z1y D) (hT:z4C D T) (hSt:z3q D S) (hk:kf<=1000000) (hroot:root.size<=maxLen) :
 Calls Tryz.prog 76 #[.pointer (some ⟨l,0,none⟩),.string root] w fun e w'=>∃s',BuildEnd s n E k (rdD D T) S root s' e/\Disk w' B p n s'/\Spun B w w':=by
 have hB:=h.base;have HM:=make_any w pf bm D kf T S root hF hI hT hSt hE hroot;have c0:=hl.c0;go_enter Tryz.func76,Tryz.ntmps76;go_wp2_with fail;refine(show Calls _ _ _ _ _ from HM).mono ?_;rintro e w1 ⟨hM,hb1⟩;clear HM c0;cases hM with
 |bad F h1 hf=>
  obtain⟨z,hz⟩:=z5Y hf;have HB:Hid (BuildEnd s n E k (rdD D T) S root s (.returned (errV F))):=.bad F h1 hf rfl;rw[hz]at HB;rw[hz];have hbn:Below w1.heap.size w1 (w1.alloc (.cells #[.string ⟨#[]⟩,.slice none 0 0,.slice none 0 0] 71)):=(Below.refl _ _).alloc (Nat.le_refl _) _;have hb2:=hb1.trans (hbn.mono hb1.size);clear hbn hb1;go_wp2;go_ret;exact⟨s,HB.out,h.later hb2,Spun.of hB hb2⟩
 |ok m Bs P Q aP aQ cP cQ h1 hp1 hq1=>
  have hEF:=z7I (S:=S) hI hN hP hSt hk h1;have rS:=rows_stm hp1;obtain⟨qa,qc,eq,_,rQ⟩:=rows_pat hq1;cases eq;have HB:Hid (∀s' e,ShPut s n E k (putE E k (z4t (rdD D T) S root m Bs (z0l (rdD D T) root m Bs P Q))) s' e->BuildEnd s n E k (rdD D T) S root s' e):=fun s' e hp=>.put m Bs P Q e h1 hp
  have hA1:z5k w1 ⟨aP,cP,aQ,cQ⟩ (z4t (rdD D T) S root m Bs (z0l (rdD D T) root m Bs P Q)):=⟨rS,rQ⟩;have hfit:=(z5t hEF).fit;obtain⟨en,hen⟩:∃en,en=z4t (rdD D T) S root m Bs (z0l (rdD D T) root m Bs P Q):=⟨_,rfl⟩;have q0:Hid (en.root=root):=by show en.root=root;rw[hen];rfl
  have q1:Hid (en.nP=m):=by show en.nP=m;rw[hen];rfl
  have q2:Hid (en.nQ=(z0l (rdD D T) root m Bs P Q).length):=by show en.nQ=(z0l (rdD D T) root m Bs P Q).length;rw[hen];rfl
  rw[<-hen]at hA1 hfit HB;rw[<-q2.out];clear hp1 hq1 rS rQ hEF h1 hen;have hbn:Below w1.heap.size w1 (w1.alloc (.cells #[.string root,.slice aP m cP,.slice aQ en.nQ cQ] 71)):=(Below.refl _ _).alloc (Nat.le_refl _) _;have hb2:=hb1.trans (hbn.mono hb1.size);have d0:(w1.alloc (.cells #[.string root,.slice aP m cP,.slice aQ en.nQ cQ] 71)).cell? ⟨w1.heap.size,0,none⟩=some (.string root):=by simp[go_sem]
  have d1:(w1.alloc (.cells #[.string root,.slice aP m cP,.slice aQ en.nQ cQ] 71)).cell? ⟨w1.heap.size,1,none⟩=some (.slice aP m cP):=by simp[go_sem]
  have d2:(w1.alloc (.cells #[.string root,.slice aP m cP,.slice aQ en.nQ cQ] 71)).cell? ⟨w1.heap.size,2,none⟩=some (.slice aQ en.nQ cQ):=by simp[go_sem]
  have hA2:=hA1.later hbn;go_upto_region 4 with fail;generalize w1.alloc (.cells #[.string root,.slice aP m cP,.slice aQ en.nQ cQ] 71)=w2 at *;generalize w1.heap.size=b2 at *;have hb3:=hb2.trans ((Below.refl _ w2).drew.mono hb2.size);have c1:=(hl.later hb3).c1;have HPU:=shelfPut_any w2.drew B p n g s E k ⟨aP,cP,aQ,cQ⟩ en (h.later hb3) hS (hg.later hb3) (hE.later hb3) (hA2.later (Below.refl _ _).drew) hfit;generalize putE E k en=r at HPU HB;unfold z1r at HPU;dsimp only at HPU;rw[q0.out,q1.out]at HPU;clear hA1 hA2 hfit hbn hb1 hb2 q0 q1 q2;have hSp3:=Spun.of hB hb3;have hSS:(fun w':World=>w'.cell? ⟨l,1,none⟩=some (.pointer (some ⟨g,0,none⟩))/\w'.cell? ⟨b2,0,none⟩=some (.string root)/\w'.cell? ⟨b2,1,none⟩=some (.slice aP m cP)/\w'.cell? ⟨b2,2,none⟩=some (.slice aQ en.nQ cQ)) w2.drew:=⟨c1,d0,d1,d2⟩;refine z0f (fun w':World=>w'.cell? ⟨l,1,none⟩=some (.pointer (some ⟨g,0,none⟩))/\w'.cell? ⟨b2,0,none⟩=some (.string root)/\w'.cell? ⟨b2,1,none⟩=some (.slice aP m cP)/\w'.cell? ⟨b2,2,none⟩=some (.slice aQ en.nQ cQ)) 5 7 (by kernel_rfl) rfl ?_;generalize w2.drew=w3 at *;refine tW 0 hSS ?_;refine tW 1 hSS ?_;refine tW 2 hSS ?_;refine tR 3 [] hSS ?_;refine tR 4 [] hSS ?_;clear hSS;refine lG 5 fun K hK=>?_
  go_wp2_with fail;refine(show Calls _ _ _ _ _ from HPU).mono ?_;rintro e w4 ⟨s',hPE,hD4,hS4⟩;clear HPU;have HP:=HB.out s' e hPE;have HP':Hid (BuildEnd s n E k (rdD D T) S root s' e):=HP;obtain⟨v,rfl⟩:∃v,e=.returned v:=by
   cases hPE with
   |bad _ _=>exact⟨_,rfl⟩
   |keep _ _ hk=>cases hk <;> exact⟨_,rfl⟩
  have hS5:=hSp3.trans hS4;clear hPE HP HB hS4 hSp3;go_wp2;refine hK _ _ ?_;clear hK;refine tA 6 ?_;refine z1c (by kernel_rfl) ?_ _;go_wp2;go_ret;exact⟨s',HP'.out,hD4,hS5⟩
inductive LoadsEnd (w:World) (B0:Nat) (D:DataW Unit) (S:ByteArray->Int) (rd:ByteArray->Nat×ObjF) (root:ByteArray) (r:Bool×EntF):Ending->Prop
 |kept (en:EntF) (u:Value) (F:Nat) (w1:World) (B1:Nat) (hB:B0<=B1) (hw:w=w1.drew) (hr:r.1=true) (hs:z2H en r.2) (hf:(!z0R D S en.pName en.pStamp en.nP&&decide (0<en.nP))=true) (hu:UseEnd w1 B1 D S rd en.nP en.pName en.pStamp en.pBase en.nQ en.qPart en.qAt en.qWord (.returned (.tuple #[u,errV F]))):LoadsEnd w B0 D S rd root r (.returned (.tuple #[u,.bool (decide (F=0)),errV F]))
 |new (u:Value) (F:Nat) (B1:Nat) (hB:B0<=B1) (hr:r.1=false∨∃en,z2H en r.2/\(!z0R D S en.pName en.pStamp en.nP&&decide (0<en.nP))=false) (hl:LoadEnd w B1 rd root (.returned (.tuple #[u,errV F]))):LoadsEnd w B0 D S rd root r (.returned (.tuple #[u,.bool false,errV F]))
theorem UseEnd.form{w:World}{B0:Nat}{D:DataW Unit}{S:ByteArray->Int}{rd:ByteArray->Nat×ObjF}{n:Nat}{s:Nat->ByteArray}{st b:Nat->Int}{np:Nat}{p t v:Nat->Int}{e:Ending}(h:UseEnd w B0 D S rd n s st b np p t v e):∃u F,e=.returned (.tuple #[u,errV F]):=by
 cases h with
 |stale _=>exact⟨_,_,rfl⟩
 |bad i _ _ _=>exact⟨_,_,rfl⟩
 |lay e _ _ hl=>
  cases hl with
  |bad _=>exact⟨_,_,rfl⟩
  |ok u _ _ _ _ _ _ _=>exact⟨u,0,rfl⟩
theorem LoadEnd.form{w:World}{B0:Nat}{rd:ByteArray->Nat×ObjF}{root:ByteArray}{e:Ending}(h:LoadEnd w B0 rd root e):∃u F,e=.returned (.tuple #[u,errV F]):=by
 cases h with
 |bad F _ _=>exact⟨_,F,rfl⟩
 |ok _ _ _ _ u _ _ _ _ _ _=>exact⟨u,0,rfl⟩
theorem getE_ok{E:Nat->EntF}{k:Nat}{root:ByteArray}(h:z1M E k)(hg:(getE E k root).1=true):entF (getE E k root).2=0:=by
 unfold getE at hg ⊢;split at hg
 ·cases hg
 ·rename_i hn;obtain⟨j,_,hj,_,hfj⟩:=z2i _ 0 rfl (show 0<=findF E root k 0 by omega);rw[if_neg hn,hfj];exact h.ok j hj
theorem loaderLoad_any(w:World)(B p n l g pf bm:Nat)(s:DSt)(E:Nat->EntF)(k:Nat)(D:DataW Unit)(kf:Nat)(T:ByteArray->ByteArray)(S:ByteArray->Int)(root:ByteArray)(h:Disk w B p n s)(hS:z0X s n E k)(hl:z1u w l pf g)(hg:z0T w g p)(hE:Env w)
 (hF:z0q w pf bm D kf) (hI:Inv D kf) (hT:z4C D T) (hSt:z3q D S) (hroot:root.size<=maxLen) :
 Calls Tryz.prog 106 #[.pointer (some ⟨l,0,none⟩),.string root] w fun e w'=>LoadsEnd w' w.heap.size D S (rdD D T) root (getE E k root) e/\Below w.heap.size w w':=by
 have HG:=get_any w B p n g s E k root h hS hg hE;have hgood:=fun hr=>getE_ok (root:=root) hS.good hr
 have c1:=hl.c1;generalize getE E k root=r at *;obtain⟨rb,re⟩:=r;dsimp only at HG hgood;unfold z1r at HG;have HLOAD:∀W (hW:Below w.heap.size w W),Calls Tryz.prog 150 #[.pointer (some ⟨pf,0,none⟩),.string root] W fun e w'=>LoadEnd w' W.heap.size (rdD D T) root e/\Below W.heap.size W w':=fun W hW=>load_any W pf bm D kf T root (hF.later hW) hI hT (hE.later hW) hroot
 have HC0:∀W (hW:Below w.heap.size w W),W.cell? ⟨l,0,none⟩=some (.pointer (some ⟨pf,0,none⟩)):=fun W hW=>(hl.later hW).c0
 go_enter Tryz.func106,Tryz.ntmps106;go_wp2_with fail;refine(show Calls _ _ _ _ _ from HG).mono ?_;rintro e w1 ⟨v,en,rfl,hSm,hIn,hb1⟩;clear HG c1;have hbn:Below w1.heap.size w1 (w1.alloc (.cells #[.string en.root,.slice v.aP en.nP v.cP,.slice v.aQ en.nQ v.cQ] 71)):=(Below.refl _ _).alloc (Nat.le_refl _) _;have hb2:=hb1.trans (hbn.mono hb1.size);have d0:(w1.alloc (.cells #[.string en.root,.slice v.aP en.nP v.cP,.slice v.aQ en.nQ v.cQ] 71)).cell? ⟨w1.heap.size,0,none⟩=some (.string en.root):=by simp[go_sem]
 have d1:(w1.alloc (.cells #[.string en.root,.slice v.aP en.nP v.cP,.slice v.aQ en.nQ v.cQ] 71)).cell? ⟨w1.heap.size,1,none⟩=some (.slice v.aP en.nP v.cP):=by simp[go_sem]
 have d2:(w1.alloc (.cells #[.string en.root,.slice v.aP en.nP v.cP,.slice v.aQ en.nQ v.cQ] 71)).cell? ⟨w1.heap.size,2,none⟩=some (.slice v.aQ en.nQ v.cQ):=by simp[go_sem]
 have hA2:=hIn.here.later hbn;go_upto_region 2 with fail;generalize w1.alloc (.cells #[.string en.root,.slice v.aP en.nP v.cP,.slice v.aQ en.nQ v.cQ] 71)=w2 at *;generalize w1.heap.size=b2 at *;clear hbn hb1 hIn;have hb3:=hb2.trans ((Below.refl _ w2).drew.mono hb2.size);have c0:=HC0 _ hb3;cases rb with
 |false=>
  have hSS:(fun w':World=>w'.cell? ⟨l,0,none⟩=some (.pointer (some ⟨pf,0,none⟩))/\w'.cell? ⟨b2,0,none⟩=some (.string en.root)/\w'.cell? ⟨b2,1,none⟩=some (.slice v.aP en.nP v.cP)/\w'.cell? ⟨b2,2,none⟩=some (.slice v.aQ en.nQ v.cQ)) w2.drew:=⟨c0,d0,d1,d2⟩;refine z0f (fun w':World=>w'.cell? ⟨l,0,none⟩=some (.pointer (some ⟨pf,0,none⟩))/\w'.cell? ⟨b2,0,none⟩=some (.string en.root)/\w'.cell? ⟨b2,1,none⟩=some (.slice v.aP en.nP v.cP)/\w'.cell? ⟨b2,2,none⟩=some (.slice v.aQ en.nQ v.cQ)) 8 9 (by kernel_rfl) rfl ?_;clear d0 d1 d2 c0 hA2;generalize w2.drew=w3 at *;refine tW 0 hSS ?_;refine tW 1 hSS ?_;refine tS 2 hSS ?_;refine tS 3 hSS ?_;refine tS 4 hSS ?_;refine tS 5 hSS ?_;refine tS 6 hSS ?_;refine tS 7 hSS ?_;clear hSS;refine lG 8 fun K hK=>?_
  go_wp2;refine hK _ _ ?_;clear hK;refine z1c (by kernel_rfl) ?_ _;have c0:=HC0 _ hb3;have HLD:=HLOAD _ hb3;clear HLOAD HC0;go_wp2_with fail;refine(show Calls _ _ _ _ _ from HLD).mono ?_;rintro e w4 ⟨hLE,hb4⟩;clear HLD c0;obtain⟨u,F,rfl⟩:=hLE.form;have HFIN:Hid (LoadsEnd w4 w.heap.size D S (rdD D T) root (false,re) (.returned (.tuple #[u,.bool false,errV F]))):=.new u F w3.heap.size hb3.size (.inl rfl) hLE;have hb5:=hb3.trans (hb4.mono hb3.size);clear hLE hb4 hb3 hb2;generalize errV F=ev at *;go_wp2;refine bodyPost_ret (v:=.tuple #[u,.bool false,ev]) (by simp[results,Tryz.results106,go_sem]) rfl ?_;exact⟨HFIN.out,hb5⟩
 |true=>
  have hok:=z5t (hSm.symm.line (hgood rfl)).1;have hn6:=hok.nP;have hq36:=hok.nQ;have hnm:∀i,i<en.nP->(en.pName i).size<=maxLen:=hok.fit.names;have HFR:=fresh_any w2.drew pf bm D kf S en.root en.nP en.nQ en.pName en.pStamp en.pBase v.aP v.aQ v.cP v.cQ (hF.later hb3) hSt (by omega) hnm (hA2.parts.later (Below.refl _ _).drew);have HUS:∀W (hW:Below w2.drew.heap.size w2.drew W),Calls Tryz.prog 149 #[.agg #[.string en.root,.slice v.aP en.nP v.cP,.slice v.aQ en.nQ v.cQ],.pointer (some ⟨pf,0,none⟩)] W fun e w'=>UseEnd w' W.heap.size D S (rdD D T) en.nP en.pName en.pStamp en.pBase en.nQ en.qPart en.qAt en.qWord e/\Below W.heap.size W w':=fun W hW=>by
   have hbW:=hb3.trans (hW.mono hb3.size);have hAW:=(hA2.later (Below.refl _ _).drew).later hW;exact use_any W pf bm D kf T S en.root en.nP en.nQ en.pName en.pStamp en.pBase en.qPart en.qAt en.qWord v.aP v.aQ v.cP v.cQ (hF.later hbW) hSt hT (hE.later hbW) (by omega) (by omega) hnm hAW.parts hAW.pats
  have hd0:w2.drew.cell? ⟨b2,0,none⟩=some (.string en.root):=d0;have hd1:w2.drew.cell? ⟨b2,1,none⟩=some (.slice v.aP en.nP v.cP):=d1;have hd2:w2.drew.cell? ⟨b2,2,none⟩=some (.slice v.aQ en.nQ v.cQ):=d2;have hSS:(fun w':World=>w'.cell? ⟨l,0,none⟩=some (.pointer (some ⟨pf,0,none⟩))/\w'.cell? ⟨b2,0,none⟩=some (.string en.root)/\w'.cell? ⟨b2,1,none⟩=some (.slice v.aP en.nP v.cP)/\w'.cell? ⟨b2,2,none⟩=some (.slice v.aQ en.nQ v.cQ)) w2.drew:=⟨c0,d0,d1,d2⟩;obtain⟨fr,hfr⟩:∃fr,(!z0R D S en.pName en.pStamp en.nP&&decide (0<en.nP))=fr:=⟨_,rfl⟩;rw[hfr]at HFR;have Hfr:Hid ((!z0R D S en.pName en.pStamp en.nP&&decide (0<en.nP))=fr):=hfr;clear hfr hn6 hq36 hnm hok d0 d1 d2 hA2;refine z0f (fun w':World=>w'.cell? ⟨l,0,none⟩=some (.pointer (some ⟨pf,0,none⟩))/\w'.cell? ⟨b2,0,none⟩=some (.string en.root)/\w'.cell? ⟨b2,1,none⟩=some (.slice v.aP en.nP v.cP)/\w'.cell? ⟨b2,2,none⟩=some (.slice v.aQ en.nQ v.cQ)) 7 9 (by kernel_rfl) rfl ?_;generalize w2.drew=w3 at *;refine tW 0 hSS ?_;refine tW 1 hSS ?_;refine tW 3 hSS ?_;refine tW 4 hSS ?_;refine tW 5 hSS ?_;refine tR 2 [] hSS ?_;refine tR 6 [] hSS ?_;clear hSS;refine lG 7 fun K hK=>?_
  go_wp2_with fail;refine(show Calls _ _ _ _ _ from HFR).mono ?_;rintro e w4 ⟨rfl,hb4⟩;clear HFR;go_wp2;refine hK _ _ ?_;clear hK;refine tA 8 ?_;refine z1c (by kernel_rfl) ?_ _;have hb5:=hb3.trans (hb4.mono hb3.size);cases fr with
  |false=>
   have c0:=HC0 _ hb5;have HLD:=HLOAD _ hb5;clear HLOAD HC0 HUS;go_wp2_with fail;refine(show Calls _ _ _ _ _ from HLD).mono ?_;rintro e w6 ⟨hLE,hb6⟩;clear HLD c0;obtain⟨u,F,rfl⟩:=hLE.form;have HFIN:Hid (LoadsEnd w6 w.heap.size D S (rdD D T) root (true,re) (.returned (.tuple #[u,.bool false,errV F]))):=.new u F w4.heap.size hb5.size (.inr ⟨en,hSm,Hfr.out⟩) hLE;have hb7:=hb5.trans (hb6.mono hb5.size);clear hLE hb6 hb5 hb4 hb3 hb2 Hfr;generalize errV F=ev at *;go_wp2;refine bodyPost_ret (v:=.tuple #[u,.bool false,ev]) (by simp[results,Tryz.results106,go_sem]) rfl ?_;exact⟨HFIN.out,hb7⟩
  |true=>
   have hb6:=hb5.trans ((Below.refl _ w4).drew.mono hb5.size);have c0:=HC0 _ hb6;have hb4d:=hb4.trans ((Below.refl _ w4).drew.mono hb4.size);have HU:=HUS w4.drew hb4d;have y0:w4.drew.cell? ⟨b2,0,none⟩=some (.string en.root):=cell_later hb4d hd0;have y1:w4.drew.cell? ⟨b2,1,none⟩=some (.slice v.aP en.nP v.cP):=cell_later hb4d hd1;have y2:w4.drew.cell? ⟨b2,2,none⟩=some (.slice v.aQ en.nQ v.cQ):=cell_later hb4d hd2;have hSS:(fun w':World=>w'.cell? ⟨l,0,none⟩=some (.pointer (some ⟨pf,0,none⟩))/\w'.cell? ⟨b2,0,none⟩=some (.string en.root)/\w'.cell? ⟨b2,1,none⟩=some (.slice v.aP en.nP v.cP)/\w'.cell? ⟨b2,2,none⟩=some (.slice v.aQ en.nQ v.cQ)) w4.drew:=⟨c0,y0,y1,y2⟩;clear HUS HLOAD HC0 hd0 hd1 hd2 y0 y1 y2 hb4d;go_upto_region 3 with fail;refine z0f (fun w':World=>w'.cell? ⟨l,0,none⟩=some (.pointer (some ⟨pf,0,none⟩))/\w'.cell? ⟨b2,0,none⟩=some (.string en.root)/\w'.cell? ⟨b2,1,none⟩=some (.slice v.aP en.nP v.cP)/\w'.cell? ⟨b2,2,none⟩=some (.slice v.aQ en.nQ v.cQ)) 5 11 (by kernel_rfl) rfl ?_;generalize w4.drew=w5 at *;refine tW 1 hSS ?_;refine tW 2 hSS ?_;refine tW 3 hSS ?_;refine tR 0 [] hSS ?_;refine tR 4 [] hSS ?_;clear hSS;refine lG 5 fun K hK=>?_
   go_wp2_with fail;refine(show Calls _ _ _ _ _ from HU).mono ?_;rintro e w6 ⟨hUE,hb7⟩;clear HU;obtain⟨u,F,rfl⟩:=hUE.form;have hb8:=hb6.trans (hb7.mono hb6.size);have hb9:=hb8.trans ((Below.refl _ w6).drew.mono hb8.size);have HFIN:Hid (LoadsEnd w6.drew w.heap.size D S (rdD D T) root (true,re) (.returned (.tuple #[u,.bool (decide (F=0)),errV F]))):=.kept en u F w6 w5.heap.size hb6.size rfl rfl hSm Hfr.out hUE;clear hUE hb7 hb8 hb6 hb5 hb4 hb3 hb2 Hfr;have hev:∃ev q,errV F=ev/\decide (F=0)=q/\((ev=.nilIface/\q=true)∨∃z,ev=.iface 43 (.int .i64 z)/\q=false):=by
    by_cases h0:F=0
    ·subst h0;exact⟨_,_,rfl,rfl,.inl ⟨rfl,rfl⟩⟩
    ·obtain⟨z,hz⟩:=z5Y h0;exact⟨_,_,rfl,rfl,.inr ⟨z,hz,decide_eq_false h0⟩⟩
   obtain⟨ev,q,he1,he2,hcase⟩:=hev;rw[he1,he2]at HFIN;rw[he1];clear he1 he2;rcases hcase with⟨rfl,rfl⟩|⟨z,rfl,rfl⟩
   ·go_wp2;refine hK _ _ ?_;clear hK;refine tA 6 ?_;refine tA 7 ?_;refine tA 8 ?_;refine tA 9 ?_;refine tA 10 ?_;refine z1c (by kernel_rfl) ?_ _;go_upto_region 4 with fail;have hSS:(fun _:World=>True) w6.drew:=trivial;refine z0f (fun _:World=>True) 6 7 (by kernel_rfl) rfl ?_;refine tW 0 hSS ?_;refine tW 1 hSS ?_;refine tW 2 hSS ?_;refine tW 3 hSS ?_;refine tW 4 hSS ?_;refine tW 5 hSS ?_;clear hSS;refine lG 6 fun K hK=>?_
    go_wp2;refine hK _ _ ?_;clear hK;refine z1c (by kernel_rfl) ?_ _;go_wp2;refine bodyPost_ret (v:=.tuple #[u,.bool true,.nilIface]) (by simp[results,Tryz.results106,go_sem]) rfl ?_;exact⟨HFIN.out,hb9⟩
   ·go_wp2;refine hK _ _ ?_;clear hK;refine tA 6 ?_;refine tA 7 ?_;refine tA 8 ?_;refine tA 9 ?_;refine tA 10 ?_;refine z1c (by kernel_rfl) ?_ _;go_upto_region 4 with fail;have hSS:(fun _:World=>True) w6.drew:=trivial;refine z0f (fun _:World=>True) 6 7 (by kernel_rfl) rfl ?_;refine tW 0 hSS ?_;refine tW 1 hSS ?_;refine tW 2 hSS ?_;refine tW 3 hSS ?_;refine tW 4 hSS ?_;refine tW 5 hSS ?_;clear hSS;refine lG 6 fun K hK=>?_
    go_wp2;refine hK _ _ ?_;clear hK;refine z1c (by kernel_rfl) ?_ _;go_wp2;refine bodyPost_ret (v:=.tuple #[u,.bool false,.iface 43 (.int .i64 z)]) (by simp[results,Tryz.results106,go_sem]) rfl ?_;exact⟨HFIN.out,hb9⟩
end
section
open Go.RowKit Go.Maps
theorem putF_pats{X:Nat->Nat->Int}{p p' t t' v v':Nat->Int}{n:Nat}(e:∀k,k<n->p k=p' k/\t k=t' k/\v k=v' k)(i j:Nat):putF X p t v n i j=putF X p' t' v' n i j:=by
 induction n with
 |zero=>rfl
 |succ n ih=>
  simp only[putF];rw[ih fun k hk=>e k (by omega),(e n (by omega)).1,(e n (by omega)).2.1,(e n (by omega)).2.2]
theorem z5y.base{w:World}{B0:Nat}{v:Value}{n:Nat}{nm:Nat->ByteArray}{B B':Nat->Int}{M:Nat->Nat}{X:Nat->Nat->Int}{g:Nat}{A:Nat->Option Addr}{C G:Nat->Nat}(h:z5y w B0 v n nm B M X g A C G)(e:∀i,i<n->B i=B' i):z5y w B0 v n nm B' M X g A C G:=
 ⟨h.out,by
  have:=h.own
  rwa [z1f (g:=z4Z nm B A M C) (h:=z4Z nm B' A M C) fun i hi=>by unfold z4Z;rw[e i hi]]at this⟩
theorem held_putE{D:DataW Unit}{kf k:Nat}{E:Nat->EntF}{en:EntF}(h:∀i,i<k->Held D kf (E i))(he:Held D kf en):∀i,i<(putE E k en).2.2->Held D kf ((putE E k en).2.1 i):=by
 have key:∀j n,(∀i,i<n->i≠j->i<k)->∀i,i<n->Held D kf (addV E j en i):=fun j n hn i hi=>by
  unfold addV;by_cases e:i=j
  ·rw[if_pos e];exact he
  ·rw[if_neg e];exact h i (hn i hi e)
 unfold putE;split
 ·exact h
 ·split
  ·exact key _ _ fun i hi _=>hi
  ·split
   ·exact h
   ·exact key _ _ fun i hi e=>by
     have:i<k+1:=hi;omega
theorem held_dropE{D:DataW Unit}{kf k:Nat}{E:Nat->EntF}{root:ByteArray}(h:∀i,i<k->Held D kf (E i)):∀i,i<(z2F E k root).2.2->Held D kf ((z2F E k root).2.1 i):=by
 unfold z2F;split
 ·exact h
 ·intro i hi;have hi':i<k-1:=hi;show Held D kf (cutV E _ i);unfold cutV;split
  ·exact h i (by omega)
  ·exact h (i+1) (by omega)
theorem errV_zero{F:Nat}(h:errV F=.nilIface):F=0:=by
 cases F with
 |zero=>rfl
 |succ n=>cases h
theorem kept_load{w:World}{B0:Nat}{D:DataW Unit}{kf:Nat}{T:ByteArray->ByteArray}{S:ByteArray->Int}{re en:EntF}{u:Value}{F:Nat}{root:ByteArray}(hI:Inv D kf)(hT:z4C D T)(hS:z3q D S)(hH:Held D kf re)(hr:re.root=root)(hs:z2H en re)
 (hf:(!z0R D S en.pName en.pStamp en.nP&&decide (0<en.nP))=true) (hu:UseEnd w B0 D S (rdD D T) en.nP en.pName en.pStamp en.pBase en.nQ en.qPart en.qAt en.qWord (.returned (.tuple #[u,errV F]))):LoadEnd w B0 (rdD D T) root (.returned (.tuple #[u,errV F]))/\F=0:=by
 obtain⟨D0,k0,T0,S0,m,B,P,Q,hM⟩:=hH;subst hr;have hSE:=hs.trans hM.same;have e1:en.nP=m:=hSE.nP;have e2:en.nQ=(z0l (rdD D0 T0) re.root m B P Q).length:=hSE.nQ;have e3:∀i,i<m->en.pName i=nmAt (rdD D0 T0) re.root i/\en.pStamp i=S0 (nmAt (rdD D0 T0) re.root i)/\en.pBase i=B i:=hSE.parts;have e4:∀i,i<(z0l (rdD D0 T0) re.root m B P Q).length->en.qPart i=pP (z0l (rdD D0 T0) re.root m B P Q) i/\en.qAt i=pT (z0l (rdD D0 T0) re.root m B P Q) i/\en.qWord i=pV (z0l (rdD D0 T0) re.root m B P Q) i:=hSE.pats;have hst0:z0R D S (nmAt (rdD D0 T0) re.root) (fun j=>S0 (nmAt (rdD D0 T0) re.root j)) m=false:=by
  have h0:z0R D S en.pName en.pStamp en.nP=false:=by
   cases e:z0R D S en.pName en.pStamp en.nP with
   |false=>rfl
   |true=>rw[e]at hf;cases hf
  rw[e1]at h0;rw[<-h0];unfold z0R;exact z3o fun i hi=>by rw[(e3 i hi).1,(e3 i hi).2.1]
 have hrd:=hM.reads hI hT hS hst0;obtain⟨h1,h2,h3⟩:=reckoned_same hM.reck hrd;have hO:∀i,i<m->rdD D T (en.pName i)=rdD D T (nmAt (rdD D T) re.root i):=fun i hi=>by rw[(e3 i hi).1,(h3 i hi).1]
 have hok:∀j,j<m->z3J (obAt (rdD D T) re.root j):=fun j hj=>rd_ok (ofIs_read h1.of rfl j hj).2
 have hpo:=pats_ok (O:=obAt (rdD D T) re.root) (P:=P) (Q:=Q) (B:=B) (m:=m) hok;rw[<-h2]at e2 e4;generalize hE:Ending.returned (.tuple #[u,errV F])=e at hu;cases hu with
 |stale h=>rw[hf]at h;cases h
 |bad i hi h0 hb=>
  have hi':i<m:=by rw[<-e1];exact hi
  rw[hO i hi']at hb;exact absurd (ofIs_read h1.of rfl i hi').2 hb
 |lay e h h0 hl=>
  cases hl with
  |bad hbd=>
   obtain⟨k,hk,hbk⟩:=hbd;have hk':k<(z0l (rdD D T) re.root m B P Q).length:=by rw[<-e2];exact hk
   have hp:z7e m (fun i=>(obAt (rdD D T) re.root i).nW) (pP (z0l (rdD D T) re.root m B P Q) k) (pT (z0l (rdD D T) re.root m B P Q) k)=true:=hpo k hk';dsimp only at hbk;rw[e1,(e4 k hk').1,(e4 k hk').2.1]at hbk;unfold z7e at hbk hp;dsimp only at hbk hp;rw[Bool.and_eq_true]at hp;obtain⟨hp1,hp2⟩:=hp;have hlt:(pP (z0l (rdD D T) re.root m B P Q) k).toNat<m:=by
    unfold z0j at hp1;simp only[Bool.and_eq_true,decide_eq_true_eq]at hp1;omega
   rw[hp1,hO _ hlt,hp2]at hbk;cases hbk
  |ok u2 g A C G h5 ho hu2=>
   have hPI:z5y w B0 u2 en.nP en.pName en.pBase (fun i=>(rdD D T (en.pName i)).2.nW) (putF (fun i j=>(rdD D T (en.pName i)).2.words j) en.qPart en.qAt en.qWord en.nQ) g A C G:=⟨ho,hu2⟩;rw[e1,e2]at hPI;have hPJ:=(hPI.base (B':=B) fun i hi=>(e3 i hi).2.2).congr (nm':=nmAt (rdD D T) re.root) (M':=fun i=>(obAt (rdD D T) re.root i).nW) (X':=z4m (rdD D T) re.root m B P Q) fun i hi=>
    ⟨(e3 i hi).1.trans (h3 i hi).1.symm,by rw[hO i hi],fun j=>(putF_pats e4 i j).trans (putF_same (fun j=>by rw[hO i hi]) _ _)⟩
   have hF:F=0:=errV_zero (by
    injection hE with hE;injection hE with hE;have:=congrArg (fun a:Array Value=>a[1]?) hE;simpa using this)
   exact⟨.ok m B P Q u2 g A C G h1 hPJ,hF⟩
theorem ret2{u u' v v':Value}(h:Ending.returned (.tuple #[u,v])=.returned (.tuple #[u',v'])):u=u'/\v=v':=by
 simpa using h
theorem errV_inj{F F':Nat}(h:errV F=errV F'):F=F':=by
 cases F with
 |zero=>cases F' with
  |zero=>rfl
  |succ n=>cases h
 |succ n=>cases F' with
  |zero=>cases h
  |succ m=>
   have h1:((n+1:Nat):Int)=((m+1:Nat):Int):=by
    injection h with _ h;injection h
   omega
theorem LoadEnd.which{w:World}{B0:Nat}{rd:ByteArray->Nat×ObjF}{root:ByteArray}{u:Value}{F:Nat}(h:LoadEnd w B0 rd root (.returned (.tuple #[u,errV F]))) :
 (F≠0/\u=.slice none 0 0/\ReckIs rd root F)∨(F=0/\∃m B P Q g A C G,z0Z rd root m B P Q/\z5y w B0 u m (nmAt rd root) B (fun i=>(obAt rd root i).nW) (z4m rd root m B P Q) g A C G):=by
 generalize hE:Ending.returned (.tuple #[u,errV F])=e at h;cases h with
 |bad F' h hf=>
  obtain⟨rfl,h2⟩:=ret2 hE;obtain rfl:=errV_inj h2;exact .inl ⟨hf,rfl,h⟩
 |ok m' B' P' Q' u' g A C G h hu=>
  obtain⟨rfl,h2⟩:=ret2 hE;exact .inr ⟨errV_zero h2,m',B',P',Q',g,A,C,G,h,hu⟩
end
section
open Go.RowKit Go.Maps
end
section
open Go.RowKit
end
end Go.Proofs.YtbcpcbonlhlhpaaGreatDoor
namespace Go.Proofs.YtbcpcbonlhlhpaaGreatDoor
open Go.RowKit Go.Maps
abbrev bnA:ByteArray:=⟨#[97]⟩
theorem itoa_zero:Lib.itoa 0=[48]:=by
 unfold Lib.itoa;rw[if_neg (by decide),Lib.decDigits_one (by decide)];rfl
theorem parse_is{o:ObjF}{t:ByteArray}(ho:objF o=0)(hl:z3Q o=t.data.toList)(hn:¬1200<t.data.toList.length):(z0k t).1=0/\z6q (z0k t).2 o:=by
 have he:z1X o=(0,t.data.toList):=by
  unfold z1X;rw[if_pos ho,hl,if_neg hn]
 exact parse_text (by rw[he]) (by rw[he])
theorem BasesAre.sizes{m:Nat}{sz sz' tf tm b:Nat->Int}{nt:Nat}(h:BasesAre m sz nt tf tm 0 b)(e:∀i,i<m->sz i=sz' i):BasesAre m sz' nt tf tm 0 b:=by
 obtain⟨h0,hl⟩:=h.laid rfl;have h0':z1S m sz' nt tf tm=0:=by
  rw[<-h0];unfold z1S;rw[z3o (p:=fun i=>decide (sz' i<1∨40<sz' i)) (q:=fun i=>decide (sz i<1∨40<sz i)) fun i hi=>by rw[e i hi]]
 refine .ok _ h0' fun j hj=>?_
 obtain⟨k,hk,hb⟩:=hl j hj;refine⟨k,hk,?_⟩;rw[<-e j hj];exact hb.congr fun i hi=>⟨rfl,by
  unfold z0W;split
  ·rfl
  ·show z0x (sz (i-nt))=z0x (sz' (i-nt));rw[e _ (by omega)]⟩
end Go.Proofs.YtbcpcbonlhlhpaaGreatDoor
namespace Go.Proofs.YtbcpcbonlhlhpaaGreatDoor
open Go.RowKit Go.Maps
end Go.Proofs.YtbcpcbonlhlhpaaGreatDoor
namespace Go.Proofs.YtbcpcbonlhlhpaaGreatDoor
open Go.RowKit Go.Maps
abbrev zzT:ByteArray:=⟨#[119,111,114,100,32,53,10,98,97,115,101,32,48,32,51,10]⟩
abbrev zzO:ObjF:=z1G (z1L z0d 5) 0 1 3 ⟨#[]⟩ false
theorem itoa_five:Lib.itoa 5=[53]:=by
 unfold Lib.itoa;rw[if_neg (by decide),Lib.decDigits_one (by decide)];rfl
theorem itoa_three:Lib.itoa 3=[51]:=by
 unfold Lib.itoa;rw[if_neg (by decide),Lib.decDigits_one (by decide)];rfl
theorem parse_zz:(z0k zzT).1=0/\z6q (z0k zzT).2 zzO:=by
 refine parse_is (by decide) ?_ (by decide);show(([]:List UInt8)++([]++z3m false [[119,111,114,100],Lib.itoa 5])++[]++([]++z3m false [[98,97,115,101],Lib.itoa 0,Lib.itoa 3]))=_;rw[itoa_zero,itoa_five,itoa_three];rfl
theorem bases_zz:BasesAre 1 (fun _=>1) 0 (fun _=>0) (fun _=>0) 0 (fun _=>0):=by
 refine .ok _ (by decide) fun j hj=>?_
 obtain rfl:j=0:=by omega
 exact⟨0,by decide,by decide,by decide,fun j hj=>by omega⟩
end Go.Proofs.YtbcpcbonlhlhpaaGreatDoor
namespace Go.Proofs.YtbcpcbonlhlhpaaGreatDoor
open Go.RowKit
end Go.Proofs.YtbcpcbonlhlhpaaGreatDoor
namespace Go.Proofs.YtbcpcbonlhlhpaaGreatDoor
open Go.RowKit Go.Maps
end Go.Proofs.YtbcpcbonlhlhpaaGreatDoor
namespace Go.Proofs.YtbcpcbonlhlhpaaGreatDoor
open Go.RowKit
end Go.Proofs.YtbcpcbonlhlhpaaGreatDoor
namespace Go.Proofs.YtbcpcbonlhlhpaaGreatDoor
open Go.RowKit
end Go.Proofs.YtbcpcbonlhlhpaaGreatDoor
namespace Go.Proofs.YtbcpcbonlhlhpaaGreatDoor
open Go.RowKit Go.Maps
end Go.Proofs.YtbcpcbonlhlhpaaGreatDoor
namespace Go.Proofs.YtbcpcbonlhlhpaaGreatDoor
open Go.RowKit
end Go.Proofs.YtbcpcbonlhlhpaaGreatDoor
namespace Go.Proofs.YtbcpcbonlhlhpaaGreatDoor
open Go.RowKit
end Go.Proofs.YtbcpcbonlhlhpaaGreatDoor
namespace Go.Proofs.YtbcpcbonlhlhpaaGreatDoor
open Go.RowKit Go.Maps
theorem getE_is{E:Nat->EntF}{k:Nat}{root:ByteArray}(hg:(getE E k root).1=true):∃j,j<k/\(E j).root=root/\(getE E k root).2=E j:=by
 unfold getE at hg ⊢;split at hg
 ·cases hg
 ·rename_i hn;obtain⟨j,_,hj,hr,hfj⟩:=z2i _ 0 rfl (show 0<=findF E root k 0 by omega);rw[if_neg hn,hfj];exact⟨j,hj,hr,rfl⟩
end Go.Proofs.YtbcpcbonlhlhpaaGreatDoor
namespace Go.Proofs.YtbcpcbonlhlhpaaGreatDoor
open Go.RowKit Go.Maps
def z5c (D:DataW Unit)(S:ByteArray->Int)(e:EntF):Bool:=!z0R D S e.pName e.pStamp e.nP&&decide (0<e.nP)
theorem freshE_same{D:DataW Unit}{S:ByteArray->Int}{a b:EntF}(h:z2H a b):z5c D S a=z5c D S b:=by
 have e:z0R D S a.pName a.pStamp b.nP=z0R D S b.pName b.pStamp b.nP:=z3o fun i hi=>by rw[(h.parts i hi).1,(h.parts i hi).2.1]
 unfold z5c;rw[h.nP,e]
theorem loads_flag{w:World}{B0:Nat}{D:DataW Unit}{kf:Nat}{T:ByteArray->ByteArray}{S:ByteArray->Int}{E:Nat->EntF}{k:Nat}{root:ByteArray}{e:Ending}(h:LoadsEnd w B0 D S (rdD D T) root (getE E k root) e)(hI:Inv D kf)(hT:z4C D T)(hS:z3q D S)(hH:∀i,i<k->Held D kf (E i)) :
 ∃(u:Value) (F:Nat) (w1:World) (B1:Nat),e=.returned (.tuple #[u,.bool ((getE E k root).1&&z5c D S (getE E k root).2),errV F])/\(F≠0->((getE E k root).1&&z5c D S (getE E k root).2)=false)/\B0<=B1/\Below w1.heap.size w1 w/\LoadEnd w1 B1 (rdD D T) root (.returned (.tuple #[u,errV F])):=by
 cases h with
 |kept en u F w1 B1 hB hw hr hs hf hu=>
  have hfl:((getE E k root).1&&z5c D S (getE E k root).2)=true:=by rw[hr,<-freshE_same hs];exact hf
  obtain⟨j,hj,hjr,hje⟩:=getE_is hr;have hs':=hs;rw[hje]at hs';obtain⟨h1,h2⟩:=kept_load hI hT hS (hH j hj) hjr hs' hf hu;subst hw;rw[hfl];exact⟨u,F,w1,B1,by rw[decide_eq_true h2],fun h=>absurd h2 h,hB,(Below.refl _ w1).drew,h1⟩
 |new u F B1 hB hr hl=>
  have hfl:((getE E k root).1&&z5c D S (getE E k root).2)=false:=by
   rcases hr with hr|⟨en,hs,hf⟩
   ·rw[hr];rfl
   ·rw[<-freshE_same hs];have:z5c D S en=false:=hf;rw[this,Bool.and_false]
  rw[hfl];exact⟨u,F,w,B1,rfl,fun _=>rfl,hB,Below.refl _ _,hl⟩
end Go.Proofs.YtbcpcbonlhlhpaaGreatDoor
namespace Go.Proofs.YtbcpcbonlhlhpaaGreatDoor
def z7c (h c:Nat):Nat:=((16*h+c) % 4294967296 % 268435456) ^^^ (16*((16*h+c) % 4294967296 / 268435456))
theorem hstep_lt(h c:Nat):z7c h c<268435456:=by
 unfold z7c;exact Nat.xor_lt_two_pow (n:=28) (by omega) (by omega)
theorem hstep_code(x c:Nat) :
 bits .and .u32 (bits .xor .u32 (((x:Int)*16+(c:Int)) % 4294967296) (((x:Int)*16+(c:Int)) % 4294967296 / 268435456*16)) 268435455=((z7c x c:Nat):Int):=by
 have e1:((x:Int)*16+(c:Int)) % 4294967296=(((16*x+c) % 4294967296:Nat):Int):=by omega
 rw[e1];have hy:(16*x+c) % 4294967296<4294967296:=by omega
 unfold z7c;generalize (16*x+c) % 4294967296=y at *;have e2:(y:Int) / 268435456*16=((16*(y / 268435456):Nat):Int):=by omega
 rw[e2,u32_xor_nat _ _ hy (by omega)];have hz:y ^^^ (16*(y / 268435456))<2 ^ 32:=Nat.xor_lt_two_pow (by omega) (by omega);have e3:(268435455:Int)=((268435455:Nat):Int):=by decide
 rw[e3,u32_and_nat _ _ (by omega) (by omega)];have e4:=Nat.and_two_pow_sub_one_eq_mod (y ^^^ (16*(y / 268435456))) 28;have e5:(2 ^ 28-1:Nat)=268435455:=by decide
 rw[e5]at e4;rw[e4,Nat.xor_mod_two_pow];have e6:(2 ^ 28:Nat)=268435456:=by decide
 rw[e6,Nat.mod_eq_of_lt (a:=16*(y / 268435456)) (by omega)]
theorem xor_i64(a b:Nat)(ha:a<9223372036854775808)(hb:b<9223372036854775808):bits .xor .i64 (a:Int) (b:Int)=((a ^^^ b:Nat):Int):=by
 have hx:a ^^^ b<2 ^ 63:=Nat.xor_lt_two_pow (by omega) (by omega);have h1:(BitVec.ofInt 64 (a:Int)).toNat=a:=by
  rw[BitVec.ofInt_natCast,BitVec.toNat_ofNat];exact Nat.mod_eq_of_lt (by omega)
 have h2:(BitVec.ofInt 64 (b:Int)).toNat=b:=by
  rw[BitVec.ofInt_natCast,BitVec.toNat_ofNat];exact Nat.mod_eq_of_lt (by omega)
 show IntKind.i64.wrap ((BitVec.ofInt 64 (a:Int) ^^^ BitVec.ofInt 64 (b:Int)).toNat:Int)=_;rw[BitVec.toNat_xor,h1,h2];simp[IntKind.wrap,IntKind.bits,IntKind.signed];omega
theorem hstep_ref(x c:Nat) :
 bits .xor .i64 ((16*(x:Int)+(c:Int)) % 268435456) (16*((16*(x:Int)+(c:Int)) % 4294967296 / 268435456))=((z7c x c:Nat):Int):=by
 have e1:(16*(x:Int)+(c:Int)) % 4294967296=(((16*x+c) % 4294967296:Nat):Int):=by omega
 have e0:(16*(x:Int)+(c:Int)) % 268435456=(((16*x+c) % 4294967296:Nat):Int) % 268435456:=by omega
 rw[e0,e1];unfold z7c;have hy:(16*x+c) % 4294967296<4294967296:=by omega
 generalize (16*x+c) % 4294967296=y at *;have e2:(y:Int) % 268435456=((y % 268435456:Nat):Int):=by omega
 have e3:16*((y:Int) / 268435456)=((16*(y / 268435456):Nat):Int):=by omega
 rw[e2,e3];exact xor_i64 _ _ (by omega) (by omega)
def z5r (l:List UInt8):Nat:=l.foldl (fun h c=>z7c h c.toNat) 0
theorem hashL_snoc(l:List UInt8)(c:UInt8):z5r (l++[c])=z7c (z5r l) c.toNat:=by
 simp[z5r,List.foldl_append]
theorem hashL_lt(l:List UInt8):z5r l<268435456:=by
 rcases List.eq_nil_or_concat l with rfl|⟨l',c,rfl⟩
 ·decide
 ·rw[List.concat_eq_append,hashL_snoc];exact hstep_lt _ _
theorem take_snoc(s:ByteArray)(k:Nat)(h:k<s.size):s.data.toList.take (k+1)=s.data.toList.take k++[s[k]]:=by
 rw[List.take_succ_eq_append_getElem (by simpa using h)];rfl
end Go.Proofs.YtbcpcbonlhlhpaaGreatDoor
namespace Go.Proofs.YtbcpcbonlhlhpaaGreatDoor
open Go.RowKit Go.Maps
def z5l:Obj->Option TypeId
 | .cells _ t _=>some t
 |_=>none
structure Only(ts:List (Option TypeId))(w w':World):Prop where
 block:∀(k:Nat) (o:Obj),w.heap[k]?=some o->z5l o ∉ ts->w'.heap[k]?=some o
abbrev tsFiles:List (Option TypeId):=[some 125,none]
abbrev tsRF:List (Option TypeId):=[some 33]
theorem Only.of_turned{p bm:Nat}{w w':World}{D:DataW Unit}{k:Nat}(h:Turned p bm w w')(hF:z0q w p bm D k):Only tsFiles w w':=⟨fun q o hq ho=>(h.block q (Array.getElem?_eq_some_iff.1 hq).1
 (fun e=>ho (by
   subst e;rw[hF.blk]at hq;injection hq with hq;subst hq;simp[z5l,tsFiles]))
 (fun e=>ho (by
   subst e;obtain⟨es,clock,hb,_⟩:=hF.own;rw[hb]at hq;injection hq with hq;subst hq;simp[z5l,tsFiles]))).trans hq⟩
theorem Only.of_turnedQ{B q:Nat}{w w':World}{L:List z0u}{k:Nat}(h:Turned q q w w')(hR:RAt B w q L k):Only tsRF w w':=by
 obtain⟨v,hv,_⟩:=hR.blk;have key:∀(j:Nat) (o:Obj),w.heap[j]?=some o->z5l o ∉ tsRF->j≠q:=fun j o hj ho e=>ho (by
  subst e;rw[hv]at hj;injection hj with hj;subst hj;simp[z5l,tsRF])
 exact⟨fun j o hj ho=>(h.block j (Array.getElem?_eq_some_iff.1 hj).1 (key j o hj ho) (key j o hj ho)).trans hj⟩
theorem Only.of_below{w w':World}(h:Below w.heap.size w w'):Only [] w w':=⟨fun j _ hj _=>(h.block j (Array.getElem?_eq_some_iff.1 hj).1).trans hj⟩
theorem z0q.only{w w':World}{p bm:Nat}{D:DataW Unit}{k:Nat}{ts:List (Option TypeId)}(h:z0q w p bm D k)(hs:Only ts w w')(h1:some 125 ∉ ts)(h2:none ∉ ts):z0q w' p bm D k:=by
 refine⟨hs.block _ _ h.blk h1,?_⟩;obtain⟨es,clock,hb,F,hn,hD⟩:=h.own;exact⟨es,clock,hs.block _ _ hb h2,F,hn,hD⟩
theorem z7G {w w':World}{B s n:Nat}{e:TypeId}{v:Value}{xs:List Value}{ts:List (Option TypeId)}(h:w.ownsRow B e s v n xs)(hs:Only ts w w')(h1:some e ∉ ts):w'.ownsRow B e s v n xs:=z5X h fun k hk=>by
 obtain⟨c,hc⟩:=z3C h hk;rw[hc];exact hs.block k _ hc h1
theorem RAt.only{B q:Nat}{w w':World}{L:List z0u}{k:Nat}{ts:List (Option TypeId)}(h:RAt B w q L k)(hs:Only ts w w')(h1:some 33 ∉ ts)(h2:some 92 ∉ ts):RAt B w' q L k:=by
 obtain⟨v,hv,hr⟩:=h.blk;exact⟨h.lo,v,hs.block _ _ hv h1,z7G hr hs h2⟩
theorem Only.trans{ts:List (Option TypeId)}{w w' w2:World}(h:Only ts w w')(h2:Only ts w' w2):Only ts w w2:=⟨fun k o hk ho=>h2.block k o (h.block k o hk ho) ho⟩
theorem Only.set{w:World}{g:Nat}{c:Array Value}{t:TypeId}{f:Nat×Nat}(h:w.heap[g]?=some (.cells c t f))(i:Nat)(v:Value):Only [some t] w (w.setCell ⟨g,i,none⟩ v):=⟨fun k o hk ho=>by
 have hne:k≠g:=fun e=>ho (by
  subst e;rw[h]at hk;injection hk with hk;subst hk;simp[z5l])
 exact(Below.heap_setCell _ _ _ _ hne).trans hk⟩
end Go.Proofs.YtbcpcbonlhlhpaaGreatDoor
