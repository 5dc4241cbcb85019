/- What a line of a word and a name does: named of the -/
import Derived.Test.YtbcpcbonlhlhpaaGreatDoorConsAt
set_option maxRecDepth 100000
set_option maxHeartbeats 8000000
namespace Go.Proofs.YtbcpcbonlhlhpaaGreatDoor
open Go.RowKit Go.Maps
theorem z0Q {w:ByteArray}{k:List UInt8}(h:w.data.toList=k):(w.toList==k)=true:=by rw[ByteArray.toList_eq,h];simp
theorem z0h {w:ByteArray}{k:List UInt8}(h:w.data.toList≠k):(w.toList==k)=false:=by rw[beq_eq_false_iff_ne,ByteArray.toList_eq];exact h
theorem build_is{s s':DSt}{n:Nat}{E:Nat->EntF}{k:Nat}{D:DataW Unit}{kf:Nat}{T:ByteArray->ByteArray}{S:ByteArray->Int}{root:ByteArray}{e:Ending}(h:BuildEnd s n E k (rdD D T) S root s' e)(hSt:z0X s n E k)(hl:s.left=-1)(hI:Inv D kf)(hT:z4C D T)(hS:z3q D S)(hH:∀i,i<k->Held D kf (E i)) :
 ∃(F:Nat) (r:(Nat->EntF)×Nat),e=.returned (errV F)/\s'.left=-1/\z0X s' n r.1 r.2/\(∀i,i<r.2->Held D kf (r.1 i))/\RBuilt E k (rdD D T) S root F r:=by
 cases h with
 |bad F h1 hf hs=>
  subst hs;exact⟨F,(E,k),rfl,hl,hSt,hH,.bad F h1 hf⟩
 |put m Bs P Q e h1 hp=>
  obtain⟨he,hl',hSt'⟩:=hp.calm hSt hl putE_kept;exact⟨_,(putE E k (z4t (rdD D T) S root m Bs (z0l (rdD D T) root m Bs P Q))).2,he,hl',hSt',held_putE hH (Held.new hI hT hS h1),.put m Bs P Q h1⟩
theorem real_of{W:World}{pf bm:Nat}{D:DataW Unit}{k:Nat}(h:z0q W pf bm D k):Real D:=⟨W,bm,_,h.own⟩
abbrev z7g:List (Option TypeId):=[some 87,some 118,some 177,some 174,some 125,none]
theorem Only.widen{ts ts':List (Option TypeId)}{w w':World}(h:Only ts w w')(hs:∀t,t∈ts->t∈ts'):Only ts' w w':=⟨fun k o hk ho=>h.block k o hk fun hm=>ho (hs _ hm)⟩
theorem Only.refl(ts:List (Option TypeId))(w:World):Only ts w w:=⟨fun _ _ hk _=>hk⟩
theorem z3d {w w':World}(h:Below w.heap.size w w'):Only z7g w w':=(Only.of_below h).widen (by decide)
theorem oTurned{pf bm:Nat}{w w':World}{D:DataW Unit}{k:Nat}(h:Turned pf bm w w')(hF:z0q w pf bm D k):Only z7g w w':=(Only.of_turned h hF).widen (by decide)
theorem oSpun{B:Nat}{w w':World}(h:Spun B w w'):Only z7g w w':=(Only.of_spun h).widen (by decide)
theorem oSet{w0 W:World}{B z p pf bm l g:Nat}{s:DSt}{st:CSt}(h:CAt w0 W B z p pf bm l g s st)(i:Nat)(v:Value):Only z7g W (W.setCell ⟨z,i,none⟩ v):=(Only.set h.sess i v).widen (by decide)
def z2E (w0:World)(B z p pf bm:Nat)(st':CSt)(i:Nat)(V W':World):Prop:=(∃l' g' s',CAt w0 W' B z p pf bm l' g' s' st')/\Well st' (i+1)/\Only z7g V W'
theorem z2E.later{w0 V W W':World}{B z p pf bm:Nat}{st:CSt}{i:Nat}(h:z2E w0 B z p pf bm st i V W)(hb:Below W.heap.size W W'):z2E w0 B z p pf bm st i V W':=by
 obtain⟨⟨l,g,s,h1⟩,h2,h3⟩:=h;exact⟨⟨l,g,s,h1.later hb⟩,h2,h3.trans (z3d hb)⟩
theorem z2E.behind{w0 V V' W:World}{B z p pf bm:Nat}{st:CSt}{i:Nat}(h:z2E w0 B z p pf bm st i V W)(ho:Only z7g V' V):z2E w0 B z p pf bm st i V' W:=⟨h.1,h.2.1,ho.trans h.2.2⟩
theorem named_any(w0 W:World)(B z p pf bm l g:Nat)(s:DSt)(st:CSt)(i:Nat)(word n:ByteArray)(h:CAt w0 W B z p pf bm l g s st)(hlo:CLow w0 B z pf bm)(hw:Well st i)(hi:i<=1000)(hE:Env w0)(hn:n.size<=100) :
 Calls Tryz.prog 53 #[.pointer (some ⟨z,0,none⟩),.string word,.string n] W fun e W'=>Told e (sayC st (z1e word.data.toList n)).2/\z2E w0 B z p pf bm (sayC st (z1e word.data.toList n)).1 i W W':=by
 have hnm:n.size<=maxLen:=Nat.le_trans hn (by decide);have hsz:Maps.size st.D<=1000:=by have:=hw.inv.size;omega
 have hkf:st.kf<=1000000:=by have:=hw.few;omega
 by_cases k1:word.data.toList=cWrite
 ·have e1:=z0Q k1;have hc:z1e word.data.toList n=.write n:=by unfold z1e;rw[if_pos k1]
  rw[hc];have h1:=h.later (Below.refl _ W).drew;have HW:=write_any W.drew pf bm st.D st.kf n st.text h1.files hnm hsz;have HFIN:Hid (∀W':World,Turned pf bm W.drew W'->(writeF st.D st.kf n st.text=0->z0q W' pf bm (st.D.put (keyB n) (z1s st.text.data.toList ((st.kf:Int)+1))) (st.kf+1))->(writeF st.D st.kf n st.text≠0->z0q W' pf bm st.D st.kf)->z2E w0 B z p pf bm (sayC st (.write n)).1 i W W'):=fun W' hT hy hn'=>by
   have hs:(sayC st (.write n)).1=if writeF st.D st.kf n st.text=0 then {st with D:=st.D.put (keyB n) (z1s st.text.data.toList ((st.kf:Int)+1)),kf:=st.kf+1}else st:=rfl
   by_cases h0:writeF st.D st.kf n st.text=0
   ·rw[hs,if_pos h0];have hF:=hy h0;exact⟨⟨l,g,s,h1.turn hlo hT hF⟩,⟨by have:=hw.text;show st.text.size<=61*(i+1);omega,hw.inv.put h0,hw.names.put h0,z1y.put hw.inv hw.pos,by have:=hw.few;show st.kf+1<=i+1;omega,fun j hj=>(hw.held j hj).step fun D0 k0 hsn=>hsn.put hw.inv,hw.good,real_of hF⟩,(z3d (Below.refl _ W).drew).trans (oTurned hT h1.files)⟩
   ·rw[hs,if_neg h0];have hF:=hn' h0;exact⟨⟨l,g,s,h1.turn (D':=st.D) (kf':=st.kf) hlo hT hF⟩,hw.next,(z3d (Below.refl _ W).drew).trans (oTurned hT h1.files)⟩
  have hle:=writeF_le st.D st.kf n st.text;have HT:Hid (Told (.returned (.tuple #[.string ⟨#[111,107]⟩,errV (writeF st.D st.kf n st.text)])) (sayC st (.write n)).2):=told_done (by omega);generalize writeF st.D st.kf n st.text=F at *;have mkS:∀V:World,CAt w0 V B z p pf bm l g s st->(fun w':World=>w'.cell? ⟨z,0,none⟩=some (.pointer (some ⟨pf,0,none⟩))/\w'.cell? ⟨z,3,none⟩=some (.string st.text)) V:=fun V hV=>⟨hV.c0,hV.c3⟩
  have hSS:=mkS _ h1;have HS6:Hid (∀V:World,Turned pf bm W.drew V->(fun w':World=>w'.cell? ⟨z,0,none⟩=some (.pointer (some ⟨pf,0,none⟩))/\w'.cell? ⟨z,3,none⟩=some (.string st.text)) V):=fun V hV=>by
   have hb:=(Only.of_turned hV h1.files).block _ _ h1.sess (by simp[z5l,tsFiles]);exact⟨by simp[World.cell?,hb],by simp[World.cell?,hb]⟩
  clear hc k1 mkS hnm hsz hle;go_enter Tryz.func53,Tryz.ntmps53;go_upto_region 3 with fail;refine z0f (fun w':World=>w'.cell? ⟨z,0,none⟩=some (.pointer (some ⟨pf,0,none⟩))/\w'.cell? ⟨z,3,none⟩=some (.string st.text)) 10 15 (by kernel_rfl) rfl ?_;generalize W.drew=W1 at *;refine tW 0 hSS ?_;refine tW 1 hSS ?_;refine tW 2 hSS ?_;refine tW 4 hSS ?_;refine tW 5 hSS ?_;refine tW 6 hSS ?_;refine tW 7 hSS ?_;refine tR 3 [9] hSS ?_;refine tR 8 [9] hSS ?_;clear hSS;refine oG 9 fun K hK=>?_
  go_wp2_with fail;refine(show Calls _ _ _ _ _ from HW).mono ?_;rintro e w6 ⟨rfl,hFy,hFn,hT6⟩;clear HW;have hSS6:=HS6.out w6 hT6;have HF:=HFIN.out w6 hT6 hFy hFn;have HHF:Hid (z2E w0 B z p pf bm (sayC st (.write n)).1 i W w6):=HF;have HD:=z4S (errV F) w6;clear HFIN HS6 hT6 hFy hFn HF;go_wp2;refine hK _ _ hSS6 ?_;clear hK hSS6;refine lG 10 fun K hK=>?_
  go_wp2_with fail;refine(show Calls _ _ _ _ _ from HD).mono ?_;rintro e w7 ⟨rfl,hw7⟩;subst w7;clear HD;go_wp2;refine hK _ _ ?_;clear hK;refine tA 11 ?_;refine tA 12 ?_;refine tA 13 ?_;refine tA 14 ?_;refine z1c (by kernel_rfl) ?_ _;go_wp2;go_ret2;exact⟨HT.out,HHF.out⟩
 have e1:=z0h k1;by_cases k2:word.data.toList=cRemove
 ·have e2:=z0Q k2;have hc:z1e word.data.toList n=.remove n:=by unfold z1e;rw[if_neg k1,if_pos k2]
  rw[hc];obtain⟨F,hF⟩:∃F:Nat,F=if Maps.has st.D (keyB n)=true then 0 else 5:=⟨_,rfl⟩
  have HW:=remove_any W pf bm st.D st.kf n h.files hnm F hF;have hle:F<=1000:=by rw[hF];split <;> decide
  have HT:Hid (Told (.returned (.tuple #[.string ⟨#[111,107]⟩,errV F])) (sayC st (.remove n)).2):=by
   have:(sayC st (.remove n)).2=z5z F:=by rw[hF];rfl
   show Told _ _;rw[this];exact told_done hle
  have c0:=h.c0;clear hc k1 k2 hF;go_enter Tryz.func53,Tryz.ntmps53;go_wp2_with fail;refine(show Calls _ _ _ _ _ from HW).mono ?_;rintro e w6 ⟨rfl,hF6,hT6⟩;clear HW c0;have HHF:Hid (z2E w0 B z p pf bm (sayC st (.remove n)).1 i W w6):=⟨⟨l,g,s,h.turn hlo hT6 hF6⟩,⟨by have:=hw.text;show st.text.size<=61*(i+1);omega,hw.inv.del,hw.names.del,hw.pos.del,by have:=hw.few;show st.kf<=i+1;omega,fun j hj=>(hw.held j hj).step fun D0 k0 hsn=>hsn.del,hw.good,real_of hF6⟩,oTurned hT6 h.files⟩;have HD:=z4S (errV F) w6;clear hF6 hT6;go_wp2_with fail;refine(show Calls _ _ _ _ _ from HD).mono ?_;rintro e w7 ⟨rfl,hw7⟩;subst w7;clear HD;go_wp2;go_ret2;exact⟨HT.out,HHF.out⟩
 have e2:=z0h k2;by_cases k3:word.data.toList=cStamp
 ·have e3:=z0Q k3;have hc:z1e word.data.toList n=.stamp n:=by unfold z1e;rw[if_neg k1,if_neg k2,if_pos k3]
  rw[hc];have HR:=z4b W pf bm st.D st.kf n h.files hnm;have c0:=h.c0;clear hc k1 k2 k3;go_enter Tryz.func53,Tryz.ntmps53;go_wp2_with fail;refine(show Calls _ _ _ _ _ from HR).mono ?_;rintro e w6 ⟨⟨t,nn,f,rfl,hRI⟩,hb6⟩;clear HR c0;have hAns:(sayC st (.stamp n)).2=if Maps.has st.D (keyB n)=true then Lib.itoa (stD st.D n)else z1h 5:=rfl
  have hcase:(f=0/\0<=nn/\nn<=1000000/\(sayC st (.stamp n)).2=Lib.itoa nn)∨(f=5/\nn=0/\(sayC st (.stamp n)).2=z1h 5):=by
   cases hh:Maps.has st.D (keyB n)with
   |true=>
    obtain⟨h1,h2⟩:=hRI.yes hh;have h3:=(z6n st.D).is n _ nn hh h2;have h4:=hw.pos n _ nn hh h2;obtain⟨t',n',h5,h6⟩:=hw.inv.st (keyB n) hh;have h7:=z4L (h2.symm.trans h5);rw[hh,if_pos rfl,<-h3]at hAns;exact .inl ⟨h1,by omega,by omega,hAns⟩
   |false=>
    obtain⟨h1,_,h3⟩:=hRI.no hh;rw[hh,if_neg (by decide)]at hAns;exact .inr ⟨h1,h3,hAns⟩
  have HHF:Hid (z2E w0 B z p pf bm (sayC st (.stamp n)).1 i W w6):=⟨⟨l,g,s,h.later hb6⟩,hw.next,z3d hb6⟩;have HC:=z6w nn w6 (hE.later (h.below.trans (hb6.mono h.below.size))) (by omega) (by omega);have HT:Hid (Told (.returned (.tuple #[.string ⟨(Lib.itoa nn).toArray⟩,errV f])) (sayC st (.stamp n)).2):=by
   rcases hcase with⟨rfl,_,_,ha⟩|⟨rfl,_,ha⟩
   ·exact z1K (by rw[ha])
   ·exact .inr ⟨_,5,by decide,by decide,rfl,ha⟩
  generalize (⟨(Lib.itoa nn).toArray⟩:ByteArray)=tt at *;clear hRI hAns hcase;generalize errV f=ev at *;go_wp2_with fail;refine(show Calls _ _ _ _ _ from HC).mono ?_;rintro e w7 ⟨rfl,hb7⟩;clear HC;go_wp2;go_ret2;exact⟨HT.out,HHF.out.later hb7⟩
 have e3:=z0h k3;by_cases k4:word.data.toList=cBuild
 ·have e4:=z0Q k4;have hc:z1e word.data.toList n=.build n:=by unfold z1e;rw[if_neg k1,if_neg k2,if_neg k3,if_pos k4]
  rw[hc];have HB:=loaderBuild_any W B p 120 l g pf bm s st.E st.k st.D st.kf (txD st.D) (stD st.D) n h.disk h.stands h.loader h.shelf (hE.later h.below) h.files hw.inv hw.names hw.pos (txD_is _) (z6n _) hkf hnm;have c2:=h.c2;clear hc k1 k2 k3 k4;go_enter Tryz.func53,Tryz.ntmps53;go_wp2_with fail;refine(show Calls _ _ _ _ _ from HB).mono ?_;rintro e w6 ⟨s',hBE,hD6,hS6⟩;clear HB c2;obtain⟨F,r,rfl,hl',hSt',hH',hRB⟩:=build_is hBE h.stands h.calm hw.inv (txD_is _) (z6n _) hw.held;have hbc:=builtC_is (st:=st) hRB;have hle:=rBuilt_le hRB;have hs1:(sayC st (.build n)).1={st with E:=(builtC st n).2.1,k:=(builtC st n).2.2}:=rfl;have hs2:(sayC st (.build n)).2=z5z (builtC st n).1:=rfl;rw[hbc]at hs1 hs2;have HHF:Hid (z2E w0 B z p pf bm (sayC st (.build n)).1 i W w6):=by
   show z2E _ _ _ _ _ _ _ _ _ _;rw[hs1];exact⟨⟨l,g,s',h.spin hlo hD6 hS6 hSt' hl'⟩,⟨by have:=hw.text;show st.text.size<=61*(i+1);omega,hw.inv,hw.names,hw.pos,by have:=hw.few;show st.kf<=i+1;omega,hH',hSt'.good,hw.real⟩,oSpun hS6⟩
  have HT:Hid (Told (.returned (.tuple #[.string ⟨#[111,107]⟩,errV F])) (sayC st (.build n)).2):=by
   show Told _ _;rw[hs2];exact told_done (by omega)
  have HD:=z4S (errV F) w6;clear hBE hD6 hS6 hl' hSt' hH' hRB hbc hs1 hs2;go_wp2_with fail;refine(show Calls _ _ _ _ _ from HD).mono ?_;rintro e w7 ⟨rfl,hw7⟩;subst w7;clear HD;go_wp2;go_ret2;exact⟨HT.out,HHF.out⟩
 have e4:=z0h k4;by_cases k5:word.data.toList=cDrop
 ·have e5:=z0Q k5;have hc:z1e word.data.toList n=.drop n:=by unfold z1e;rw[if_neg k1,if_neg k2,if_neg k3,if_neg k4,if_pos k5]
  rw[hc];have HB:=loaderDrop_any W B p 120 l pf g s st.E st.k n h.disk h.stands h.loader h.shelf (hE.later h.below);have c2:=h.c2;clear hc k1 k2 k3 k4 k5;go_enter Tryz.func53,Tryz.ntmps53;go_wp2_with fail;refine(show Calls _ _ _ _ _ from HB).mono ?_;rintro e w6 ⟨s',hPE,hD6,hS6⟩;clear HB c2;obtain⟨he,hl',hSt'⟩:=hPE.calm h.stands h.calm dropE_kept;subst he;have hle:=dropE_le st.E st.k n;have HHF:Hid (z2E w0 B z p pf bm (sayC st (.drop n)).1 i W w6):=⟨⟨l,g,s',h.spin hlo hD6 hS6 hSt' hl'⟩,⟨by have:=hw.text;show st.text.size<=61*(i+1);omega,hw.inv,hw.names,hw.pos,by have:=hw.few;show st.kf<=i+1;omega,held_dropE hw.held,hSt'.good,hw.real⟩,oSpun hS6⟩;have HT:Hid (Told (.returned (.tuple #[.string ⟨#[111,107]⟩,errV (z2F st.E st.k n).1])) (sayC st (.drop n)).2):=told_done (by omega);have HD:=z4S (errV (z2F st.E st.k n).1) w6;clear hPE hD6 hS6 hl' hSt' hle;generalize (z2F st.E st.k n).1=F at *;go_wp2_with fail;refine(show Calls _ _ _ _ _ from HD).mono ?_;rintro e w7 ⟨rfl,hw7⟩;subst w7;clear HD;go_wp2;go_ret2;exact⟨HT.out,HHF.out⟩
 have e5:=z0h k5;by_cases k6:word.data.toList=cLoad
 ·have e6:=z0Q k6;have hc:z1e word.data.toList n=.load n:=by unfold z1e;rw[if_neg k1,if_neg k2,if_neg k3,if_neg k4,if_neg k5,if_pos k6]
  rw[hc];have HL:=cload_any w0 W B z p pf bm l g s st i n h hw hi hE hn;clear hc k1 k2 k3 k4 k5 k6;go_enter Tryz.func53,Tryz.ntmps53;go_wp2_with fail;refine(show Calls _ _ _ _ _ from HL).mono ?_;rintro e w6 ⟨hT,hb6⟩;clear HL;have HHF:Hid (z2E w0 B z p pf bm (sayC st (.load n)).1 i W w6):=⟨⟨l,g,s,h.later hb6⟩,hw.next,z3d hb6⟩;rcases hT with⟨t,rfl,ht⟩|⟨t,F,hF,hle,rfl,ht⟩
  ·have HT:Hid (Told (.returned (.tuple #[.string t,.nilIface])) (sayC st (.load n)).2):=z1K ht;clear ht;go_wp2;go_ret2;exact⟨HT.out,HHF.out⟩
  ·have HT:Hid (Told (.returned (.tuple #[.string t,errV F])) (sayC st (.load n)).2):=.inr ⟨t,F,hF,hle,rfl,ht⟩;clear ht;generalize errV F=ev at *;go_wp2;go_ret2;exact⟨HT.out,HHF.out⟩
 have e6:=z0h k6;by_cases k7:word.data.toList=cEntry
 ·have e7:=z0Q k7;have hc:z1e word.data.toList n=.entry n:=by unfold z1e;rw[if_neg k1,if_neg k2,if_neg k3,if_neg k4,if_neg k5,if_neg k6,if_pos k7]
  rw[hc];have HL:=centry_any w0 W B z p pf bm l g s st n h hE;clear hc k1 k2 k3 k4 k5 k6 k7;go_enter Tryz.func53,Tryz.ntmps53;go_wp2_with fail;refine(show Calls _ _ _ _ _ from HL).mono ?_;rintro e w6 ⟨hT,hb6⟩;clear HL;have HHF:Hid (z2E w0 B z p pf bm (sayC st (.entry n)).1 i W w6):=⟨⟨l,g,s,h.later hb6⟩,hw.next,z3d hb6⟩;rcases hT with⟨t,rfl,ht⟩|⟨t,F,hF,hle,rfl,ht⟩
  ·have HT:Hid (Told (.returned (.tuple #[.string t,.nilIface])) (sayC st (.entry n)).2):=z1K ht;clear ht;go_wp2;go_ret2;exact⟨HT.out,HHF.out⟩
  ·have HT:Hid (Told (.returned (.tuple #[.string t,errV F])) (sayC st (.entry n)).2):=.inr ⟨t,F,hF,hle,rfl,ht⟩;clear ht;generalize errV F=ev at *;go_wp2;go_ret2;exact⟨HT.out,HHF.out⟩
 have e7:=z0h k7;by_cases k8:word.data.toList=cHash
 ·have e8:=z0Q k8;have hc:z1e word.data.toList n=.hash n:=by unfold z1e;rw[if_neg k1,if_neg k2,if_neg k3,if_neg k4,if_neg k5,if_neg k6,if_neg k7,if_pos k8]
  rw[hc];have HH:=hash_any n W hnm;have hlt:=hashL_lt n.data.toList;have HU:=formatUint_any (z5r n.data.toList) (by omega) W (hE.later h.below);have HHF:Hid (∀W',Below W.heap.size W W'->z2E w0 B z p pf bm (sayC st (.hash n)).1 i W W'):=fun W' hb=>⟨⟨l,g,s,h.later hb⟩,hw.next,z3d hb⟩
  have HT:Hid (Told (.returned (.tuple #[.string ⟨(Lib.itoa ((z5r n.data.toList:Nat):Int)).toArray⟩,.nilIface])) (sayC st (.hash n)).2):=z1K (by simp;rfl);generalize (⟨(Lib.itoa ((z5r n.data.toList:Nat):Int)).toArray⟩:ByteArray)=tt at *;generalize z5r n.data.toList=hv at *;clear hc k1 k2 k3 k4 k5 k6 k7 k8;go_enter Tryz.func53,Tryz.ntmps53;go_wp2_with fail;refine(show Calls _ _ _ _ _ from HH).mono ?_;rintro e w6 ⟨rfl,hw6⟩;subst w6;clear HH;have hwr:IntKind.u64.wrap (hv:Int)=(hv:Int):=by rw[IntKind.wrap_u64];omega
  go_wp2_with fail;refine(show Calls _ _ _ _ _ from HU).mono ?_;rintro e w7 ⟨rfl,hb7⟩;clear HU;have HH7:=HHF.out w7 hb7;go_wp2;go_ret2;exact⟨HT.out,HH7⟩
 have e8:=z0h k8;have hc:z1e word.data.toList n=.bad:=by unfold z1e;rw[if_neg k1,if_neg k2,if_neg k3,if_neg k4,if_neg k5,if_neg k6,if_neg k7,if_neg k8]
 rw[hc];have HHF:Hid (z2E w0 B z p pf bm (sayC st .bad).1 i W W):=⟨⟨l,g,s,h⟩,hw.next,Only.refl _ _⟩;have HT:Hid (Told (.returned (.tuple #[.string ⟨#[]⟩,errV 4])) (sayC st .bad).2):=.inr ⟨_,4,by decide,by decide,rfl,rfl⟩;clear hc k1 k2 k3 k4 k5 k6 k7 k8;go_enter Tryz.func53,Tryz.ntmps53;go_wp2;go_ret2;exact⟨HT.out,HHF.out⟩
end Go.Proofs.YtbcpcbonlhlhpaaGreatDoor
