/- What a line does: bare, numbered, do and answer of the -/
import Derived.Test.YtbcpcbonlhlhpaaGreatDoorConsActs
import Derived.Lib.CutLaws
import Derived.Lib.IndexLaws
set_option maxRecDepth 100000
set_option maxHeartbeats 8000000
namespace Go.Proofs.YtbcpcbonlhlhpaaGreatDoor
section
open Go.RowKit Go.Maps
theorem enc_strs(l:List (List UInt8)):l.map encStr=z1A l:=by
 unfold z1A;exact List.map_congr_left fun x _=>rfl
theorem names_short{D:DataW Unit}(hR:Real D)(hN:z2X D){x:List UInt8}(hx:x∈z3L D):x.length<=8:=by
 obtain⟨w,bm,n,hw⟩:=hR;obtain⟨h1,_⟩:=names_has hw hx;have h2:=hN ⟨x.toArray⟩ (by show Maps.has D (keyB ⟨x.toArray⟩)=true;rw[show keyB ⟨x.toArray⟩=.string x by simp[keyB]];exact h1);have h3:=z1k h2;simpa using h3
theorem rootsT_len(E:Nat->EntF):∀k,(z5E E k).length=k
 |0=>rfl
 |k+1=>by
  show(z5E E k++[_]).length=k+1;rw[List.length_append,rootsT_len E k];rfl
theorem rootsT_mem{E:Nat->EntF}{x:List UInt8}:∀ {k:Nat},x∈z5E E k->∃j,j<k/\x=(E j).root.data.toList
 |0,h=>by cases h
 |k+1,h=>by
  rcases List.mem_append.1 h with h|h
  ·obtain⟨j,hj,e⟩:=rootsT_mem h;exact⟨j,by omega,e⟩
  ·rw[List.mem_singleton]at h;exact⟨k,by omega,h⟩
theorem roots_strs(E:Nat->EntF):∀k,z0i (z7d E) k=z1A (z5E E k)
 |0=>rfl
 |k+1=>by
  have e1:z0i (z7d E) (k+1)=z0i (z7d E) k++z7d E k:=rfl;have e2:z5E E (k+1)=z5E E k++[(E k).root.data.toList]:=rfl;rw[e1,e2,z6B,roots_strs E k];congr 1
theorem roots_short{E:Nat->EntF}{k:Nat}(h:z1M E k){x:List UInt8}(hx:x∈z5E E k):x.length<=8:=by
 obtain⟨j,hj,rfl⟩:=rootsT_mem hx;exact z1k (h.ent hj).root
theorem join_few{l:List (List UInt8)}(h:∀x∈l,x.length<=8)(hn:l.length<=60):(Lib.join l [32]).length<=100000:=by
 have h1:=join_most [32] 8 l h;have h2:l.length*(8+([32]:List UInt8).length)<=60*9:=Nat.mul_le_mul hn (by decide);omega
section
variable {w0 W W':World} {B z p pf bm l g:Nat} {s:DSt} {st:CSt}
theorem CAt.putL(h:CAt w0 W B z p pf bm l g s st)(hlo:CLow w0 B z pf bm){l' g':Nat}(hl:z1u W l' pf g')(hg:z0T W g' p):CAt w0 (W.setCell ⟨z,2,none⟩ (.pointer (some ⟨l',0,none⟩))) B z p pf bm l' g' s st:=by
 have ho:=Only.set h.sess 2 (.pointer (some ⟨l',0,none⟩));refine⟨heap_setCell W z 2 _ _ _ h.sess,h.disk.only ho (by decide) (by decide) (by decide),h.stands,h.calm,hl.only ho (by decide),hg.only ho (by decide),h.files.only ho (by decide) (by decide),?_⟩;exact h.below.trans ⟨rfl,rfl,rfl,by simp[World.setCell],fun k hk=>Below.heap_setCell _ _ _ _ (Nat.ne_of_lt (Nat.lt_of_lt_of_le hk hlo.sess))⟩
end
theorem bare_any(w0 W:World)(B z p pf bm l g:Nat)(s:DSt)(st:CSt)(i:Nat)(word:ByteArray)(h:CAt w0 W B z p pf bm l g s st)(hlo:CLow w0 B z pf bm)(hw:Well st i)(hE:Env w0) :
 Calls Tryz.prog 49 #[.pointer (some ⟨z,0,none⟩),.string word] W fun e W'=>Told e (sayC st (z2h word.data.toList)).2/\z2E w0 B z p pf bm (sayC st (z2h word.data.toList)).1 i W W':=by
 have hsz:Maps.size st.D<=1000:=by have:=hw.inv.size;omega
 by_cases k1:word.data.toList=cClear
 ·have e1:=z0Q k1;have hc:z2h word.data.toList=.clear:=by unfold z2h;rw[if_pos k1]
  rw[hc];have c3:=h.c3;have f3:=h.f3;have HHF:Hid (z2E w0 B z p pf bm (sayC st .clear).1 i W (W.setCell ⟨z,3,none⟩ (.string ⟨#[]⟩))):=⟨⟨l,g,s,h.put hlo ⟨#[]⟩⟩,{hw.next with text:=Nat.zero_le _},oSet h 3 _⟩;have HT:Hid (Told (.returned (.tuple #[.string ⟨#[111,107]⟩,.nilIface])) (sayC st .clear).2):=z1K rfl;have HD:=z4S .nilIface (W.setCell ⟨z,3,none⟩ (.string ⟨#[]⟩));clear hc k1;go_enter Tryz.func49,Tryz.ntmps49;go_wp2_with fail;refine(show Calls _ _ _ _ _ from HD).mono ?_;rintro e w7 ⟨rfl,hw7⟩;subst w7;clear HD;go_wp2;go_ret2;exact⟨HT.out,HHF.out⟩
 have e1:=z0h k1;by_cases k2:word.data.toList=cObject
 ·have e2:=z0Q k2;have hc:z2h word.data.toList=.object:=by unfold z2h;rw[if_neg k1,if_pos k2]
  rw[hc];have HP:=parse_any st.text W (hE.later h.below);have c3:=h.c3;have hle:=parseF_le st.text;have hAns:(sayC st .object).2=if (z0k st.text).1=0 then Lib.itoa (((z0k st.text).2.nW:Nat):Int)++manyT else z1h (z0k st.text).1:=rfl
  have hfew:(z0k st.text).2.nW<=40:=by
   by_cases h0:(z0k st.text).1=0
   ·unfold z0k at h0 ⊢;split
    ·exact(by decide:z0d.nW<=40)
    ·split
     ·rename_i hh;have h1:=hh.1;unfold z1X at h1;split at h1
      ·rename_i ho;exact(objOk ho).nW
      ·exact absurd h1 (by assumption)
     ·exact(by decide:z0d.nW<=40)
   ·have:(z0k st.text).2=z0d:=by
     unfold z0k at h0 ⊢;split
     ·rfl
     ·split
      ·rename_i h1 h2;rw[if_neg h1,if_pos h2]at h0;exact absurd rfl h0
      ·rfl
    rw[this];decide
  generalize z0k st.text=PF at *;obtain⟨F,o⟩:=PF;dsimp only at *;clear hc k1 k2;go_enter Tryz.func49,Tryz.ntmps49;go_wp2_with fail;refine(show Calls _ _ _ _ _ from HP).mono ?_;rintro e w1 ⟨⟨v,rfl,hA⟩,hb1⟩;clear HP c3;have hbx:Below w1.heap.size w1 (w1.alloc (.cells #[.slice v.aN o.nN v.cN,.slice v.aW o.nW v.cW,.slice v.aS o.nS v.cS,.slice v.aT o.nT v.cT] 56)):=(Below.refl _ _).alloc (Nat.le_refl _) _;have x1:(w1.alloc (.cells #[.slice v.aN o.nN v.cN,.slice v.aW o.nW v.cW,.slice v.aS o.nS v.cS,.slice v.aT o.nT v.cT] 56)).cell? ⟨w1.heap.size,1,none⟩=some (.slice v.aW o.nW v.cW):=by simp[go_sem]
  have hb2:=hb1.trans (hbx.mono hb1.size);have HC:=z6w ((o.nW:Nat):Int) (w1.alloc (.cells #[.slice v.aN o.nN v.cN,.slice v.aW o.nW v.cW,.slice v.aS o.nS v.cS,.slice v.aT o.nT v.cT] 56)) (hE.later (h.below.trans (hb2.mono h.below.size))) (by omega) (by omega);have hti:=z1t (Lib.itoa ((o.nW:Nat):Int));have hts:(⟨(Lib.itoa ((o.nW:Nat):Int)).toArray⟩:ByteArray).size<=20:=by rw[z1W hti];exact z4J (by omega)
  generalize (⟨(Lib.itoa ((o.nW:Nat):Int)).toArray⟩:ByteArray)=tt at *;have HT:Hid (Told (.returned (.tuple #[.string (tt++⟨#[32,119,111,114,100,115]⟩),errV F])) (sayC st .object).2):=by
   show Told _ _;by_cases h0:F=0
   ·subst h0;rw[if_pos rfl]at hAns;exact z1K (by rw[hAns,<-hti];simp)
   ·rw[if_neg h0]at hAns;exact .inr ⟨_,F,h0,by omega,rfl,hAns⟩
  have HHF:Hid (∀W',Below W.heap.size W W'->z2E w0 B z p pf bm (sayC st .object).1 i W W'):=fun W' hb=>⟨⟨l,g,s,h.later hb⟩,hw.next,z3d hb⟩
  unfold ObjV.cells;clear hA hAns hti;generalize errV F=ev at *;go_wp2_with fail;refine(show Calls _ _ _ _ _ from HC).mono ?_;rintro e w3 ⟨rfl,hb3⟩;clear HC x1;have HH3:=HHF.out w3 (hb2.trans (hb3.mono hb2.size));go_wp2;go_ret2;exact⟨HT.out,HH3⟩
 have e2:=z0h k2;by_cases k3:word.data.toList=cList
 ·have e3:=z0Q k3;have hc:z2h word.data.toList=.list:=by unfold z2h;rw[if_neg k1,if_neg k2,if_pos k3]
  rw[hc];have HL:=list_any W pf bm st.D st.kf h.files hsz;have c0:=h.c0;clear hc k1 k2 k3;go_enter Tryz.func49,Tryz.ntmps49;go_wp2_with fail;refine(show Calls _ _ _ _ _ from HL).mono ?_;rintro e w1 ⟨⟨v,rfl,hown⟩,hb1⟩;clear HL c0;rw[enc_strs]at hown;obtain⟨a,c,rfl,_⟩:=z0c hown;have hn6:(z3L st.D).length<=6:=by rw[names_size hw.inv.tidy.isMap];exact hw.inv.size
  have HC:=clist_any _ a _ c (z3L st.D) w1 hown (by omega) (join_few (fun x hx=>names_short hw.real hw.names hx) (by omega));have HHF:Hid (∀W',Below W.heap.size W W'->z2E w0 B z p pf bm (sayC st .list).1 i W W'):=fun W' hb=>⟨⟨l,g,s,h.later hb⟩,hw.next,z3d hb⟩
  have HA:Hid ((sayC st .list).2=listT (z3L st.D)):=rfl;clear hown;generalize (z3L st.D).length=nn at *;go_wp2_with fail;refine(show Calls _ _ _ _ _ from HC).mono ?_;rintro e w2 ⟨⟨t,rfl,ht⟩,hb2⟩;clear HC;have HT:Hid (Told (.returned (.tuple #[.string t,.nilIface])) (sayC st .list).2):=z1K (ht.trans HA.out.symm);have HH:=HHF.out w2 (hb1.trans (hb2.mono hb1.size));clear ht;go_wp2;go_ret2;exact⟨HT.out,HH⟩
 have e3:=z0h k3;by_cases k4:word.data.toList=cRoots
 ·have e4:=z0Q k4;have hc:z2h word.data.toList=.roots:=by unfold z2h;rw[if_neg k1,if_neg k2,if_neg k3,if_pos k4]
  rw[hc];have HL:=loaderRoots_any W B p 120 l pf g s st.E st.k h.disk h.stands h.loader h.shelf (hE.later h.below);have c2:=h.c2;have hk3:=hw.good.few;clear hc k1 k2 k3 k4;go_enter Tryz.func49,Tryz.ntmps49;go_wp2_with fail;refine(show Calls _ _ _ _ _ from HL).mono ?_;rintro e w1 ⟨v,rfl,hown,hb1⟩;clear HL c2;rw[roots_strs]at hown;obtain⟨a,c,rfl,_⟩:=z0c hown;have HC:=clist_any _ a _ c (z5E st.E st.k) w1 hown (by omega) (join_few (fun x hx=>roots_short hw.good hx) (by rw[rootsT_len];omega));have HHF:Hid (∀W',Below W.heap.size W W'->z2E w0 B z p pf bm (sayC st .roots).1 i W W'):=fun W' hb=>⟨⟨l,g,s,h.later hb⟩,hw.next,z3d hb⟩
  have HA:Hid ((sayC st .roots).2=listT (z5E st.E st.k)):=rfl;clear hown;go_wp2_with fail;refine(show Calls _ _ _ _ _ from HC).mono ?_;rintro e w2 ⟨⟨t,rfl,ht⟩,hb2⟩;clear HC;have HT:Hid (Told (.returned (.tuple #[.string t,.nilIface])) (sayC st .roots).2):=z1K (ht.trans HA.out.symm);have HH:=HHF.out w2 (hb1.trans (hb2.mono hb1.size));clear ht;go_wp2;go_ret2;exact⟨HT.out,HH⟩
 have e4:=z0h k4;have hc:z2h word.data.toList=.bad:=by unfold z2h;rw[if_neg k1,if_neg k2,if_neg k3,if_neg k4]
 rw[hc];have HHF:Hid (z2E w0 B z p pf bm (sayC st .bad).1 i W W):=⟨⟨l,g,s,h⟩,hw.next,Only.refl _ _⟩;have HT:Hid (Told (.returned (.tuple #[.string ⟨#[]⟩,errV 4])) (sayC st .bad).2):=.inr ⟨_,4,by decide,by decide,rfl,rfl⟩;clear hc k1 k2 k3 k4;go_enter Tryz.func49,Tryz.ntmps49;go_wp2;go_ret2;exact⟨HT.out,HHF.out⟩
theorem numbered_any(w0 W:World)(B z p pf bm l g:Nat)(s:DSt)(st:CSt)(i:Nat)(word r:ByteArray)(h:CAt w0 W B z p pf bm l g s st)(hlo:CLow w0 B z pf bm)(hw:Well st i)(hE:Env w0)(hwd:word.data.toList=z6V)(hr:r.size<=100) :
 Calls Tryz.prog 52 #[.pointer (some ⟨z,0,none⟩),.string word,.string r] W fun e W'=>Told e (sayC st (if numK r.data.toList=true then .restart else .bad)).2/\z2E w0 B z p pf bm (sayC st (if numK r.data.toList=true then .restart else .bad)).1 i W W':=by
 have HN:=cnumber_any r W (hE.later h.below) (by omega);have e1:(word.toList == [97,114,109])=false:=z0h (by rw[hwd];decide);generalize numK r.data.toList=nk at *;go_enter Tryz.func52,Tryz.ntmps52;go_wp2_with fail;refine(show Calls _ _ _ _ _ from HN).mono ?_;rintro e w1 ⟨⟨n,rfl,hn0,hn9⟩,hb1⟩;clear HN;have h1:=h.later hb1;cases nk with
 |false=>
  have HHF:Hid (z2E w0 B z p pf bm (sayC st .bad).1 i W w1):=⟨⟨l,g,s,h1⟩,hw.next,z3d hb1⟩;have HT:Hid (Told (.returned (.tuple #[.string ⟨#[]⟩,errV 4])) (sayC st .bad).2):=.inr ⟨_,4,by decide,by decide,rfl,rfl⟩;go_wp2;go_ret2;exact⟨HT.out,HHF.out⟩
 |true=>
  have HR:=diskRestart_any w1 B p 120 s n h1.disk;have c1:=h1.c1;have hwr:IntKind.u64.wrap n=n:=by rw[IntKind.wrap_u64];omega
  go_wp2_with fail;refine(show Calls _ _ _ _ _ from HR).mono ?_;rintro e w2 ⟨rfl,hD2,hS2⟩;clear HR c1;have h2:CAt w0 w2 B z p pf bm l g (s.again n) st:=h1.spin hlo hD2 hS2 (h1.stands.again n) rfl;have h3:=h2.later (Below.refl _ w2).drew;have HON:Hid (Only z7g W w2.drew):=((z3d hb1).trans (oSpun hS2)).trans (z3d (Below.refl _ w2).drew);have HL:=loaderNew_any w2.drew B p 120 pf (s.again n) st.E st.k h3.disk h3.stands (hE.later h3.below);have hSS:(fun w':World=>w'.cell? ⟨z,0,none⟩=some (.pointer (some ⟨pf,0,none⟩))/\w'.cell? ⟨z,1,none⟩=some (.pointer (some ⟨p,0,none⟩))) w2.drew:=⟨h3.c0,h3.c1⟩;clear hD2 hS2 h1;go_upto_region 8 with fail;refine z0f (fun w':World=>w'.cell? ⟨z,0,none⟩=some (.pointer (some ⟨pf,0,none⟩))/\w'.cell? ⟨z,1,none⟩=some (.pointer (some ⟨p,0,none⟩))) 8 14 (by kernel_rfl) rfl ?_;generalize w2.drew=W3 at *;refine tW 0 hSS ?_;refine tW 1 hSS ?_;refine tW 2 hSS ?_;refine tW 4 hSS ?_;refine tW 5 hSS ?_;refine tW 6 hSS ?_;refine tR 3 [] hSS ?_;refine tR 7 [] hSS ?_;clear hSS;refine lG 8 fun K hK=>?_
  go_wp2_with fail;refine(show Calls _ _ _ _ _ from HL).mono ?_;rintro e w4 ⟨l',g',rfl,_,hl',hg',hb4⟩;clear HL;have h4:=h3.later hb4;have c2:=h4.c2;have f2:=h4.f2;have HHF:Hid (z2E w0 B z p pf bm (sayC st .restart).1 i W (w4.setCell ⟨z,2,none⟩ (.pointer (some ⟨l',0,none⟩)))):=⟨⟨l',g',s.again n,h4.putL hlo hl' hg'⟩,hw.next,(HON.out.trans (z3d hb4)).trans (oSet h4 2 _)⟩;have HT:Hid (Told (.returned (.tuple #[.string ⟨#[111,107]⟩,.nilIface])) (sayC st .restart).2):=z1K rfl;have HD:=z4S .nilIface (w4.setCell ⟨z,2,none⟩ (.pointer (some ⟨l',0,none⟩)));clear h3 h2 h4 hl' hg' hb4;go_wp2;refine hK _ _ ?_;clear hK;refine tA 9 ?_;refine tA 10 ?_;refine tA 11 ?_;refine tA 12 ?_;refine tA 13 ?_;refine z1c (by kernel_rfl) ?_ _;go_wp2_with fail;refine(show Calls _ _ _ _ _ from HD).mono ?_;rintro e w7 ⟨rfl,hw7⟩;subst w7;clear HD;go_wp2;go_ret2;exact⟨HT.out,HHF.out⟩
theorem index_in{l:List UInt8}:0<=Lib.indexByte l 32 ↔ (32:UInt8)∈l:=by
 constructor
 ·intro h;obtain⟨o,ho⟩:∃o:Nat,Lib.indexByte l 32=o:=⟨(Lib.indexByte l 32).toNat,by omega⟩;exact List.mem_of_getElem? (Lib.indexByte_some ho).1
 ·intro h;have h1:=Lib.indexByte_ge l 32;by_cases h2:Lib.indexByte l 32=-1
  ·obtain⟨k,hk⟩:=List.getElem?_of_mem h;exact absurd hk (Lib.indexByte_none h2 k)
  ·omega
theorem cut_yes{l:List UInt8}(h:(32:UInt8)∈l):Lib.cut l [32]=(wOf l,rOf l,true):=by
 obtain⟨h1,h2⟩:=z5D h;have h3:Lib.index l [32]=((wOf l).length:Int):=by
  rw[Lib.index_one];have h0:=index_in.2 h;obtain⟨o,ho⟩:∃o:Nat,Lib.indexByte l 32=o:=⟨(Lib.indexByte l 32).toNat,by omega⟩;obtain⟨ha,hb⟩:=Lib.indexByte_some ho;have hat:l[(wOf l).length]?=some 32:=by
   rw[h1];rw[<-h1];rw[show l[(wOf l).length]?=(wOf l++32 :: rOf l)[(wOf l).length]? by rw[<-h1]];rw[List.getElem?_append_right (Nat.le_refl _)];simp
  rcases Nat.lt_trichotomy o (wOf l).length with hlt|heq|hgt
  ·exfalso;have:(wOf l)[o]?=some 32:=by
    rw[show l[o]?=(wOf l++32 :: rOf l)[o]? by rw[<-h1],List.getElem?_append_left hlt]at ha;exact ha
   exact h2 (List.mem_of_getElem? this)
  ·rw[ho,heq]
  ·exact absurd hat (hb _ hgt)
 unfold Lib.cut;rw[h3,if_pos (by omega)];refine Prod.ext ?_ (Prod.ext ?_ rfl)
 ·show l.take ((wOf l).length:Int).toNat=wOf l;rw[Int.toNat_natCast,show l.take (wOf l).length=(wOf l++32 :: rOf l).take (wOf l).length by rw[<-h1]];simp
 ·show l.drop (((wOf l).length:Int).toNat+([32]:List UInt8).length)=rOf l;rw[Int.toNat_natCast,show l.drop ((wOf l).length+([32]:List UInt8).length)=(wOf l++32 :: rOf l).drop ((wOf l).length+([32]:List UInt8).length) by rw[<-h1]];rw[List.drop_append];simp
theorem cut_none{l:List UInt8}(h:(32:UInt8) ∉ l):Lib.cut l [32]=(l,[],false):=by
 unfold Lib.cut;rw[Lib.index_one,if_neg (fun h0=>h (index_in.1 h0))]
theorem ba_assoc(a b c:ByteArray):a++(b++c)=a++b++c:=by apply ByteArray.ext;simp
theorem rOf_len{l:List UInt8}(h:(32:UInt8)∈l):(wOf l).length+1+(rOf l).length=l.length:=by
 obtain⟨h1,_⟩:=z5D h;have:=congrArg List.length h1;simp at this;omega
theorem do_any(w0 W:World)(B z p pf bm l g:Nat)(s:DSt)(st:CSt)(i:Nat)(line:ByteArray)(h:CAt w0 W B z p pf bm l g s st)(hlo:CLow w0 B z pf bm)(hw:Well st i)(hi:i<=1000)(hE:Env w0)(hsz:line.size<=60)(harm:(32:UInt8)∈line.data.toList->wOf line.data.toList≠cArm) :
 Calls Tryz.prog 35 #[.pointer (some ⟨z,0,none⟩),.string line] W fun e W'=>Told e (sayC st (z1n line.data.toList)).2/\z2E w0 B z p pf bm (sayC st (z1n line.data.toList)).1 i W W':=by
 obtain⟨m,hm⟩:=(hE.later h.below).maxLen;have HC:=Tryz.strings_Cut line ⟨#[32]⟩ m W (by omega) hm;have e32:(⟨#[32]⟩:ByteArray).data.toList=[32]:=rfl;have hlen:line.data.toList.length=line.size:=by simp
 have hn60:¬60<line.data.toList.length:=by omega
 rw[e32]at HC;by_cases hb:(32:UInt8)∈line.data.toList
 ·rw[cut_yes hb]at HC;have hcmd:z1n line.data.toList=z3F (wOf line.data.toList) (rOf line.data.toList):=by unfold z1n;rw[if_neg hn60,if_pos hb]
  have hrl:=rOf_len hb;rw[hcmd];have ha:=harm hb;generalize wOf line.data.toList=wd at *;generalize rOf line.data.toList=rs at *;have hwd:=z1t wd;have hrs:=z1t rs;have hrz:(⟨rs.toArray⟩:ByteArray).size=rs.length:=by rw[z1W hrs]
  dsimp only at HC;clear hcmd harm hb e32;by_cases k1:wd=cLine
  ·have e1:((⟨wd.toArray⟩:ByteArray).toList == [108,105,110,101])=true:=z0Q (by rw[hwd];exact k1);have hc:z3F wd rs=.line rs:=by unfold z3F;rw[if_pos k1]
   have hwl:wd.length=4:=by rw[k1];rfl
   rw[hc];have ht:=hw.text;have hrs55:(⟨rs.toArray⟩:ByteArray).size<=55:=by omega
   have HCD:Hid (∀V,CAt w0 V B z p pf bm l g s st->z2E w0 B z p pf bm (sayC st (.line rs)).1 i V (V.setCell ⟨z,3,none⟩ (.string (st.text++(⟨rs.toArray⟩++⟨#[10]⟩))))):=fun V hV=>by
    have hst:(sayC st (.line rs)).1={st with text:=st.text++(⟨rs.toArray⟩++⟨#[10]⟩)}:=by
     show({st with text:=st.text++⟨rs.toArray⟩++⟨#[10]⟩}:CSt)=_;rw[ba_assoc]
    rw[hst];refine⟨⟨l,g,s,hV.put hlo _⟩,{hw.next with text:=?_},oSet hV 3 _⟩;show(st.text++(⟨rs.toArray⟩++⟨#[10]⟩)).size<=61*(i+1);rw[ByteArray.size_append,ByteArray.size_append];have:(⟨#[10]⟩:ByteArray).size=1:=rfl;omega
   have HT:Hid (Told (.returned (.tuple #[.string ⟨#[111,107]⟩,.nilIface])) (sayC st (.line rs)).2):=z1K rfl;have htz:st.text.size<=61000:=by omega
   generalize (⟨rs.toArray⟩:ByteArray)=rt at *;generalize (⟨wd.toArray⟩:ByteArray)=wt at *;clear hc k1 ha hwd hrs hrz hrl hwl ht;go_enter Tryz.func35,Tryz.ntmps35;go_wp2_with fail;refine(show Calls _ _ _ _ _ from HC).mono ?_;rintro e w1 ⟨rfl,kd,hw1⟩;clear HC;have h1:CAt w0 w1 B z p pf bm l g s st:=by rw[hw1];exact h.later (below_drewN (Below.refl _ W) kd)
   have c3:=h1.c3;have f3:=h1.f3;have HH:=(HCD.out w1 h1).behind (V':=W) (by rw[hw1];exact z3d (below_drewN (Below.refl _ W) kd));have HHF:Hid (z2E w0 B z p pf bm (sayC st (.line rs)).1 i W (w1.setCell ⟨z,3,none⟩ (.string (st.text++(rt++⟨#[10]⟩))))):=HH;have HD:=fun V=>z4S .nilIface V
   clear HCD HH hw1 h1 hm;go_wp2_with fail;refine(show Calls _ _ _ _ _ from HD _).mono ?_;rintro e w7 ⟨rfl,hw7⟩;subst w7;clear HD;go_wp2;go_ret2;exact⟨HT.out,HHF.out⟩
  have e1:((⟨wd.toArray⟩:ByteArray).toList == [108,105,110,101])=false:=z0h (by rw[hwd];exact k1);have HB:=fun V=>Tryz.strings_Contains_one ⟨rs.toArray⟩ 32 V
  rw[hrs]at HB;by_cases k2:(32:UInt8)∈rs
  ·have hc:z3F wd rs=.bad:=by unfold z3F;rw[if_neg k1,if_pos k2]
   rw[hc];rw[decide_eq_true (index_in.2 k2)]at HB;have HT:Hid (Told (.returned (.tuple #[.string ⟨#[]⟩,errV 4])) (sayC st .bad).2):=.inr ⟨_,4,by decide,by decide,rfl,rfl⟩;have HHF:Hid (∀V,CAt w0 V B z p pf bm l g s st->z2E w0 B z p pf bm (sayC st .bad).1 i V V):=fun V hV=>⟨⟨l,g,s,hV⟩,hw.next,Only.refl _ _⟩
   generalize (⟨rs.toArray⟩:ByteArray)=rt at *;generalize (⟨wd.toArray⟩:ByteArray)=wt at *;clear hc k1 k2 ha hwd hrs hrz hrl;go_enter Tryz.func35,Tryz.ntmps35;go_wp2_with fail;refine(show Calls _ _ _ _ _ from HC).mono ?_;rintro e w1 ⟨rfl,kd,hw1⟩;clear HC;have h1:CAt w0 w1 B z p pf bm l g s st:=by rw[hw1];exact h.later (below_drewN (Below.refl _ W) kd)
   have HH:=(HHF.out w1 h1).behind (V':=W) (by rw[hw1];exact z3d (below_drewN (Below.refl _ W) kd));clear hw1 h1 hm HHF;go_wp2_with fail;refine(show Calls _ _ _ _ _ from HB _).mono ?_;rintro e w2 ⟨rfl,hw2⟩;subst w2;clear HB;go_wp2;go_ret2;exact⟨HT.out,HH⟩
  rw[decide_eq_false (fun h0=>k2 (index_in.1 h0))]at HB;have e2:((⟨wd.toArray⟩:ByteArray).toList == [97,114,109])=false:=z0h (by rw[hwd];exact ha);by_cases k3:wd=z6V
  ·have hc:z3F wd rs=if numK rs=true then .restart else .bad:=by unfold z3F;rw[if_neg k1,if_neg k2,if_pos k3]
   rw[hc];have e3:((⟨wd.toArray⟩:ByteArray).toList == [114,101,115,116,97,114,116])=true:=z0Q (by rw[hwd];exact k3);have HN:=fun V (hV:CAt w0 V B z p pf bm l g s st)=>numbered_any w0 V B z p pf bm l g s st i ⟨wd.toArray⟩ ⟨rs.toArray⟩ hV hlo hw hE (by rw[hwd];exact k3) (by omega)
   rw[hrs]at HN;generalize (if numK rs=true then Cmd.restart else Cmd.bad)=cm at *;generalize (⟨rs.toArray⟩:ByteArray)=rt at *;generalize (⟨wd.toArray⟩:ByteArray)=wt at *;clear hc k1 k2 k3 ha hwd hrs hrz hrl;go_enter Tryz.func35,Tryz.ntmps35;go_wp2_with fail;refine(show Calls _ _ _ _ _ from HC).mono ?_;rintro e w1 ⟨rfl,kd,hw1⟩;clear HC;have h1:CAt w0 w1 B z p pf bm l g s st:=by rw[hw1];exact h.later (below_drewN (Below.refl _ W) kd)
   have HN1:=HN w1 h1;have HOB:Hid (Only z7g W w1):=by rw[hw1];exact z3d (below_drewN (Below.refl _ W) kd)
   clear hw1 h1 hm HN;go_wp2_with fail;refine(show Calls _ _ _ _ _ from HB _).mono ?_;rintro e w2 ⟨rfl,hw2⟩;subst w2;clear HB;go_wp2_with fail;refine(show Calls _ _ _ _ _ from HN1).mono ?_;rintro e w3 ⟨hT,hD⟩;clear HN1;have HHF:Hid (z2E w0 B z p pf bm (sayC st cm).1 i W w3):=hD.behind HOB.out;clear hD;rcases hT with⟨t,rfl,ht⟩|⟨t,F,hF,hle,rfl,ht⟩
   ·have HT:Hid (Told (.returned (.tuple #[.string t,.nilIface])) (sayC st cm).2):=z1K ht;clear ht;go_wp2;go_ret2;exact⟨HT.out,HHF.out⟩
   ·have HT:Hid (Told (.returned (.tuple #[.string t,errV F])) (sayC st cm).2):=.inr ⟨t,F,hF,hle,rfl,ht⟩;clear ht;generalize errV F=ev at *;go_wp2;go_ret2;exact⟨HT.out,HHF.out⟩
  have e3:((⟨wd.toArray⟩:ByteArray).toList == [114,101,115,116,97,114,116])=false:=z0h (by rw[hwd];exact k3);have hc:z3F wd rs=z1e wd ⟨rs.toArray⟩:=by unfold z3F;rw[if_neg k1,if_neg k2,if_neg k3]
  rw[hc];have HN:=fun V (hV:CAt w0 V B z p pf bm l g s st)=>named_any w0 V B z p pf bm l g s st i ⟨wd.toArray⟩ ⟨rs.toArray⟩ hV hlo hw hi hE (by omega)
  rw[hwd]at HN;generalize z1e wd ⟨rs.toArray⟩=cm at *;generalize (⟨rs.toArray⟩:ByteArray)=rt at *;generalize (⟨wd.toArray⟩:ByteArray)=wt at *;clear hc k1 k2 k3 ha hwd hrs hrz hrl;go_enter Tryz.func35,Tryz.ntmps35;go_wp2_with fail;refine(show Calls _ _ _ _ _ from HC).mono ?_;rintro e w1 ⟨rfl,kd,hw1⟩;clear HC;have h1:CAt w0 w1 B z p pf bm l g s st:=by rw[hw1];exact h.later (below_drewN (Below.refl _ W) kd)
  have HN1:=HN w1 h1;have HOB:Hid (Only z7g W w1):=by rw[hw1];exact z3d (below_drewN (Below.refl _ W) kd)
  clear hw1 h1 hm HN;go_wp2_with fail;refine(show Calls _ _ _ _ _ from HB _).mono ?_;rintro e w2 ⟨rfl,hw2⟩;subst w2;clear HB;go_wp2_with fail;refine(show Calls _ _ _ _ _ from HN1).mono ?_;rintro e w3 ⟨hT,hD⟩;clear HN1;have HHF:Hid (z2E w0 B z p pf bm (sayC st cm).1 i W w3):=hD.behind HOB.out;clear hD;rcases hT with⟨t,rfl,ht⟩|⟨t,F,hF,hle,rfl,ht⟩
  ·have HT:Hid (Told (.returned (.tuple #[.string t,.nilIface])) (sayC st cm).2):=z1K ht;clear ht;go_wp2;go_ret2;exact⟨HT.out,HHF.out⟩
  ·have HT:Hid (Told (.returned (.tuple #[.string t,errV F])) (sayC st cm).2):=.inr ⟨t,F,hF,hle,rfl,ht⟩;clear ht;generalize errV F=ev at *;go_wp2;go_ret2;exact⟨HT.out,HHF.out⟩
 ·rw[cut_none hb]at HC;have hcmd:z1n line.data.toList=z2h line.data.toList:=by unfold z1n;rw[if_neg hn60,if_neg hb]
  rw[hcmd];dsimp only at HC;have hl:(⟨line.data.toList.toArray⟩:ByteArray)=line:=rfl;rw[hl]at HC;have HN:=fun V (hV:CAt w0 V B z p pf bm l g s st)=>bare_any w0 V B z p pf bm l g s st i line hV hlo hw hE
  generalize z2h line.data.toList=cm at *;clear hcmd harm hb e32 hl;go_enter Tryz.func35,Tryz.ntmps35;go_wp2_with fail;refine(show Calls _ _ _ _ _ from HC).mono ?_;rintro e w1 ⟨rfl,kd,hw1⟩;clear HC;have h1:CAt w0 w1 B z p pf bm l g s st:=by rw[hw1];exact h.later (below_drewN (Below.refl _ W) kd)
  have HN1:=HN w1 h1;have HOB:Hid (Only z7g W w1):=by rw[hw1];exact z3d (below_drewN (Below.refl _ W) kd)
  clear hw1 h1 hm HN;go_wp2_with fail;refine(show Calls _ _ _ _ _ from HN1).mono ?_;rintro e w3 ⟨hT,hD⟩;clear HN1;have HHF:Hid (z2E w0 B z p pf bm (sayC st cm).1 i W w3):=hD.behind HOB.out;clear hD;rcases hT with⟨t,rfl,ht⟩|⟨t,F,hF,hle,rfl,ht⟩
  ·have HT:Hid (Told (.returned (.tuple #[.string t,.nilIface])) (sayC st cm).2):=z1K ht;clear ht;go_wp2;go_ret2;exact⟨HT.out,HHF.out⟩
  ·have HT:Hid (Told (.returned (.tuple #[.string t,errV F])) (sayC st cm).2):=.inr ⟨t,F,hF,hle,rfl,ht⟩;clear ht;generalize errV F=ev at *;go_wp2;go_ret2;exact⟨HT.out,HHF.out⟩
theorem answer_any(w0 W:World)(B z p pf bm l g:Nat)(s:DSt)(st:CSt)(i:Nat)(line:ByteArray)(h:CAt w0 W B z p pf bm l g s st)(hlo:CLow w0 B z pf bm)(hw:Well st i)(hi:i<=1000)(hE:Env w0)(harm:(32:UInt8)∈line.data.toList->wOf line.data.toList≠cArm) :
 Calls Tryz.prog 10 #[.pointer (some ⟨z,0,none⟩),.string line] W fun e W'=>(∃t:ByteArray,e=.returned (.string t)/\t.data.toList=(sayC st (z1n line.data.toList)).2)/\z2E w0 B z p pf bm (sayC st (z1n line.data.toList)).1 i W W':=by
 have hlen:line.data.toList.length=line.size:=by simp
 by_cases h6:(60:Int)<(line.size:Int)
 ·have hcmd:z1n line.data.toList=.bad:=by unfold z1n;rw[if_pos (by omega)]
  rw[hcmd];have HF:=cfault_any 4 W (hE.later h.below) (by decide) (by decide);have HHF:Hid (∀W',Below W.heap.size W W'->z2E w0 B z p pf bm (sayC st .bad).1 i W W'):=fun W' hb=>⟨⟨l,g,s,h.later hb⟩,hw.next,z3d hb⟩
  have HA:Hid ((sayC st .bad).2=z1h 4):=rfl;clear hcmd harm;go_enter Tryz.func10,Tryz.ntmps10;go_wp2_with fail;refine(show Calls _ _ _ _ _ from HF).mono ?_;rintro e w1 ⟨⟨t,rfl,ht⟩,hb1⟩;clear HF;have HH:=HHF.out w1 hb1;have HT:Hid (t.data.toList=(sayC st .bad).2):=ht.trans HA.out.symm;clear ht;go_wp2;go_ret;exact⟨⟨t,rfl,HT.out⟩,HH⟩
 ·have HD:=do_any w0 W B z p pf bm l g s st i line h hlo hw hi hE (by omega) harm;generalize z1n line.data.toList=cm at *;clear harm;go_enter Tryz.func10,Tryz.ntmps10;go_wp2_with fail;refine(show Calls _ _ _ _ _ from HD).mono ?_;rintro e w3 ⟨hT,hDn⟩;clear HD;obtain⟨⟨l3,g3,s3,h3⟩,hw3,ho3⟩:=hDn;have HHF:Hid (∀W',Below w3.heap.size w3 W'->z2E w0 B z p pf bm (sayC st cm).1 i W W'):=fun W' hb=>⟨⟨l3,g3,s3,h3.later hb⟩,hw3,ho3.trans (z3d hb)⟩
  rcases hT with⟨t,rfl,ht⟩|⟨t,F,hF,hle,rfl,ht⟩
  ·have HT:Hid (t.data.toList=(sayC st cm).2):=ht;have HH:=HHF.out w3 (Below.refl _ _);clear ht;go_wp2;go_ret;exact⟨⟨t,rfl,HT.out⟩,HH⟩
  ·have HFA:=cfault_any F w3 (hE.later h3.below) hF hle;have HA:Hid ((sayC st cm).2=z1h F):=ht;obtain⟨zz,hz⟩:=z5Y hF;rw[hz]at HFA;rw[hz];clear ht hF hz h3 hw3 ho3;go_wp2_with fail;refine(show Calls _ _ _ _ _ from HFA).mono ?_;rintro e w4 ⟨⟨t4,rfl,ht4⟩,hb4⟩;clear HFA;have HH:=HHF.out w4 hb4;have HT:Hid (t4.data.toList=(sayC st cm).2):=ht4.trans HA.out.symm;clear ht4;go_wp2;go_ret;exact⟨⟨t4,rfl,HT.out⟩,HH⟩
end
section
open Go.RowKit
inductive DropIn (wr:World) (B0 B:Nat) (v:Value) (i:Nat) (V:Nat->EntV) (E:Nat->EntF) (root:ByteArray):Nat->Prop
 |none (hn:∀j,j<i->(E j).root≠root) (h:z0C wr B0 B v i V E):DropIn wr B0 B v i V E root i
 |one (j n:Nat) (hj:j<i) (hr:(E j).root=root) (hn:∀q,q<j->(E q).root≠root) (e:n+1=i) (h:z0C wr B0 B v n (cutV V j) (cutV E j)):DropIn wr B0 B v i V E root n
theorem DropIn.own{wr:World}{B0 B:Nat}{v:Value}{i n:Nat}{V:Nat->EntV}{E:Nat->EntF}{root:ByteArray}(h:DropIn wr B0 B v i V E root n):∃V' E',z0C wr B0 B v n V' E':=by
 cases h with
 |none _ h=>exact⟨_,_,h⟩
 |one _ _ _ _ _ _ h=>exact⟨_,_,h⟩
theorem DropIn.skip{wr:World}{B0 B:Nat}{v:Value}{i n:Nat}{V:Nat->EntV}{E:Nat->EntF}{root:ByteArray}(h:DropIn wr B0 B v i V E root n)(hr:(E i).root=root)(ho:∀p q,p<i+1->q<i+1->(E p).root=(E q).root->p=q):DropIn wr B0 B v (i+1) V E root n:=by
 cases h with
 |none hn h=>exact .one i i (by omega) hr hn rfl (h.congr fun q hq=>by unfold cutV;rw[if_pos hq,if_pos hq];exact⟨rfl,rfl⟩)
 |one j _ hj hrj _ _ _=>have:=ho i j (by omega) (by omega) (hr.trans hrj.symm);omega
theorem DropIn.more{wr w':World}{B0 B:Nat}{v v':Value}{i n:Nat}{V:Nat->EntV}{E:Nat->EntF}{root:ByteArray}(h:DropIn wr B0 B v i V E root n)(hr:(E i).root≠root)(hk:z1B B0 wr w')(hi:z5N w' B0 (V i) (E i))
 (hG:∀xs,wr.ownsRow B 71 3 v n xs->w'.ownsRow B 71 3 v' (n+1) (xs++[.string (E i).root,.slice (V i).aP (E i).nP (V i).cP,.slice (V i).aQ (E i).nQ (V i).cQ])):DropIn w' B0 B v' (i+1) V E root (n+1):=by
 cases h with
 |none hn h=>
  refine .none (fun j hj=>?_) ((z0C.added (fun q hq=>(h.ins q hq).keeps hk) hi (hG _ h.row)).congr fun q hq=>?_)
  ·by_cases e:j=i
   ·subst e;exact hr
   ·exact hn j (by omega)
  ·unfold addV;split
   ·rename_i e;rw[e];exact⟨rfl,rfl⟩
   ·exact⟨rfl,rfl⟩
 |one j _ hj hrj hn e h=>
  refine .one j (n+1) (by omega) hrj hn (by omega) ((z0C.added (fun q hq=>(h.ins q hq).keeps hk) hi (hG _ h.row)).congr fun q hq=>?_);unfold addV cutV;by_cases hq':q=n
  ·subst hq';rw[if_pos rfl,if_pos rfl,if_neg (by omega),if_neg (by omega),e];exact⟨rfl,rfl⟩
  ·rw[if_neg hq',if_neg hq'];exact⟨rfl,rfl⟩
theorem refDrop_any(w:World)(B0 B m k:Nat)(vl:Value)(V:Nat->EntV)(E:Nat->EntF)(root:ByteArray)(h:z1R w B0 B m vl k V E)(hB0:B0<=B)(hBm:B<=m) :
 Calls Tryz.prog 23 #[.pointer (some ⟨m,0,none⟩),.string root] w fun e w'=>e=.returned (.int .i64 (((z2F E k root).1:Nat):Int))/\(∃vl' V',z1R w' B0 B m vl' (z2F E k root).2.2 V' (z2F E k root).2.1)/\w.grownBy w' (some m):=by
 have hlt:=h.lt;have hBw:B0<=w.heap.size:=by omega
 have gb:∀w',Below w.heap.size w w'->w.grownBy w' (some m):=fun w' hb=>⟨hb.os,hb.tape,hb.output,hb.size,fun k hk _=>hb.block k hk⟩
 obtain⟨a,c,rfl,hRow⟩:=h.own.ents;have hk3:=h.few;go_enter Tryz.func23,Tryz.ntmps23;go_wp2;go_loopw [5,6] (fun y5 y6 wr=>∃(i n:Nat) (v:Value),i<=k/\y6=.int .i64 i/\y5=v/\DropIn wr B0 w.heap.size v i V E root n/\Below w.heap.size w wr) (fun _ y6 _=>k-(intOf y6).toNat)
 case atStart=>exact⟨0,0,_,Nat.zero_le _,rfl,rfl,.none (fun j hj=>absurd hj (Nat.not_lt_zero _)) ⟨World.ownsRow_nil _ _ _ _,fun i hi=>absurd hi (Nat.not_lt_zero _)⟩,Below.refl _ _⟩
 case round=>
  obtain⟨i,n,v,hi,rfl,rfl,hD,hb⟩:=hrel;have h1:=h.later hBw hb;have mc:=h1.cell;obtain⟨V1,E1,hEO1⟩:=hD.own;obtain⟨av,cv,rfl,_⟩:=hEO1.ents;by_cases hlti:i<k
  ·rcases hRow.later hb with h0|⟨bk,o,rfl,hc⟩
   ·omega
   obtain⟨y0,y1,y2,_⟩:=hc i hlti;have hi0:(0:Int)<=(i:Int):=by omega
   have hi1:(i:Int)<(k:Int):=by omega
   by_cases he:(E i).root=root
   ·have hb':((E i).root.toList==root.toList)=true:=by rw[he];simp
    have hD2:=hD.skip he (fun p q hp hq hpq=>h.once p q (by omega) (by omega) hpq);clear he hc;go_wp2;go_roundw
    case rel=>exact⟨i+1,n,_,by omega,by go_num,rfl,hD2,hb⟩
    case measure=>simp[intOf];omega
   ·have hb':((E i).root.toList==root.toList)=false:=by rw[z0z];exact decide_eq_false he
    have hn:n<=i:=by cases hD with
     |none _ _=>exact Nat.le_refl _
     |one _ _ _ _ _ e _=>omega
    obtain⟨v',W6,happ,hG6⟩:=growE (.string (E i).root) (.slice (V i).aP (E i).nP (V i).cP) (.slice (V i).aQ (E i).nQ (V i).cQ) rfl rfl rfl hb.size hEO1.row (by omega);have hbn:Below wr.heap.size wr (wr.alloc (.cells #[.string (E i).root,.slice (V i).aP (E i).nP (V i).cP,.slice (V i).aQ (E i).nQ (V i).cQ] 71)):=(Below.refl _ wr).alloc (Nat.le_refl _) _;have hkp:z1B B0 wr W6:=(z1B.of_below (w:=wr) (Nat.le_trans hBw hb.size) hbn).trans (z1B.grown (w:=wr.alloc (.cells #[.string (E i).root,.slice (V i).aP (E i).nP (V i).cP,.slice (V i).aQ (E i).nQ (V i).cQ] 71)) hBw (by have:=hb.size;simp;omega) (hEO1.row.alloc _) (by decide) hG6.grown);have hD2:=hD.more (w':=W6) (v':=v') he hkp ((h1.own.ins i hlti).keeps hkp) (fun xs hx=>by
     have:xs=z0i (entL V1 E1) n:=by
      have q1:=hx;have q2:=hEO1.row;rcases q1.2 with⟨e1,e2⟩|⟨g1,c1,cur1,e1,_,f1,_,_,_,t1⟩
      ·subst e2;exact List.length_eq_zero_iff.1 (by rw[q1.1])
      ·rcases q2.2 with⟨e3,e4⟩|⟨g2,c2,cur2,e3,_,f2,_,_,_,t2⟩
       ·rw[e3]at e1;cases e1
       ·rw[e3]at e1;cases e1;rw[f2]at f1;cases f1;rw[<-t1,<-t2]
     rw[this];exact hG6.own)
    have hb6:Below w.heap.size w W6:=(hb.trans (hbn.mono hb.size)).trans hG6.below;obtain⟨g',cap',rfl⟩:=ownsRow_succ hG6.own;clear he hc hG6 hD hEO1;go_wp2_with (at_builtin;refine z0b rfl (.tmp 26) (.tmp 34) 35 rfl (.slice av n cv) (.slice (some ⟨wr.heap.size,0,none⟩) 1 1) _ rfl rfl happ ?_);go_roundw
    case rel=>exact⟨i+1,n+1,_,by omega,by go_num,rfl,hD2,hb6⟩
    case measure=>simp[intOf];omega
  ·obtain rfl:i=k:=by omega
   have mf:wr.frozen? ⟨m,0,none⟩=false:=by simp[World.frozen?,h1.blk]
   cases hD with
   |none hn hEO=>
    have HP:Hid (z2F E i root=(5,E,i)):=dropE_none (by rw[findF_no hn];decide);clear hEO1;go_wp2;go_ret;rw[HP.out];exact⟨rfl,⟨_,_,h1⟩,gb _ hb⟩
   |one j _ hj hr hn e hEO=>
    subst e;have HP:Hid (z2F E (n+1) root=(0,cutV E j,n)):=dropE_cut (z6d hj hr hn);have hne:((n:Int)==(n:Int)+1)=false:=by simp;omega
    have hRS:=z1R.stored (B:=B) h1.blk hEO (by omega) (by omega) (Nat.le_trans hBw hb.size) (by omega) (fun p q hp hq hpq=>by
     unfold cutV at hpq;split at hpq
     ·split at hpq
      ·exact h.once p q (by omega) (by omega) hpq
      ·have:=h.once p (q+1) (by omega) (by omega) hpq;omega
     ·split at hpq
      ·have:=h.once (p+1) q (by omega) (by omega) hpq;omega
      ·have:=h.once (p+1) (q+1) (by omega) (by omega) hpq;omega)
    have hGW:=grown_set hb m (.slice av n cv);clear hEO1 hEO;go_wp2;go_ret;rw[HP.out];exact⟨rfl,⟨_,_,hRS⟩,hGW⟩
end
end Go.Proofs.YtbcpcbonlhlhpaaGreatDoor
