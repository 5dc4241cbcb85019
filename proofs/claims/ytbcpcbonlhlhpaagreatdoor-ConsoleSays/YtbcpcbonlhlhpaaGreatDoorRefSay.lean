/- What a line does: bare, numbered, do and answer of the -/
import Derived.Test.YtbcpcbonlhlhpaaGreatDoorConsActs
import Derived.Lib.CutLaws
import Derived.Lib.IndexLaws
set_option maxRecDepth 100000
set_option maxHeartbeats 8000000
namespace Go.Proofs.YtbcpcbonlhlhpaaGreatDoor
section
open Go.RowKit Go.Maps
theorem enc_strs(l:List (List UInt8)):l.map encStr=z1A l:=by
 unfold z1A;exact List.map_congr_left fun x _=>rfl
theorem names_short{D:DataW Unit}(hR:Real D)(hN:z2X D){x:List UInt8}(hx:x∈z3L D):x.length<=8:=by
 obtain⟨w,bm,n,hw⟩:=hR;obtain⟨h1,_⟩:=names_has hw hx;have h2:=hN ⟨x.toArray⟩ (by show Maps.has D (keyB ⟨x.toArray⟩)=true;rw[show keyB ⟨x.toArray⟩=.string x by simp[keyB]];exact h1);have h3:=z1k h2;simpa using h3
theorem rootsT_len(E:Nat->EntF):∀k,(z5E E k).length=k
 |0=>rfl
 |k+1=>by
  show(z5E E k++[_]).length=k+1;rw[List.length_append,rootsT_len E k];rfl
theorem rootsT_mem{E:Nat->EntF}{x:List UInt8}:∀ {k:Nat},x∈z5E E k->∃j,j<k/\x=(E j).root.data.toList
 |0,h=>by cases h
 |k+1,h=>by
  rcases List.mem_append.1 h with h|h
  ·obtain⟨j,hj,e⟩:=rootsT_mem h;exact⟨j,by omega,e⟩
  ·rw[List.mem_singleton]at h;exact⟨k,by omega,h⟩
theorem roots_strs(E:Nat->EntF):∀k,z0i (z7d E) k=z1A (z5E E k)
 |0=>rfl
 |k+1=>by
  have e1:z0i (z7d E) (k+1)=z0i (z7d E) k++z7d E k:=rfl;have e2:z5E E (k+1)=z5E E k++[(E k).root.data.toList]:=rfl;rw[e1,e2,z6B,roots_strs E k];congr 1
theorem roots_short{E:Nat->EntF}{k:Nat}(h:z1M E k){x:List UInt8}(hx:x∈z5E E k):x.length<=8:=by
 obtain⟨j,hj,rfl⟩:=rootsT_mem hx;exact z1k (h.ent hj).root
theorem join_few{l:List (List UInt8)}(h:∀x∈l,x.length<=8)(hn:l.length<=60):(Lib.join l [32]).length<=100000:=by
 have h1:=join_most [32] 8 l h;have h2:l.length*(8+([32]:List UInt8).length)<=60*9:=Nat.mul_le_mul hn (by decide);omega
section
variable {w0 W W':World} {B z p pf bm l g:Nat} {s:DSt} {st:CSt}
theorem CAt.putL(h:CAt w0 W B z p pf bm l g s st)(hlo:CLow w0 B z pf bm){l' g':Nat}(hl:z1u W l' pf g')(hg:z0T W g' p):CAt w0 (W.setCell ⟨z,2,none⟩ (.pointer (some ⟨l',0,none⟩))) B z p pf bm l' g' s st:=by
 have ho:=Only.set h.sess 2 (.pointer (some ⟨l',0,none⟩));refine⟨heap_setCell W z 2 _ _ _ h.sess,h.disk.only ho (by decide) (by decide) (by decide),h.stands,h.calm,hl.only ho (by decide),hg.only ho (by decide),h.files.only ho (by decide) (by decide),?_⟩;exact h.below.trans ⟨rfl,rfl,rfl,by simp[World.setCell],fun k hk=>Below.heap_setCell _ _ _ _ (Nat.ne_of_lt (Nat.lt_of_lt_of_le hk hlo.sess))⟩
end
theorem bare_any(w0 W:World)(B z p pf bm l g:Nat)(s:DSt)(st:CSt)(i:Nat)(word:ByteArray)(h:CAt w0 W B z p pf bm l g s st)(hlo:CLow w0 B z pf bm)(hw:Well st i)(hE:Env w0) :
 Calls Tryz.prog 49 #[.pointer (some ⟨z,0,none⟩),.string word] W fun e W'=>Told e (sayC st (z2h word.data.toList)).2/\z2E w0 B z p pf bm (sayC st (z2h word.data.toList)).1 i W W':=by
 have hsz:Maps.size st.D<=1000:=by have:=hw.inv.size;omega
 by_cases k1:word.data.toList=cClear
 ·have e1:=z0Q k1;have hc:z2h word.data.toList=.clear:=by unfold z2h;rw[if_pos k1]
  rw[hc];have c3:=h.c3;have f3:=h.f3;have HHF:Hid (z2E w0 B z p pf bm (sayC st .clear).1 i W (W.setCell ⟨z,3,none⟩ (.string ⟨#[]⟩))):=⟨⟨l,g,s,h.put hlo ⟨#[]⟩⟩,{hw.next with text:=Nat.zero_le _},oSet h 3 _⟩;have HT:Hid (Told (.returned (.tuple #[.string ⟨#[111,107]⟩,.nilIface])) (sayC st .clear).2):=z1K rfl;have HD:=z4S .nilIface (W.setCell ⟨z,3,none⟩ (.string ⟨#[]⟩));clear hc k1;go_enter Tryz.func49,Tryz.ntmps49;go_wp2_with fail;refine(show Calls _ _ _ _ _ from HD).mono ?_;rintro e w7 ⟨rfl,hw7⟩;subst w7;clear HD;go_wp2;go_ret2;exact⟨HT.out,HHF.out⟩
 have e1:=z0h k1;by_cases k2:word.data.toList=cObject
 ·have e2:=z0Q k2;have hc:z2h word.data.toList=.object:=by unfold z2h;rw[if_neg k1,if_pos k2]
  rw[hc];have HP:=parse_any st.text W (hE.later h.below);have c3:=h.c3;have hle:=parseF_le st.text;have hAns:(sayC st .object).2=if (z0k st.text).1=0 then Lib.itoa (((z0k st.text).2.nW:Nat):Int)++manyT else z1h (z0k st.text).1:=rfl
  have hfew:(z0k st.text).2.nW<=40:=by
   by_cases h0:(z0k st.text).1=0
   ·unfold z0k at h0 ⊢;split
    ·exact(by decide:z0d.nW<=40)
    ·split
     ·rename_i hh;have h1:=hh.1;unfold z1X at h1;split at h1
      ·rename_i ho;exact(objOk ho).nW
      ·exact absurd h1 (by assumption)
     ·exact(by decide:z0d.nW<=40)
   ·have:(z0k st.text).2=z0d:=by
     unfold z0k at h0 ⊢;split
     ·rfl
     ·split
      ·rename_i h1 h2;rw[if_neg h1,if_pos h2]at h0;exact absurd rfl h0
      ·rfl
    rw[this];decide
  generalize z0k st.text=PF at *;obtain⟨F,o⟩:=PF;dsimp only at *;clear hc k1 k2;go_enter Tryz.func49,Tryz.ntmps49;go_wp2_with fail;refine(show Calls _ _ _ _ _ from HP).mono ?_;rintro e w1 ⟨⟨v,rfl,hA⟩,hb1⟩;clear HP c3;have hbx:Below w1.heap.size w1 (w1.alloc (.cells #[.slice v.aN o.nN v.cN,.slice v.aW o.nW v.cW,.slice v.aS o.nS v.cS,.slice v.aT o.nT v.cT] 56)):=(Below.refl _ _).alloc (Nat.le_refl _) _;have x1:(w1.alloc (.cells #[.slice v.aN o.nN v.cN,.slice v.aW o.nW v.cW,.slice v.aS o.nS v.cS,.slice v.aT o.nT v.cT] 56)).cell? ⟨w1.heap.size,1,none⟩=some (.slice v.aW o.nW v.cW):=by simp[go_sem]
  have hb2:=hb1.trans (hbx.mono hb1.size);have HC:=z6w ((o.nW:Nat):Int) (w1.alloc (.cells #[.slice v.aN o.nN v.cN,.slice v.aW o.nW v.cW,.slice v.aS o.nS v.cS,.slice v.aT o.nT v.cT] 56)) (hE.later (h.below.trans (hb2.mono h.below.size))) (by omega) (by omega);have hti:=z1t (Lib.itoa ((o.nW:Nat):Int));have hts:(⟨(Lib.itoa ((o.nW:Nat):Int)).toArray⟩:ByteArray).size<=20:=by rw[z1W hti];exact z4J (by omega)
  generalize (⟨(Lib.itoa ((o.nW:Nat):Int)).toArray⟩:ByteArray)=tt at *;have HT:Hid (Told (.returned (.tuple #[.string (tt++⟨#[32,119,111,114,100,115]⟩),errV F])) (sayC st .object).2):=by
   show Told _ _;by_cases h0:F=0
   ·subst h0;rw[if_pos rfl]at hAns;exact z1K (by rw[hAns,<-hti];simp)
   ·rw[if_neg h0]at hAns;exact .inr ⟨_,F,h0,by omega,rfl,hAns⟩
  have HHF:Hid (∀W',Below W.heap.size W W'->z2E w0 B z p pf bm (sayC st .object).1 i W W'):=fun W' hb=>⟨⟨l,g,s,h.later hb⟩,hw.next,z3d hb⟩
  unfold ObjV.cells;clear hA hAns hti;generalize errV F=ev at *;go_wp2_with fail;refine(show Calls _ _ _ _ _ from HC).mono ?_;rintro e w3 ⟨rfl,hb3⟩;clear HC x1;have HH3:=HHF.out w3 (hb2.trans (hb3.mono hb2.size));go_wp2;go_ret2;exact⟨HT.out,HH3⟩
 have e2:=z0h k2;by_cases k3:word.data.toList=cList
 ·have e3:=z0Q k3;have hc:z2h word.data.toList=.list:=by unfold z2h;rw[if_neg k1,if_neg k2,if_pos k3]
  rw[hc];have HL:=list_any W pf bm st.D st.kf h.files hsz;have c0:=h.c0;clear hc k1 k2 k3;go_enter Tryz.func49,Tryz.ntmps49;go_wp2_with fail;refine(show Calls _ _ _ _ _ from HL).mono ?_;rintro e w1 ⟨⟨v,rfl,hown⟩,hb1⟩;clear HL c0;rw[enc_strs]at hown;obtain⟨a,c,rfl,_⟩:=z0c hown;have hn6:(z3L st.D).length<=6:=by rw[names_size hw.inv.tidy.isMap];exact hw.inv.size
  have HC:=clist_any _ a _ c (z3L st.D) w1 hown (by omega) (join_few (fun x hx=>names_short hw.real hw.names hx) (by omega));have HHF:Hid (∀W',Below W.heap.size W W'->z2E w0 B z p pf bm (sayC st .list).1 i W W'):=fun W' hb=>⟨⟨l,g,s,h.later hb⟩,hw.next,z3d hb⟩
  have HA:Hid ((sayC st .list).2=listT (z3L st.D)):=rfl;clear hown;generalize (z3L st.D).length=nn at *;go_wp2_with fail;refine(show Calls _ _ _ _ _ from HC).mono ?_;rintro e w2 ⟨⟨t,rfl,ht⟩,hb2⟩;clear HC;have HT:Hid (Told (.returned (.tuple #[.string t,.nilIface])) (sayC st .list).2):=z1K (ht.trans HA.out.symm);have HH:=HHF.out w2 (hb1.trans (hb2.mono hb1.size));clear ht;go_wp2;go_ret2;exact⟨HT.out,HH⟩
 have e3:=z0h k3;by_cases k4:word.data.toList=cRoots
 ·have e4:=z0Q k4;have hc:z2h word.data.toList=.roots:=by unfold z2h;rw[if_neg k1,if_neg k2,if_neg k3,if_pos k4]
  rw[hc];have HL:=loaderRoots_any W B p 120 l pf g s st.E st.k h.disk h.stands h.loader h.shelf (hE.later h.below);have c2:=h.c2;have hk3:=hw.good.few;clear hc k1 k2 k3 k4;go_enter Tryz.func49,Tryz.ntmps49;go_wp2_with fail;refine(show Calls _ _ _ _ _ from HL).mono ?_;rintro e w1 ⟨v,rfl,hown,hb1⟩;clear HL c2;rw[roots_strs]at hown;obtain⟨a,c,rfl,_⟩:=z0c hown;have HC:=clist_any _ a _ c (z5E st.E st.k) w1 hown (by omega) (join_few (fun x hx=>roots_short hw.good hx) (by rw[rootsT_len];omega));have HHF:Hid (∀W',Below W.heap.size W W'->z2E w0 B z p pf bm (sayC st .roots).1 i W W'):=fun W' hb=>⟨⟨l,g,s,h.later hb⟩,hw.next,z3d hb⟩
  have HA:Hid ((sayC st .roots).2=listT (z5E st.E st.k)):=rfl;clear hown;go_wp2_with fail;refine(show Calls _ _ _ _ _ from HC).mono ?_;rintro e w2 ⟨⟨t,rfl,ht⟩,hb2⟩;clear HC;have HT:Hid (Told (.returned (.tuple #[.string t,.nilIface])) (sayC st .roots).2):=z1K (ht.trans HA.out.symm);have HH:=HHF.out w2 (hb1.trans (hb2.mono hb1.size));clear ht;go_wp2;go_ret2;exact⟨HT.out,HH⟩
 have e4:=z0h k4;have hc:z2h word.data.toList=.bad:=by unfold z2h;rw[if_neg k1,if_neg k2,if_neg k3,if_neg k4]
 rw[hc];have HHF:Hid (z2E w0 B z p pf bm (sayC st .bad).1 i W W):=⟨⟨l,g,s,h⟩,hw.next,Only.refl _ _⟩;have HT:Hid (Told (.returned (.tuple #[.string ⟨#[]⟩,errV 4])) (sayC st .bad).2):=.inr ⟨_,4,by decide,by decide,rfl,rfl⟩;clear hc k1 k2 k3 k4;go_enter Tryz.func49,Tryz.ntmps49;go_wp2;go_ret2;exact⟨HT.out,HHF.out⟩
theorem numbered_any(w0 W:World)(B z p pf bm l g:Nat)(s:DSt)(st:CSt)(i:Nat)(word r:ByteArray)(h:CAt w0 W B z p pf bm l g s st)(hlo:CLow w0 B z pf bm)(hw:Well st i)(hE:Env w0)(hwd:word.data.toList=z6V)(hr:r.size<=100) :
 Calls Tryz.prog 52 #[.pointer (some ⟨z,0,none⟩),.string word,.string r] W fun e W'=>Told e (sayC st (if numK r.data.toList=true then .restart else .bad)).2/\z2E w0 B z p pf bm (sayC st (if numK r.data.toList=true then .restart else .bad)).1 i W W':=by
 have HN:=cnumber_any r W (hE.later h.below) (by omega);have e1:(word.toList == [97,114,109])=false:=z0h (by rw[hwd];decide);generalize numK r.data.toList=nk at *;go_enter Tryz.func52,Tryz.ntmps52;go_wp2_with fail;refine(show Calls _ _ _ _ _ from HN).mono ?_;rintro e w1 ⟨⟨n,rfl,hn0,hn9⟩,hb1⟩;clear HN;have h1:=h.later hb1;cases nk with
 |false=>
  have HHF:Hid (z2E w0 B z p pf bm (sayC st .bad).1 i W w1):=⟨⟨l,g,s,h1⟩,hw.next,z3d hb1⟩;have HT:Hid (Told (.returned (.tuple #[.string ⟨#[]⟩,errV 4])) (sayC st .bad).2):=.inr ⟨_,4,by decide,by decide,rfl,rfl⟩;go_wp2;go_ret2;exact⟨HT.out,HHF.out⟩
 |true=>
  have HR:=diskRestart_any w1 B p 120 s n h1.disk;have c1:=h1.c1;have hwr:IntKind.u64.wrap n=n:=by rw[IntKind.wrap_u64];omega
  go_wp2_with fail;refine(show Calls _ _ _ _ _ from HR).mono ?_;rintro e w2 ⟨rfl,hD2,hS2⟩;clear HR c1;have h2:CAt w0 w2 B z p pf bm l g (s.again n) st:=h1.spin hlo hD2 hS2 (h1.stands.again n) rfl;have h3:=h2.later (Below.refl _ w2).drew;have HON:Hid (Only z7g W w2.drew):=((z3d hb1).trans (oSpun hS2)).trans (z3d (Below.refl _ w2).drew);have HL:=loaderNew_any w2.drew B p 120 pf (s.again n) st.E st.k h3.disk h3.stands (hE.later h3.below);have hSS:(fun w':World=>w'.cell? ⟨z,0,none⟩=some (.pointer (some ⟨pf,0,none⟩))/\w'.cell? ⟨z,1,none⟩=some (.pointer (some ⟨p,0,none⟩))) w2.drew:=⟨h3.c0,h3.c1⟩;clear hD2 hS2 h1;go_upto_region 8 with fail;refine z0f (fun w':World=>w'.cell? ⟨z,0,none⟩=some (.pointer (some ⟨pf,0,none⟩))/\w'.cell? ⟨z,1,none⟩=some (.pointer (some ⟨p,0,none⟩))) 8 14 (by kernel_rfl) rfl ?_;generalize w2.drew=W3 at *;refine tW 0 hSS ?_;refine tW 1 hSS ?_;refine tW 2 hSS ?_;refine tW 4 hSS ?_;refine tW 5 hSS ?_;refine tW 6 hSS ?_;refine tR 3 [] hSS ?_;refine tR 7 [] hSS ?_;clear hSS;refine lG 8 fun K hK=>?_
  go_wp2_with fail;refine(show Calls _ _ _ _ _ from HL).mono ?_;rintro e w4 ⟨l',g',rfl,_,hl',hg',hb4⟩;clear HL;have h4:=h3.later hb4;have c2:=h4.c2;have f2:=h4.f2;have HHF:Hid (z2E w0 B z p pf bm (sayC st .restart).1 i W (w4.setCell ⟨z,2,none⟩ (.pointer (some ⟨l',0,none⟩)))):=⟨⟨l',g',s.again n,h4.putL hlo hl' hg'⟩,hw.next,(HON.out.trans (z3d hb4)).trans (oSet h4 2 _)⟩;have HT:Hid (Told (.returned (.tuple #[.string ⟨#[111,107]⟩,.nilIface])) (sayC st .restart).2):=z1K rfl;have HD:=z4S .nilIface (w4.setCell ⟨z,2,none⟩ (.pointer (some ⟨l',0,none⟩)));clear h3 h2 h4 hl' hg' hb4;go_wp2;refine hK _ _ ?_;clear hK;refine tA 9 ?_;refine tA 10 ?_;refine tA 11 ?_;refine tA 12 ?_;refine tA 13 ?_;refine z1c (by kernel_rfl) ?_ _;go_wp2_with fail;refine(show Calls _ _ _ _ _ from HD).mono ?_;rintro e w7 ⟨rfl,hw7⟩;subst w7;clear HD;go_wp2;go_ret2;exact⟨HT.out,HHF.out⟩
theorem index_in{l:List UInt8}:0<=Lib.indexByte l 32 ↔ (32:UInt8)∈l:=by
 constructor
 ·intro h;obtain⟨o,ho⟩:∃o:Nat,Lib.indexByte l 32=o:=⟨(Lib.indexByte l 32).toNat,by omega⟩;exact List.mem_of_getElem? (Lib.indexByte_some ho).1
 ·intro h;have h1:=Lib.indexByte_ge l 32;by_cases h2:Lib.indexByte l 32=-1
  ·obtain⟨k,hk⟩:=List.getElem?_of_mem h;exact absurd hk (Lib.indexByte_none h2 k)
  ·omega
theorem cut_yes{l:List UInt8}(h:(32:UInt8)∈l):Lib.cut l [32]=(wOf l,rOf l,true):=by
 obtain⟨h1,h2⟩:=z5D h;have h3:Lib.index l [32]=((wOf l).length:Int):=by
  rw[Lib.index_one];have h0:=index_in.2 h;obtain⟨o,ho⟩:∃o:Nat,Lib.indexByte l 32=o:=⟨(Lib.indexByte l 32).toNat,by omega⟩;obtain⟨ha,hb⟩:=Lib.indexByte_some ho;have hat:l[(wOf l).length]?=some 32:=by
   rw[h1];rw[<-h1];rw[show l[(wOf l).length]?=(wOf l++32 :: rOf l)[(wOf l).length]? by rw[<-h1]];rw[List.getElem?_append_right (Nat.le_refl _)];simp
  rcases Nat.lt_trichotomy o (wOf l).length with hlt|heq|hgt
  ·exfalso;have:(wOf l)[o]?=some 32:=by
    rw[show l[o]?=(wOf l++32 :: rOf l)[o]? by rw[<-h1],List.getElem?_append_left hlt]at ha;exact ha
   exact h2 (List.mem_of_getElem? this)
  ·rw[ho,heq]
  ·exact absurd hat (hb _ hgt)
 unfold Lib.cut;rw[h3,if_pos (by omega)];refine Prod.ext ?_ (Prod.ext ?_ rfl)
 ·show l.take ((wOf l).length:Int).toNat=wOf l;rw[Int.toNat_natCast,show l.take (wOf l).length=(wOf l++32 :: rOf l).take (wOf l).length by rw[<-h1]];simp
 ·show l.drop (((wOf l).length:Int).toNat+([32]:List UInt8).length)=rOf l;rw[Int.toNat_natCast,show l.drop ((wOf l).length+([32]:List UInt8).length)=(wOf l++32 :: rOf l).drop ((wOf l).length+([32]:List UInt8).length) by rw[<-h1]];rw[List.drop_append];simp
theorem cut_none{l:List UInt8}(h:(32:UInt8) ∉ l):Lib.cut l [32]=(l,[],false):=by
 unfold Lib.cut;rw[Lib.index_one,if_neg (fun h0=>h (index_in.1 h0))]
theorem ba_assoc(a b c:ByteArray):a++(b++c)=a++b++c:=by apply ByteArray.ext;simp
theorem rOf_len{l:List UInt8}(h:(32:UInt8)∈l):(wOf l).length+1+(rOf l).length=l.length:=by
 obtain⟨h1,_⟩:=z5D h;have:=congrArg List.length h1;simp at this;omega
theorem do_any(w0 W:World)(B z p pf bm l g:Nat)(s:DSt)(st:CSt)(i:Nat)(line:ByteArray)(h:CAt w0 W B z p pf bm l g s st)(hlo:CLow w0 B z pf bm)(hw:Well st i)(hi:i<=1000)(hE:Env w0)(hsz:line.size<=60)(harm:(32:UInt8)∈line.data.toList->wOf line.data.toList≠cArm) :
 Calls Tryz.prog 35 #[.pointer (some ⟨z,0,none⟩),.string line] W fun e W'=>Told e (sayC st (z1n line.data.toList)).2/\z2E w0 B z p pf bm (sayC st (z1n line.data.toList)).1 i W W':=by
 obtain⟨m,hm⟩:=(hE.later h.below).maxLen;have HC:=Tryz.strings_Cut line ⟨#[32]⟩ m W (by omega) hm;have e32:(⟨#[32]⟩:ByteArray).data.toList=[32]:=rfl;have hlen:line.data.toList.length=line.size:=by simp
 have hn60:¬60<line.data.toList.length:=by omega
 rw[e32]at HC;by_cases hb:(32:UInt8)∈line.data.toList
 ·rw[cut_yes hb]at HC;have hcmd:z1n line.data.toList=z3F (wOf line.data.toList) (rOf line.data.toList):=by unfold z1n;rw[if_neg hn60,if_pos hb]
  have hrl:=rOf_len hb;rw[hcmd];have ha:=harm hb;generalize wOf line.data.toList=wd at *;generalize rOf line.data.toList=rs at *;have hwd:=z1t wd;have hrs:=z1t rs;have hrz:(⟨rs.toArray⟩:ByteArray).size=rs.length:=by rw[z1W hrs]
  dsimp only at HC;clear hcmd harm hb e32;by_cases k1:wd=cLine
  ·have e1:((⟨wd.toArray⟩:ByteArray).toList == [108,105,110,101])=true:=z0Q (by rw[hwd];exact k1);have hc:z3F wd rs=.line rs:=by unfold z3F;rw[if_pos k1]
   have hwl:wd.length=4:=by rw[k1];rfl
   rw[hc];have ht:=hw.text;have hrs55:(⟨rs.toArray⟩:ByteArray).size<=55:=by omega
   have HCD:Hid (∀V,CAt w0 V B z p pf bm l g s st->z2E w0 B z p pf bm (sayC st (.line rs)).1 i V (V.setCell ⟨z,3,none⟩ (.string (st.text++(⟨rs.toArray⟩++⟨#[10]⟩))))):=fun V hV=>by
    have hst:(sayC st (.line rs)).1={st with text:=st.text++(⟨rs.toArray⟩++⟨#[10]⟩)}:=by
     show({st with text:=st.text++⟨rs.toArray⟩++⟨#[10]⟩}:CSt)=_;rw[ba_assoc]
    rw[hst];refine⟨⟨l,g,s,hV.put hlo _⟩,{hw.next with text:=?_},oSet hV 3 _⟩;show(st.text++(⟨rs.toArray⟩++⟨#[10]⟩)).size<=61*(i+1);rw[ByteArray.size_append,ByteArray.size_append];have:(⟨#[10]⟩:ByteArray).size=1:=rfl;omega
   have HT:Hid (Told (.returned (.tuple #[.string ⟨#[111,107]⟩,.nilIface])) (sayC st (.line rs)).2):=z1K rfl;have htz:st.text.size<=61000:=by omega
   generalize (⟨rs.toArray⟩:ByteArray)=rt at *;generalize (⟨wd.toArray⟩:ByteArray)=wt at *;clear hc k1 ha hwd hrs hrz hrl hwl ht;go_enter Tryz.func35,Tryz.ntmps35;go_wp2_with fail;refine(show Calls _ _ _ _ _ from HC).mono ?_;rintro e w1 ⟨rfl,kd,hw1⟩;clear HC;have h1:CAt w0 w1 B z p pf bm l g s st:=by rw[hw1];exact h.later (below_drewN (Below.refl _ W) kd)
   have c3:=h1.c3;have f3:=h1.f3;have HH:=(HCD.out w1 h1).behind (V':=W) (by rw[hw1];exact z3d (below_drewN (Below.refl _ W) kd));have HHF:Hid (z2E w0 B z p pf bm (sayC st (.line rs)).1 i W (w1.setCell ⟨z,3,none⟩ (.string (st.text++(rt++⟨#[10]⟩))))):=HH;have HD:=fun V=>z4S .nilIface V
   clear HCD HH hw1 h1 hm;go_wp2_with fail;refine(show Calls _ _ _ _ _ from HD _).mono ?_;rintro e w7 ⟨rfl,hw7⟩;subst w7;clear HD;go_wp2;go_ret2;exact⟨HT.out,HHF.out⟩
  have e1:((⟨wd.toArray⟩:ByteArray).toList == [108,105,110,101])=false:=z0h (by rw[hwd];exact k1);have HB:=fun V=>Tryz.strings_Contains_one ⟨rs.toArray⟩ 32 V
  rw[hrs]at HB;by_cases k2:(32:UInt8)∈rs
  ·have hc:z3F wd rs=.bad:=by unfold z3F;rw[if_neg k1,if_pos k2]
   rw[hc];rw[decide_eq_true (index_in.2 k2)]at HB;have HT:Hid (Told (.returned (.tuple #[.string ⟨#[]⟩,errV 4])) (sayC st .bad).2):=.inr ⟨_,4,by decide,by decide,rfl,rfl⟩;have HHF:Hid (∀V,CAt w0 V B z p pf bm l g s st->z2E w0 B z p pf bm (sayC st .bad).1 i V V):=fun V hV=>⟨⟨l,g,s,hV⟩,hw.next,Only.refl _ _⟩
   generalize (⟨rs.toArray⟩:ByteArray)=rt at *;generalize (⟨wd.toArray⟩:ByteArray)=wt at *;clear hc k1 k2 ha hwd hrs hrz hrl;go_enter Tryz.func35,Tryz.ntmps35;go_wp2_with fail;refine(show Calls _ _ _ _ _ from HC).mono ?_;rintro e w1 ⟨rfl,kd,hw1⟩;clear HC;have h1:CAt w0 w1 B z p pf bm l g s st:=by rw[hw1];exact h.later (below_drewN (Below.refl _ W) kd)
   have HH:=(HHF.out w1 h1).behind (V':=W) (by rw[hw1];exact z3d (below_drewN (Below.refl _ W) kd));clear hw1 h1 hm HHF;go_wp2_with fail;refine(show Calls _ _ _ _ _ from HB _).mono ?_;rintro e w2 ⟨rfl,hw2⟩;subst w2;clear HB;go_wp2;go_ret2;exact⟨HT.out,HH⟩
  rw[decide_eq_false (fun h0=>k2 (index_in.1 h0))]at HB;have e2:((⟨wd.toArray⟩:ByteArray).toList == [97,114,109])=false:=z0h (by rw[hwd];exact ha);by_cases k3:wd=z6V
  ·have hc:z3F wd rs=if numK rs=true then .restart else .bad:=by unfold z3F;rw[if_neg k1,if_neg k2,if_pos k3]
   rw[hc];have e3:((⟨wd.toArray⟩:ByteArray).toList == [114,101,115,116,97,114,116])=true:=z0Q (by rw[hwd];exact k3);have HN:=fun V (hV:CAt w0 V B z p pf bm l g s st)=>numbered_any w0 V B z p pf bm l g s st i ⟨wd.toArray⟩ ⟨rs.toArray⟩ hV hlo hw hE (by rw[hwd];exact k3) (by omega)
   rw[hrs]at HN;generalize (if numK rs=true then Cmd.restart else Cmd.bad)=cm at *;generalize (⟨rs.toArray⟩:ByteArray)=rt at *;generalize (⟨wd.toArray⟩:ByteArray)=wt at *;clear hc k1 k2 k3 ha hwd hrs hrz hrl;go_enter Tryz.func35,Tryz.ntmps35;go_wp2_with fail;refine(show Calls _ _ _ _ _ from HC).mono ?_;rintro e w1 ⟨rfl,kd,hw1⟩;clear HC;have h1:CAt w0 w1 B z p pf bm l g s st:=by rw[hw1];exact h.later (below_drewN (Below.refl _ W) kd)
   have HN1:=HN w1 h1;have HOB:Hid (Only z7g W w1):=by rw[hw1];exact z3d (below_drewN (Below.refl _ W) kd)
   clear hw1 h1 hm HN;go_wp2_with fail;refine(show Calls _ _ _ _ _ from HB _).mono ?_;rintro e w2 ⟨rfl,hw2⟩;subst w2;clear HB;go_wp2_with fail;refine(show Calls _ _ _ _ _ from HN1).mono ?_;rintro e w3 ⟨hT,hD⟩;clear HN1;have HHF:Hid (z2E w0 B z p pf bm (sayC st cm).1 i W w3):=hD.behind HOB.out;clear hD;rcases hT with⟨t,rfl,ht⟩|⟨t,F,hF,hle,rfl,ht⟩
   ·have HT:Hid (Told (.returned (.tuple #[.string t,.nilIface])) (sayC st cm).2):=z1K ht;clear ht;go_wp2;go_ret2;exact⟨HT.out,HHF.out⟩
   ·have HT:Hid (Told (.returned (.tuple #[.string t,errV F])) (sayC st cm).2):=.inr ⟨t,F,hF,hle,rfl,ht⟩;clear ht;generalize errV F=ev at *;go_wp2;go_ret2;exact⟨HT.out,HHF.out⟩
  have e3:((⟨wd.toArray⟩:ByteArray).toList == [114,101,115,116,97,114,116])=false:=z0h (by rw[hwd];exact k3);have hc:z3F wd rs=z1e wd ⟨rs.toArray⟩:=by unfold z3F;rw[if_neg k1,if_neg k2,if_neg k3]
  rw[hc];have HN:=fun V (hV:CAt w0 V B z p pf bm l g s st)=>named_any w0 V B z p pf bm l g s st i ⟨wd.toArray⟩ ⟨rs.toArray⟩ hV hlo hw hi hE (by omega)
  rw[hwd]at HN;generalize z1e wd ⟨rs.toArray⟩=cm at *;generalize (⟨rs.toArray⟩:ByteArray)=rt at *;generalize (⟨wd.toArray⟩:ByteArray)=wt at *;clear hc k1 k2 k3 ha hwd hrs hrz hrl;go_enter Tryz.func35,Tryz.ntmps35;go_wp2_with fail;refine(show Calls _ _ _ _ _ from HC).mono ?_;rintro e w1 ⟨rfl,kd,hw1⟩;clear HC;have h1:CAt w0 w1 B z p pf bm l g s st:=by rw[hw1];exact h.later (below_drewN (Below.refl _ W) kd)
  have HN1:=HN w1 h1;have HOB:Hid (Only z7g W w1):=by rw[hw1];exact z3d (below_drewN (Below.refl _ W) kd)
  clear hw1 h1 hm HN;go_wp2_with fail;refine(show Calls _ _ _ _ _ from HB _).mono ?_;rintro e w2 ⟨rfl,hw2⟩;subst w2;clear HB;go_wp2_with fail;refine(show Calls _ _ _ _ _ from HN1).mono ?_;rintro e w3 ⟨hT,hD⟩;clear HN1;have HHF:Hid (z2E w0 B z p pf bm (sayC st cm).1 i W w3):=hD.behind HOB.out;clear hD;rcases hT with⟨t,rfl,ht⟩|⟨t,F,hF,hle,rfl,ht⟩
  ·have HT:Hid (Told (.returned (.tuple #[.string t,.nilIface])) (sayC st cm).2):=z1K ht;clear ht;go_wp2;go_ret2;exact⟨HT.out,HHF.out⟩
  ·have HT:Hid (Told (.returned (.tuple #[.string t,errV F])) (sayC st cm).2):=.inr ⟨t,F,hF,hle,rfl,ht⟩;clear ht;generalize errV F=ev at *;go_wp2;go_ret2;exact⟨HT.out,HHF.out⟩
 ·rw[cut_none hb]at HC;have hcmd:z1n line.data.toList=z2h line.data.toList:=by unfold z1n;rw[if_neg hn60,if_neg hb]
  rw[hcmd];dsimp only at HC;have hl:(⟨line.data.toList.toArray⟩:ByteArray)=line:=rfl;rw[hl]at HC;have HN:=fun V (hV:CAt w0 V B z p pf bm l g s st)=>bare_any w0 V B z p pf bm l g s st i line hV hlo hw hE
  generalize z2h line.data.toList=cm at *;clear hcmd harm hb e32 hl;go_enter Tryz.func35,Tryz.ntmps35;go_wp2_with fail;refine(show Calls _ _ _ _ _ from HC).mono ?_;rintro e w1 ⟨rfl,kd,hw1⟩;clear HC;have h1:CAt w0 w1 B z p pf bm l g s st:=by rw[hw1];exact h.later (below_drewN (Below.refl _ W) kd)
  have HN1:=HN w1 h1;have HOB:Hid (Only z7g W w1):=by rw[hw1];exact z3d (below_drewN (Below.refl _ W) kd)
  clear hw1 h1 hm HN;go_wp2_with fail;refine(show Calls _ _ _ _ _ from HN1).mono ?_;rintro e w3 ⟨hT,hD⟩;clear HN1;have HHF:Hid (z2E w0 B z p pf bm (sayC st cm).1 i W w3):=hD.behind HOB.out;clear hD;rcases hT with⟨t,rfl,ht⟩|⟨t,F,hF,hle,rfl,ht⟩
  ·have HT:Hid (Told (.returned (.tuple #[.string t,.nilIface])) (sayC st cm).2):=z1K ht;clear ht;go_wp2;go_ret2;exact⟨HT.out,HHF.out⟩
  ·have HT:Hid (Told (.returned (.tuple #[.string t,errV F])) (sayC st cm).2):=.inr ⟨t,F,hF,hle,rfl,ht⟩;clear ht;generalize errV F=ev at *;go_wp2;go_ret2;exact⟨HT.out,HHF.out⟩
theorem answer_any(w0 W:World)(B z p pf bm l g:Nat)(s:DSt)(st:CSt)(i:Nat)(line:ByteArray)(h:CAt w0 W B z p pf bm l g s st)(hlo:CLow w0 B z pf bm)(hw:Well st i)(hi:i<=1000)(hE:Env w0)(harm:(32:UInt8)∈line.data.toList->wOf line.data.toList≠cArm) :
 Calls Tryz.prog 10 #[.pointer (some ⟨z,0,none⟩),.string line] W fun e W'=>(∃t:ByteArray,e=.returned (.string t)/\t.data.toList=(sayC st (z1n line.data.toList)).2)/\z2E w0 B z p pf bm (sayC st (z1n line.data.toList)).1 i W W':=by
 have hlen:line.data.toList.length=line.size:=by simp
 by_cases h6:(60:Int)<(line.size:Int)
 ·have hcmd:z1n line.data.toList=.bad:=by unfold z1n;rw[if_pos (by omega)]
  rw[hcmd];have HF:=cfault_any 4 W (hE.later h.below) (by decide) (by decide);have HHF:Hid (∀W',Below W.heap.size W W'->z2E w0 B z p pf bm (sayC st .bad).1 i W W'):=fun W' hb=>⟨⟨l,g,s,h.later hb⟩,hw.next,z3d hb⟩
  have HA:Hid ((sayC st .bad).2=z1h 4):=rfl;clear hcmd harm;go_enter Tryz.func10,Tryz.ntmps10;go_wp2_with fail;refine(show Calls _ _ _ _ _ from HF).mono ?_;rintro e w1 ⟨⟨t,rfl,ht⟩,hb1⟩;clear HF;have HH:=HHF.out w1 hb1;have HT:Hid (t.data.toList=(sayC st .bad).2):=ht.trans HA.out.symm;clear ht;go_wp2;go_ret;exact⟨⟨t,rfl,HT.out⟩,HH⟩
 ·have HD:=do_any w0 W B z p pf bm l g s st i line h hlo hw hi hE (by omega) harm;generalize z1n line.data.toList=cm at *;clear harm;go_enter Tryz.func10,Tryz.ntmps10;go_wp2_with fail;refine(show Calls _ _ _ _ _ from HD).mono ?_;rintro e w3 ⟨hT,hDn⟩;clear HD;obtain⟨⟨l3,g3,s3,h3⟩,hw3,ho3⟩:=hDn;have HHF:Hid (∀W',Below w3.heap.size w3 W'->z2E w0 B z p pf bm (sayC st cm).1 i W W'):=fun W' hb=>⟨⟨l3,g3,s3,h3.later hb⟩,hw3,ho3.trans (z3d hb)⟩
  rcases hT with⟨t,rfl,ht⟩|⟨t,F,hF,hle,rfl,ht⟩
  ·have HT:Hid (t.data.toList=(sayC st cm).2):=ht;have HH:=HHF.out w3 (Below.refl _ _);clear ht;go_wp2;go_ret;exact⟨⟨t,rfl,HT.out⟩,HH⟩
  ·have HFA:=cfault_any F w3 (hE.later h3.below) hF hle;have HA:Hid ((sayC st cm).2=z1h F):=ht;obtain⟨zz,hz⟩:=z5Y hF;rw[hz]at HFA;rw[hz];clear ht hF hz h3 hw3 ho3;go_wp2_with fail;refine(show Calls _ _ _ _ _ from HFA).mono ?_;rintro e w4 ⟨⟨t4,rfl,ht4⟩,hb4⟩;clear HFA;have HH:=HHF.out w4 hb4;have HT:Hid (t4.data.toList=(sayC st cm).2):=ht4.trans HA.out.symm;clear ht4;go_wp2;go_ret;exact⟨⟨t4,rfl,HT.out⟩,HH⟩
end
section
open Go.RowKit Go.Maps
abbrev rsessC(q m:Nat)(t:ByteArray):Array Value:=#[.pointer (some ⟨q,0,none⟩),.pointer (some ⟨m,0,none⟩),.string t]
structure RSAt(w0 W:World)(z m q:Nat)(vl:Value)(V:Nat->EntV)(L:List z0u)(st:CSt):Prop where
 sess:W.heap[z]?=some (.cells (rsessC q m st.text) 39 (0,0))
 shelf:z1R W w0.heap.size w0.heap.size m vl st.k V st.E
 files:RAt w0.heap.size W q L st.kf
 agree:z3I st.D L
 below:Below w0.heap.size w0 W
structure RLow(w0:World)(z m q:Nat):Prop where
 sess:w0.heap.size<=z
 shelf:w0.heap.size<=m
 files:w0.heap.size<=q
abbrev tsSay:List (Option TypeId):=[some 39,some 33,some 37]
section
variable {w0 W W':World} {z m q:Nat} {vl:Value} {V:Nat->EntV} {L:List z0u} {st:CSt}
theorem RSAt.lt(h:RSAt w0 W z m q vl V L st):z<W.heap.size:=(Array.getElem?_eq_some_iff.1 h.sess).1
theorem RSAt.c0(h:RSAt w0 W z m q vl V L st):W.cell? ⟨z,0,none⟩=some (.pointer (some ⟨q,0,none⟩)):=by simp[World.cell?,h.sess]
theorem RSAt.c1(h:RSAt w0 W z m q vl V L st):W.cell? ⟨z,1,none⟩=some (.pointer (some ⟨m,0,none⟩)):=by simp[World.cell?,h.sess]
theorem RSAt.c2(h:RSAt w0 W z m q vl V L st):W.cell? ⟨z,2,none⟩=some (.string st.text):=by simp[World.cell?,h.sess]
theorem RSAt.f2(h:RSAt w0 W z m q vl V L st):W.frozen? ⟨z,2,none⟩=false:=by simp[World.frozen?,h.sess]
theorem RSAt.later(h:RSAt w0 W z m q vl V L st)(hb:Below W.heap.size W W'):RSAt w0 W' z m q vl V L st:=
 ⟨(hb.block _ h.lt).trans h.sess,h.shelf.later h.below.size hb,h.files.later hb,h.agree,h.below.trans (hb.mono h.below.size)⟩
theorem RSAt.put(h:RSAt w0 W z m q vl V L st)(hlo:RLow w0 z m q)(x:ByteArray):RSAt w0 (W.setCell ⟨z,2,none⟩ (.string x)) z m q vl V L {st with text:=x}:=by
 have ho:=Only.set h.sess 2 (.string x);have hb:Below w0.heap.size W (W.setCell ⟨z,2,none⟩ (.string x)):=⟨rfl,rfl,rfl,by simp[World.setCell],fun k hk=>Below.heap_setCell _ _ _ _ (Nat.ne_of_lt (Nat.lt_of_lt_of_le hk hlo.sess))⟩;exact⟨heap_setCell W z 2 _ _ _ h.sess,h.shelf.only ho hb (by decide) (by decide) (by decide) (by decide),h.files.only ho (by decide) (by decide),h.agree,h.below.trans hb⟩
theorem RSAt.turn(h:RSAt w0 W z m q vl V L st)(hlo:RLow w0 z m q){D':DataW Unit}{kf':Nat}{L':List z0u}(hT:Turned q q W W')(hF:RAt w0.heap.size W' q L' kf')(hA:z3I D' L'):RSAt w0 W' z m q vl V L' {st with D:=D',kf:=kf'}:=by
 have ho:=Only.of_turnedQ hT h.files;have hb:=hT.below h.below.size hlo.files hlo.files;exact⟨ho.block _ _ h.sess (by simp[z5l,tsRF]),h.shelf.only ho hb (by decide) (by decide) (by decide) (by decide),hF,hA,h.below.trans hb⟩
theorem RSAt.grow(h:RSAt w0 W z m q vl V L st)(hlo:RLow w0 z m q){E':Nat->EntF}{k':Nat}{vl':Value}{V':Nat->EntV}(hG:W.grownBy W' (some m))(hS:z1R W' w0.heap.size w0.heap.size m vl' k' V' E'):RSAt w0 W' z m q vl' V' L {st with E:=E',k:=k'}:=by
 have ho:=Only.of_grown hG h.shelf;have hb:Below w0.heap.size W W':=⟨hG.os,hG.tape,hG.output,hG.size,fun j hj=>hG.block j (Nat.lt_of_lt_of_le hj h.below.size) (fun e=>by injection e with e;have:=hlo.shelf;omega)⟩;exact⟨ho.block _ _ h.sess (by simp[z5l,tsRS]),hS,h.files.only ho (by decide) (by decide),h.agree,h.below.trans hb⟩
theorem RSAt.len(h:RSAt w0 W z m q vl V L st){i:Nat}(hw:Well st i):L.length<=6:=by
 obtain⟨w,bm,n,hr⟩:=hw.real;rw[h.agree.length hw.inv hr];exact hw.inv.size
end
def z1O (w0:World)(z m q:Nat)(st':CSt)(V0 W':World):Prop:=(∃vl V L,RSAt w0 W' z m q vl V L st')/\Only tsSay V0 W'
theorem z3u {w w':World}(h:Below w.heap.size w w'):Only tsSay w w':=(Only.of_below h).widen (by decide)
theorem z1O.later{w0 V0 W W':World}{z m q:Nat}{st:CSt}(h:z1O w0 z m q st V0 W)(hb:Below W.heap.size W W'):z1O w0 z m q st V0 W':=by
 obtain⟨⟨vl,V,L,h1⟩,h2⟩:=h;exact⟨⟨vl,V,L,h1.later hb⟩,h2.trans (z3u hb)⟩
def Says(e:Ending)(a:List UInt8):Prop:=∃t:ByteArray,e=.returned (.string t)/\t.data.toList=a
theorem z0I {w:World}{B b cap j:Nat}{ws:List (List UInt8)}{x:List UInt8}(h:w.ownsRow B 9 1 (.slice (some ⟨b,0,none⟩) ws.length cap) ws.length (strC ws))(hj:ws[j]?=some x):w.cell? ⟨b,j,none⟩=some (.string ⟨x.toArray⟩):=by
 obtain⟨g,hg,_,hc⟩:=z0K h (j:=j) (u:=.string ⟨x.toArray⟩) (by unfold strC;rw[List.getElem?_map,hj];rfl);injection hg with hg;injection hg with hg;subst hg;exact hc
theorem sayOne_any(w0 W:World)(z m q:Nat)(vl:Value)(V:Nat->EntV)(L:List z0u)(st:CSt)(i:Nat)(line:ByteArray)(h:RSAt w0 W z m q vl V L st)(hlo:RLow w0 z m q)(hw:Well st i)(hsz:line.size<=60)(hb:(32:UInt8) ∉ line.data.toList) :
 Calls Tryz.prog 7 #[.pointer (some ⟨z,0,none⟩),.string line] W fun e W'=>Says e (sayC st (z2h line.data.toList)).2/\z1O w0 z m q (sayC st (z2h line.data.toList)).1 W W':=by
 have HW:=z2b line W (by omega);rw[words_one hb]at HW;have h60:¬(60:Int)<(line.size:Int):=by omega
 have hL6:=h.len hw;have hone:(([line.data.toList].length:Nat):Int)=1:=rfl;generalize hwl:[line.data.toList].length=n1 at HW;have hn1:(n1:Int)=1:=by rw[<-hwl];rfl
 have g1:¬(1:Int)<(n1:Int):=by omega
 have g2:((n1:Int)==1)=true:=by rw[beq_iff_eq];exact hn1
 have HF4:=fun V=>z1p 4 V (by decide)
 have HF4':∀V:World,Calls Tryz.prog 11 #[.int .i64 4] V fun e w'=>(∃t:ByteArray,e=.returned (.string t)/\t.data.toList=z1h 4)/\Below V.heap.size V w':=HF4
 clear hone hwl HF4 hn1;by_cases k1:line.data.toList=cClear
 ·have e1:=z0Q k1;have hc:z2h line.data.toList=.clear:=by unfold z2h;rw[if_pos k1]
  rw[hc];have HHF:Hid (∀V1,Below W.heap.size W V1->z1O w0 z m q (sayC st .clear).1 W (V1.setCell ⟨z,2,none⟩ (.string ⟨#[]⟩))):=fun V1 hb1=>⟨⟨vl,V,L,(h.later hb1).put hlo ⟨#[]⟩⟩,(z3u hb1).trans ((Only.set (h.later hb1).sess 2 _).widen (by decide))⟩
  clear hc k1 HF4';go_enter Tryz.func7,Tryz.ntmps7;go_wp2_with fail;refine(show Calls _ _ _ _ _ from HW).mono ?_;rintro e w1 ⟨⟨b,cap,rfl,_⟩,hb1⟩;clear HW;have c2:=(h.later hb1).c2;have f2:=(h.later hb1).f2;have HH:=HHF.out w1 hb1;have HHX:Hid (z1O w0 z m q (sayC st .clear).1 W (w1.setCell ⟨z,2,none⟩ (.string ⟨#[]⟩))):=HH;clear HH HHF;go_wp2;go_ret;exact⟨⟨_,rfl,rfl⟩,HHX.out⟩
 have e1:=z0h k1;by_cases k3:line.data.toList=cList
 ·have e3:=z0Q k3;have k2:line.data.toList≠cObject:=by rw[k3];decide
  have hc:z2h line.data.toList=.list:=by unfold z2h;rw[if_neg k1,if_neg k2,if_pos k3]
  rw[hc];have hnames:Hid (L.map (fun f=>Value.string f.nm)=z1A (z3L st.D)/\L.length=(z3L st.D).length):=by
   obtain⟨w',bm,n',hr⟩:=hw.real;have hn:=h.agree.names hw.inv hr;refine⟨?_,by rw[hn,List.length_map]⟩;rw[hn];unfold z1A;rw[List.map_map];exact List.map_congr_left fun f _=>rfl
  have HL:=fun V1 (hV:Below W.heap.size W V1)=>listR_any w0.heap.size V1 q L st.kf (h.later hV).files (by omega)
  have HHF:Hid (∀V1,Below W.heap.size W V1->z1O w0 z m q (sayC st .list).1 W V1):=fun V1 hb1=>⟨⟨vl,V,L,h.later hb1⟩,z3u hb1⟩
  have HSH:Hid (∀x∈z3L st.D,x.length<=8):=fun x hx=>names_short hw.real hw.names hx
  clear hc k1 k2 k3 HF4';go_enter Tryz.func7,Tryz.ntmps7;go_wp2_with fail;refine(show Calls _ _ _ _ _ from HW).mono ?_;rintro e w1 ⟨⟨b,cap,rfl,_⟩,hb1⟩;clear HW;have c0:=(h.later hb1).c0;have HL1:=HL w1 hb1;clear HL;go_wp2_with fail;refine(show Calls _ _ _ _ _ from HL1).mono ?_;rintro e w2 ⟨⟨v,rfl,hown⟩,hb2⟩;clear HL1 c0;rw[hnames.out.1]at hown;obtain⟨a,c,rfl,_⟩:=z0c hown;have HJ:=joined_any _ a L.length c (z3L st.D) ⟨#[32]⟩ w2 hown (by omega) (fun x hx=>Nat.le_trans (HSH.out x hx) (by decide)) (by decide);have HH:=HHF.out w2 (hb1.trans (hb2.mono hb1.size));have HHX:Hid (z1O w0 z m q (sayC st .list).1 W w2):=HH;clear hown HH HHF hnames;go_wp2_with fail;refine(show Calls _ _ _ _ _ from HJ).mono ?_;rintro e w3 ⟨⟨t,rfl,ht⟩,hw3⟩;subst w3;clear HJ;go_wp2;go_ret;exact⟨⟨_,rfl,ht⟩,HHX.out⟩
 have e3:=z0h k3;by_cases k4:line.data.toList=cRoots
 ·have e4:=z0Q k4;have k2:line.data.toList≠cObject:=by rw[k4];decide
  have hc:z2h line.data.toList=.roots:=by unfold z2h;rw[if_neg k1,if_neg k2,if_neg k3,if_pos k4]
  rw[hc];have HL:=fun V1 (hV:Below W.heap.size W V1)=>refRoots_any V1 w0.heap.size w0.heap.size m st.k vl V st.E (h.later hV).shelf (h.later hV).below.size
  have HHF:Hid (∀V1,Below W.heap.size W V1->z1O w0 z m q (sayC st .roots).1 W V1):=fun V1 hb1=>⟨⟨vl,V,L,h.later hb1⟩,z3u hb1⟩
  have HSH:Hid (∀x∈z5E st.E st.k,x.length<=8):=fun x hx=>roots_short hw.good hx
  have hk3:=hw.good.few;clear hc k1 k2 k3 k4 HF4';go_enter Tryz.func7,Tryz.ntmps7;go_wp2_with fail;refine(show Calls _ _ _ _ _ from HW).mono ?_;rintro e w1 ⟨⟨b,cap,rfl,_⟩,hb1⟩;clear HW;have c1:=(h.later hb1).c1;have HL1:=HL w1 hb1;clear HL;go_wp2_with fail;refine(show Calls _ _ _ _ _ from HL1).mono ?_;rintro e w2 ⟨v,rfl,hown,hb2⟩;clear HL1 c1;rw[roots_strs]at hown;obtain⟨a,c,rfl,_⟩:=z0c hown;have HJ:=joined_any _ a st.k c (z5E st.E st.k) ⟨#[32]⟩ w2 hown (by omega) (fun x hx=>Nat.le_trans (HSH.out x hx) (by decide)) (by decide);have HH:=HHF.out w2 (hb1.trans (hb2.mono hb1.size));have HHX:Hid (z1O w0 z m q (sayC st .roots).1 W w2):=HH;clear hown HH HHF;go_wp2_with fail;refine(show Calls _ _ _ _ _ from HJ).mono ?_;rintro e w3 ⟨⟨t,rfl,ht⟩,hw3⟩;subst w3;clear HJ;go_wp2;go_ret;exact⟨⟨_,rfl,ht⟩,HHX.out⟩
 have e4:=z0h k4;by_cases k2:line.data.toList=cObject
 ·have e2:=z0Q k2;have hc:z2h line.data.toList=.object:=by unfold z2h;rw[if_neg k1,if_pos k2]
  rw[hc];have HP:=fun V1=>z7j st.text V1
  have hle:=parseF_le st.text;have hAns:(sayC st .object).2=if (z0k st.text).1=0 then Lib.itoa (((z0k st.text).2.nW:Nat):Int)++manyT else z1h (z0k st.text).1:=rfl
  have hfew:(z0k st.text).1=0->(z0k st.text).2.nW<=40:=fun h0=>by
   unfold z0k at h0 ⊢;split
   ·exact(by decide:z0d.nW<=40)
   ·split
    ·rename_i hh;have h1:=hh.1;unfold z1X at h1;split at h1
     ·rename_i ho;exact(objOk ho).nW
     ·exact absurd h1 (by assumption)
    ·exact(by decide:z0d.nW<=40)
  generalize z0k st.text=PF at *;obtain⟨F,o⟩:=PF;dsimp only at *;have HHF:Hid (∀V1,Below W.heap.size W V1->z1O w0 z m q (sayC st .object).1 W V1):=fun V1 hb1=>⟨⟨vl,V,L,h.later hb1⟩,z3u hb1⟩
  clear hc k1 k2 k3 k4 HF4';go_enter Tryz.func7,Tryz.ntmps7;go_wp2_with fail;refine(show Calls _ _ _ _ _ from HW).mono ?_;rintro e w1 ⟨⟨b,cap,rfl,_⟩,hb1⟩;clear HW;have c2:=(h.later hb1).c2;have HP1:=HP w1;clear HP;go_wp2_with fail;refine(show Calls _ _ _ _ _ from HP1).mono ?_;rintro e w2 ⟨⟨v,rfl,hA,_⟩,hb2⟩;clear HP1 c2;have hbx:Below w2.heap.size w2 (w2.alloc (.cells #[.slice v.aN o.nN v.cN,.slice v.aW o.nW v.cW,.slice v.aS o.nS v.cS,.slice v.aT o.nT v.cT] 56)):=(Below.refl _ _).alloc (Nat.le_refl _) _;have x1:(w2.alloc (.cells #[.slice v.aN o.nN v.cN,.slice v.aW o.nW v.cW,.slice v.aS o.nS v.cS,.slice v.aT o.nT v.cT] 56)).cell? ⟨w2.heap.size,1,none⟩=some (.slice v.aW o.nW v.cW):=by simp[go_sem]
  have hb3:=(hb1.trans (hb2.mono hb1.size)).trans (hbx.mono (Nat.le_trans hb1.size hb2.size));unfold ObjV.cells;clear hA;by_cases h0:F=0
  ·have hn40:=hfew h0;have HAN:Hid ((sayC st .object).2=Lib.itoa ((o.nW:Nat):Int)++manyT):=by show(sayC st .object).2=_;rw[hAns,if_pos h0]
   have HD:=z0U ((o.nW:Nat):Int) (by omega) (by omega) (w2.alloc (.cells #[.slice v.aN o.nN v.cN,.slice v.aW o.nW v.cW,.slice v.aS o.nS v.cS,.slice v.aT o.nT v.cT] 56));subst h0;have hF0:¬(0:Int)<((0:Nat):Int):=by omega
   clear hAns hfew;go_wp2_with fail;refine(show Calls _ _ _ _ _ from HD).mono ?_;rintro e w4 ⟨⟨t,rfl,ht⟩,hb4⟩;clear HD x1;have hts:t.size<=20:=by rw[z1W ht];exact z4J (by omega)
   have HT:Hid ((t++⟨#[32,119,111,114,100,115]⟩).data.toList=(sayC st .object).2):=by
    show(t++⟨#[32,119,111,114,100,115]⟩).data.toList=_;rw[HAN.out,<-ht];simp
   have HH:=HHF.out w4 (hb3.trans (hb4.mono hb3.size));clear ht HAN;go_wp2;go_ret;exact⟨⟨_,rfl,HT.out⟩,HH⟩
  ·have HAN:Hid ((sayC st .object).2=z1h F):=by show(sayC st .object).2=_;rw[hAns,if_neg h0]
   have HFF:=z1p F (w2.alloc (.cells #[.slice v.aN o.nN v.cN,.slice v.aW o.nW v.cW,.slice v.aS o.nS v.cS,.slice v.aT o.nT v.cT] 56)) (by omega);have hpos:(0:Int)<(F:Int):=by omega
   clear hAns hfew h0;go_wp2_with fail;refine(show Calls _ _ _ _ _ from HFF).mono ?_;rintro e w4 ⟨⟨t,rfl,ht⟩,hb4⟩;clear HFF x1;have HT:Hid (t.data.toList=(sayC st .object).2):=ht.trans HAN.out.symm;have HH:=HHF.out w4 (hb3.trans (hb4.mono hb3.size));clear ht HAN;go_wp2;go_ret;exact⟨⟨_,rfl,HT.out⟩,HH⟩
 have e2:=z0h k2;have hc:z2h line.data.toList=.bad:=by unfold z2h;rw[if_neg k1,if_neg k2,if_neg k3,if_neg k4]
 rw[hc];have HHF:Hid (∀V1,Below W.heap.size W V1->z1O w0 z m q (sayC st .bad).1 W V1):=fun V1 hb1=>⟨⟨vl,V,L,h.later hb1⟩,z3u hb1⟩
 clear hc k1 k2 k3 k4;go_enter Tryz.func7,Tryz.ntmps7;go_wp2_with fail;refine(show Calls _ _ _ _ _ from HW).mono ?_;rintro e w1 ⟨⟨b,cap,rfl,_⟩,hb1⟩;clear HW;go_wp2_with fail;refine(show Calls _ _ _ _ _ from HF4' _).mono ?_;rintro e w2 ⟨⟨t,rfl,ht⟩,hb2⟩;clear HF4';have HH:=HHF.out w2 (hb1.trans (hb2.mono hb1.size));have HT:Hid (t.data.toList=(sayC st .bad).2):=ht;clear ht;go_wp2;go_ret;exact⟨⟨_,rfl,HT.out⟩,HH⟩
end
end Go.Proofs.YtbcpcbonlhlhpaaGreatDoor
