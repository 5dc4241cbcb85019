/- What Say of the document answers to a line of two words and -/
import Derived.Test.YtbcpcbonlhlhpaaGreatDoorRefSay
set_option maxRecDepth 100000
set_option maxHeartbeats 8000000
namespace Go.Proofs.YtbcpcbonlhlhpaaGreatDoor
open Go.RowKit Go.Maps
theorem rload_what{w:World}{B0:Nat}{rd:ByteArray->Nat×ObjF}{root:ByteArray}{u v:Value}{F:Nat}(h:RLoadEnd w B0 rd root (.returned (.tuple #[u,v,.int .i64 (F:Int)]))) :
 (F≠0/\u=.slice none 0 0/\ReckIs rd root F)∨(F=0/\∃m Bs P Q A C,z0Z rd root m Bs P Q/\RPs w B0 u m (nmAt rd root) Bs A (fun i=>(obAt rd root i).nW) C (z4m rd root m Bs P Q)):=by
 generalize hE:Ending.returned (.tuple #[u,v,.int .i64 (F:Int)])=e at h;cases h with
 |bad F' h hf=>
  simp only[Ending.returned.injEq,Value.tuple.injEq,Array.mk.injEq,List.cons.injEq,Value.int.injEq,and_true,true_and]at hE;obtain⟨rfl,_,h3⟩:=hE;have:F=F':=by omega
  subst this;exact .inl ⟨hf,rfl,h⟩
 |ok m Bs P Q u' v' A C h hu hv=>
  simp only[Ending.returned.injEq,Value.tuple.injEq,Array.mk.injEq,List.cons.injEq,Value.int.injEq,and_true,true_and]at hE;obtain⟨rfl,_,h3⟩:=hE;exact .inr ⟨by omega,m,Bs,P,Q,A,C,h,hu⟩
theorem getE_fewC{E:Nat->EntF}{k:Nat}(root:ByteArray)(h:z1M E k):(getE E k root).2.nP<=1000/\((getE E k root).1=true->entF (getE E k root).2=0):=by
 unfold getE;split
 ·exact⟨(by decide:z1g.nP<=1000),fun h=>by cases h⟩
 ·obtain⟨j,_,hj,_,hfj⟩:=z2i _ 0 rfl (show 0<=findF E root k 0 by omega);rw[hfj];have h1:=(h.ent hj).nP;exact⟨show(E j).nP<=1000 by omega,fun _=>h.ok j hj⟩
theorem slice_five{line:ByteArray}{rs:List UInt8}(h:line.data.toList=cLine++32 :: rs):line.extract 5 line.size=⟨rs.toArray⟩:=by
 apply ByteArray.ext;apply Array.toList_inj.1;rw[ByteArray.data_extract,Array.toList_extract];simp only[List.extract_eq_take_drop];have hl:line.size=5+rs.length:=by
  have:=congrArg List.length h;simp at this;have h2:line.data.size=line.size:=rfl;omega
 rw[h,hl];simp
theorem sayLine_any(w0 W:World)(z m q:Nat)(vl:Value)(V:Nat->EntV)(L:List z0u)(st:CSt)(i:Nat)(line:ByteArray)(wd rs:List UInt8)(h:RSAt w0 W z m q vl V L st)(hlo:RLow w0 z m q)(hw:Well st i)(hi:i<=1000)(hsz:line.size<=60)(hln:line.data.toList=wd++32 :: rs)(hwd:(32:UInt8) ∉ wd)(hk:wd=cLine) :
 Calls Tryz.prog 7 #[.pointer (some ⟨z,0,none⟩),.string line] W fun e W'=>Says e (sayC st (.line rs)).2/\z1O w0 z m q (sayC st (.line rs)).1 W W':=by
 have HW:=z2b line W (by omega);rw[hln,z0N wd rs hwd]at HW;have h60:¬(60:Int)<(line.size:Int):=by omega
 have hL6:=h.len hw;have hkf:st.kf<=1000000:=by have:=hw.few;omega
 have _:=hlo;have hwt:=z1t wd;have el:((⟨wd.toArray⟩:ByteArray).toList == [108,105,110,101])=true:=z0Q (by rw[hwt,hk]);obtain⟨n2,hn2⟩:∃n2,(wd :: z0O rs).length=n2:=⟨_,rfl⟩;have g1:(1:Int)<(n2:Int):=by
  have h1:=words_pos rs;rw[<-hn2,List.length_cons];omega
 have g4:(0:Int)<(n2:Int):=by omega
 have hsl:=slice_five (line:=line) (rs:=rs) (by rw[hln,hk]);have hl5:5<=line.size:=by
  have h1:=congrArg List.length hln;have h2:line.data.toList.length=line.size:=by simp
  rw[hk]at h1;simp at h1;have h3:line.data.size=line.size:=rfl;omega
 have hrz:(⟨rs.toArray⟩:ByteArray).size<=60:=by
  have h1:=congrArg List.length hln;have h2:line.data.toList.length=line.size:=by simp
  have h3:(⟨rs.toArray⟩:ByteArray).size=rs.length:=by show rs.toArray.size=_;simp
  simp only[List.length_append,List.length_cons]at h1;omega
 have HW':Calls Tryz.prog 12 #[.string line] W fun e w'=>(∃b cap,e=.returned (.slice (some ⟨b,0,none⟩) n2 cap)/\w'.cell? ⟨b,0,none⟩=some (.string ⟨wd.toArray⟩))/\Below W.heap.size W w':=HW.mono fun e w' ⟨⟨b,cap,he,ho⟩,hb⟩=>⟨⟨b,cap,by rw[he,hn2],z0I ho rfl⟩,hb⟩
 have ht:=hw.text;have htz:st.text.size<=61000:=by omega
 have HHF:Hid (∀V1,Below W.heap.size W V1->z1O w0 z m q (sayC st (.line rs)).1 W (V1.setCell ⟨z,2,none⟩ (.string (st.text++⟨rs.toArray⟩++⟨#[10]⟩)))):=fun V1 hb1=>⟨⟨vl,V,L,(h.later hb1).put hlo _⟩,(z3u hb1).trans ((Only.set (h.later hb1).sess 2 _).widen (by decide))⟩
 generalize (⟨wd.toArray⟩:ByteArray)=wt at *;generalize (⟨rs.toArray⟩:ByteArray)=rt at *;clear HW hn2 hk hwt hln hwd ht;go_enter Tryz.func7,Tryz.ntmps7;go_wp2_with fail;refine(show Calls _ _ _ _ _ from HW').mono ?_;rintro e w1 ⟨⟨b,cap,rfl,x0⟩,hb1⟩;clear HW';have hd1:Below w1.heap.size w1 w1.drew:=(Below.refl _ w1).drew;have hb1d:=hb1.trans (hd1.mono hb1.size);have h1:=h.later hb1d;have hSS:(fun w':World=>w'.cell? ⟨z,2,none⟩=some (.string st.text)) w1.drew:=h1.c2;have f2:=h1.f2;have c2:=h1.c2;have HH:=HHF.out w1.drew hb1d;have HHX:Hid (z1O w0 z m q (sayC st (.line rs)).1 W (w1.drew.setCell ⟨z,2,none⟩ (.string (st.text++rt++⟨#[10]⟩)))):=HH;have v1:(5:Int)<=(line.size:Int):=by omega
 have y1:¬9223372036854775807<st.text.size+rt.size:=by omega
 have y2:¬9223372036854775807<st.text.size+rt.size+1:=by omega
 clear HH HHF h1;go_upto_region 5 with fail;refine z0f (fun w':World=>w'.cell? ⟨z,2,none⟩=some (.string st.text)) 11 12 (by kernel_rfl) rfl ?_;generalize w1.drew=W1 at *;refine tW 0 hSS ?_;refine tW 1 hSS ?_;refine tW 2 hSS ?_;refine tW 3 hSS ?_;refine tW 5 hSS ?_;refine tW 6 hSS ?_;refine tR 4 [] hSS ?_;refine tW 7 hSS ?_;refine tW 8 hSS ?_;refine tW 9 hSS ?_;refine tW 10 hSS ?_;clear hSS;refine lG 11 fun K hK=>?_
 go_wp2;refine hK _ _ ?_;clear hK;refine z1c (by kernel_rfl) ?_ _;go_wp2;go_ret;exact⟨⟨_,rfl,rfl⟩,HHX.out⟩
theorem sayMany_any(w0 W:World)(z m q:Nat)(vl:Value)(V:Nat->EntV)(L:List z0u)(st:CSt)(i:Nat)(line:ByteArray)(wd rs:List UInt8)(h:RSAt w0 W z m q vl V L st)(hlo:RLow w0 z m q)(hw:Well st i)(hi:i<=1000)(hsz:line.size<=60)(hln:line.data.toList=wd++32 :: rs)(hwd:(32:UInt8) ∉ wd)(hk:wd≠cLine)(hrs:(32:UInt8)∈rs) :
 Calls Tryz.prog 7 #[.pointer (some ⟨z,0,none⟩),.string line] W fun e W'=>Says e (sayC st .bad).2/\z1O w0 z m q (sayC st .bad).1 W W':=by
 have HW:=z2b line W (by omega);rw[hln,z0N wd rs hwd]at HW;have h60:¬(60:Int)<(line.size:Int):=by omega
 have hL6:=h.len hw;have hkf:st.kf<=1000000:=by have:=hw.few;omega
 have _:=hlo;have hwt:=z1t wd;have el:((⟨wd.toArray⟩:ByteArray).toList == [108,105,110,101])=false:=z0h (by rw[hwt];exact hk);obtain⟨n2,hn2⟩:∃n2,(wd :: z0O rs).length=n2:=⟨_,rfl⟩;have g3:(2:Int)<(n2:Int):=by
  have h1:=words_few hrs;rw[<-hn2,List.length_cons];omega
 have g1:(1:Int)<(n2:Int):=by omega
 have g2:((n2:Int)==1)=false:=by rw[beq_eq_false_iff_ne];omega
 have g4:(0:Int)<(n2:Int):=by omega
 have HW':Calls Tryz.prog 12 #[.string line] W fun e w'=>(∃b cap,e=.returned (.slice (some ⟨b,0,none⟩) n2 cap)/\w'.cell? ⟨b,0,none⟩=some (.string ⟨wd.toArray⟩))/\Below W.heap.size W w':=HW.mono fun e w' ⟨⟨b,cap,he,ho⟩,hb⟩=>⟨⟨b,cap,by rw[he,hn2],z0I ho rfl⟩,hb⟩
 have HF4':∀V:World,Calls Tryz.prog 11 #[.int .i64 4] V fun e w'=>(∃t:ByteArray,e=.returned (.string t)/\t.data.toList=z1h 4)/\Below V.heap.size V w':=fun V=>z1p 4 V (by decide)
 have HHF:Hid (∀V1,Below W.heap.size W V1->z1O w0 z m q (sayC st .bad).1 W V1):=fun V1 hb1=>⟨⟨vl,V,L,h.later hb1⟩,z3u hb1⟩
 generalize (⟨wd.toArray⟩:ByteArray)=wt at *;clear HW hn2 hk hwt hln hwd;go_enter Tryz.func7,Tryz.ntmps7;go_wp2_with fail;refine(show Calls _ _ _ _ _ from HW').mono ?_;rintro e w1 ⟨⟨b,cap,rfl,x0⟩,hb1⟩;clear HW';go_wp2_with fail;refine(show Calls _ _ _ _ _ from HF4' _).mono ?_;rintro e w2 ⟨⟨t,rfl,ht⟩,hb2⟩;clear HF4';have HH:=HHF.out w2 (hb1.trans (hb2.mono hb1.size));have HT:Hid (t.data.toList=(sayC st .bad).2):=ht;clear ht;go_wp2;go_ret;exact⟨⟨_,rfl,HT.out⟩,HH⟩
theorem sayWrite_any(w0 W:World)(z m q:Nat)(vl:Value)(V:Nat->EntV)(L:List z0u)(st:CSt)(i:Nat)(line:ByteArray)(wd rs:List UInt8)(h:RSAt w0 W z m q vl V L st)(hlo:RLow w0 z m q)(hw:Well st i)(hi:i<=1000)(hsz:line.size<=60)(hln:line.data.toList=wd++32 :: rs)(hwd:(32:UInt8) ∉ wd)(hk:wd=cWrite)(hrs:(32:UInt8) ∉ rs) :
 Calls Tryz.prog 7 #[.pointer (some ⟨z,0,none⟩),.string line] W fun e W'=>Says e (sayC st (.write ⟨rs.toArray⟩)).2/\z1O w0 z m q (sayC st (.write ⟨rs.toArray⟩)).1 W W':=by
 have HW:=z2b line W (by omega);rw[hln,z0N wd rs hwd]at HW;have h60:¬(60:Int)<(line.size:Int):=by omega
 have hL6:=h.len hw;have hkf:st.kf<=1000000:=by have:=hw.few;omega
 have _:=hlo;rw[z1H rs hrs]at HW;have hrz:(⟨rs.toArray⟩:ByteArray).size<=60:=by
  have h1:=congrArg List.length hln;have h2:line.data.toList.length=line.size:=by simp
  have h3:(⟨rs.toArray⟩:ByteArray).size=rs.length:=by show rs.toArray.size=_;simp
  simp only[List.length_append,List.length_cons]at h1;omega
 have hrd:=z1t rs;have hml:(⟨rs.toArray⟩:ByteArray).size<=maxLen:=Nat.le_trans hrz (by decide);obtain⟨n2,hn2⟩:∃n2,[wd,rs].length=n2:=⟨_,rfl⟩;have hn2':n2=2:=hn2.symm;have g1:(1:Int)<(n2:Int):=by omega
 have g2:((n2:Int)==1)=false:=by rw[beq_eq_false_iff_ne];omega
 have g3:¬(2:Int)<(n2:Int):=by omega
 have g4:(0:Int)<(n2:Int):=by omega
 have HW':Calls Tryz.prog 12 #[.string line] W fun e w'=>(∃b cap,e=.returned (.slice (some ⟨b,0,none⟩) n2 cap)/\w'.cell? ⟨b,0,none⟩=some (.string ⟨wd.toArray⟩)/\w'.cell? ⟨b,1,none⟩=some (.string ⟨rs.toArray⟩))/\Below W.heap.size W w':=HW.mono fun e w' ⟨⟨b,cap,he,ho⟩,hb⟩=>⟨⟨b,cap,by rw[he,hn2],z0I ho rfl,z0I ho rfl⟩,hb⟩
 clear HW;have hwt:=z1t wd;have el:((⟨wd.toArray⟩:ByteArray).toList == [108,105,110,101])=false:=z0h (by rw[hwt,hk];decide);have e_write:((⟨wd.toArray⟩:ByteArray).toList == [119,114,105,116,101])=true:=z0Q (by rw[hwt,hk]);generalize (⟨wd.toArray⟩:ByteArray)=wt at *;obtain⟨wR,bm,nR',hreal⟩:=hw.real;have hFr:z6a L st.kf ⟨rs.toArray⟩ st.text=writeF st.D st.kf ⟨rs.toArray⟩ st.text:=(h.agree.fault hw.inv hreal hkf ⟨rs.toArray⟩ st.text).symm;have HWR:=fun V1 (hV:RSAt w0 V1 z m q vl V L st)=>writeR_any w0.heap.size V1 q L st.kf ⟨rs.toArray⟩ st.text hV.files (by omega) hV.below.size hml hkf
 rw[hFr]at HWR;have hle:=writeF_le st.D st.kf ⟨rs.toArray⟩ st.text;have HFIN:Hid (∀V1 W',RSAt w0 V1 z m q vl V L st->Only tsSay W V1->Turned q q V1 W'->(writeF st.D st.kf ⟨rs.toArray⟩ st.text=0->RAt w0.heap.size W' q (putR ⟨⟨rs.toArray⟩,st.text,(st.kf:Int)+1⟩ L) (st.kf+1))->(writeF st.D st.kf ⟨rs.toArray⟩ st.text≠0->RAt w0.heap.size W' q L st.kf)->z1O w0 z m q (sayC st (.write ⟨rs.toArray⟩)).1 W W'):=fun V1 W' hV ho hT hy hn'=>by
  have hs:(sayC st (.write ⟨rs.toArray⟩)).1=if writeF st.D st.kf ⟨rs.toArray⟩ st.text=0 then {st with D:=st.D.put (keyB ⟨rs.toArray⟩) (z1s st.text.data.toList ((st.kf:Int)+1)),kf:=st.kf+1}else st:=rfl
  have ho2:=ho.trans ((Only.of_turnedQ hT hV.files).widen (by decide));by_cases h0:writeF st.D st.kf ⟨rs.toArray⟩ st.text=0
  ·rw[hs,if_pos h0];exact⟨⟨vl,V,_,hV.turn hlo hT (hy h0) (hV.agree.put hw.inv _ _ _)⟩,ho2⟩
  ·rw[hs,if_neg h0];exact⟨⟨vl,V,_,hV.turn (D':=st.D) (kf':=st.kf) hlo hT (hn' h0) hV.agree⟩,ho2⟩
 have HA:Hid ((sayC st (.write ⟨rs.toArray⟩)).2=z5z (writeF st.D st.kf ⟨rs.toArray⟩ st.text)):=rfl;generalize writeF st.D st.kf ⟨rs.toArray⟩ st.text=F at *;generalize (⟨rs.toArray⟩:ByteArray)=rt at *;clear hn2 hn2' hk hwt hln hwd hrs hreal hFr;go_enter Tryz.func7,Tryz.ntmps7;go_wp2_with fail;refine(show Calls _ _ _ _ _ from HW').mono ?_;rintro e w1 ⟨⟨b,cap,rfl,x0,x1⟩,hb1⟩;clear HW';have hd1:Below w1.heap.size w1 w1.drew:=(Below.refl _ w1).drew;have hb1d:=hb1.trans (hd1.mono hb1.size);have h1:=h.later hb1d;have x1d:=cell_later hd1 x1;have hSS:(fun w':World=>w'.cell? ⟨z,0,none⟩=some (.pointer (some ⟨q,0,none⟩))/\w'.cell? ⟨b,1,none⟩=some (.string rt)/\w'.cell? ⟨z,2,none⟩=some (.string st.text)) w1.drew:=⟨h1.c0,x1d,h1.c2⟩;have HWR1:=HWR w1.drew h1;have HS6:Hid (∀V1:World,Turned q q w1.drew V1->(fun w':World=>w'.cell? ⟨z,0,none⟩=some (.pointer (some ⟨q,0,none⟩))/\w'.cell? ⟨b,1,none⟩=some (.string rt)/\w'.cell? ⟨z,2,none⟩=some (.string st.text)) V1):=fun V1 hV=>by
  have ho:=Only.of_turnedQ hV h1.files;have hb:=ho.block _ _ h1.sess (by simp[z5l,tsRF]);have hbl:b≠q:=fun e=>by
   subst e;obtain⟨vq,hvq,_⟩:=h1.files.blk;have:w1.drew.cell? ⟨b,1,none⟩=some (.int .i64 (st.kf:Int)):=by simp[World.cell?,hvq]
   rw[x1d]at this;cases this
  exact⟨by simp[World.cell?,hb],cell_turned hV x1d hbl hbl,by simp[World.cell?,hb]⟩
 have HFIN1:Hid (∀W',Turned q q w1.drew W'->(F=0->RAt w0.heap.size W' q (putR ⟨rt,st.text,(st.kf:Int)+1⟩ L) (st.kf+1))->(F≠0->RAt w0.heap.size W' q L st.kf)->z1O w0 z m q (sayC st (.write rt)).1 W W'):=fun W' hT hy hn'=>HFIN.out w1.drew W' h1 (z3u hb1d) hT hy hn'
 clear HWR HFIN h1 x1d hd1 hb1d;go_upto_region 26 with fail;refine z0f (fun w':World=>w'.cell? ⟨z,0,none⟩=some (.pointer (some ⟨q,0,none⟩))/\w'.cell? ⟨b,1,none⟩=some (.string rt)/\w'.cell? ⟨z,2,none⟩=some (.string st.text)) 12 14 (by kernel_rfl) rfl ?_;generalize w1.drew=W1 at *;refine tW 0 hSS ?_;refine tW 1 hSS ?_;refine tW 2 hSS ?_;refine tW 4 hSS ?_;refine tW 5 hSS ?_;refine tW 7 hSS ?_;refine tW 8 hSS ?_;refine tW 9 hSS ?_;refine tR 3 [11] hSS ?_;refine tR 6 [11] hSS ?_;refine tR 10 [11] hSS ?_;clear hSS;refine oG 11 fun K hK=>?_
 go_wp2_with fail;refine(show Calls _ _ _ _ _ from HWR1).mono ?_;rintro e w6 ⟨rfl,hRy,hRn,hT6⟩;clear HWR1;have hSS6:=HS6.out w6 hT6;have HHX:Hid (z1O w0 z m q (sayC st (.write rt)).1 W w6):=HFIN1.out w6 hT6 hRy hRn;have HD:=z5f F w6 (by omega);clear HS6 HFIN1 hRy hRn hT6;go_wp2;refine hK _ _ hSS6 ?_;clear hK hSS6;refine lG 12 fun K hK=>?_
 go_wp2_with fail;refine(show Calls _ _ _ _ _ from HD).mono ?_;rintro e w7 ⟨⟨t,rfl,ht⟩,hb7⟩;clear HD;have HT:Hid (t.data.toList=(sayC st (.write rt)).2):=ht.trans HA.out.symm;have HH:=HHX.out.later hb7;clear ht HA HHX;go_wp2;refine hK _ _ ?_;clear hK;refine tA 13 ?_;refine z1c (by kernel_rfl) ?_ _;go_wp2;go_ret;exact⟨⟨_,rfl,HT.out⟩,HH⟩
theorem sayRemove_any(w0 W:World)(z m q:Nat)(vl:Value)(V:Nat->EntV)(L:List z0u)(st:CSt)(i:Nat)(line:ByteArray)(wd rs:List UInt8)(h:RSAt w0 W z m q vl V L st)(hlo:RLow w0 z m q)(hw:Well st i)(hi:i<=1000)(hsz:line.size<=60)(hln:line.data.toList=wd++32 :: rs)(hwd:(32:UInt8) ∉ wd)(hk:wd=cRemove)(hrs:(32:UInt8) ∉ rs) :
 Calls Tryz.prog 7 #[.pointer (some ⟨z,0,none⟩),.string line] W fun e W'=>Says e (sayC st (.remove ⟨rs.toArray⟩)).2/\z1O w0 z m q (sayC st (.remove ⟨rs.toArray⟩)).1 W W':=by
 have HW:=z2b line W (by omega);rw[hln,z0N wd rs hwd]at HW;have h60:¬(60:Int)<(line.size:Int):=by omega
 have hL6:=h.len hw;have hkf:st.kf<=1000000:=by have:=hw.few;omega
 have _:=hlo;rw[z1H rs hrs]at HW;have hrz:(⟨rs.toArray⟩:ByteArray).size<=60:=by
  have h1:=congrArg List.length hln;have h2:line.data.toList.length=line.size:=by simp
  have h3:(⟨rs.toArray⟩:ByteArray).size=rs.length:=by show rs.toArray.size=_;simp
  simp only[List.length_append,List.length_cons]at h1;omega
 have hrd:=z1t rs;have hml:(⟨rs.toArray⟩:ByteArray).size<=maxLen:=Nat.le_trans hrz (by decide);obtain⟨n2,hn2⟩:∃n2,[wd,rs].length=n2:=⟨_,rfl⟩;have hn2':n2=2:=hn2.symm;have g1:(1:Int)<(n2:Int):=by omega
 have g2:((n2:Int)==1)=false:=by rw[beq_eq_false_iff_ne];omega
 have g3:¬(2:Int)<(n2:Int):=by omega
 have g4:(0:Int)<(n2:Int):=by omega
 have HW':Calls Tryz.prog 12 #[.string line] W fun e w'=>(∃b cap,e=.returned (.slice (some ⟨b,0,none⟩) n2 cap)/\w'.cell? ⟨b,0,none⟩=some (.string ⟨wd.toArray⟩)/\w'.cell? ⟨b,1,none⟩=some (.string ⟨rs.toArray⟩))/\Below W.heap.size W w':=HW.mono fun e w' ⟨⟨b,cap,he,ho⟩,hb⟩=>⟨⟨b,cap,by rw[he,hn2],z0I ho rfl,z0I ho rfl⟩,hb⟩
 clear HW;have hwt:=z1t wd;have el:((⟨wd.toArray⟩:ByteArray).toList == [108,105,110,101])=false:=z0h (by rw[hwt,hk];decide);have e_write:((⟨wd.toArray⟩:ByteArray).toList == [119,114,105,116,101])=false:=z0h (by rw[hwt,hk];decide);have e_remove:((⟨wd.toArray⟩:ByteArray).toList == [114,101,109,111,118,101])=true:=z0Q (by rw[hwt,hk]);generalize (⟨wd.toArray⟩:ByteArray)=wt at *;obtain⟨F,hF⟩:∃F:Nat,F=if Maps.has st.D (keyB ⟨rs.toArray⟩)=true then 0 else 5:=⟨_,rfl⟩
 have hle:F<=1000:=by rw[hF];split <;> decide
 have hgone:(if (delR ⟨rs.toArray⟩ L).length=L.length then(5:Int)else 0)=((F:Nat):Int):=by
  rw[hF,h.agree.gone hw.inv ⟨rs.toArray⟩];by_cases zz:(delR ⟨rs.toArray⟩ L).length=L.length
  ·rw[if_pos zz,if_pos zz];rfl
  ·rw[if_neg zz,if_neg zz];rfl
 have HWR:=fun V1 (hV:RSAt w0 V1 z m q vl V L st)=>removeR_any w0.heap.size V1 q L st.kf ⟨rs.toArray⟩ hV.files (by omega) hV.below.size
 have HFIN:Hid (∀V1 W',RSAt w0 V1 z m q vl V L st->Only tsSay W V1->Turned q q V1 W'->RAt w0.heap.size W' q (delR ⟨rs.toArray⟩ L) st.kf->z1O w0 z m q (sayC st (.remove ⟨rs.toArray⟩)).1 W W'):=fun V1 W' hV ho hT hy=>⟨⟨vl,V,_,hV.turn hlo hT hy (hV.agree.del _)⟩,ho.trans ((Only.of_turnedQ hT hV.files).widen (by decide))⟩
 have HA:Hid ((sayC st (.remove ⟨rs.toArray⟩)).2=z5z F):=by show _=_;rw[hF];rfl
 generalize (⟨rs.toArray⟩:ByteArray)=rt at *;clear hn2 hn2' hk hwt hln hwd hrs hF;go_enter Tryz.func7,Tryz.ntmps7;go_wp2_with fail;refine(show Calls _ _ _ _ _ from HW').mono ?_;rintro e w1 ⟨⟨b,cap,rfl,x0,x1⟩,hb1⟩;clear HW';have hd1:Below w1.heap.size w1 w1.drew:=(Below.refl _ w1).drew;have hb1d:=hb1.trans (hd1.mono hb1.size);have h1:=h.later hb1d;have x1d:=cell_later hd1 x1;have hSS:(fun w':World=>w'.cell? ⟨z,0,none⟩=some (.pointer (some ⟨q,0,none⟩))/\w'.cell? ⟨b,1,none⟩=some (.string rt)) w1.drew:=⟨h1.c0,x1d⟩;have HWR1:=HWR w1.drew h1;have HS6:Hid (∀V1:World,Turned q q w1.drew V1->(fun w':World=>w'.cell? ⟨z,0,none⟩=some (.pointer (some ⟨q,0,none⟩))/\w'.cell? ⟨b,1,none⟩=some (.string rt)) V1):=fun V1 hV=>by
  have ho:=Only.of_turnedQ hV h1.files;have hb:=ho.block _ _ h1.sess (by simp[z5l,tsRF]);have hbl:b≠q:=fun e=>by
   subst e;obtain⟨vq,hvq,_⟩:=h1.files.blk;have:w1.drew.cell? ⟨b,1,none⟩=some (.int .i64 (st.kf:Int)):=by simp[World.cell?,hvq]
   rw[x1d]at this;cases this
  exact⟨by simp[World.cell?,hb],cell_turned hV x1d hbl hbl⟩
 have HFIN1:Hid (∀W',Turned q q w1.drew W'->RAt w0.heap.size W' q (delR rt L) st.kf->z1O w0 z m q (sayC st (.remove rt)).1 W W'):=fun W' hT hy=>HFIN.out w1.drew W' h1 (z3u hb1d) hT hy
 clear HWR HFIN h1 x1d hd1 hb1d;go_upto_region 28 with fail;refine z0f (fun w':World=>w'.cell? ⟨z,0,none⟩=some (.pointer (some ⟨q,0,none⟩))/\w'.cell? ⟨b,1,none⟩=some (.string rt)) 8 10 (by kernel_rfl) rfl ?_;generalize w1.drew=W1 at *;refine tW 0 hSS ?_;refine tW 1 hSS ?_;refine tW 2 hSS ?_;refine tW 4 hSS ?_;refine tW 5 hSS ?_;refine tR 3 [7] hSS ?_;refine tR 6 [7] hSS ?_;clear hSS;refine oG 7 fun K hK=>?_
 go_wp2_with fail;refine(show Calls _ _ _ _ _ from HWR1).mono ?_;rintro e w6 ⟨he6,hR6,hT6⟩;rw[hgone]at he6;subst he6;clear HWR1;have hSS6:=HS6.out w6 hT6;have HHX:Hid (z1O w0 z m q (sayC st (.remove rt)).1 W w6):=HFIN1.out w6 hT6 hR6;have HD:=z5f F w6 (by omega);clear HS6 HFIN1 hR6 hT6 hgone;go_wp2;refine hK _ _ hSS6 ?_;clear hK hSS6;refine lG 8 fun K hK=>?_
 go_wp2_with fail;refine(show Calls _ _ _ _ _ from HD).mono ?_;rintro e w7 ⟨⟨t,rfl,ht⟩,hb7⟩;clear HD;have HT:Hid (t.data.toList=(sayC st (.remove rt)).2):=ht.trans HA.out.symm;have HH:=HHX.out.later hb7;clear ht HA HHX;go_wp2;refine hK _ _ ?_;clear hK;refine tA 9 ?_;refine z1c (by kernel_rfl) ?_ _;go_wp2;go_ret;exact⟨⟨_,rfl,HT.out⟩,HH⟩
theorem sayStamp_any(w0 W:World)(z m q:Nat)(vl:Value)(V:Nat->EntV)(L:List z0u)(st:CSt)(i:Nat)(line:ByteArray)(wd rs:List UInt8)(h:RSAt w0 W z m q vl V L st)(hlo:RLow w0 z m q)(hw:Well st i)(hi:i<=1000)(hsz:line.size<=60)(hln:line.data.toList=wd++32 :: rs)(hwd:(32:UInt8) ∉ wd)(hk:wd=cStamp)(hrs:(32:UInt8) ∉ rs) :
 Calls Tryz.prog 7 #[.pointer (some ⟨z,0,none⟩),.string line] W fun e W'=>Says e (sayC st (.stamp ⟨rs.toArray⟩)).2/\z1O w0 z m q (sayC st (.stamp ⟨rs.toArray⟩)).1 W W':=by
 have HW:=z2b line W (by omega);rw[hln,z0N wd rs hwd]at HW;have h60:¬(60:Int)<(line.size:Int):=by omega
 have hL6:=h.len hw;have hkf:st.kf<=1000000:=by have:=hw.few;omega
 have _:=hlo;rw[z1H rs hrs]at HW;have hrz:(⟨rs.toArray⟩:ByteArray).size<=60:=by
  have h1:=congrArg List.length hln;have h2:line.data.toList.length=line.size:=by simp
  have h3:(⟨rs.toArray⟩:ByteArray).size=rs.length:=by show rs.toArray.size=_;simp
  simp only[List.length_append,List.length_cons]at h1;omega
 have hrd:=z1t rs;have hml:(⟨rs.toArray⟩:ByteArray).size<=maxLen:=Nat.le_trans hrz (by decide);obtain⟨n2,hn2⟩:∃n2,[wd,rs].length=n2:=⟨_,rfl⟩;have hn2':n2=2:=hn2.symm;have g1:(1:Int)<(n2:Int):=by omega
 have g2:((n2:Int)==1)=false:=by rw[beq_eq_false_iff_ne];omega
 have g3:¬(2:Int)<(n2:Int):=by omega
 have g4:(0:Int)<(n2:Int):=by omega
 have HW':Calls Tryz.prog 12 #[.string line] W fun e w'=>(∃b cap,e=.returned (.slice (some ⟨b,0,none⟩) n2 cap)/\w'.cell? ⟨b,0,none⟩=some (.string ⟨wd.toArray⟩)/\w'.cell? ⟨b,1,none⟩=some (.string ⟨rs.toArray⟩))/\Below W.heap.size W w':=HW.mono fun e w' ⟨⟨b,cap,he,ho⟩,hb⟩=>⟨⟨b,cap,by rw[he,hn2],z0I ho rfl,z0I ho rfl⟩,hb⟩
 clear HW;have hwt:=z1t wd;have el:((⟨wd.toArray⟩:ByteArray).toList == [108,105,110,101])=false:=z0h (by rw[hwt,hk];decide);have e_write:((⟨wd.toArray⟩:ByteArray).toList == [119,114,105,116,101])=false:=z0h (by rw[hwt,hk];decide);have e_remove:((⟨wd.toArray⟩:ByteArray).toList == [114,101,109,111,118,101])=false:=z0h (by rw[hwt,hk];decide);have e_stamp:((⟨wd.toArray⟩:ByteArray).toList == [115,116,97,109,112])=true:=z0Q (by rw[hwt,hk]);generalize (⟨wd.toArray⟩:ByteArray)=wt at *;have HRD:=fun V1 (hV:RSAt w0 V1 z m q vl V L st)=>readR_is w0.heap.size V1 q L st.kf st.D ⟨rs.toArray⟩ hV.files (by omega) hV.agree hw.inv
 have hAns:(sayC st (.stamp ⟨rs.toArray⟩)).2=if Maps.has st.D (keyB ⟨rs.toArray⟩)=true then Lib.itoa (stD st.D ⟨rs.toArray⟩)else z1h 5:=rfl
 have HCS:Hid (∀(t:ByteArray) (nn:Int) (f:Nat),ReadIs st.D ⟨rs.toArray⟩ t nn f->(f=0/\0<=nn/\nn<=1000000/\(sayC st (.stamp ⟨rs.toArray⟩)).2=Lib.itoa nn)∨(f=5/\nn=0/\(sayC st (.stamp ⟨rs.toArray⟩)).2=z1h 5)):=fun t nn f hRI=>by
  cases hh:Maps.has st.D (keyB ⟨rs.toArray⟩)with
  |true=>
   obtain⟨h1,h2⟩:=hRI.yes hh;have h3:=(z6n st.D).is ⟨rs.toArray⟩ _ nn hh h2;have h4:=hw.pos ⟨rs.toArray⟩ _ nn hh h2;obtain⟨t',n',h5,h6⟩:=hw.inv.st (keyB ⟨rs.toArray⟩) hh;have h7:=z4L (h2.symm.trans h5);rw[hh,if_pos rfl,<-h3]at hAns;exact .inl ⟨h1,by omega,by omega,hAns⟩
  |false=>
   obtain⟨h1,_,h3⟩:=hRI.no hh;rw[hh,if_neg (by decide)]at hAns;exact .inr ⟨h1,h3,hAns⟩
 have HHF:Hid (∀V1,Below W.heap.size W V1->z1O w0 z m q (sayC st (.stamp ⟨rs.toArray⟩)).1 W V1):=fun V1 hb1=>⟨⟨vl,V,L,h.later hb1⟩,z3u hb1⟩
 generalize (⟨rs.toArray⟩:ByteArray)=rt at *;clear hn2 hn2' hk hwt hln hwd hrs hAns;go_enter Tryz.func7,Tryz.ntmps7;go_wp2_with fail;refine(show Calls _ _ _ _ _ from HW').mono ?_;rintro e w1 ⟨⟨b,cap,rfl,x0,x1⟩,hb1⟩;clear HW';have hd1:Below w1.heap.size w1 w1.drew:=(Below.refl _ w1).drew;have hb1d:=hb1.trans (hd1.mono hb1.size);have h1:=h.later hb1d;have x1d:=cell_later hd1 x1;have hSS:(fun w':World=>w'.cell? ⟨z,0,none⟩=some (.pointer (some ⟨q,0,none⟩))/\w'.cell? ⟨b,1,none⟩=some (.string rt)) w1.drew:=⟨h1.c0,x1d⟩;have HRD1:=HRD w1.drew h1;clear HRD x1d hd1;go_upto_region 30 with fail;refine z0f (fun w':World=>w'.cell? ⟨z,0,none⟩=some (.pointer (some ⟨q,0,none⟩))/\w'.cell? ⟨b,1,none⟩=some (.string rt)) 7 15 (by kernel_rfl) rfl ?_;generalize w1.drew=W1 at *;refine tW 0 hSS ?_;refine tW 1 hSS ?_;refine tW 2 hSS ?_;refine tW 4 hSS ?_;refine tW 5 hSS ?_;refine tR 3 [] hSS ?_;refine tR 6 [] hSS ?_;clear hSS;refine lG 7 fun K hK=>?_
 go_wp2_with fail;refine(show Calls _ _ _ _ _ from HRD1).mono ?_;rintro e w6 ⟨⟨t,nn,f,rfl,hRI⟩,hb6⟩;clear HRD1;have hcase:=HCS.out t nn f hRI;have hb6':=hb1d.trans (hb6.mono hb1d.size);clear hRI HCS;go_wp2;refine hK _ _ ?_;clear hK;refine tA 8 ?_;refine tA 9 ?_;refine tA 10 ?_;refine tA 11 ?_;refine tA 12 ?_;refine tA 13 ?_;refine tA 14 ?_;refine z1c (by kernel_rfl) ?_ _;rcases hcase with⟨rfl,hn0,hn1,ha⟩|⟨rfl,rfl,ha⟩
 ·have HD:=z0U nn (by omega) (by omega) w6;have hf0:¬(0:Int)<((0:Nat):Int):=by omega
  have HA:Hid ((sayC st (.stamp rt)).2=Lib.itoa nn):=ha;clear ha;go_wp2_with fail;refine(show Calls _ _ _ _ _ from HD).mono ?_;rintro e w7 ⟨⟨t2,rfl,ht⟩,hb7⟩;clear HD;have HT:Hid (t2.data.toList=(sayC st (.stamp rt)).2):=ht.trans HA.out.symm;have HH:=HHF.out w7 (hb6'.trans (hb7.mono hb6'.size));clear ht HA;go_wp2;go_ret;exact⟨⟨_,rfl,HT.out⟩,HH⟩
 ·have HF5:Calls Tryz.prog 11 #[.int .i64 5] w6 fun e w'=>(∃t:ByteArray,e=.returned (.string t)/\t.data.toList=z1h 5)/\Below w6.heap.size w6 w':=z1p 5 w6 (by decide)
  have HA:Hid ((sayC st (.stamp rt)).2=z1h 5):=ha;clear ha;rw[show(((5:Nat):Int))=5 from rfl];go_wp2_with fail;refine(show Calls _ _ _ _ _ from HF5).mono ?_;rintro e w7 ⟨⟨t2,rfl,ht⟩,hb7⟩;clear HF5;have HT:Hid (t2.data.toList=(sayC st (.stamp rt)).2):=ht.trans HA.out.symm;have HH:=HHF.out w7 (hb6'.trans (hb7.mono hb6'.size));clear ht HA;go_wp2;go_ret;exact⟨⟨_,rfl,HT.out⟩,HH⟩
theorem sayBuild_any(w0 W:World)(z m q:Nat)(vl:Value)(V:Nat->EntV)(L:List z0u)(st:CSt)(i:Nat)(line:ByteArray)(wd rs:List UInt8)(h:RSAt w0 W z m q vl V L st)(hlo:RLow w0 z m q)(hw:Well st i)(hi:i<=1000)(hsz:line.size<=60)(hln:line.data.toList=wd++32 :: rs)(hwd:(32:UInt8) ∉ wd)(hk:wd=cBuild)(hrs:(32:UInt8) ∉ rs) :
 Calls Tryz.prog 7 #[.pointer (some ⟨z,0,none⟩),.string line] W fun e W'=>Says e (sayC st (.build ⟨rs.toArray⟩)).2/\z1O w0 z m q (sayC st (.build ⟨rs.toArray⟩)).1 W W':=by
 have HW:=z2b line W (by omega);rw[hln,z0N wd rs hwd]at HW;have h60:¬(60:Int)<(line.size:Int):=by omega
 have hL6:=h.len hw;have hkf:st.kf<=1000000:=by have:=hw.few;omega
 have _:=hlo;rw[z1H rs hrs]at HW;have hrz:(⟨rs.toArray⟩:ByteArray).size<=60:=by
  have h1:=congrArg List.length hln;have h2:line.data.toList.length=line.size:=by simp
  have h3:(⟨rs.toArray⟩:ByteArray).size=rs.length:=by show rs.toArray.size=_;simp
  simp only[List.length_append,List.length_cons]at h1;omega
 have hrd:=z1t rs;have hml:(⟨rs.toArray⟩:ByteArray).size<=maxLen:=Nat.le_trans hrz (by decide);obtain⟨n2,hn2⟩:∃n2,[wd,rs].length=n2:=⟨_,rfl⟩;have hn2':n2=2:=hn2.symm;have g1:(1:Int)<(n2:Int):=by omega
 have g2:((n2:Int)==1)=false:=by rw[beq_eq_false_iff_ne];omega
 have g3:¬(2:Int)<(n2:Int):=by omega
 have g4:(0:Int)<(n2:Int):=by omega
 have HW':Calls Tryz.prog 12 #[.string line] W fun e w'=>(∃b cap,e=.returned (.slice (some ⟨b,0,none⟩) n2 cap)/\w'.cell? ⟨b,0,none⟩=some (.string ⟨wd.toArray⟩)/\w'.cell? ⟨b,1,none⟩=some (.string ⟨rs.toArray⟩))/\Below W.heap.size W w':=HW.mono fun e w' ⟨⟨b,cap,he,ho⟩,hb⟩=>⟨⟨b,cap,by rw[he,hn2],z0I ho rfl,z0I ho rfl⟩,hb⟩
 clear HW;have hwt:=z1t wd;have el:((⟨wd.toArray⟩:ByteArray).toList == [108,105,110,101])=false:=z0h (by rw[hwt,hk];decide);have e_write:((⟨wd.toArray⟩:ByteArray).toList == [119,114,105,116,101])=false:=z0h (by rw[hwt,hk];decide);have e_remove:((⟨wd.toArray⟩:ByteArray).toList == [114,101,109,111,118,101])=false:=z0h (by rw[hwt,hk];decide);have e_stamp:((⟨wd.toArray⟩:ByteArray).toList == [115,116,97,109,112])=false:=z0h (by rw[hwt,hk];decide);have e_build:((⟨wd.toArray⟩:ByteArray).toList == [98,117,105,108,100])=true:=z0Q (by rw[hwt,hk]);generalize (⟨wd.toArray⟩:ByteArray)=wt at *;have HBU:=fun V1 (hV:RSAt w0 V1 z m q vl V L st)=>refBuild_any w0.heap.size w0.heap.size w0.heap.size V1 m q vl st.k V st.E L st.kf st.D (txD st.D) (stD st.D) ⟨rs.toArray⟩ hV.shelf (Nat.le_refl _) hlo.shelf hV.files (by omega) hV.agree hw.inv hw.names hw.pos hkf (txD_is _) (z6n _)
 have HFIN:Hid (∀V1 W' (F:Nat) (r:(Nat->EntF)×Nat),RSAt w0 V1 z m q vl V L st->Only tsSay W V1->RBuilt st.E st.k (rdC st) (stD st.D) ⟨rs.toArray⟩ F r->(∃vl' V',z1R W' w0.heap.size w0.heap.size m vl' r.2 V' r.1)->V1.grownBy W' (some m)->z1O w0 z m q (sayC st (.build ⟨rs.toArray⟩)).1 W W'/\(sayC st (.build ⟨rs.toArray⟩)).2=z5z F/\F<=1000):=fun V1 W' F r hV ho hRB ⟨vl',V',hS⟩ hG=>by
  have hbc:=builtC_is (st:=st) hRB;have hle:=rBuilt_le hRB;have hs1:(sayC st (.build ⟨rs.toArray⟩)).1={st with E:=(builtC st ⟨rs.toArray⟩).2.1,k:=(builtC st ⟨rs.toArray⟩).2.2}:=rfl;have hs2:(sayC st (.build ⟨rs.toArray⟩)).2=z5z (builtC st ⟨rs.toArray⟩).1:=rfl;rw[hbc]at hs1 hs2;refine⟨?_,hs2,by omega⟩;rw[hs1];exact⟨⟨vl',V',L,hV.grow hlo hG hS⟩,ho.trans ((Only.of_grown hG hV.shelf).widen (by decide))⟩
 generalize (⟨rs.toArray⟩:ByteArray)=rt at *;clear hn2 hn2' hk hwt hln hwd hrs;go_enter Tryz.func7,Tryz.ntmps7;go_wp2_with fail;refine(show Calls _ _ _ _ _ from HW').mono ?_;rintro e w1 ⟨⟨b,cap,rfl,x0,x1⟩,hb1⟩;clear HW';have hd1:Below w1.heap.size w1 w1.drew:=(Below.refl _ w1).drew;have hb1d:=hb1.trans (hd1.mono hb1.size);have h1:=h.later hb1d;have x1d:=cell_later hd1 x1;have hSS:(fun w':World=>w'.cell? ⟨z,1,none⟩=some (.pointer (some ⟨m,0,none⟩))/\w'.cell? ⟨z,0,none⟩=some (.pointer (some ⟨q,0,none⟩))/\w'.cell? ⟨b,1,none⟩=some (.string rt)) w1.drew:=⟨h1.c1,h1.c0,x1d⟩;have HBU1:=HBU w1.drew h1;have HS6:Hid (∀V1:World,w1.drew.grownBy V1 (some m)->(fun w':World=>w'.cell? ⟨z,1,none⟩=some (.pointer (some ⟨m,0,none⟩))/\w'.cell? ⟨z,0,none⟩=some (.pointer (some ⟨q,0,none⟩))/\w'.cell? ⟨b,1,none⟩=some (.string rt)) V1):=fun V1 hV=>by
  have hb:=(Only.of_grown hV h1.shelf).block _ _ h1.sess (by simp[z5l,tsRS]);have hbl:b≠m:=fun e=>by
   subst e;have:w1.drew.cell? ⟨b,1,none⟩=none:=by simp[World.cell?,h1.shelf.blk]
   rw[x1d]at this;cases this
  exact⟨by simp[World.cell?,hb],by simp[World.cell?,hb],hV.cell x1d (fun e=>hbl (by injection e))⟩
 have HFIN1:Hid (∀W' (F:Nat) (r:(Nat->EntF)×Nat),RBuilt st.E st.k (rdC st) (stD st.D) rt F r->(∃vl' V',z1R W' w0.heap.size w0.heap.size m vl' r.2 V' r.1)->w1.drew.grownBy W' (some m)->z1O w0 z m q (sayC st (.build rt)).1 W W'/\(sayC st (.build rt)).2=z5z F/\F<=1000):=fun W' F r a1 a2 a3=>HFIN.out w1.drew W' F r h1 (z3u hb1d) a1 a2 a3
 clear HBU HFIN h1 x1d hd1 hb1d;go_upto_region 35 with fail;refine z0f (fun w':World=>w'.cell? ⟨z,1,none⟩=some (.pointer (some ⟨m,0,none⟩))/\w'.cell? ⟨z,0,none⟩=some (.pointer (some ⟨q,0,none⟩))/\w'.cell? ⟨b,1,none⟩=some (.string rt)) 12 14 (by kernel_rfl) rfl ?_;generalize w1.drew=W1 at *;refine tW 0 hSS ?_;refine tW 1 hSS ?_;refine tW 2 hSS ?_;refine tW 4 hSS ?_;refine tW 5 hSS ?_;refine tW 6 hSS ?_;refine tW 8 hSS ?_;refine tW 9 hSS ?_;refine tR 3 [11] hSS ?_;refine tR 7 [11] hSS ?_;refine tR 10 [11] hSS ?_;clear hSS;refine oG 11 fun K hK=>?_
 go_wp2_with fail;refine(show Calls _ _ _ _ _ from HBU1).mono ?_;rintro e w6 ⟨F,r,rfl,hRB,hRS,hG6⟩;clear HBU1;have hSS6:=HS6.out w6 hG6;obtain⟨hdn,hans,hle⟩:=HFIN1.out w6 F r hRB hRS hG6;have HHX:Hid (z1O w0 z m q (sayC st (.build rt)).1 W w6):=hdn;have HA:Hid ((sayC st (.build rt)).2=z5z F):=hans;have HD:=z5f F w6 hle;clear HS6 HFIN1 hRB hRS hG6 hdn hans;go_wp2;refine hK _ _ hSS6 ?_;clear hK hSS6;refine lG 12 fun K hK=>?_
 go_wp2_with fail;refine(show Calls _ _ _ _ _ from HD).mono ?_;rintro e w7 ⟨⟨t,rfl,ht⟩,hb7⟩;clear HD;have HT:Hid (t.data.toList=(sayC st (.build rt)).2):=ht.trans HA.out.symm;have HH:=HHX.out.later hb7;clear ht HA HHX;go_wp2;refine hK _ _ ?_;clear hK;refine tA 13 ?_;refine z1c (by kernel_rfl) ?_ _;go_wp2;go_ret;exact⟨⟨_,rfl,HT.out⟩,HH⟩
theorem sayDrop_any(w0 W:World)(z m q:Nat)(vl:Value)(V:Nat->EntV)(L:List z0u)(st:CSt)(i:Nat)(line:ByteArray)(wd rs:List UInt8)(h:RSAt w0 W z m q vl V L st)(hlo:RLow w0 z m q)(hw:Well st i)(hi:i<=1000)(hsz:line.size<=60)(hln:line.data.toList=wd++32 :: rs)(hwd:(32:UInt8) ∉ wd)(hk:wd=cDrop)(hrs:(32:UInt8) ∉ rs) :
 Calls Tryz.prog 7 #[.pointer (some ⟨z,0,none⟩),.string line] W fun e W'=>Says e (sayC st (.drop ⟨rs.toArray⟩)).2/\z1O w0 z m q (sayC st (.drop ⟨rs.toArray⟩)).1 W W':=by
 have HW:=z2b line W (by omega);rw[hln,z0N wd rs hwd]at HW;have h60:¬(60:Int)<(line.size:Int):=by omega
 have hL6:=h.len hw;have hkf:st.kf<=1000000:=by have:=hw.few;omega
 have _:=hlo;rw[z1H rs hrs]at HW;have hrz:(⟨rs.toArray⟩:ByteArray).size<=60:=by
  have h1:=congrArg List.length hln;have h2:line.data.toList.length=line.size:=by simp
  have h3:(⟨rs.toArray⟩:ByteArray).size=rs.length:=by show rs.toArray.size=_;simp
  simp only[List.length_append,List.length_cons]at h1;omega
 have hrd:=z1t rs;have hml:(⟨rs.toArray⟩:ByteArray).size<=maxLen:=Nat.le_trans hrz (by decide);obtain⟨n2,hn2⟩:∃n2,[wd,rs].length=n2:=⟨_,rfl⟩;have hn2':n2=2:=hn2.symm;have g1:(1:Int)<(n2:Int):=by omega
 have g2:((n2:Int)==1)=false:=by rw[beq_eq_false_iff_ne];omega
 have g3:¬(2:Int)<(n2:Int):=by omega
 have g4:(0:Int)<(n2:Int):=by omega
 have HW':Calls Tryz.prog 12 #[.string line] W fun e w'=>(∃b cap,e=.returned (.slice (some ⟨b,0,none⟩) n2 cap)/\w'.cell? ⟨b,0,none⟩=some (.string ⟨wd.toArray⟩)/\w'.cell? ⟨b,1,none⟩=some (.string ⟨rs.toArray⟩))/\Below W.heap.size W w':=HW.mono fun e w' ⟨⟨b,cap,he,ho⟩,hb⟩=>⟨⟨b,cap,by rw[he,hn2],z0I ho rfl,z0I ho rfl⟩,hb⟩
 clear HW;have hwt:=z1t wd;have el:((⟨wd.toArray⟩:ByteArray).toList == [108,105,110,101])=false:=z0h (by rw[hwt,hk];decide);have e_write:((⟨wd.toArray⟩:ByteArray).toList == [119,114,105,116,101])=false:=z0h (by rw[hwt,hk];decide);have e_remove:((⟨wd.toArray⟩:ByteArray).toList == [114,101,109,111,118,101])=false:=z0h (by rw[hwt,hk];decide);have e_stamp:((⟨wd.toArray⟩:ByteArray).toList == [115,116,97,109,112])=false:=z0h (by rw[hwt,hk];decide);have e_build:((⟨wd.toArray⟩:ByteArray).toList == [98,117,105,108,100])=false:=z0h (by rw[hwt,hk];decide);have e_drop:((⟨wd.toArray⟩:ByteArray).toList == [100,114,111,112])=true:=z0Q (by rw[hwt,hk]);generalize (⟨wd.toArray⟩:ByteArray)=wt at *;have HBU:=fun V1 (hV:RSAt w0 V1 z m q vl V L st)=>refDrop_any V1 w0.heap.size w0.heap.size m st.k vl V st.E ⟨rs.toArray⟩ hV.shelf (Nat.le_refl _) hlo.shelf
 have hle:=dropE_le st.E st.k ⟨rs.toArray⟩;have HFIN:Hid (∀V1 W',RSAt w0 V1 z m q vl V L st->Only tsSay W V1->(∃vl' V',z1R W' w0.heap.size w0.heap.size m vl' (z2F st.E st.k ⟨rs.toArray⟩).2.2 V' (z2F st.E st.k ⟨rs.toArray⟩).2.1)->V1.grownBy W' (some m)->z1O w0 z m q (sayC st (.drop ⟨rs.toArray⟩)).1 W W'):=fun V1 W' hV ho ⟨vl',V',hS⟩ hG=>
  ⟨⟨vl',V',L,hV.grow hlo hG hS⟩,ho.trans ((Only.of_grown hG hV.shelf).widen (by decide))⟩
 have HA:Hid ((sayC st (.drop ⟨rs.toArray⟩)).2=z5z (z2F st.E st.k ⟨rs.toArray⟩).1):=rfl;generalize (⟨rs.toArray⟩:ByteArray)=rt at *;clear hn2 hn2' hk hwt hln hwd hrs;go_enter Tryz.func7,Tryz.ntmps7;go_wp2_with fail;refine(show Calls _ _ _ _ _ from HW').mono ?_;rintro e w1 ⟨⟨b,cap,rfl,x0,x1⟩,hb1⟩;clear HW';have hd1:Below w1.heap.size w1 w1.drew:=(Below.refl _ w1).drew;have hb1d:=hb1.trans (hd1.mono hb1.size);have h1:=h.later hb1d;have x1d:=cell_later hd1 x1;have hSS:(fun w':World=>w'.cell? ⟨z,1,none⟩=some (.pointer (some ⟨m,0,none⟩))/\w'.cell? ⟨b,1,none⟩=some (.string rt)) w1.drew:=⟨h1.c1,x1d⟩;have HBU1:=HBU w1.drew h1;have HS6:Hid (∀V1:World,w1.drew.grownBy V1 (some m)->(fun w':World=>w'.cell? ⟨z,1,none⟩=some (.pointer (some ⟨m,0,none⟩))/\w'.cell? ⟨b,1,none⟩=some (.string rt)) V1):=fun V1 hV=>by
  have hb:=(Only.of_grown hV h1.shelf).block _ _ h1.sess (by simp[z5l,tsRS]);have hbl:b≠m:=fun e=>by
   subst e;have:w1.drew.cell? ⟨b,1,none⟩=none:=by simp[World.cell?,h1.shelf.blk]
   rw[x1d]at this;cases this
  exact⟨by simp[World.cell?,hb],hV.cell x1d (fun e=>hbl (by injection e))⟩
 have HFIN1:Hid (∀W',(∃vl' V',z1R W' w0.heap.size w0.heap.size m vl' (z2F st.E st.k rt).2.2 V' (z2F st.E st.k rt).2.1)->w1.drew.grownBy W' (some m)->z1O w0 z m q (sayC st (.drop rt)).1 W W'):=fun W' a1 a2=>HFIN.out w1.drew W' h1 (z3u hb1d) a1 a2
 clear HBU HFIN h1 x1d hd1 hb1d;go_upto_region 37 with fail;refine z0f (fun w':World=>w'.cell? ⟨z,1,none⟩=some (.pointer (some ⟨m,0,none⟩))/\w'.cell? ⟨b,1,none⟩=some (.string rt)) 8 10 (by kernel_rfl) rfl ?_;generalize w1.drew=W1 at *;refine tW 0 hSS ?_;refine tW 1 hSS ?_;refine tW 2 hSS ?_;refine tW 4 hSS ?_;refine tW 5 hSS ?_;refine tR 3 [7] hSS ?_;refine tR 6 [7] hSS ?_;clear hSS;refine oG 7 fun K hK=>?_
 go_wp2_with fail;refine(show Calls _ _ _ _ _ from HBU1).mono ?_;rintro e w6 ⟨rfl,hRS,hG6⟩;clear HBU1;have hSS6:=HS6.out w6 hG6;have HHX:Hid (z1O w0 z m q (sayC st (.drop rt)).1 W w6):=HFIN1.out w6 hRS hG6;have HD:=z5f (z2F st.E st.k rt).1 w6 (by omega);clear HS6 HFIN1 hRS hG6;generalize (z2F st.E st.k rt).1=F at *;go_wp2;refine hK _ _ hSS6 ?_;clear hK hSS6;refine lG 8 fun K hK=>?_
 go_wp2_with fail;refine(show Calls _ _ _ _ _ from HD).mono ?_;rintro e w7 ⟨⟨t,rfl,ht⟩,hb7⟩;clear HD;have HT:Hid (t.data.toList=(sayC st (.drop rt)).2):=ht.trans HA.out.symm;have HH:=HHX.out.later hb7;clear ht HA HHX;go_wp2;refine hK _ _ ?_;clear hK;refine tA 9 ?_;refine z1c (by kernel_rfl) ?_ _;go_wp2;go_ret;exact⟨⟨_,rfl,HT.out⟩,HH⟩
theorem sayLoad_any(w0 W:World)(z m q:Nat)(vl:Value)(V:Nat->EntV)(L:List z0u)(st:CSt)(i:Nat)(line:ByteArray)(wd rs:List UInt8)(h:RSAt w0 W z m q vl V L st)(hlo:RLow w0 z m q)(hw:Well st i)(hi:i<=1000)(hsz:line.size<=60)(hln:line.data.toList=wd++32 :: rs)(hwd:(32:UInt8) ∉ wd)(hk:wd=cLoad)(hrs:(32:UInt8) ∉ rs) :
 Calls Tryz.prog 7 #[.pointer (some ⟨z,0,none⟩),.string line] W fun e W'=>Says e (sayC st (.load ⟨rs.toArray⟩)).2/\z1O w0 z m q (sayC st (.load ⟨rs.toArray⟩)).1 W W':=by
 have HW:=z2b line W (by omega);rw[hln,z0N wd rs hwd]at HW;have h60:¬(60:Int)<(line.size:Int):=by omega
 have hL6:=h.len hw;have hkf:st.kf<=1000000:=by have:=hw.few;omega
 have _:=hlo;rw[z1H rs hrs]at HW;have hrz:(⟨rs.toArray⟩:ByteArray).size<=60:=by
  have h1:=congrArg List.length hln;have h2:line.data.toList.length=line.size:=by simp
  have h3:(⟨rs.toArray⟩:ByteArray).size=rs.length:=by show rs.toArray.size=_;simp
  simp only[List.length_append,List.length_cons]at h1;omega
 have hrd:=z1t rs;have hml:(⟨rs.toArray⟩:ByteArray).size<=maxLen:=Nat.le_trans hrz (by decide);obtain⟨n2,hn2⟩:∃n2,[wd,rs].length=n2:=⟨_,rfl⟩;have hn2':n2=2:=hn2.symm;have g1:(1:Int)<(n2:Int):=by omega
 have g2:((n2:Int)==1)=false:=by rw[beq_eq_false_iff_ne];omega
 have g3:¬(2:Int)<(n2:Int):=by omega
 have g4:(0:Int)<(n2:Int):=by omega
 have HW':Calls Tryz.prog 12 #[.string line] W fun e w'=>(∃b cap,e=.returned (.slice (some ⟨b,0,none⟩) n2 cap)/\w'.cell? ⟨b,0,none⟩=some (.string ⟨wd.toArray⟩)/\w'.cell? ⟨b,1,none⟩=some (.string ⟨rs.toArray⟩))/\Below W.heap.size W w':=HW.mono fun e w' ⟨⟨b,cap,he,ho⟩,hb⟩=>⟨⟨b,cap,by rw[he,hn2],z0I ho rfl,z0I ho rfl⟩,hb⟩
 clear HW;have hwt:=z1t wd;have el:((⟨wd.toArray⟩:ByteArray).toList == [108,105,110,101])=false:=z0h (by rw[hwt,hk];decide);have e_write:((⟨wd.toArray⟩:ByteArray).toList == [119,114,105,116,101])=false:=z0h (by rw[hwt,hk];decide);have e_remove:((⟨wd.toArray⟩:ByteArray).toList == [114,101,109,111,118,101])=false:=z0h (by rw[hwt,hk];decide);have e_stamp:((⟨wd.toArray⟩:ByteArray).toList == [115,116,97,109,112])=false:=z0h (by rw[hwt,hk];decide);have e_build:((⟨wd.toArray⟩:ByteArray).toList == [98,117,105,108,100])=false:=z0h (by rw[hwt,hk];decide);have e_drop:((⟨wd.toArray⟩:ByteArray).toList == [100,114,111,112])=false:=z0h (by rw[hwt,hk];decide);have e_load:((⟨wd.toArray⟩:ByteArray).toList == [108,111,97,100])=true:=z0Q (by rw[hwt,hk]);generalize (⟨wd.toArray⟩:ByteArray)=wt at *;have HLD:=fun V1 (hV:RSAt w0 V1 z m q vl V L st)=>refLoad_any w0.heap.size w0.heap.size w0.heap.size V1 m q vl st.k V st.E L st.kf st.D (txD st.D) (stD st.D) ⟨rs.toArray⟩ hV.shelf hV.below.size hV.files (by omega) hV.agree hw.inv (txD_is _) (z6n _) (getE_fewC ⟨rs.toArray⟩ hw.good).1
 have hAns:(sayC st (.load ⟨rs.toArray⟩)).2=if (loadC (rdC st) ⟨rs.toArray⟩).1=0 then(if keptC st ⟨rs.toArray⟩=true then keptT else newT)++(loadC (rdC st) ⟨rs.toArray⟩).2 else z1h (loadC (rdC st) ⟨rs.toArray⟩).1:=rfl
 have HAN:Hid ((sayC st (.load ⟨rs.toArray⟩)).2=if (loadC (rdC st) ⟨rs.toArray⟩).1=0 then(if keptC st ⟨rs.toArray⟩=true then keptT else newT)++(loadC (rdC st) ⟨rs.toArray⟩).2 else z1h (loadC (rdC st) ⟨rs.toArray⟩).1):=hAns;have HHF:Hid (∀V1,Below W.heap.size W V1->z1O w0 z m q (sayC st (.load ⟨rs.toArray⟩)).1 W V1):=fun V1 hb1=>⟨⟨vl,V,L,h.later hb1⟩,z3u hb1⟩
 generalize (⟨rs.toArray⟩:ByteArray)=rt at *;clear hn2 hn2' hk hwt hln hwd hrs hAns;go_enter Tryz.func7,Tryz.ntmps7;go_wp2_with fail;refine(show Calls _ _ _ _ _ from HW').mono ?_;rintro e w1 ⟨⟨b,cap,rfl,x0,x1⟩,hb1⟩;clear HW';have hd1:Below w1.heap.size w1 w1.drew:=(Below.refl _ w1).drew;have hb1d:=hb1.trans (hd1.mono hb1.size);have h1:=h.later hb1d;have x1d:=cell_later hd1 x1;have hSS:(fun w':World=>w'.cell? ⟨z,1,none⟩=some (.pointer (some ⟨m,0,none⟩))/\w'.cell? ⟨z,0,none⟩=some (.pointer (some ⟨q,0,none⟩))/\w'.cell? ⟨b,1,none⟩=some (.string rt)) w1.drew:=⟨h1.c1,h1.c0,x1d⟩;have HLD1:=HLD w1.drew h1;have hfl:((getE st.E st.k rt).1&&(!z0R st.D (stD st.D) (getE st.E st.k rt).2.pName (getE st.E st.k rt).2.pStamp (getE st.E st.k rt).2.nP&&decide (0<(getE st.E st.k rt).2.nP)))=keptC st rt:=rfl;rw[hfl]at HLD1;obtain⟨fl,hkc⟩:∃fl,keptC st rt=fl:=⟨_,rfl⟩;rw[hkc]at HLD1;have HKC:Hid (keptC st rt=fl):=hkc;clear HLD x1d hd1 hfl hkc;go_upto_region 39 with fail;refine z0f (fun w':World=>w'.cell? ⟨z,1,none⟩=some (.pointer (some ⟨m,0,none⟩))/\w'.cell? ⟨z,0,none⟩=some (.pointer (some ⟨q,0,none⟩))/\w'.cell? ⟨b,1,none⟩=some (.string rt)) 11 19 (by kernel_rfl) rfl ?_;generalize w1.drew=W1 at *;refine tW 0 hSS ?_;refine tW 1 hSS ?_;refine tW 2 hSS ?_;refine tW 4 hSS ?_;refine tW 5 hSS ?_;refine tW 6 hSS ?_;refine tW 8 hSS ?_;refine tW 9 hSS ?_;refine tR 3 [] hSS ?_;refine tR 7 [] hSS ?_;refine tR 10 [] hSS ?_;clear hSS;refine lG 11 fun K hK=>?_
 go_wp2_with fail;refine(show Calls _ _ _ _ _ from HLD1).mono ?_;rintro e w6 ⟨⟨u,v2,F,B1,rfl,hRL⟩,hb6⟩;clear HLD1;have hb6':=hb1d.trans (hb6.mono hb1d.size);go_wp2;refine hK _ _ ?_;clear hK;refine tA 12 ?_;refine tA 13 ?_;refine tA 14 ?_;refine tA 15 ?_;refine tA 16 ?_;refine tA 17 ?_;refine tA 18 ?_;refine z1c (by kernel_rfl) ?_ _;rcases rload_what hRL with⟨hF,rfl,hRk⟩|⟨rfl,mm,Bs,P,Q,A,C,hRk,hRP⟩
 ·have hle:=reckIs_le hRk;have HA:Hid ((sayC st (.load rt)).2=z1h F):=by
   show(sayC st (.load rt)).2=_;rw[HAN.out,loadC_bad hRk hF,if_neg hF]
  have HFF:=z1p F w6 (by omega);have hpos:(0:Int)<(F:Int):=by omega
  clear hRL hRk HAN hF;go_wp2_with fail;refine(show Calls _ _ _ _ _ from HFF).mono ?_;rintro e w7 ⟨⟨t,rfl,ht⟩,hb7⟩;clear HFF;have HT:Hid (t.data.toList=(sayC st (.load rt)).2):=ht.trans HA.out.symm;have HH:=HHF.out w7 (hb6'.trans (hb7.mono hb6'.size));clear ht HA;go_wp2;go_ret;exact⟨⟨_,rfl,HT.out⟩,HH⟩
 ·obtain⟨hok,hm⟩:=tell_ok hw.inv hw.names hw.pos (z6n st.D) hkf hRk;obtain⟨au,cu,rfl,_,hrow⟩:=hRP.rows;have HPT:=partsText_any au mm cu (nmAt (rdC st) rt) Bs A _ C _ w6 hrow hok hm;generalize hjt:Lib.join (z1P (nmAt (rdC st) rt) Bs (z4m (rdC st) rt mm Bs P Q) (fun i=>(obAt (rdC st) rt i).nW) mm) [59,32]=jt at *;have hjl:jt.length<=6012:=by rw[<-hjt];exact parts_join hok (Nat.le_refl _)
  have HAJ:Hid ((sayC st (.load rt)).2=(if fl=true then keptT else newT)++jt):=by
   show(sayC st (.load rt)).2=_;rw[HAN.out,loadC_ok hRk,if_pos rfl,HKC.out,hjt]
  have hF0:¬(0:Int)<((0:Nat):Int):=by omega
  clear hRL hRk HAN hRP hrow hok hjt HKC;cases fl with
  |true=>
   have HAN2:Hid ((sayC st (.load rt)).2=keptT++jt):=HAJ.out;clear HAJ;go_wp2_with fail;refine(show Calls _ _ _ _ _ from HPT).mono ?_;rintro e w7 ⟨⟨t,rfl,ht⟩,hb7⟩;clear HPT;have hts:t.size<=6012:=by rw[z1W ht];exact hjl
   have HT:Hid (((⟨#[107,101,112,116,32]⟩:ByteArray)++t).data.toList=(sayC st (.load rt)).2):=by
    show((⟨#[107,101,112,116,32]⟩:ByteArray)++t).data.toList=_;rw[HAN2.out,<-ht];simp
   have HH:=HHF.out w7 (hb6'.trans (hb7.mono hb6'.size));clear ht HAN2;go_wp2;go_ret;exact⟨⟨_,rfl,HT.out⟩,HH⟩
  |false=>
   have HAN2:Hid ((sayC st (.load rt)).2=newT++jt):=HAJ.out;clear HAJ;go_wp2_with fail;refine(show Calls _ _ _ _ _ from HPT).mono ?_;rintro e w7 ⟨⟨t,rfl,ht⟩,hb7⟩;clear HPT;have hts:t.size<=6012:=by rw[z1W ht];exact hjl
   have HT:Hid (((⟨#[110,101,119,32]⟩:ByteArray)++t).data.toList=(sayC st (.load rt)).2):=by
    show((⟨#[110,101,119,32]⟩:ByteArray)++t).data.toList=_;rw[HAN2.out,<-ht];simp
   have HH:=HHF.out w7 (hb6'.trans (hb7.mono hb6'.size));clear ht HAN2;go_wp2;go_ret;exact⟨⟨_,rfl,HT.out⟩,HH⟩
end Go.Proofs.YtbcpcbonlhlhpaaGreatDoor
