/- What Say of the document answers to a line of two words -/
import Derived.Test.YtbcpcbonlhlhpaaGreatDoorRefSayTwo
set_option maxRecDepth 100000
set_option maxHeartbeats 8000000
namespace Go.Proofs.YtbcpcbonlhlhpaaGreatDoor
section
open Go.RowKit Go.Maps
theorem wrap64_small(x:Nat)(h:x<9223372036854775808):wrap64 (x:Int)=(x:Int):=by unfold wrap64;omega
theorem entBoxC_put{W:World}{b:Nat}{x y z:Value}(h:W.heap[b]?=some (.cells #[x,y,z] 71 (0,0)))(x' y' z':Value) :
 (((W.setCell ⟨b,0,none⟩ x').setCell ⟨b,1,none⟩ y').setCell ⟨b,2,none⟩ z').heap[b]?=some (.cells #[x',y',z'] 71 (0,0)):=by
 have h0:=heap_setCell W b 0 _ _ x' h;have h1:=heap_setCell _ b 1 _ _ y' h0;exact heap_setCell _ b 2 _ _ z' h1
theorem sayEntry_any(w0 W:World)(z m q:Nat)(vl:Value)(V:Nat->EntV)(L:List z0u)(st:CSt)(i:Nat)(line:ByteArray)(wd rs:List UInt8)(h:RSAt w0 W z m q vl V L st)(hlo:RLow w0 z m q)(hw:Well st i)(hi:i<=1000)(hsz:line.size<=60)(hln:line.data.toList=wd++32 :: rs)(hwd:(32:UInt8) ∉ wd)(hk:wd=cEntry)(hrs:(32:UInt8) ∉ rs) :
 Calls Tryz.prog 7 #[.pointer (some ⟨z,0,none⟩),.string line] W fun e W'=>Says e (sayC st (.entry ⟨rs.toArray⟩)).2/\z1O w0 z m q (sayC st (.entry ⟨rs.toArray⟩)).1 W W':=by
 have HW:=z2b line W (by omega);rw[hln,z0N wd rs hwd]at HW;have h60:¬(60:Int)<(line.size:Int):=by omega
 have hL6:=h.len hw;have hkf:st.kf<=1000000:=by have:=hw.few;omega
 have _:=hlo;rw[z1H rs hrs]at HW;have hrz:(⟨rs.toArray⟩:ByteArray).size<=60:=by
  have h1:=congrArg List.length hln;have h2:line.data.toList.length=line.size:=by simp
  have h3:(⟨rs.toArray⟩:ByteArray).size=rs.length:=by show rs.toArray.size=_;simp
  simp only[List.length_append,List.length_cons]at h1;omega
 have hrd:=z1t rs;have hml:(⟨rs.toArray⟩:ByteArray).size<=maxLen:=Nat.le_trans hrz (by decide);obtain⟨n2,hn2⟩:∃n2,[wd,rs].length=n2:=⟨_,rfl⟩;have hn2':n2=2:=hn2.symm;have g1:(1:Int)<(n2:Int):=by omega
 have g2:((n2:Int)==1)=false:=by rw[beq_eq_false_iff_ne];omega
 have g3:¬(2:Int)<(n2:Int):=by omega
 have g4:(0:Int)<(n2:Int):=by omega
 have HW':Calls Tryz.prog 12 #[.string line] W fun e w'=>(∃b cap,e=.returned (.slice (some ⟨b,0,none⟩) n2 cap)/\w'.cell? ⟨b,0,none⟩=some (.string ⟨wd.toArray⟩)/\w'.cell? ⟨b,1,none⟩=some (.string ⟨rs.toArray⟩))/\Below W.heap.size W w':=HW.mono fun e w' ⟨⟨b,cap,he,ho⟩,hb⟩=>⟨⟨b,cap,by rw[he,hn2],z0I ho rfl,z0I ho rfl⟩,hb⟩
 clear HW;have hwt:=z1t wd;have el:((⟨wd.toArray⟩:ByteArray).toList == [108,105,110,101])=false:=z0h (by rw[hwt,hk];decide);have e_write:((⟨wd.toArray⟩:ByteArray).toList == [119,114,105,116,101])=false:=z0h (by rw[hwt,hk];decide);have e_remove:((⟨wd.toArray⟩:ByteArray).toList == [114,101,109,111,118,101])=false:=z0h (by rw[hwt,hk];decide);have e_stamp:((⟨wd.toArray⟩:ByteArray).toList == [115,116,97,109,112])=false:=z0h (by rw[hwt,hk];decide);have e_build:((⟨wd.toArray⟩:ByteArray).toList == [98,117,105,108,100])=false:=z0h (by rw[hwt,hk];decide);have e_drop:((⟨wd.toArray⟩:ByteArray).toList == [100,114,111,112])=false:=z0h (by rw[hwt,hk];decide);have e_load:((⟨wd.toArray⟩:ByteArray).toList == [108,111,97,100])=false:=z0h (by rw[hwt,hk];decide);have e_entry:((⟨wd.toArray⟩:ByteArray).toList == [101,110,116,114,121])=true:=z0Q (by rw[hwt,hk]);generalize (⟨wd.toArray⟩:ByteArray)=wt at *;have HGT:=fun V1 (hV:RSAt w0 V1 z m q vl V L st)=>refGet_any V1 w0.heap.size w0.heap.size m st.k vl V st.E ⟨rs.toArray⟩ hV.shelf hV.below.size
 have HAN:Hid ((sayC st (.entry ⟨rs.toArray⟩)).2=if (getE st.E st.k ⟨rs.toArray⟩).1=true then(z0D (getE st.E st.k ⟨rs.toArray⟩).2).dropLast else z1h 5):=rfl;have HGD:Hid ((getE st.E st.k ⟨rs.toArray⟩).1=true->entF (getE st.E st.k ⟨rs.toArray⟩).2=0):=(getE_fewC ⟨rs.toArray⟩ hw.good).2;have HHF:Hid (∀V1,Below W.heap.size W V1->z1O w0 z m q (sayC st (.entry ⟨rs.toArray⟩)).1 W V1):=fun V1 hb1=>⟨⟨vl,V,L,h.later hb1⟩,z3u hb1⟩
 generalize getE st.E st.k ⟨rs.toArray⟩=r at *;obtain⟨rb,re⟩:=r;dsimp only at *;generalize (⟨rs.toArray⟩:ByteArray)=rt at *;clear hn2 hn2' hk hwt hln hwd hrs;go_enter Tryz.func7,Tryz.ntmps7;go_wp2_with fail;refine(show Calls _ _ _ _ _ from HW').mono ?_;rintro e w1 ⟨⟨b,cap,rfl,x0,x1⟩,hb1⟩;clear HW';have hd1:Below w1.heap.size w1 w1.drew:=(Below.refl _ w1).drew;have hb1d:=hb1.trans (hd1.mono hb1.size);have h1:=h.later hb1d;have x1d:=cell_later hd1 x1;have mkS:∀V1:World,Below w1.drew.heap.size w1.drew V1->(fun w':World=>w'.cell? ⟨z,1,none⟩=some (.pointer (some ⟨m,0,none⟩))/\w'.cell? ⟨b,1,none⟩=some (.string rt)) V1:=fun V1 hV=>⟨cell_later hV h1.c1,cell_later hV x1d⟩
 have hSS:=mkS _ (Below.refl _ _);go_upto_region 46 with fail;refine z0f (fun w':World=>w'.cell? ⟨z,1,none⟩=some (.pointer (some ⟨m,0,none⟩))/\w'.cell? ⟨b,1,none⟩=some (.string rt)) 12 14 (by kernel_rfl) rfl ?_;generalize w1.drew=W1 at *;refine tW 0 hSS ?_;refine tW 1 hSS ?_;refine tW 2 hSS ?_;refine tW 4 hSS ?_;refine tW 5 hSS ?_;refine tR 3 [] hSS ?_;refine tR 6 [] hSS ?_;clear hSS;refine z4Q [7,11] (by kernel_rfl) (by simp) (z0s 7 rfl (fun K hK=>?_) (z0s 11 rfl (fun K hK=>?_) z2r))
 ·have HG1:=HGT W1 h1;clear HGT;go_wp2_with fail;refine(show Calls _ _ _ _ _ from HG1).mono ?_;rintro e w6 ⟨v,rfl,hA6,hb6⟩;clear HG1;have hbN:Below w6.heap.size w6 (w6.alloc (.cells #[.string ⟨#[]⟩,.slice none 0 0,.slice none 0 0] 71)):=(Below.refl _ _).alloc (Nat.le_refl _) _;have hbl8:=hb6.trans (hbN.mono hb6.size);have hSS:=mkS _ hb6;have hSS8:=mkS _ hbl8;have hA8:=hA6.later hbN;have hge8:W1.heap.size<=w6.heap.size:=hb6.size;have hx8:(w6.alloc (.cells #[.string ⟨#[]⟩,.slice none 0 0,.slice none 0 0] 71)).heap[w6.heap.size]?=some (.cells #[.string ⟨#[]⟩,.slice none 0 0,.slice none 0 0] 71 (0,0)):=Array.getElem?_push_size;clear hA6 hb6 hbN mkS;go_wp2;refine hK _ _ hSS ?_;clear hK;refine tW 8 hSS ?_;refine tW 9 hSS ?_;refine tW 10 hSS ?_;clear hSS;refine oG 11 fun K hK=>?_
  go_wp2_with fail;refine hK _ _ hSS8 ?_;clear hK hSS8;generalize w6.alloc (.cells #[.string ⟨#[]⟩,.slice none 0 0,.slice none 0 0] 71)=W8 at *;generalize w6.heap.size=b14 at *;have hx9:=entBoxC_put hx8 (.string re.root) (.slice v.aP re.nP v.cP) (.slice v.aQ re.nQ v.cQ);have hA9:=entAt_set3 hA8 hx8 (.string re.root) (.slice v.aP re.nP v.cP) (.slice v.aQ re.nQ v.cQ);obtain⟨q0,q1,q2,f0,f1,f2⟩:=resAt hx8;have hbl9:=z5b hbl8 hge8 (.string re.root) (.slice v.aP re.nP v.cP) (.slice v.aQ re.nQ v.cQ);have HRX:=HHF.out _ (hb1d.trans (hbl9.mono hb1d.size));clear hA8 hbl8 hge8 hbl9 HHF;refine lG 12 fun K hK=>?_
  go_wp2;refine hK _ _ ?_;clear hK;refine tA 13 ?_;refine z1c (by kernel_rfl) ?_ _;clear q0 q1 q2 f0 f1 f2 hx8;generalize ((W8.setCell ⟨b14,0,none⟩ (.string re.root)).setCell ⟨b14,1,none⟩ (.slice v.aP re.nP v.cP)).setCell ⟨b14,2,none⟩ (.slice v.aQ re.nQ v.cQ)=W9 at *;cases rb with
  |false=>
   have HF5:Calls Tryz.prog 11 #[.int .i64 5] W9 fun e w'=>(∃t:ByteArray,e=.returned (.string t)/\t.data.toList=z1h 5)/\Below W9.heap.size W9 w':=z1p 5 W9 (by decide)
   have HA:Hid ((sayC st (.entry rt)).2=z1h 5):=HAN.out;clear HAN HGD hA9 hx9;go_wp2_with fail;refine(show Calls _ _ _ _ _ from HF5).mono ?_;rintro e w7 ⟨⟨t,rfl,ht⟩,hb7⟩;clear HF5;have HT:Hid (t.data.toList=(sayC st (.entry rt)).2):=ht.trans HA.out.symm;have HH:=HRX.later hb7;clear ht HA;go_wp2;go_ret;exact⟨⟨_,rfl,HT.out⟩,HH⟩
  |true=>
   have hen:=HGD.out rfl;have HET:=z7i v re W9 hA9 hen;obtain⟨lx,hlx⟩:∃lx,z0D re=lx++[10]:=⟨_,rfl⟩;have HA:Hid ((sayC st (.entry rt)).2=lx):=by
    show(sayC st (.entry rt)).2=lx;have e1:(sayC st (.entry rt)).2=(z0D re).dropLast:=HAN.out;rw[e1,hlx];simp
   obtain⟨c0,c1,c2⟩:W9.cell? ⟨b14,0,none⟩=some (.string re.root)/\W9.cell? ⟨b14,1,none⟩=some (.slice v.aP re.nP v.cP)/\W9.cell? ⟨b14,2,none⟩=some (.slice v.aQ re.nQ v.cQ):=⟨by simp[World.cell?,hx9],by simp[World.cell?,hx9],by simp[World.cell?,hx9]⟩;clear HAN HGD hA9 hx9;go_wp2_with fail;refine(show Calls _ _ _ _ _ from HET).mono ?_;rintro e w7 ⟨⟨t,rfl,ht⟩,hb7⟩;clear HET c0 c1 c2;have hts:t.size=lx.length+1:=by rw[z1W ht,hlx];simp
   have hx:t.extract 0 lx.length=⟨lx.toArray⟩:=by
    apply ByteArray.ext;apply Array.toList_inj.1;rw[ByteArray.data_extract,Array.toList_extract];simp only[List.extract_eq_take_drop];rw[ht,hlx];simp
   have HT:Hid ((⟨lx.toArray⟩:ByteArray).data.toList=(sayC st (.entry rt)).2):=by
    show(⟨lx.toArray⟩:ByteArray).data.toList=_;rw[HA.out]
   have HH:=HRX.later hb7;have hlb:lx.length<=100000:=by
    have h1:=(z3P (entW re) (z3X (z5t hen))).1;have h2:=z6P re;have h3:=(z5t hen).nP;have h4:=(z5t hen).nQ;have h5:(z0D re).length=(Lib.join (entW re) [32]).length+1:=by unfold z0D;simp
    rw[hlx,List.length_append,List.length_singleton]at h5;omega
   generalize hnl:lx.length=nl at *;have hsub:(t.size:Int)-1=(nl:Int):=by omega
   have hlt1:(nl:Int)<=(t.size:Int):=by omega
   have hlt0:(0:Int)<=(nl:Int):=Int.natCast_nonneg nl;have hlt2:nl<=t.size:=by omega
   have hw64:=wrap64_small nl (Nat.lt_of_le_of_lt hlb (by decide));generalize (⟨lx.toArray⟩:ByteArray)=tx at *;clear ht hlx HA hts hnl hen hlb;go_wp2;go_ret;exact⟨⟨_,rfl,HT.out⟩,HH⟩
 ·have hbN:Below W1.heap.size W1 (W1.alloc (.cells #[.string ⟨#[]⟩,.slice none 0 0,.slice none 0 0] 71)):=(Below.refl _ _).alloc (Nat.le_refl _) _;have hx2:(W1.alloc (.cells #[.string ⟨#[]⟩,.slice none 0 0,.slice none 0 0] 71)).heap[W1.heap.size]?=some (.cells #[.string ⟨#[]⟩,.slice none 0 0,.slice none 0 0] 71 (0,0)):=Array.getElem?_push_size;have HG1:=HGT _ (h1.later hbN);have hSS2:=mkS _ hbN;obtain⟨b14,hb14⟩:∃b14,b14=W1.heap.size:=⟨_,rfl⟩;have hge8:W1.heap.size<=b14:=by omega
  clear HGT;go_wp2_with fail;refine hK _ _ hSS2 ?_;clear hK hSS2;rw[<-hb14]at hx2;rw[<-hb14];generalize W1.alloc (.cells #[.string ⟨#[]⟩,.slice none 0 0,.slice none 0 0] 71)=W2 at *;refine oG 7 fun K hK=>?_
  go_wp2_with fail;refine(show Calls _ _ _ _ _ from HG1).mono ?_;rintro e W8 ⟨v,rfl,hA8,hb6⟩;clear HG1;have hbl8:=hbN.trans (hb6.mono hbN.size);have hSS:=mkS _ hbl8;have hx8:=(hb6.block _ (Array.getElem?_eq_some_iff.1 hx2).1).trans hx2;clear hb6 hbN mkS hx2 hb14;go_wp2;refine hK _ _ hSS ?_;clear hK;refine tW 8 hSS ?_;refine tW 9 hSS ?_;refine tW 10 hSS ?_;clear hSS;have hx9:=entBoxC_put hx8 (.string re.root) (.slice v.aP re.nP v.cP) (.slice v.aQ re.nQ v.cQ);have hA9:=entAt_set3 hA8 hx8 (.string re.root) (.slice v.aP re.nP v.cP) (.slice v.aQ re.nQ v.cQ);obtain⟨q0,q1,q2,f0,f1,f2⟩:=resAt hx8;have hbl9:=z5b hbl8 hge8 (.string re.root) (.slice v.aP re.nP v.cP) (.slice v.aQ re.nQ v.cQ);have HRX:=HHF.out _ (hb1d.trans (hbl9.mono hb1d.size));clear hA8 hbl8 hge8 hbl9 HHF;refine lG 12 fun K hK=>?_
  go_wp2;refine hK _ _ ?_;clear hK;refine tA 13 ?_;refine z1c (by kernel_rfl) ?_ _;clear q0 q1 q2 f0 f1 f2 hx8;generalize ((W8.setCell ⟨b14,0,none⟩ (.string re.root)).setCell ⟨b14,1,none⟩ (.slice v.aP re.nP v.cP)).setCell ⟨b14,2,none⟩ (.slice v.aQ re.nQ v.cQ)=W9 at *;cases rb with
  |false=>
   have HF5:Calls Tryz.prog 11 #[.int .i64 5] W9 fun e w'=>(∃t:ByteArray,e=.returned (.string t)/\t.data.toList=z1h 5)/\Below W9.heap.size W9 w':=z1p 5 W9 (by decide)
   have HA:Hid ((sayC st (.entry rt)).2=z1h 5):=HAN.out;clear HAN HGD hA9 hx9;go_wp2_with fail;refine(show Calls _ _ _ _ _ from HF5).mono ?_;rintro e w7 ⟨⟨t,rfl,ht⟩,hb7⟩;clear HF5;have HT:Hid (t.data.toList=(sayC st (.entry rt)).2):=ht.trans HA.out.symm;have HH:=HRX.later hb7;clear ht HA;go_wp2;go_ret;exact⟨⟨_,rfl,HT.out⟩,HH⟩
  |true=>
   have hen:=HGD.out rfl;have HET:=z7i v re W9 hA9 hen;obtain⟨lx,hlx⟩:∃lx,z0D re=lx++[10]:=⟨_,rfl⟩;have HA:Hid ((sayC st (.entry rt)).2=lx):=by
    show(sayC st (.entry rt)).2=lx;have e1:(sayC st (.entry rt)).2=(z0D re).dropLast:=HAN.out;rw[e1,hlx];simp
   obtain⟨c0,c1,c2⟩:W9.cell? ⟨b14,0,none⟩=some (.string re.root)/\W9.cell? ⟨b14,1,none⟩=some (.slice v.aP re.nP v.cP)/\W9.cell? ⟨b14,2,none⟩=some (.slice v.aQ re.nQ v.cQ):=⟨by simp[World.cell?,hx9],by simp[World.cell?,hx9],by simp[World.cell?,hx9]⟩;clear HAN HGD hA9 hx9;go_wp2_with fail;refine(show Calls _ _ _ _ _ from HET).mono ?_;rintro e w7 ⟨⟨t,rfl,ht⟩,hb7⟩;clear HET c0 c1 c2;have hts:t.size=lx.length+1:=by rw[z1W ht,hlx];simp
   have hx:t.extract 0 lx.length=⟨lx.toArray⟩:=by
    apply ByteArray.ext;apply Array.toList_inj.1;rw[ByteArray.data_extract,Array.toList_extract];simp only[List.extract_eq_take_drop];rw[ht,hlx];simp
   have HT:Hid ((⟨lx.toArray⟩:ByteArray).data.toList=(sayC st (.entry rt)).2):=by
    show(⟨lx.toArray⟩:ByteArray).data.toList=_;rw[HA.out]
   have HH:=HRX.later hb7;have hlb:lx.length<=100000:=by
    have h1:=(z3P (entW re) (z3X (z5t hen))).1;have h2:=z6P re;have h3:=(z5t hen).nP;have h4:=(z5t hen).nQ;have h5:(z0D re).length=(Lib.join (entW re) [32]).length+1:=by unfold z0D;simp
    rw[hlx,List.length_append,List.length_singleton]at h5;omega
   generalize hnl:lx.length=nl at *;have hsub:(t.size:Int)-1=(nl:Int):=by omega
   have hlt1:(nl:Int)<=(t.size:Int):=by omega
   have hlt0:(0:Int)<=(nl:Int):=Int.natCast_nonneg nl;have hlt2:nl<=t.size:=by omega
   have hw64:=wrap64_small nl (Nat.lt_of_le_of_lt hlb (by decide));generalize (⟨lx.toArray⟩:ByteArray)=tx at *;clear ht hlx HA hts hnl hen hlb;go_wp2;go_ret;exact⟨⟨_,rfl,HT.out⟩,HH⟩
theorem sayHash_any(w0 W:World)(z m q:Nat)(vl:Value)(V:Nat->EntV)(L:List z0u)(st:CSt)(i:Nat)(line:ByteArray)(wd rs:List UInt8)(h:RSAt w0 W z m q vl V L st)(hlo:RLow w0 z m q)(hw:Well st i)(hi:i<=1000)(hsz:line.size<=60)(hln:line.data.toList=wd++32 :: rs)(hwd:(32:UInt8) ∉ wd)(hk:wd=cHash)(hrs:(32:UInt8) ∉ rs) :
 Calls Tryz.prog 7 #[.pointer (some ⟨z,0,none⟩),.string line] W fun e W'=>Says e (sayC st (.hash ⟨rs.toArray⟩)).2/\z1O w0 z m q (sayC st (.hash ⟨rs.toArray⟩)).1 W W':=by
 have HW:=z2b line W (by omega);rw[hln,z0N wd rs hwd]at HW;have h60:¬(60:Int)<(line.size:Int):=by omega
 have hL6:=h.len hw;have hkf:st.kf<=1000000:=by have:=hw.few;omega
 have _:=hlo;rw[z1H rs hrs]at HW;have hrz:(⟨rs.toArray⟩:ByteArray).size<=60:=by
  have h1:=congrArg List.length hln;have h2:line.data.toList.length=line.size:=by simp
  have h3:(⟨rs.toArray⟩:ByteArray).size=rs.length:=by show rs.toArray.size=_;simp
  simp only[List.length_append,List.length_cons]at h1;omega
 have hrd:=z1t rs;have hml:(⟨rs.toArray⟩:ByteArray).size<=maxLen:=Nat.le_trans hrz (by decide);obtain⟨n2,hn2⟩:∃n2,[wd,rs].length=n2:=⟨_,rfl⟩;have hn2':n2=2:=hn2.symm;have g1:(1:Int)<(n2:Int):=by omega
 have g2:((n2:Int)==1)=false:=by rw[beq_eq_false_iff_ne];omega
 have g3:¬(2:Int)<(n2:Int):=by omega
 have g4:(0:Int)<(n2:Int):=by omega
 have HW':Calls Tryz.prog 12 #[.string line] W fun e w'=>(∃b cap,e=.returned (.slice (some ⟨b,0,none⟩) n2 cap)/\w'.cell? ⟨b,0,none⟩=some (.string ⟨wd.toArray⟩)/\w'.cell? ⟨b,1,none⟩=some (.string ⟨rs.toArray⟩))/\Below W.heap.size W w':=HW.mono fun e w' ⟨⟨b,cap,he,ho⟩,hb⟩=>⟨⟨b,cap,by rw[he,hn2],z0I ho rfl,z0I ho rfl⟩,hb⟩
 clear HW;have hwt:=z1t wd;have el:((⟨wd.toArray⟩:ByteArray).toList == [108,105,110,101])=false:=z0h (by rw[hwt,hk];decide);have e_write:((⟨wd.toArray⟩:ByteArray).toList == [119,114,105,116,101])=false:=z0h (by rw[hwt,hk];decide);have e_remove:((⟨wd.toArray⟩:ByteArray).toList == [114,101,109,111,118,101])=false:=z0h (by rw[hwt,hk];decide);have e_stamp:((⟨wd.toArray⟩:ByteArray).toList == [115,116,97,109,112])=false:=z0h (by rw[hwt,hk];decide);have e_build:((⟨wd.toArray⟩:ByteArray).toList == [98,117,105,108,100])=false:=z0h (by rw[hwt,hk];decide);have e_drop:((⟨wd.toArray⟩:ByteArray).toList == [100,114,111,112])=false:=z0h (by rw[hwt,hk];decide);have e_load:((⟨wd.toArray⟩:ByteArray).toList == [108,111,97,100])=false:=z0h (by rw[hwt,hk];decide);have e_entry:((⟨wd.toArray⟩:ByteArray).toList == [101,110,116,114,121])=false:=z0h (by rw[hwt,hk];decide);have e_hash:((⟨wd.toArray⟩:ByteArray).toList == [104,97,115,104])=true:=z0Q (by rw[hwt,hk]);generalize (⟨wd.toArray⟩:ByteArray)=wt at *;have HH0:=fun V1=>refHash_any ⟨rs.toArray⟩ V1 hml
 have hlt:=hashL_lt (⟨rs.toArray⟩:ByteArray).data.toList;have HA:Hid ((sayC st (.hash ⟨rs.toArray⟩)).2=Lib.itoa ((z5r (⟨rs.toArray⟩:ByteArray).data.toList:Nat):Int)):=rfl;have HHF:Hid (∀V1,Below W.heap.size W V1->z1O w0 z m q (sayC st (.hash ⟨rs.toArray⟩)).1 W V1):=fun V1 hb1=>⟨⟨vl,V,L,h.later hb1⟩,z3u hb1⟩
 generalize z5r (⟨rs.toArray⟩:ByteArray).data.toList=hv at *;generalize (⟨rs.toArray⟩:ByteArray)=rt at *;clear hn2 hn2' hk hwt hln hwd hrs;go_enter Tryz.func7,Tryz.ntmps7;go_wp2_with fail;refine(show Calls _ _ _ _ _ from HW').mono ?_;rintro e w1 ⟨⟨b,cap,rfl,x0,x1⟩,hb1⟩;clear HW';have HH1:=HH0 w1;have HD:=z0U ((hv:Nat):Int) (by omega) (by omega) w1;clear HH0;go_wp2_with fail;refine(show Calls _ _ _ _ _ from HH1).mono ?_;rintro e w2 ⟨rfl,hw2⟩;subst w2;clear HH1;go_wp2_with fail;refine(show Calls _ _ _ _ _ from HD).mono ?_;rintro e w3 ⟨⟨t,rfl,ht⟩,hb3⟩;clear HD;have HT:Hid (t.data.toList=(sayC st (.hash rt)).2):=ht.trans HA.out.symm;have HH:=HHF.out w3 (hb1.trans (hb3.mono hb1.size));clear ht HA;go_wp2;go_ret;exact⟨⟨_,rfl,HT.out⟩,HH⟩
theorem sayRestart_any(w0 W:World)(z m q:Nat)(vl:Value)(V:Nat->EntV)(L:List z0u)(st:CSt)(i:Nat)(line:ByteArray)(wd rs:List UInt8)(h:RSAt w0 W z m q vl V L st)(hlo:RLow w0 z m q)(hw:Well st i)(hi:i<=1000)(hsz:line.size<=60)(hln:line.data.toList=wd++32 :: rs)(hwd:(32:UInt8) ∉ wd)(hk:wd=z6V)(hrs:(32:UInt8) ∉ rs) :
 Calls Tryz.prog 7 #[.pointer (some ⟨z,0,none⟩),.string line] W fun e W'=>Says e (sayC st (if numK rs=true then .restart else .bad)).2/\z1O w0 z m q (sayC st (if numK rs=true then .restart else .bad)).1 W W':=by
 have HW:=z2b line W (by omega);rw[hln,z0N wd rs hwd]at HW;have h60:¬(60:Int)<(line.size:Int):=by omega
 have hL6:=h.len hw;have hkf:st.kf<=1000000:=by have:=hw.few;omega
 have _:=hlo;rw[z1H rs hrs]at HW;have hrz:(⟨rs.toArray⟩:ByteArray).size<=60:=by
  have h1:=congrArg List.length hln;have h2:line.data.toList.length=line.size:=by simp
  have h3:(⟨rs.toArray⟩:ByteArray).size=rs.length:=by show rs.toArray.size=_;simp
  simp only[List.length_append,List.length_cons]at h1;omega
 have hrd:=z1t rs;have hml:(⟨rs.toArray⟩:ByteArray).size<=maxLen:=Nat.le_trans hrz (by decide);obtain⟨n2,hn2⟩:∃n2,[wd,rs].length=n2:=⟨_,rfl⟩;have hn2':n2=2:=hn2.symm;have g1:(1:Int)<(n2:Int):=by omega
 have g2:((n2:Int)==1)=false:=by rw[beq_eq_false_iff_ne];omega
 have g3:¬(2:Int)<(n2:Int):=by omega
 have g4:(0:Int)<(n2:Int):=by omega
 have HW':Calls Tryz.prog 12 #[.string line] W fun e w'=>(∃b cap,e=.returned (.slice (some ⟨b,0,none⟩) n2 cap)/\w'.cell? ⟨b,0,none⟩=some (.string ⟨wd.toArray⟩)/\w'.cell? ⟨b,1,none⟩=some (.string ⟨rs.toArray⟩))/\Below W.heap.size W w':=HW.mono fun e w' ⟨⟨b,cap,he,ho⟩,hb⟩=>⟨⟨b,cap,by rw[he,hn2],z0I ho rfl,z0I ho rfl⟩,hb⟩
 clear HW;have hwt:=z1t wd;have el:((⟨wd.toArray⟩:ByteArray).toList == [108,105,110,101])=false:=z0h (by rw[hwt,hk];decide);have e_write:((⟨wd.toArray⟩:ByteArray).toList == [119,114,105,116,101])=false:=z0h (by rw[hwt,hk];decide);have e_remove:((⟨wd.toArray⟩:ByteArray).toList == [114,101,109,111,118,101])=false:=z0h (by rw[hwt,hk];decide);have e_stamp:((⟨wd.toArray⟩:ByteArray).toList == [115,116,97,109,112])=false:=z0h (by rw[hwt,hk];decide);have e_build:((⟨wd.toArray⟩:ByteArray).toList == [98,117,105,108,100])=false:=z0h (by rw[hwt,hk];decide);have e_drop:((⟨wd.toArray⟩:ByteArray).toList == [100,114,111,112])=false:=z0h (by rw[hwt,hk];decide);have e_load:((⟨wd.toArray⟩:ByteArray).toList == [108,111,97,100])=false:=z0h (by rw[hwt,hk];decide);have e_entry:((⟨wd.toArray⟩:ByteArray).toList == [101,110,116,114,121])=false:=z0h (by rw[hwt,hk];decide);have e_hash:((⟨wd.toArray⟩:ByteArray).toList == [104,97,115,104])=false:=z0h (by rw[hwt,hk];decide);have e_restart:((⟨wd.toArray⟩:ByteArray).toList == [114,101,115,116,97,114,116])=true:=z0Q (by rw[hwt,hk]);generalize (⟨wd.toArray⟩:ByteArray)=wt at *;have HN:=fun V1=>number_ref ⟨rs.toArray⟩ V1
 rw[hrd]at HN;have HF4':∀V:World,Calls Tryz.prog 11 #[.int .i64 4] V fun e w'=>(∃t:ByteArray,e=.returned (.string t)/\t.data.toList=z1h 4)/\Below V.heap.size V w':=fun V=>z1p 4 V (by decide)
 have HHB:Hid (∀V1,Below W.heap.size W V1->z1O w0 z m q (sayC st .bad).1 W V1):=fun V1 hb1=>⟨⟨vl,V,L,h.later hb1⟩,z3u hb1⟩
 have HHR:Hid (∀V1,Below W.heap.size W V1->z1O w0 z m q (sayC st .restart).1 W V1):=fun V1 hb1=>⟨⟨vl,V,L,h.later hb1⟩,z3u hb1⟩
 have hnk:numK rs=match z1I rs with|some n=>decide (0<=n)&&decide (n<=999)|none=>false:=rfl
 generalize numK rs=nk at *;generalize z1I rs=rn at *;generalize (⟨rs.toArray⟩:ByteArray)=rt at *;clear hn2 hn2' hk hwt hln hwd hrs;go_enter Tryz.func7,Tryz.ntmps7;go_wp2_with fail;refine(show Calls _ _ _ _ _ from HW').mono ?_;rintro e w1 ⟨⟨b,cap,rfl,x0,x1⟩,hb1⟩;clear HW';have HN1:=HN w1;clear HN;go_wp2_with fail;refine(show Calls _ _ _ _ _ from HN1).mono ?_;rintro e w2 ⟨rfl,hw2⟩;subst w2;clear HN1;cases rn with
 |none=>
  have hnk':nk=false:=hnk;subst hnk';clear hnk HHR;dsimp only[Option.getD,Option.isSome];go_wp2_with fail;refine(show Calls _ _ _ _ _ from HF4' _).mono ?_;rintro e w3 ⟨⟨t,rfl,ht⟩,hb3⟩;clear HF4';have HT:Hid (t.data.toList=(sayC st .bad).2):=ht;have HH:=HHB.out w3 (hb1.trans (hb3.mono hb1.size));clear ht;go_wp2;go_ret;exact⟨⟨_,rfl,HT.out⟩,HH⟩
 |some v=>
  have hnk':nk=(decide (0<=v)&&decide (v<=999)):=hnk;clear hnk;dsimp only[Option.getD,Option.isSome];by_cases h0:v<0
  ·have e0:nk=false:=by rw[hnk',decide_eq_false (by omega)];rfl
   subst e0;clear hnk' HHR;go_wp2_with fail;refine(show Calls _ _ _ _ _ from HF4' _).mono ?_;rintro e w3 ⟨⟨t,rfl,ht⟩,hb3⟩;clear HF4';have HT:Hid (t.data.toList=(sayC st .bad).2):=ht;have HH:=HHB.out w3 (hb1.trans (hb3.mono hb1.size));clear ht;go_wp2;go_ret;exact⟨⟨_,rfl,HT.out⟩,HH⟩
  ·by_cases h9:999<v
   ·have e0:nk=false:=by rw[hnk',decide_eq_false (p:=v<=999) (by omega),Bool.and_false]
    subst e0;clear hnk' HHR;go_wp2_with fail;refine(show Calls _ _ _ _ _ from HF4' _).mono ?_;rintro e w3 ⟨⟨t,rfl,ht⟩,hb3⟩;clear HF4';have HT:Hid (t.data.toList=(sayC st .bad).2):=ht;have HH:=HHB.out w3 (hb1.trans (hb3.mono hb1.size));clear ht;go_wp2;go_ret;exact⟨⟨_,rfl,HT.out⟩,HH⟩
   ·have e0:nk=true:=by rw[hnk',decide_eq_true (by omega),decide_eq_true (by omega)];rfl
    subst e0;have HH:=HHR.out w1 hb1;clear hnk' HHB HF4';go_wp2;go_ret;exact⟨⟨_,rfl,rfl⟩,HH⟩
theorem sayNone_any(w0 W:World)(z m q:Nat)(vl:Value)(V:Nat->EntV)(L:List z0u)(st:CSt)(i:Nat)(line:ByteArray)(wd rs:List UInt8)(h:RSAt w0 W z m q vl V L st)(hlo:RLow w0 z m q)(hw:Well st i)(hi:i<=1000)(hsz:line.size<=60)(hln:line.data.toList=wd++32 :: rs)(hwd:(32:UInt8) ∉ wd)(hk:wd≠cLine)(hrs:(32:UInt8) ∉ rs)(k_write:wd≠cWrite)(k_remove:wd≠cRemove)(k_stamp:wd≠cStamp)(k_build:wd≠cBuild)(k_drop:wd≠cDrop)(k_load:wd≠cLoad)(k_entry:wd≠cEntry)(k_hash:wd≠cHash)(k_restart:wd≠z6V) :
 Calls Tryz.prog 7 #[.pointer (some ⟨z,0,none⟩),.string line] W fun e W'=>Says e (sayC st .bad).2/\z1O w0 z m q (sayC st .bad).1 W W':=by
 have HW:=z2b line W (by omega);rw[hln,z0N wd rs hwd]at HW;have h60:¬(60:Int)<(line.size:Int):=by omega
 have hL6:=h.len hw;have hkf:st.kf<=1000000:=by have:=hw.few;omega
 have _:=hlo;rw[z1H rs hrs]at HW;have hrz:(⟨rs.toArray⟩:ByteArray).size<=60:=by
  have h1:=congrArg List.length hln;have h2:line.data.toList.length=line.size:=by simp
  have h3:(⟨rs.toArray⟩:ByteArray).size=rs.length:=by show rs.toArray.size=_;simp
  simp only[List.length_append,List.length_cons]at h1;omega
 have hrd:=z1t rs;have hml:(⟨rs.toArray⟩:ByteArray).size<=maxLen:=Nat.le_trans hrz (by decide);obtain⟨n2,hn2⟩:∃n2,[wd,rs].length=n2:=⟨_,rfl⟩;have hn2':n2=2:=hn2.symm;have g1:(1:Int)<(n2:Int):=by omega
 have g2:((n2:Int)==1)=false:=by rw[beq_eq_false_iff_ne];omega
 have g3:¬(2:Int)<(n2:Int):=by omega
 have g4:(0:Int)<(n2:Int):=by omega
 have HW':Calls Tryz.prog 12 #[.string line] W fun e w'=>(∃b cap,e=.returned (.slice (some ⟨b,0,none⟩) n2 cap)/\w'.cell? ⟨b,0,none⟩=some (.string ⟨wd.toArray⟩)/\w'.cell? ⟨b,1,none⟩=some (.string ⟨rs.toArray⟩))/\Below W.heap.size W w':=HW.mono fun e w' ⟨⟨b,cap,he,ho⟩,hb⟩=>⟨⟨b,cap,by rw[he,hn2],z0I ho rfl,z0I ho rfl⟩,hb⟩
 clear HW;have hwt:=z1t wd;have el:((⟨wd.toArray⟩:ByteArray).toList == [108,105,110,101])=false:=z0h (by rw[hwt];exact hk);have e_write:((⟨wd.toArray⟩:ByteArray).toList == [119,114,105,116,101])=false:=z0h (by rw[hwt];exact k_write);have e_remove:((⟨wd.toArray⟩:ByteArray).toList == [114,101,109,111,118,101])=false:=z0h (by rw[hwt];exact k_remove);have e_stamp:((⟨wd.toArray⟩:ByteArray).toList == [115,116,97,109,112])=false:=z0h (by rw[hwt];exact k_stamp);have e_build:((⟨wd.toArray⟩:ByteArray).toList == [98,117,105,108,100])=false:=z0h (by rw[hwt];exact k_build);have e_drop:((⟨wd.toArray⟩:ByteArray).toList == [100,114,111,112])=false:=z0h (by rw[hwt];exact k_drop);have e_load:((⟨wd.toArray⟩:ByteArray).toList == [108,111,97,100])=false:=z0h (by rw[hwt];exact k_load);have e_entry:((⟨wd.toArray⟩:ByteArray).toList == [101,110,116,114,121])=false:=z0h (by rw[hwt];exact k_entry);have e_hash:((⟨wd.toArray⟩:ByteArray).toList == [104,97,115,104])=false:=z0h (by rw[hwt];exact k_hash);have e_restart:((⟨wd.toArray⟩:ByteArray).toList == [114,101,115,116,97,114,116])=false:=z0h (by rw[hwt];exact k_restart);generalize (⟨wd.toArray⟩:ByteArray)=wt at *;have HF4':∀V:World,Calls Tryz.prog 11 #[.int .i64 4] V fun e w'=>(∃t:ByteArray,e=.returned (.string t)/\t.data.toList=z1h 4)/\Below V.heap.size V w':=fun V=>z1p 4 V (by decide)
 have HHF:Hid (∀V1,Below W.heap.size W V1->z1O w0 z m q (sayC st .bad).1 W V1):=fun V1 hb1=>⟨⟨vl,V,L,h.later hb1⟩,z3u hb1⟩
 generalize (⟨rs.toArray⟩:ByteArray)=rt at *;clear hn2 hn2' hk hwt hln hwd hrs k_write k_remove k_stamp k_build k_drop k_load k_entry k_hash k_restart;go_enter Tryz.func7,Tryz.ntmps7;go_wp2_with fail;refine(show Calls _ _ _ _ _ from HW').mono ?_;rintro e w1 ⟨⟨b,cap,rfl,x0,x1⟩,hb1⟩;clear HW';go_wp2_with fail;refine(show Calls _ _ _ _ _ from HF4' _).mono ?_;rintro e w3 ⟨⟨t,rfl,ht⟩,hb3⟩;clear HF4';have HT:Hid (t.data.toList=(sayC st .bad).2):=ht;have HH:=HHF.out w3 (hb1.trans (hb3.mono hb1.size));clear ht;go_wp2;go_ret;exact⟨⟨_,rfl,HT.out⟩,HH⟩
theorem say_any(w0 W:World)(z m q:Nat)(vl:Value)(V:Nat->EntV)(L:List z0u)(st:CSt)(i:Nat)(line:ByteArray)(h:RSAt w0 W z m q vl V L st)(hlo:RLow w0 z m q)(hw:Well st i)(hi:i<=1000) :
 Calls Tryz.prog 7 #[.pointer (some ⟨z,0,none⟩),.string line] W fun e W'=>Says e (sayC st (z1n line.data.toList)).2/\z1O w0 z m q (sayC st (z1n line.data.toList)).1 W W':=by
 have hlen:line.data.toList.length=line.size:=by simp
 by_cases h6:60<line.size
 ·have hcmd:z1n line.data.toList=.bad:=by unfold z1n;rw[if_pos (by omega)]
  rw[hcmd];have HF4:Calls Tryz.prog 11 #[.int .i64 4] W fun e w'=>(∃t:ByteArray,e=.returned (.string t)/\t.data.toList=z1h 4)/\Below W.heap.size W w':=z1p 4 W (by decide)
  have HHF:Hid (∀V1,Below W.heap.size W V1->z1O w0 z m q (sayC st .bad).1 W V1):=fun V1 hb1=>⟨⟨vl,V,L,h.later hb1⟩,z3u hb1⟩
  have h60:(60:Int)<(line.size:Int):=by omega
  clear hcmd hlen h6;go_enter Tryz.func7,Tryz.ntmps7;go_wp2_with fail;refine(show Calls _ _ _ _ _ from HF4).mono ?_;rintro e w3 ⟨⟨t,rfl,ht⟩,hb3⟩;clear HF4;have HT:Hid (t.data.toList=(sayC st .bad).2):=ht;have HH:=HHF.out w3 hb3;clear ht;go_wp2;go_ret;exact⟨⟨_,rfl,HT.out⟩,HH⟩
 have hn60:¬60<line.data.toList.length:=by omega
 by_cases hb:(32:UInt8)∈line.data.toList
 ·have hcmd:z1n line.data.toList=z3F (wOf line.data.toList) (rOf line.data.toList):=by unfold z1n;rw[if_neg hn60,if_pos hb]
  rw[hcmd];obtain⟨hln,hwd⟩:=z5D hb;generalize wOf line.data.toList=wd at *;generalize rOf line.data.toList=rs at *;by_cases kl:wd=cLine
  ·rw[show z3F wd rs=.line rs by unfold z3F;rw[if_pos kl]];exact sayLine_any w0 W z m q vl V L st i line wd rs h hlo hw hi (by omega) hln hwd kl
  by_cases hrs:(32:UInt8)∈rs
  ·rw[show z3F wd rs=.bad by unfold z3F;rw[if_neg kl,if_pos hrs]];exact sayMany_any w0 W z m q vl V L st i line wd rs h hlo hw hi (by omega) hln hwd kl hrs
  by_cases kr:wd=z6V
  ·rw[show z3F wd rs=if numK rs=true then .restart else .bad by unfold z3F;rw[if_neg kl,if_neg hrs,if_pos kr]];exact sayRestart_any w0 W z m q vl V L st i line wd rs h hlo hw hi (by omega) hln hwd kr hrs
  have hca:z3F wd rs=z1e wd ⟨rs.toArray⟩:=by unfold z3F;rw[if_neg kl,if_neg hrs,if_neg kr]
  rw[hca];by_cases k_write:wd=cWrite
  ·rw[show z1e wd ⟨rs.toArray⟩=.write ⟨rs.toArray⟩ by unfold z1e;rw[if_pos k_write]];exact sayWrite_any w0 W z m q vl V L st i line wd rs h hlo hw hi (by omega) hln hwd k_write hrs
  by_cases k_remove:wd=cRemove
  ·rw[show z1e wd ⟨rs.toArray⟩=.remove ⟨rs.toArray⟩ by unfold z1e;rw[if_neg k_write,if_pos k_remove]];exact sayRemove_any w0 W z m q vl V L st i line wd rs h hlo hw hi (by omega) hln hwd k_remove hrs
  by_cases k_stamp:wd=cStamp
  ·rw[show z1e wd ⟨rs.toArray⟩=.stamp ⟨rs.toArray⟩ by unfold z1e;rw[if_neg k_write,if_neg k_remove,if_pos k_stamp]];exact sayStamp_any w0 W z m q vl V L st i line wd rs h hlo hw hi (by omega) hln hwd k_stamp hrs
  by_cases k_build:wd=cBuild
  ·rw[show z1e wd ⟨rs.toArray⟩=.build ⟨rs.toArray⟩ by unfold z1e;rw[if_neg k_write,if_neg k_remove,if_neg k_stamp,if_pos k_build]];exact sayBuild_any w0 W z m q vl V L st i line wd rs h hlo hw hi (by omega) hln hwd k_build hrs
  by_cases k_drop:wd=cDrop
  ·rw[show z1e wd ⟨rs.toArray⟩=.drop ⟨rs.toArray⟩ by unfold z1e;rw[if_neg k_write,if_neg k_remove,if_neg k_stamp,if_neg k_build,if_pos k_drop]];exact sayDrop_any w0 W z m q vl V L st i line wd rs h hlo hw hi (by omega) hln hwd k_drop hrs
  by_cases k_load:wd=cLoad
  ·rw[show z1e wd ⟨rs.toArray⟩=.load ⟨rs.toArray⟩ by unfold z1e;rw[if_neg k_write,if_neg k_remove,if_neg k_stamp,if_neg k_build,if_neg k_drop,if_pos k_load]];exact sayLoad_any w0 W z m q vl V L st i line wd rs h hlo hw hi (by omega) hln hwd k_load hrs
  by_cases k_entry:wd=cEntry
  ·rw[show z1e wd ⟨rs.toArray⟩=.entry ⟨rs.toArray⟩ by unfold z1e;rw[if_neg k_write,if_neg k_remove,if_neg k_stamp,if_neg k_build,if_neg k_drop,if_neg k_load,if_pos k_entry]];exact sayEntry_any w0 W z m q vl V L st i line wd rs h hlo hw hi (by omega) hln hwd k_entry hrs
  by_cases k_hash:wd=cHash
  ·rw[show z1e wd ⟨rs.toArray⟩=.hash ⟨rs.toArray⟩ by unfold z1e;rw[if_neg k_write,if_neg k_remove,if_neg k_stamp,if_neg k_build,if_neg k_drop,if_neg k_load,if_neg k_entry,if_pos k_hash]];exact sayHash_any w0 W z m q vl V L st i line wd rs h hlo hw hi (by omega) hln hwd k_hash hrs
  rw[show z1e wd ⟨rs.toArray⟩=.bad by unfold z1e;rw[if_neg k_write,if_neg k_remove,if_neg k_stamp,if_neg k_build,if_neg k_drop,if_neg k_load,if_neg k_entry,if_neg k_hash]];exact sayNone_any w0 W z m q vl V L st i line wd rs h hlo hw hi (by omega) hln hwd kl hrs k_write k_remove k_stamp k_build k_drop k_load k_entry k_hash kr
 ·have hcmd:z1n line.data.toList=z2h line.data.toList:=by unfold z1n;rw[if_neg hn60,if_neg hb]
  rw[hcmd];exact sayOne_any w0 W z m q vl V L st i line h hlo hw (by omega) hb
end
section
open Go.RowKit Go.Maps
noncomputable def ansL (X:Nat->ByteArray):Nat->List (List UInt8)
 |0=>[]
 |i+1=>ansL X i++[ansAt X i]
theorem ansL_len(X:Nat->ByteArray):∀n,(ansL X n).length=n
 |0=>rfl
 |n+1=>by
  show(ansL X n++[_]).length=n+1;rw[List.length_append,ansL_len X n];rfl
theorem ansL_at(X:Nat->ByteArray):∀ {n i:Nat},i<n->(ansL X n)[i]?=some (ansAt X i)
 |0,_,h=>absurd h (Nat.not_lt_zero _)
 |n+1,i,h=>by
  show(ansL X n++[ansAt X n])[i]?=_;by_cases e:i=n
  ·subst e;rw[List.getElem?_append_right (by rw[ansL_len];exact Nat.le_refl _),ansL_len];simp
  ·rw[List.getElem?_append_left (by rw[ansL_len];omega)];exact ansL_at X (by omega)
abbrev st0:CSt:=⟨⟨#[]⟩,.map [],0,fun _=>z1g,0⟩
theorem begin_any(w:World)(hE:Env w) :
 Calls Tryz.prog 9 #[] w fun e w'=>∃z p pf bm l g s,e=.returned (.tuple #[.pointer (some ⟨z,0,none⟩),.nilIface])/\CAt w w' w.heap.size z p pf bm l g s st0/\CLow w w.heap.size z pf bm/\Well st0 0:=by
 have HN:=diskNew_any w 120 (by decide) (by decide);go_enter Tryz.func9,Tryz.ntmps9;go_wp2_with fail;refine(show Calls _ _ _ _ _ from HN).mono ?_;rintro e w1 ⟨p,rfl,hD1,hb1⟩;clear HN;have HF:=format_any w1 w.heap.size p 120 DSt.fresh (fun _=>z1g) hD1 rfl (by decide) rfl;go_wp2_with fail;refine(show Calls _ _ _ _ _ from HF).mono ?_;rintro e w2 ⟨rfl,⟨s,hD2,hSt,hl⟩,hS2⟩;clear HF;have hb2:=hb1.trans hS2.below;have HNF:=new_any w2;clear hD1 hS2 hb1;go_wp2_with fail;refine(show Calls _ _ _ _ _ from HNF).mono ?_;rintro e w3 ⟨pf,bm,rfl,hp,hbm,hF3,hb3⟩;clear HNF;have hD3:=hD2.later hb3;have hb3':=hb2.trans (hb3.mono hb2.size);have hpw:w.heap.size<=pf:=Nat.le_trans hb2.size hp;have hbw:w.heap.size<=bm:=Nat.le_trans hb2.size hbm;have HL:=loaderNew_any w3 w.heap.size p 120 pf s (fun _=>z1g) 0 hD3 hSt (hE.later hb3');clear hD2 hb2 hb3 hp hbm;go_wp2_with fail;refine(show Calls _ _ _ _ _ from HL).mono ?_;rintro e w4 ⟨l,g,rfl,_,hl4,hg4,hb4⟩;clear HL;have hb4':=hb3'.trans (hb4.mono hb3'.size);have hbx:Below w4.heap.size w4 (w4.alloc (.cells (sessC pf p l ⟨#[]⟩) 87)):=(Below.refl _ _).alloc (Nat.le_refl _) _;have hx:(w4.alloc (.cells (sessC pf p l ⟨#[]⟩) 87)).heap[w4.heap.size]?=some (.cells (sessC pf p l ⟨#[]⟩) 87 (0,0)):=Array.getElem?_push_size;have hF4:=hF3.later hb4;have HFIN:Hid (CAt w (w4.alloc (.cells (sessC pf p l ⟨#[]⟩) 87)) w.heap.size w4.heap.size p pf bm l g s st0/\CLow w w.heap.size w4.heap.size pf bm/\Well st0 0):=
  ⟨⟨hx,(hD3.later hb4).later hbx,hSt,hl,hl4.later hbx,hg4.later hbx,hF4.later hbx,hb4'.trans (hbx.mono hb4'.size)⟩,⟨Nat.le_refl _,hb4'.size,hpw,hbw⟩,
   ⟨Nat.zero_le _,Inv.empty,z2X.empty,z1y.empty,Nat.le_refl _,fun j hj=>absurd hj (Nat.not_lt_zero _),hSt.good,real_of hF4⟩⟩
 clear hD3 hSt hl hl4 hg4 hF3 hF4 hb4 hbx hx hb3' hb4';go_wp2;go_ret2;obtain⟨h1,h2,h3⟩:=HFIN.out;exact⟨_,_,_,_,_,_,_,rfl,h1,h2,h3⟩
theorem run_any(a:Option Addr)(n c:Nat)(X:Nat->ByteArray)(w:World)(hE:Env w)(hr:z1z w a n fun i=>.string (X i))(hn:n<=60)(harm:∀i,i<n->(32:UInt8)∈(X i).data.toList->wOf (X i).data.toList≠cArm) :
 Calls Tryz.prog 5 #[.slice a n c] w fun e w'=>(∃v,e=.returned (.tuple #[v,.nilIface])/\w'.ownsRow w.heap.size 9 1 v n (z1A (ansL X n))/\∀j,j<=n->Well (stAt X j) j)/\Below w.heap.size w w':=by
 have HB:=begin_any w hE;have hn6:¬(60:Int)<(n:Int):=by omega
 go_enter Tryz.func5,Tryz.ntmps5;go_wp2_with fail;refine(show Calls _ _ _ _ _ from HB).mono ?_;rintro e w1 ⟨z,p,pf,bm,l,g,s,rfl,hC,hlo,hw0⟩;clear HB;have HW0:Hid (∀j,j<=0->Well (stAt X j) j):=fun j hj=>by
  obtain rfl:j=0:=by omega
  exact hw0
 go_wp2;go_loopw [6,22] (fun y6 y22 wr=>∃(i l g:Nat) (s:DSt),i<=n/\y22=.int .i64 i/\wr.ownsRow w.heap.size 9 1 y6 i (z1A (ansL X i))/\CAt w wr w.heap.size z p pf bm l g s (stAt X i)/\Hid (∀j,j<=i->Well (stAt X j) j)) (fun _ y22 _=>n-(intOf y22).toNat)
 case atStart=>exact⟨0,l,g,s,Nat.zero_le _,rfl,World.ownsRow_nil _ _ _ _,hC,HW0⟩
 case round=>
  clear hC hw0 HW0;obtain⟨i,l,g,s,hi,rfl,hrow,hC,HW⟩:=hrel;by_cases hlt:i<n
  ·have hr2:=hr.later hC.below;rcases hr2 with h0|⟨bk,o,hao,hcc⟩
   ·omega
   have x0:wr.cell? ⟨bk,o+i,none⟩=some (.string (X i)):=hcc i hlt;have HA:=answer_any w wr w.heap.size z p pf bm l g s (stAt X i) i (X i) hC hlo (HW.out i (Nat.le_refl _)) (by omega) hE (harm i hlt);have hi0:(0:Int)<=(i:Int):=by omega
   have hi1:(i:Int)<(n:Int):=by omega
   have hnx:stAt X (i+1)=(sayC (stAt X i) (z1n (X i).data.toList)).1:=rfl;have hax:ansL X (i+1)=ansL X i++[(sayC (stAt X i) (z1n (X i).data.toList)).2]:=rfl;rw[<-hnx]at HA;obtain⟨a6,c6,rfl,_⟩:=z0c hrow;subst hao;clear hcc hr;generalize hnS:stAt X (i+1)=S1 at *;generalize hAL:ansL X (i+1)=A1 at *;have HNS:Hid (stAt X (i+1)=S1):=hnS;have HAL:Hid (ansL X (i+1)=A1):=hAL;generalize (sayC (stAt X i) (z1n (X i).data.toList)).2=an at *;have HAX:Hid (A1=ansL X i++[an]):=hax;clear hnx hax hnS hAL hC;generalize X i=ln at *;go_wp2_with fail;refine(show Calls _ _ _ _ _ from HA).mono ?_;rintro e w2 ⟨⟨t,rfl,ht⟩,⟨⟨l2,g2,s2,hC2⟩,hw2,ho2⟩⟩;clear HA x0;have hrow2:=z7G hrow ho2 (by decide);obtain⟨v9,W9,happ,hown,hbg,hgr⟩:=growStrs t an ht hC2.below.size hrow2 (by omega);have hal:Below w2.heap.size w2 (w2.alloc (.cells #[.string t] 9)):=(Below.refl _ _).alloc (Nat.le_refl _) _;have hC3:=hC2.later hal;have hC4:CAt w W9 w.heap.size z p pf bm l2 g2 s2 S1:=by
    have ho:Only [some 9] (w2.alloc (.cells #[.string t] 9)) W9:=⟨fun k ob hk hob=>(hgr.block k (Array.getElem?_eq_some_iff.1 hk).1 (fun e=>hob (by
     obtain⟨cc,hcc⟩:=z3C (hrow2.alloc (.cells #[.string t] 9)) e.symm;rw[hcc]at hk;injection hk with hk;subst hk;simp[z5l]))).trans hk⟩
    exact⟨ho.block _ _ hC3.sess (by simp[z5l]),hC3.disk.only ho (by decide) (by decide) (by decide),hC3.stands,hC3.calm,hC3.loader.only ho (by decide),hC3.shelf.only ho (by decide),hC3.files.only ho (by decide) (by decide),hC2.below.trans hbg⟩
   rw[<-HAX.out]at hown;obtain⟨a9,c9,rfl,_⟩:=z0c hown;have HNW:Hid (∀j,j<=i+1->Well (stAt X j) j):=fun j hj=>by
    by_cases e:j=i+1
    ·subst e;rw[HNS.out];exact hw2
    ·exact HW.out j (by omega)
   rw[<-HNS.out]at hC4;rw[<-HAL.out]at hown;clear hrow hrow2 hC2 hC3 hw2 ho2 hbg hgr hal HW ht HNS HAL HAX;go_wp2_with (at_builtin;refine z0b rfl (.tmp 26) (.tmp 30) 22 rfl _ _ _ rfl rfl happ ?_);go_wp2;go_roundw
   case rel=>exact⟨i+1,l2,g2,s2,by omega,by go_num,hown,hC4,HNW⟩
   case measure=>simp[intOf];omega
  ·obtain rfl:i=n:=by omega
   obtain⟨a6,c6,rfl,_⟩:=z0c hrow;have hb:=hC.below;have HROW:Hid (wr.ownsRow w.heap.size 9 1 (.slice a6 i c6) i (z1A (ansL X i))):=hrow;clear hrow hC hr harm;go_wp2;go_ret2;exact⟨⟨_,rfl,HROW.out,HW.out⟩,hb⟩
theorem runMany_any(a:Option Addr)(n c:Nat)(w:World)(hn:60<n) :
 Calls Tryz.prog 5 #[.slice a n c] w fun e w'=>e=.returned (.tuple #[.slice none 0 0,errV 2])/\w'=w:=by
 have hn6:(60:Int)<(n:Int):=by omega
 go_enter Tryz.func5,Tryz.ntmps5;go_wp2;go_ret2;exact⟨rfl,rfl⟩
end
end Go.Proofs.YtbcpcbonlhlhpaaGreatDoor
