/- What textOf of package shelf returns, of entries that may -/
import Derived.Test.YtbcpcbonlhlhpaaGreatDoorDiskAll
import Derived.Test.YtbcpcbonlhlhpaaGreatDoorEntText
import Derived.Test.YtbcpcbonlhlhpaaGreatDoorBuildUse
import Derived.Lib.TrimByte
import Derived.Test.YtbcpcbonlhlhpaaGreatDoorEarly
set_option maxRecDepth 100000
set_option maxHeartbeats 4000000
namespace Go.Proofs.YtbcpcbonlhlhpaaGreatDoor
section
open Go.RowKit
theorem z7q.fit{e:EntF}(h:z7q e):EntFit e:=by
 have hm:(1000:Nat)<=maxLen:=by decide
 have h1:=h.nP;have h2:=h.nQ;refine⟨?_,by omega,by omega,fun i hi=>?_⟩
 ·have:=z1k h.root;have e1:e.root.size=e.root.data.toList.length:=by simp
  omega
 ·have:=z1k (h.parts i hi).1;have e1:(e.pName i).size=(e.pName i).data.toList.length:=by simp
  omega
theorem textOf_any(a:Option Addr)(k c:Nat)(V:Nat->EntV)(E:Nat->EntF)(w:World)(hE:Env w)(hk:k<=3)(hok:∀i,i<k->entF (E i)=0)(hr:z6J w a k V E) :
 Calls Tryz.prog 206 #[.slice a k c] w fun e w'=>e=.returned (.tuple #[.string ⟨(z0o E k).toArray⟩,.nilIface])/\Below w.heap.size w w':=by
 have hS:=z7o w;have q0:errV 0=.nilIface:=rfl;go_enter Tryz.func206,Tryz.ntmps206;go_wp2;go_loopw [11] (fun y wr=>∃i:Nat,i<=k/\y=.int .i64 i/\z7b w wr (z0o E i)) (fun y _=>k-(intOf y).toNat)
 case atStart=>exact⟨0,Nat.zero_le _,rfl,hS⟩
 case round=>
  clear hS;obtain⟨i,hi,rfl,hS⟩:=hrel;by_cases hlt:i<k
  ·rcases hr with h0|⟨bk,o,rfl,hc⟩
   ·omega
   obtain⟨c0,c1,c2,hA⟩:=(hc i hlt).later hS.below;have hOk:=z5t (hok i hlt);have hl1:=lineE_len hOk;have hl2:(z0o E i).length<=2256:=z5Q (by omega) (fun j hj=>z5t (hok j (by omega)));have hb0:Below wr.heap.size wr (wr.alloc (.cells (z1r (V i) (E i)) 71)):=(Below.refl _ _).alloc (Nat.le_refl _) _;have HT:=z7l (V i) (E i) _ (hA.later hb0) hOk.fit ((hE.later hS.below).later hb0);rw[textE_ok (hok i hlt),q0]at HT;have d0:(wr.alloc (.cells (z1r (V i) (E i)) 71)).cell? ⟨wr.heap.size,0,none⟩=some (.string (E i).root):=by simp[go_sem]
   have d1:(wr.alloc (.cells (z1r (V i) (E i)) 71)).cell? ⟨wr.heap.size,1,none⟩=some (.slice (V i).aP (E i).nP (V i).cP):=by simp[go_sem]
   have d2:(wr.alloc (.cells (z1r (V i) (E i)) 71)).cell? ⟨wr.heap.size,2,none⟩=some (.slice (V i).aQ (E i).nQ (V i).cQ):=by simp[go_sem]
   have hi0:(0:Int)<=(i:Int):=by omega
   have hi1:(i:Int)<(k:Int):=by omega
   have HL:Hid (z0o E (i+1)=z0o E i++z0D (E i)):=rfl;have hsz:=z6E (z0D (E i));have HD:Hid ((⟨(z0D (E i)).toArray⟩:ByteArray).data.toList=z0D (E i)):=ba_mk _;unfold z1r at HT hb0 d0 d1 d2;generalize z0D (E i)=ln at *;generalize (⟨ln.toArray⟩:ByteArray)=T at *;clear hc hOk;go_wp2_with fail;refine(show Calls _ _ _ _ _ from HT).mono ?_;rintro e w2 ⟨rfl,hb2⟩;clear HT d0 d1 d2 c0 c1 c2;have hb3:=hb0.trans (hb2.mono hb0.size);have HWS:=z2o w.heap.size w.heap.size (z0o E i) T w2 (z2m hS.is hb3) (by omega) (by omega) (Nat.le_trans hS.below.size hb3.size);go_wp2_with fail;refine(show Calls _ _ _ _ _ from HWS).mono ?_;rintro e w3 ⟨rfl,hb4⟩;have hN:z7b w w3 (z0o E (i+1)):=by
    have:=hS.more hb3 hb4;rw[HD.out]at this;rw[HL.out];exact this
   clear HWS hb2 hb3 hb4 hS;go_wp2;go_roundw
   case rel=>exact⟨i+1,by omega,by go_num,hN⟩
   case measure=>simp[intOf];omega
  ·have e:i=k:=by omega
   subst e;have HG:=Tryz.Builder_String_any w.heap.size w.heap.size (z0o E i) wr hS.is hS.below.size;go_wp2_with fail;refine(show Calls _ _ _ _ _ from HG).mono ?_;rintro e w6 ⟨rfl,hb6⟩;clear HG;go_wp2;go_ret2;exact⟨rfl,hS.below.trans hb6⟩
def bodyN(s:DSt)(b q:Nat):List UInt8:=z2z (fun i=>(s.K (1+b*55+i)).now) q
theorem readBody_any(w:World)(B p n:Nat)(s:DSt)(b q:Nat)(h:Disk w B p n s)(hup:s.down=false)(hn:112<=n)(hb:b<=1)(hq:q<=55)(hnow:∀i,i<n->(s.K i).now.length=64) :
 Calls Tryz.prog 90 #[.pointer (some ⟨p,0,none⟩),.agg #[.int .i64 (b:Int),.int .i64 (q:Int)]] w fun e w'=>e=.returned (.tuple #[.string ⟨(Lib.trimRightB (bodyN s b q) 0).toArray⟩,.nilIface])/\Below w.heap.size w w':=by
 have hb0:Below w.heap.size w (w.alloc (.cells #[.int .i64 (b:Int),.int .i64 (q:Int)] 122)):=(Below.refl _ _).alloc (Nat.le_refl _) _;have d0:(w.alloc (.cells #[.int .i64 (b:Int),.int .i64 (q:Int)] 122)).cell? ⟨w.heap.size,0,none⟩=some (.int .i64 (b:Int)):=by simp[go_sem]
 have d1:(w.alloc (.cells #[.int .i64 (b:Int),.int .i64 (q:Int)] 122)).cell? ⟨w.heap.size,1,none⟩=some (.int .i64 (q:Int)):=by simp[go_sem]
 have q0:errV 0=.nilIface:=rfl;have hbi:(b:Int)<=1:=by omega
 have hbi0:(0:Int)<=(b:Int):=by omega
 have hb55:b*55<=55:=by omega
 have hlen:∀i,i<=q->(bodyN s b i).length<=3520:=fun i hi=>by
  have:=z6U (fun i=>(s.K (1+b*55+i)).now) 64 q i hi (fun j hj=>by rw[hnow _ (by omega)];exact Nat.le_refl _);unfold bodyN;omega
 generalize hW:w.alloc (.cells #[.int .i64 (b:Int),.int .i64 (q:Int)] 122)=W at *;have hS:=z7o W;have d1':=cell_later hS.below d1;go_enter Tryz.func90,Tryz.ntmps90;go_wp2;go_loopw [12] (fun y wr=>∃i:Nat,i<=q/\y=.int .i64 i/\z7b W wr (bodyN s b i)) (fun y _=>q-(intOf y).toNat)
 case atStart=>exact⟨0,Nat.zero_le _,rfl,hS⟩
 case round=>
  clear hS d1';obtain⟨i,hi,rfl,hS⟩:=hrel;have hbr:=hb0.trans (hS.below.mono hb0.size);by_cases hlt:i<q
  ·have f0:=cell_later hS.below d0;have hl:=hlen i hi;have hi0:(0:Int)<=(i:Int):=by omega
   have hi1:(i:Int)<(q:Int):=by omega
   have hi2:(i:Int)<55:=by omega
   have hin:1+b*55+i<n:=by omega
   have HA:=start_any (b:Int) wr hbi0 hbi;have HR:=diskRead_any wr B p n s (1+(b:Int)*55+(i:Int)) (h.later hbr);have eF:s.readF n (1+(b:Int)*55+(i:Int))=0:=by unfold DSt.readF;rw[hup,if_neg (by decide),if_pos (by omega)]
   have eT:s.readT n (1+(b:Int)*55+(i:Int))=⟨(s.K (1+b*55+i)).now.toArray⟩:=by
    unfold DSt.readT;rw[if_pos eF,show(1+(b:Int)*55+(i:Int)).toNat=1+b*55+i by omega]
   rw[eF,eT,q0]at HR;clear eF eT;have HL:Hid (bodyN s b (i+1)=bodyN s b i++(s.K (1+b*55+i)).now):=rfl;have hsz:=z6E (s.K (1+b*55+i)).now;rw[hnow _ hin]at hsz;have HD:Hid ((⟨(s.K (1+b*55+i)).now.toArray⟩:ByteArray).data.toList=(s.K (1+b*55+i)).now):=ba_mk _;generalize (s.K (1+b*55+i)).now=ln at *;generalize (⟨ln.toArray⟩:ByteArray)=T at *;go_wp2_with fail;refine(show Calls _ _ _ _ _ from HA).mono ?_;rintro e w2 ⟨rfl,hw2⟩;subst hw2;clear HA;go_wp2_with fail;refine(show Calls _ _ _ _ _ from HR).mono ?_;rintro e w2 ⟨rfl,hb2⟩;clear HR f0;have HWS:=z2o W.heap.size W.heap.size (bodyN s b i) T w2 (z2m hS.is hb2) (by omega) (by omega) (Nat.le_trans hS.below.size hb2.size);go_wp2_with fail;refine(show Calls _ _ _ _ _ from HWS).mono ?_;rintro e w3 ⟨rfl,hb4⟩;have hN:z7b W w3 (bodyN s b (i+1)):=by
    have:=hS.more hb2 hb4;rw[HD.out]at this;rw[HL.out];exact this
   clear HWS hb2 hb4 hS;go_wp2;go_roundw
   case rel=>exact⟨i+1,by omega,by go_num,hN⟩
   case measure=>simp[intOf];omega
  ·have e:i=q:=by omega
   subst e;have HG:=Tryz.Builder_String_any W.heap.size W.heap.size (bodyN s b i) wr hS.is hS.below.size;have hl:=hlen i (Nat.le_refl _);have hsz:=z6E (bodyN s b i);have HTR:=fun w'=>Tryz.strings_TrimRight_one ⟨(bodyN s b i).toArray⟩ 0 (by decide) w' (by omega)
   rw[ba_mk]at HTR;generalize (⟨(bodyN s b i).toArray⟩:ByteArray)=T at *;go_wp2_with fail;refine(show Calls _ _ _ _ _ from HG).mono ?_;rintro e w6 ⟨rfl,hb6⟩;clear HG;have HT6:=HTR w6;clear HTR;go_wp2_with fail;refine(show Calls _ _ _ _ _ from HT6).mono ?_;rintro e w7 ⟨rfl,hw7⟩;subst hw7;go_wp2;go_ret2;exact⟨rfl,hb0.trans ((hS.below.trans hb6).mono hb0.size)⟩
end
section
open Go.RowKit
abbrev markL:List UInt8:=[109,97,114,108,105,110,115,112,105,107,101,32,115,104,101,108,102,32]
def z3g (b s:UInt8):List UInt8:=markL++[b,s]++List.replicate 44 0
theorem rep44:Lib.repeatL [(0:UInt8)] 44=List.replicate 44 0:=by decide +kernel
theorem headText_any(b s:Nat)(w:World)(hb:b<256)(hs:s<256) :
 Calls Tryz.prog 60 #[.agg #[.int .i64 b,.int .i64 s]] w fun e w'=>e=.returned (.string ⟨(z3g b.toUInt8 s.toUInt8).toArray⟩)/\Below w.heap.size w w':=by
 have HR:=fun W=>Tryz.strings_Repeat ⟨#[0]⟩ 44 W (by decide) (by decide)
 have hb1:(b:Int)<256:=by omega
 have hs1:(s:Int)<256:=by omega
 have hb0:(0:Int)<=(b:Int):=by omega
 have hs0:(0:Int)<=(s:Int):=by omega
 have hcv:∀(src dst:TypeId),Tryz.prog.underlying src=some (.slice 5)->Tryz.prog.underlying dst=some .string->(convert src dst (.slice (some ⟨w.heap.size+1,0,none⟩) 2 2)).run Tryz.prog ((w.alloc (.cells #[.int .i64 b,.int .i64 s] 122)).alloc (.cells #[.int .u8 b,.int .u8 s] 5))=.ok (.string ⟨[b.toUInt8,s.toUInt8].toArray⟩) ((w.alloc (.cells #[.int .i64 b,.int .i64 s] 122)).alloc (.cells #[.int .u8 b,.int .u8 s] 5)):=fun src dst hs' hd'=>by
  have:=run_convert_bytes_back (P:=Tryz.prog) ((w.alloc (.cells #[.int .i64 b,.int .i64 s] 122)).alloc (.cells #[.int .u8 b,.int .u8 s] 5)) src dst 5 ⟨w.heap.size+1,0,none⟩ 2 [b.toUInt8,s.toUInt8] hs' Tryz.underlying5 hd' (fun j hj=>by
   match j,hj with
   |0,_=>simp[go_sem,Addr.add];omega
   |1,_=>simp[go_sem,Addr.add];omega
   |j+2,hj=>exact absurd hj (by simp))
  simpa using this
 have hcv2:=hcv _ _ Tryz.underlying102 Tryz.underlying9;have HT:Hid (z3g b.toUInt8 s.toUInt8=markL++[b.toUInt8,s.toUInt8]++Lib.repeatL [(0:UInt8)] 44):=by rw[rep44];rfl
 clear hcv;go_enter Tryz.func60,Tryz.ntmps60;go_wp2_with fail;refine(show Calls _ _ _ _ _ from HR _).mono ?_;rintro e w2 ⟨rfl,hb2⟩;clear HR hcv2;go_wp2;go_ret;refine⟨?_,(((Below.refl _ w).alloc (Nat.le_refl _) _).alloc (by simp) _).trans (hb2.mono (by simp;omega))⟩;rw[HT.out];refine congrArg (fun x=>Ending.returned (Value.string x)) (WideShapes.bytes_inj ?_);simp
end
section
open Go.RowKit
def headOf(t:List UInt8):Option (UInt8×UInt8):=
 if (t.getD 18 0).toNat<=1/\(t.getD 19 0).toNat<=55/\z3g (t.getD 18 0) (t.getD 19 0)=t then some (t.getD 18 0,t.getD 19 0)else none
def z1x (s:DSt)(n:Nat):Nat×UInt8×UInt8:=
 if s.readF n 0≠0 then(s.readF n 0,0,0)else if n<112 then(4,0,0)else match headOf (s.K 0).now with|some (b,q)=>(0,b,q)|none=>(4,0,0)
theorem box2{w:World}{g:Nat}{a b:Value}{t:TypeId}(h:w.heap[g]?=some (.cells #[a,b] t (0,0))):w.cell? ⟨g,0,none⟩=some a/\w.cell? ⟨g,1,none⟩=some b/\w.frozen? ⟨g,0,none⟩=false/\w.frozen? ⟨g,1,none⟩=false:=
 ⟨by simp[World.cell?,h],by simp[World.cell?,h],by simp[World.frozen?,h],by simp[World.frozen?,h]⟩
theorem below2{B g:Nat}{w w':World}(h:Below B w w')(hg:B<=g)(a0 a1:Value):Below B w ((w'.setCell ⟨g,0,none⟩ a0).setCell ⟨g,1,none⟩ a1):=
 h.trans ⟨rfl,rfl,rfl,by simp[World.setCell],fun k hk=>(Below.heap_setCell _ _ _ _ (Nat.ne_of_lt (Nat.lt_of_lt_of_le hk hg))).trans (Below.heap_setCell _ _ _ _ (Nat.ne_of_lt (Nat.lt_of_lt_of_le hk hg)))⟩
theorem wrap_u8(x:UInt8):IntKind.i64.wrap (x.toNat:Int)=(x.toNat:Int):=by
 have:=x.toNat_lt;exact IntWalk.i64_in _ ⟨by omega,by omega⟩
theorem wrap_u8'(x:UInt8):wrap64 (x.toNat:Int)=(x.toNat:Int):=by
 have h:=x.toNat_lt;generalize x.toNat=k at *;unfold wrap64;omega
theorem byte_at(l:List UInt8){i:Nat}(h:i<(⟨l.toArray⟩:ByteArray).size):(⟨l.toArray⟩:ByteArray)[i]=l.getD i 0:=by
 have h2:i<l.length:=h;rw[List.getD_eq_getElem?_getD,List.getElem?_eq_getElem h2];rfl
theorem z5Y {f:Nat}(h:f≠0):∃n:Int,errV f=.iface 43 (.int .i64 n):=by
 cases f with
 |zero=>exact absurd rfl h
 |succ f=>exact⟨_,rfl⟩
theorem readHead_any(w:World)(B p n:Nat)(s:DSt)(h:Disk w B p n s)(hnow:(s.K 0).now.length=64) :
 Calls Tryz.prog 89 #[.pointer (some ⟨p,0,none⟩)] w fun e w'=>e=.returned (.tuple #[.agg #[.int .i64 ((z1x s n).2.1.toNat:Int),.int .i64 ((z1x s n).2.2.toNat:Int)],errV (z1x s n).1])/\Below w.heap.size w w':=by
 have hb0:Below w.heap.size w (w.alloc (.cells #[.int .i64 0,.int .i64 0] 122)):=(Below.refl _ _).alloc (Nat.le_refl _) _;have hres:(w.alloc (.cells #[.int .i64 0,.int .i64 0] 122)).heap[w.heap.size]?=some (.cells #[.int .i64 0,.int .i64 0] 122 (0,0)):=Array.getElem?_push_size;have hz:w.heap.size<(w.alloc (.cells #[.int .i64 0,.int .i64 0] 122)).heap.size:=by simp
 have h1:=h.later hb0;have HR:=diskRead_any _ B p n s 0 h1;generalize hW:w.alloc (.cells #[.int .i64 0,.int .i64 0] 122)=W at *;by_cases hF:s.readF n 0=0
 ·have hT:s.readT n 0=⟨(s.K 0).now.toArray⟩:=by unfold DSt.readT;rw[if_pos hF];rfl
  have q0e:errV 0=.nilIface:=rfl;rw[hF,q0e,hT]at HR;have HH:Hid (z1x s n=if n<112 then(4,0,0)else match headOf (s.K 0).now with|some (b,q)=>(0,b,q)|none=>(4,0,0)):=by unfold z1x;rw[if_neg (by simp[hF])];exact rfl
  have HS:=fun W (hb:Below w.heap.size w W)=>z6u W B p n s (h.later hb)
  generalize hTT:(⟨(s.K 0).now.toArray⟩:ByteArray)=T at HR;have hTs:T.size=64:=by rw[<-hTT];show(s.K 0).now.toArray.size=64;simp[hnow]
  go_enter Tryz.func89,Tryz.ntmps89;go_wp2_with fail;refine(show Calls _ _ _ _ _ from HR).mono ?_;rintro e w2 ⟨rfl,hb2⟩;clear HR;have hbA:=hb0.trans (hb2.mono hb0.size);have hz2:w.heap.size<w2.heap.size:=Nat.lt_of_lt_of_le hz hb2.size;have hres2:=(hb2.block _ hz).trans hres;have HS2:=HS w2 hbA;clear HS hb2 hres hz;by_cases hn:n<112
  ·have HE:Hid (z1x s n=(4,0,0)):=by rw[HH.out,if_pos hn];exact rfl
   have hn':(n:Int)<112:=by omega
   obtain⟨q0,q1,f0,f1⟩:=box2 hres2;have hNB:=below2 hbA (Nat.le_refl w.heap.size) (.int .i64 0) (.int .i64 0);clear HH;go_wp2_with fail;refine(show Calls _ _ _ _ _ from HS2).mono ?_;rintro e w3 ⟨rfl,hw3⟩;subst hw3;clear HS2;go_wp2;refine bodyPost_ret (v:=.tuple #[.agg #[.int .i64 0,.int .i64 0],.iface 43 (.int .i64 4)]) (by simp[results,Tryz.results89,go_sem,q0,q1]) rfl ?_;rw[HE.out];exact⟨rfl,hNB⟩
  ·have hn':¬(n:Int)<112:=by omega
   have h18:18<T.size:=by omega
   have h19:19<T.size:=by omega
   go_wp2_with fail;refine(show Calls _ _ _ _ _ from HS2).mono ?_;rintro e w3 ⟨rfl,hw3⟩;subst hw3;clear HS2;go_wp2;refine z0f (fun _=>True) 8 9 (by kernel_rfl) rfl ?_;have hSS:(fun _:World=>True) w3.drew:=trivial;refine tW 0 hSS ?_;refine tW 1 hSS ?_;refine tW 2 hSS ?_;refine tW 3 hSS ?_;refine tW 4 hSS ?_;refine tW 5 hSS ?_;refine tW 6 hSS ?_;refine oG 7 fun K hK=>?_
   go_wp2_with fail;refine hK _ _ trivial ?_;clear hK;refine lG 8 fun K hK=>?_
   go_wp2_with fail;refine hK _ _ ?_;clear hK;refine z1c (by kernel_rfl) ?_ _;have hw8:=wrap_u8 T[18];have hw9:=wrap_u8 T[19];have hv8:=wrap_u8' T[18];have hv9:=wrap_u8' T[19];have g18:T[18]=(s.K 0).now.getD 18 0:=by subst hTT;exact byte_at _ h18
   have g19:T[19]=(s.K 0).now.getD 19 0:=by subst hTT;exact byte_at _ h19
   simp only[hw8,hw9,hv8,hv9];clear hw8 hw9 hv8 hv9;generalize T[18]=x8 at *;generalize T[19]=x9 at *;have G18:Hid (x8=(s.K 0).now.getD 18 0):=g18;have G19:Hid (x9=(s.K 0).now.getD 19 0):=g19;have HNL:Hid (T.data.toList=(s.K 0).now):=by rw[<-hTT];exact rfl
   clear g18 g19;have hbx:Below w3.heap.size w3 (w3.alloc (.cells #[.int .i64 (x8.toNat:Int),.int .i64 (x9.toNat:Int)] 122)).drew:=((Below.refl _ _).alloc (Nat.le_refl _) _).drew;have hbB:=hbA.trans (hbx.mono (Nat.le_of_lt hz2));have hres4:=(hbx.block _ hz2).trans hres2;have d0:(w3.alloc (.cells #[.int .i64 (x8.toNat:Int),.int .i64 (x9.toNat:Int)] 122)).drew.cell? ⟨w3.heap.size,0,none⟩=some (.int .i64 (x8.toNat:Int)):=by simp[go_sem]
   have d1:(w3.alloc (.cells #[.int .i64 (x8.toNat:Int),.int .i64 (x9.toNat:Int)] 122)).drew.cell? ⟨w3.heap.size,1,none⟩=some (.int .i64 (x9.toNat:Int)):=by simp[go_sem]
   have hlt8:=x8.toNat_lt;have hlt9:=x9.toNat_lt;have hz4:w.heap.size<(w3.alloc (.cells #[.int .i64 (x8.toNat:Int),.int .i64 (x9.toNat:Int)] 122)).drew.heap.size:=by simp;omega
   have hno:¬(x8.toNat<=1/\x9.toNat<=55/\z3g x8 x9=T.data.toList)->z1x s n=(4,0,0):=fun hh=>by
    rw[HH.out,if_neg hn];unfold headOf;rw[<-G18.out,<-G19.out,<-HNL.out,if_neg hh]
   have hyes:(x8.toNat<=1/\x9.toNat<=55/\z3g x8 x9=T.data.toList)->z1x s n=(0,x8,x9):=fun hh=>by
    rw[HH.out,if_neg hn];unfold headOf;rw[<-G18.out,<-G19.out,<-HNL.out,if_pos hh]
   have HNO:Hid (¬(x8.toNat<=1/\x9.toNat<=55/\z3g x8 x9=T.data.toList)->z1x s n=(4,0,0)):=hno;have HYES:Hid ((x8.toNat<=1/\x9.toNat<=55/\z3g x8 x9=T.data.toList)->z1x s n=(0,x8,x9)):=hyes;clear hno hyes hTT hTs hres2 hbA;generalize (w3.alloc (.cells #[.int .i64 (x8.toNat:Int),.int .i64 (x9.toNat:Int)] 122)).drew=w4 at *;by_cases k1:(1:Int)<(x8.toNat:Int)
   ·have HE:Hid (z1x s n=(4,0,0)):=HNO.out (fun hh=>by omega);obtain⟨q0,q1,f0,f1⟩:=box2 hres4;have hNB:=below2 hbB (Nat.le_refl w.heap.size) (.int .i64 0) (.int .i64 0);clear HH;go_wp2;refine bodyPost_ret (v:=.tuple #[.agg #[.int .i64 0,.int .i64 0],.iface 43 (.int .i64 4)]) (by simp[results,Tryz.results89,go_sem,q0,q1]) rfl ?_;rw[HE.out];exact⟨rfl,hNB⟩
   by_cases k2:(55:Int)<(x9.toNat:Int)
   ·have HE:Hid (z1x s n=(4,0,0)):=HNO.out (fun hh=>by omega);obtain⟨q0,q1,f0,f1⟩:=box2 hres4;have hNB:=below2 hbB (Nat.le_refl w.heap.size) (.int .i64 0) (.int .i64 0);clear HH;go_wp2;refine bodyPost_ret (v:=.tuple #[.agg #[.int .i64 0,.int .i64 0],.iface 43 (.int .i64 4)]) (by simp[results,Tryz.results89,go_sem,q0,q1]) rfl ?_;rw[HE.out];exact⟨rfl,hNB⟩
   have HT:=headText_any x8.toNat x9.toNat w4 (by omega) (by omega);have u8:x8.toNat.toUInt8=x8:=by simp
   have u9:x9.toNat.toUInt8=x9:=by simp
   rw[u8,u9]at HT;clear u8 u9;go_wp2_with fail;refine(show Calls _ _ _ _ _ from HT).mono ?_;rintro e w5 ⟨rfl,hb5⟩;clear HT;have hres5:=(hb5.block _ hz4).trans hres4;have hbC:=hbB.trans (hb5.mono hbB.size);have e0:=cell_later hb5 d0;have e1:=cell_later hb5 d1;obtain⟨q0,q1,f0,f1⟩:=box2 hres5;clear d0 d1 hbB hres4 hres5 HH;by_cases hEq:(⟨(z3g x8 x9).toArray⟩:ByteArray)=T
   ·have HE:Hid (z1x s n=(0,x8,x9)):=HYES.out ⟨by omega,by omega,by rw[<-hEq]⟩;have hNB:=below2 hbC (Nat.le_refl w.heap.size) (.int .i64 (x8.toNat:Int)) (.int .i64 (x9.toNat:Int));rw[hEq];clear hEq;go_wp2;refine bodyPost_ret (v:=.tuple #[.agg #[.int .i64 (x8.toNat:Int),.int .i64 (x9.toNat:Int)],.nilIface]) (by simp[results,Tryz.results89,go_sem,q0,q1]) rfl ?_;rw[HE.out];exact⟨rfl,hNB⟩
   ·have HE:Hid (z1x s n=(4,0,0)):=HNO.out (fun hh=>hEq (by rw[hh.2.2]));have hNB:=below2 hbC (Nat.le_refl w.heap.size) (.int .i64 0) (.int .i64 0);generalize (⟨(z3g x8 x9).toArray⟩:ByteArray)=U at *;have hne:(U.toList==T.toList)=false:=by rw[z0z];exact decide_eq_false hEq
    clear hEq;go_wp2;refine bodyPost_ret (v:=.tuple #[.agg #[.int .i64 0,.int .i64 0],.iface 43 (.int .i64 4)]) (by simp[results,Tryz.results89,go_sem,q0,q1]) rfl ?_;rw[HE.out];exact⟨rfl,hNB⟩
 ·have HE:Hid (z1x s n=(s.readF n 0,0,0)):=by unfold z1x;rw[if_pos hF];exact rfl
  obtain⟨z,hzz⟩:=z5Y hF;rw[hzz]at HR;generalize s.readT n 0=T at *;go_enter Tryz.func89,Tryz.ntmps89;go_wp2_with fail;refine(show Calls _ _ _ _ _ from HR).mono ?_;rintro e w2 ⟨rfl,hb2⟩;clear HR;obtain⟨q0,q1,f0,f1⟩:=box2 ((hb2.block _ hz).trans hres);have hNB:=below2 (hb0.trans (hb2.mono hb0.size)) (Nat.le_refl w.heap.size) (.int .i64 0) (.int .i64 0);go_wp2;refine bodyPost_ret (v:=.tuple #[.agg #[.int .i64 0,.int .i64 0],.iface 43 (.int .i64 z)]) (by simp[results,Tryz.results89,go_sem,q0,q1]) rfl ?_;rw[HE.out,hzz];exact⟨rfl,hNB⟩
end
section
open Go.RowKit
def z7C (b q:UInt8):ByteArray:=⟨(z3g b q).toArray⟩
theorem headB_size(b q:UInt8):(z7C b q).size=64:=by
 show(z3g b q).toArray.size=64;simp[z3g]
def DSt.headF(s:DSt)(n:Nat)(b q:UInt8):Nat:=if s.writeF n 0 (z7C b q)=0 then(s.wrote n 0 (z7C b q)).flushF else s.writeF n 0 (z7C b q)
def DSt.headed(s:DSt)(n:Nat)(b q:UInt8):DSt:=if s.writeF n 0 (z7C b q)=0 then(s.wrote n 0 (z7C b q)).flushed else s.wrote n 0 (z7C b q)
theorem writeHead_any(w:World)(B p n:Nat)(s:DSt)(b q:UInt8)(h:Disk w B p n s) :
 Calls Tryz.prog 45 #[.pointer (some ⟨p,0,none⟩),.agg #[.int .i64 (b.toNat:Int),.int .i64 (q.toNat:Int)]] w fun e w'=>e=.returned (errV (s.headF n b q))/\Disk w' B p n (s.headed n b q)/\Spun B w w':=by
 have hb0:Below w.heap.size w (w.alloc (.cells #[.int .i64 (b.toNat:Int),.int .i64 (q.toNat:Int)] 122)):=(Below.refl _ _).alloc (Nat.le_refl _) _;have HT:=headText_any b.toNat q.toNat (w.alloc (.cells #[.int .i64 (b.toNat:Int),.int .i64 (q.toNat:Int)] 122)) b.toNat_lt q.toNat_lt;have u8:b.toNat.toUInt8=b:=by simp
 have u9:q.toNat.toUInt8=q:=by simp
 rw[u8,u9]at HT;have eT:(⟨(z3g b q).toArray⟩:ByteArray)=z7C b q:=rfl;rw[eT]at HT;have hS:=headB_size b q;unfold DSt.headF DSt.headed;generalize z7C b q=T at *;have h1:=h.later hb0;have hB:=h.base;clear u8 u9 eT;by_cases hF:s.writeF n 0 T=0
 ·rw[if_pos hF,if_pos hF];go_enter Tryz.func45,Tryz.ntmps45;go_wp2_with fail;refine(show Calls _ _ _ _ _ from HT).mono ?_;rintro e w2 ⟨rfl,hb2⟩;clear HT;have hb3:=hb0.trans (hb2.mono hb0.size);have HW:=z5Z w2 B p n s 0 T (h.later hb3) (by rw[hS];decide);clear hb0 hb2 h1;rw[hF]at HW;have q0:errV 0=.nilIface:=rfl;rw[q0]at HW;clear hF;go_wp2_with fail;refine(show Calls _ _ _ _ _ from HW).mono ?_;rintro e w4 ⟨rfl,hD,hSp⟩;clear HW;have hSp2:=(Spun.of hB hb3).trans hSp;have HFl:=z7z w4 B p n _ hD;go_wp2_with fail;refine(show Calls _ _ _ _ _ from HFl).mono ?_;rintro e w5 ⟨rfl,hD5,hS5⟩;clear HFl;go_wp2;go_ret;exact⟨rfl,hD5,hSp2.trans hS5⟩
 ·rw[if_neg hF,if_neg hF];obtain⟨z,hz⟩:=z5Y hF;rw[hz];go_enter Tryz.func45,Tryz.ntmps45;go_wp2_with fail;refine(show Calls _ _ _ _ _ from HT).mono ?_;rintro e w2 ⟨rfl,hb2⟩;clear HT;have hb3:=hb0.trans (hb2.mono hb0.size);have HW:=z5Z w2 B p n s 0 T (h.later hb3) (by rw[hS];decide);clear hb0 hb2 h1;rw[hz]at HW;clear hF hz;go_wp2_with fail;refine(show Calls _ _ _ _ _ from HW).mono ?_;rintro e w4 ⟨rfl,hD,hSp⟩;clear HW;have hSp2:=(Spun.of hB hb3).trans hSp;go_wp2;go_ret;exact⟨rfl,hD,hSp2⟩
end
section
open Go.RowKit
structure z1M (E:Nat->EntF)(k:Nat):Prop where
 few:k<=3
 ok:∀i,i<k->entF (E i)=0
 once:∀i j,i<k->j<k->(E i).root=(E j).root->i=j
theorem z1M.ent{E:Nat->EntF}{k:Nat}(h:z1M E k){i:Nat}(hi:i<k):z7q (E i):=z5t (h.ok i hi)
def bodyK(s:DSt)(b q:Nat):List UInt8:=z2z (fun i=>(s.K (1+b*55+i)).kept) q
structure z0X (s:DSt)(n:Nat)(E:Nat->EntF)(k:Nat):Prop where
 up:s.down=false
 many:112<=n
 calm:∀i,i<n->(s.K i).late=[]
 good:z1M E k
 head:∃b q:Nat,b<=1/\q<=55/\(s.K 0).kept=z3g b.toUInt8 q.toUInt8/\Lib.trimRightB (bodyK s b q) 0=z0o E k
theorem z7v {s s':DSt}{b q:Nat}(h:∀i,i<q->(s'.K (1+b*55+i)).kept=(s.K (1+b*55+i)).kept):bodyK s' b q=bodyK s b q:=by
 unfold bodyK
 induction q with
 |zero=>rfl
 |succ q ih=>
  have:=ih fun i hi=>h i (by omega)
  simp only[z2z];rw[this,h q (by omega)]
theorem z0X.of{s s':DSt}{n:Nat}{E:Nat->EntF}{k:Nat}(h:z0X s n E k)(hup:s'.down=false)(hc:∀i,i<n->(s'.K i).late=[])(hK:∀i,i<n->(s'.K i).kept=(s.K i).kept):z0X s' n E k:=by
 obtain⟨b,q,hb,hq,hh,ht⟩:=h.head;have hm:=h.many;refine⟨hup,h.many,hc,h.good,b,q,hb,hq,(hK 0 (by omega)).trans hh,?_⟩
 rw[z7v (fun i hi=>hK _ (by have:b*55<=55:=by omega
                            omega))]
 exact ht
theorem z0X.again{s:DSt}{n:Nat}{E:Nat->EntF}{k:Nat}(h:z0X s n E k)(keep:Int):z0X (s.again keep) n E k:=
 h.of rfl (fun _ _=>rfl) fun i hi=>by show z2B keep (s.K i).kept (s.K i).late=_;rw[h.calm i hi];rfl
theorem z0X.same{s:DSt}{n:Nat}{E E':Nat->EntF}{k:Nat}(h:z0X s n E k)(e:∀i,i<k->z2H (E i) (E' i)):z0X s n E' k:=by
 have hl:∀i,i<k->entF (E' i)=0/\z0D (E i)=z0D (E' i):=fun i hi=>(e i hi).line (h.good.ok i hi)
 obtain⟨b,q,hb,hq,hh,ht⟩:=h.head;refine⟨h.up,h.many,h.calm,⟨h.good.few,fun i hi=>(hl i hi).1,fun i j hi hj he=>h.good.once i j hi hj ?_⟩,b,q,hb,hq,hh,ht.trans (linesE_congr fun i hi=>(hl i hi).2)⟩;rw[(e i hi).root,(e j hj).root];exact he
theorem z0X.now{s:DSt}{n:Nat}{E:Nat->EntF}{k:Nat}(h:z0X s n E k){i:Nat}(hi:i<n):(s.K i).now=(s.K i).kept:=by
 unfold Sec.now;rw[h.calm i hi];rfl
def chunk(t:List UInt8)(i:Nat):List UInt8:=(t.drop (64*i)).take 64
theorem chunk_len(t:List UInt8)(i:Nat):(chunk t i).length<=64:=by simp[chunk];omega
theorem chunks(t:List UInt8):∀k,z2z (fun i=>padB (chunk t i)) k=t.take (64*k)++List.replicate (64*k-t.length) 0
 |0=>by simp[z2z]
 |k+1=>by
  simp only[z2z];rw[chunks t k];by_cases h:64*k<=t.length
  ·have e0:64*k-t.length=0:=by omega
   rw[e0,List.replicate_zero,List.append_nil];unfold padB chunk;rw[<-List.append_assoc,show 64*(k+1)=64*k+64 by omega,List.take_add];congr 2;rw[List.length_take,List.length_drop];omega
  ·have e1:chunk t k=[]:=by unfold chunk;rw[List.drop_of_length_le (by omega)];rfl
   rw[e1,List.take_of_length_le (by omega),List.take_of_length_le (by omega)];unfold padB;rw[List.nil_append,List.append_assoc,List.replicate_append_replicate];congr 2;simp;omega
theorem trim_zeros{t:List UInt8}(m:Nat)(h:t=[]∨t.getLast? = some 10):Lib.trimRightB (t++List.replicate m 0) 0=t:=by
 rw[Lib.trimRightB_take (t++List.replicate m 0) 0 t.length (by simp) ?_ ?_]
 ·simp
 ·intro j b hj hb;rw[List.getElem?_append_right hj]at hb;have:=List.mem_of_getElem? hb;exact(List.mem_replicate.1 this).2
 ·intro b hk hb;rw[List.getElem?_append_left (by omega)]at hb;rcases h with rfl|h
  ·simp at hk
  ·rw[List.getLast?_eq_getElem?,hb]at h;injection h with h;subst h;decide
def z0Y (t:List UInt8):Nat:=(t.length+63) / 64
theorem chunks_all(t:List UInt8)(h:t=[]∨t.getLast? = some 10):Lib.trimRightB (z2z (fun i=>padB (chunk t i)) (z0Y t)) 0=t:=by
 rw[chunks t (z0Y t),List.take_of_length_le (by unfold z0Y;omega)];exact trim_zeros _ h
structure z7x (s s1:DSt)(b:Nat)(t:List UInt8)(k:Nat):Prop where
 up:s1.down=false
 left:s.left=-1->s1.left=-1
 rest:∀i,¬(1+b*55<=i/\i<1+b*55+k)->s1.K i=s.K i
 body:∀i,i<k->∃bit,bit<64/\s1.K (1+b*55+i)=⟨(s.K (1+b*55+i)).kept,[(bit,padB (chunk t i))]⟩
theorem z7x.start{s:DSt}(h:s.down=false)(b:Nat)(t:List UInt8):z7x s s b t 0:=⟨h,id,fun _ _=>rfl,fun i hi=>by omega⟩
theorem not_falls{s:DSt}(h:s.falls=false):s.down=false/\s.left≠0:=by simpa[DSt.falls]using h
theorem z2I {s:DSt}(h:s.left=-1):s.stepped.left=-1:=by simp[DSt.stepped,h]
theorem z7x.more{s s1:DSt}{b k:Nat}{t:List UInt8}(h:z7x s s1 b t k)(hf:s1.falls=false)(hn:s1.next<64)(hc:(s.K (1+b*55+k)).late=[]):z7x s (s1.stepped.put (1+b*55+k) (padB (chunk t k))) b t (k+1):=by
 have hk:s1.stepped.K (1+b*55+k)=s.K (1+b*55+k):=h.rest _ (by omega);have hke:(s1.stepped.put (1+b*55+k) (padB (chunk t k))).K=fun j=>if j=1+b*55+k then⟨(s1.stepped.K (1+b*55+k)).kept,z1Y (s1.stepped.K (1+b*55+k)).late s1.stepped.next++[(s1.stepped.next,padB (chunk t k))]⟩else s1.stepped.K j:=rfl
 refine⟨(not_falls hf).1,fun hl=>z2I (h.left hl),fun i hi=>?_,fun i hi=>?_⟩
 ·rw[hke];show(if i=1+b*55+k then _ else s1.K i)=_;rw[if_neg (by omega)];exact h.rest i (by omega)
 ·by_cases e:i=k
  ·subst e;refine⟨s1.next,hn,?_⟩;rw[hke];show(if 1+b*55+i=1+b*55+i then _ else _)=_;rw[if_pos rfl,hk,hc];rfl
  ·obtain⟨bit,h1,h2⟩:=h.body i (by omega);refine⟨bit,h1,?_⟩;rw[hke];show(if 1+b*55+i=1+b*55+k then _ else s1.K (1+b*55+i))=_;rw[if_neg (by omega)];exact h2
def Split(s:DSt)(n:Nat)(E:Nat->EntF)(k:Nat)(E':Nat->EntF)(k':Nat):Prop:=s.down=true/\∀keep,z0X (s.again keep) n E k∨z0X (s.again keep) n E' k'
theorem z0X.fallen{s s1:DSt}{n b0 q0:Nat}{E E':Nat->EntF}{k k':Nat}(h:z0X s n E k)(hb0:b0<=1)(hq0:q0<=55)(hh:(s.K 0).kept=z3g b0.toUInt8 q0.toUInt8)(ht:Lib.trimRightB (bodyK s b0 q0) 0=z0o E k)
 (hd:s1.down=true) (hr:∀i,i<n->¬(1+(1-b0)*55<=i/\i<1+(1-b0)*55+55)->s1.K i=s.K i):Split s1 n E k E' k':=by
 have hm:=h.many;have hk:∀keep i,i<n->¬(1+(1-b0)*55<=i/\i<1+(1-b0)*55+55)->((s1.again keep).K i).kept=(s.K i).kept:=fun keep i hi hn=>by
  show z2B keep (s1.K i).kept (s1.K i).late=_;rw[hr i hi hn,h.calm i hi];rfl
 refine⟨hd,fun keep=>.inl ⟨rfl,hm,fun _ _=>rfl,h.good,b0,q0,hb0,hq0,(hk keep 0 (by omega) (by omega)).trans hh,?_⟩⟩
 rw[z7v (s:=s) (fun i hi=>hk keep _ (by have:b0*55<=55:=by omega
                                        omega) (by rcases Nat.le_one_iff_eq_zero_or_eq_one.1 hb0 with rfl|rfl <;> omega))]
 exact ht
structure BodyKept(s s2:DSt)(n b:Nat)(t:List UInt8):Prop where
 up:s2.down=false
 left:s.left=-1->s2.left=-1
 rest:∀i,i<n->¬(1+b*55<=i/\i<1+b*55+55)->s2.K i=s.K i
 calm:∀i,i<n->(s2.K i).late=[]
 body:∀i,i<z0Y t->(s2.K (1+b*55+i)).kept=padB (chunk t i)
theorem bit_all{c d:List UInt8}{bit:Nat}(h:bit<64):z2B 18446744073709551615 c [(bit,d)]=d:=by
 show(if bitOf 18446744073709551615 bit=true then d else c)=d;rw[bitOf_all bit h,if_pos rfl]
theorem sec_calm{S:Sec}{keep:Int}(h:S.late=[]):(⟨z2B keep S.kept S.late,[]⟩:Sec)=S:=by
 obtain⟨c,l⟩:=S;simp only at h;subst h;rfl
theorem z7x.flush{s s1:DSt}{n b:Nat}{t:List UInt8}(h:z7x s s1 b t (z0Y t))(hq:z0Y t<=55)(hf:s1.falls=false)(hc:∀i,i<n->(s.K i).late=[]):BodyKept s (s1.stepped.settled 18446744073709551615) n b t:=by
 refine⟨(not_falls hf).1,fun hl=>z2I (h.left hl),fun i hi hn=>?_,fun _ _=>rfl,fun i hi=>?_⟩
 ·have e:=h.rest i (by omega);show(⟨z2B _ (s1.K i).kept (s1.K i).late,[]⟩:Sec)=_;rw[e];exact sec_calm (hc i hi)
 ·obtain⟨bit,h1,h2⟩:=h.body i hi;show z2B _ (s1.K (1+b*55+i)).kept (s1.K (1+b*55+i)).late=_;rw[h2];exact bit_all h1
theorem many64_le{t:List UInt8}(h:t.length<=2256):z0Y t<=55:=by unfold z0Y;omega
theorem z0X.new{S:DSt}{n b:Nat}{E:Nat->EntF}{k:Nat}(hg:z1M E k)(hn:112<=n)(hb:b<=1)(hup:S.down=false)(hc:∀i,i<n->(S.K i).late=[])(h0:(S.K 0).kept=z3g b.toUInt8 (z0Y (z0o E k)).toUInt8)
 (hbody:∀i,i<z0Y (z0o E k)->(S.K (1+b*55+i)).kept=padB (chunk (z0o E k) i)):z0X S n E k:=by
 refine⟨hup,hn,hc,hg,b,z0Y (z0o E k),hb,many64_le (z5Q hg.few fun i hi=>hg.ent hi),h0,?_⟩;have e:bodyK S b (z0Y (z0o E k))=z2z (fun i=>padB (chunk (z0o E k) i)) (z0Y (z0o E k)):=by
  unfold bodyK;generalize z0Y (z0o E k)=q at *;clear h0
  induction q with
  |zero=>rfl
  |succ q ih=>
   have h1:=ih fun i hi=>hbody i (by omega)
   simp only[z2z];rw[h1,hbody q (by omega)]
 rw[e];exact chunks_all _ (linesE_end E k)
theorem padB_head(b q:UInt8):padB (z7C b q).data.toList=z3g b q:=by
 have h:(z3g b q).length=64:=by simp[z3g]
 unfold padB z7C;simp[h]
theorem write_head{s:DSt}{n:Nat}(b q:UInt8)(hn:112<=n):s.writeF n 0 (z7C b q)=(if s.falls=true then 9 else 0)/\s.wrote n 0 (z7C b q)=if s.falls=true then s.fell else s.stepped.put 0 (z3g b q):=by
 have hs:=headB_size b q;have hno:¬(¬((0:Int)<=0/\(0:Int)<n)∨64<(z7C b q).size):=by rw[hs];omega
 unfold DSt.writeF DSt.wrote;rw[if_neg hno,if_neg hno,padB_head];exact⟨rfl,rfl⟩
theorem head_done{s s2:DSt}{n b0 q0:Nat}{E E':Nat->EntF}{k k':Nat}(h:z0X s n E k)(hb0:b0<=1)(hq0:q0<=55)(hh:(s.K 0).kept=z3g b0.toUInt8 q0.toUInt8)(ht:Lib.trimRightB (bodyK s b0 q0) 0=z0o E k)
 (hK:BodyKept s s2 n (1-b0) (z0o E' k')) (hg:z1M E' k') (hnx:s2.next<64) :
 (s2.headF n (1-b0).toUInt8 (z0Y (z0o E' k')).toUInt8=0/\z0X (s2.headed n (1-b0).toUInt8 (z0Y (z0o E' k')).toUInt8) n E' k'/\(s.left=-1->(s2.headed n (1-b0).toUInt8 (z0Y (z0o E' k')).toUInt8).left=-1)) ∨
 (s.left ≠ -1/\s2.headF n (1-b0).toUInt8 (z0Y (z0o E' k')).toUInt8=9/\Split (s2.headed n (1-b0).toUInt8 (z0Y (z0o E' k')).toUInt8) n E k E' k'):=by
 have hn:=h.many;have hb1:1-b0<=1:=by omega
 obtain⟨e1,e2⟩:=write_head (s:=s2) (n:=n) (1-b0).toUInt8 (z0Y (z0o E' k')).toUInt8 hn;have hcal:=hK.calm;have hbod:=hK.body;unfold DSt.headF DSt.headed;rw[e1,e2];by_cases hf:s2.falls=true
 ·rw[if_pos hf,if_pos hf,if_neg (by decide)];refine .inr ⟨fun hl=>?_,rfl,?_⟩
  ·have h1:=hK.left hl;simp[DSt.falls,hK.up,h1]at hf
  ·rw[if_neg (by decide)];exact h.fallen hb0 hq0 hh ht rfl fun i hi hn'=>hK.rest i hi hn'
 ·have hf':s2.falls=false:=by simpa using hf
  rw[if_neg hf,if_neg hf,if_pos rfl,if_pos rfl];have hk0:s2.K 0=s.K 0:=hK.rest 0 (by omega) (by omega);generalize hs3:s2.stepped.put 0 (z3g (1-b0).toUInt8 (z0Y (z0o E' k')).toUInt8)=s3;have k0:s3.K 0=⟨(s2.K 0).kept,[(s2.next,z3g (1-b0).toUInt8 (z0Y (z0o E' k')).toUInt8)]⟩:=by
   rw[<-hs3];show(if (0:Nat)=0 then(⟨(s2.K 0).kept,z1Y (s2.K 0).late s2.next++[(s2.next,_)]⟩:Sec)else s2.K 0)=_;rw[if_pos rfl,hcal 0 (by omega)];rfl
  have ki:∀i,i≠0->s3.K i=s2.K i:=fun i hi=>by
   rw[<-hs3];show(if i=0 then _ else s2.K i)=_;rw[if_neg hi]
  have hup3:s3.down=false:=by rw[<-hs3];exact hK.up
  have hl3:s.left=-1->s3.left=-1:=fun hl=>by rw[<-hs3];exact z2I (hK.left hl)
  clear hs3;have hnew:∀(S:DSt) (keep:Int),S.down=false->S.K=(fun j=>⟨z2B keep (s3.K j).kept (s3.K j).late,[]⟩)->bitOf keep s2.next=true->z0X S n E' k':=fun S keep hS hSK hbit=>by
   refine z0X.new hg hn hb1 hS (fun i _=>by rw[hSK]) ?_ (fun i hi=>?_)
   ·rw[hSK];show z2B keep (s3.K 0).kept (s3.K 0).late=_;rw[k0];show(if bitOf keep s2.next=true then _ else _)=_;rw[if_pos hbit]
   ·rw[hSK];have hq:=many64_le (z5Q (E:=E') hg.few fun i hi=>hg.ent hi)
    have hlt:1+(1-b0)*55+i<n:=by have:(1-b0)*55<=55:=by omega
                                 omega
    show z2B keep (s3.K (1+(1-b0)*55+i)).kept (s3.K (1+(1-b0)*55+i)).late=_;rw[ki _ (by omega),hcal _ hlt];exact hbod i hi
  by_cases hf3:s3.falls=true
  ·refine .inr ⟨fun hl=>?_,?_,?_⟩
   ·have h1:=hl3 hl;simp[DSt.falls,hup3,h1]at hf3
   ·unfold DSt.flushF;rw[if_pos hf3]
   ·unfold DSt.flushed;rw[if_pos hf3];refine⟨rfl,fun keep=>?_⟩;by_cases hbit:bitOf keep s2.next=true
    ·exact .inr (hnew _ keep rfl rfl hbit)
    ·left;have hk:∀i,i<n->¬(1+(1-b0)*55<=i/\i<1+(1-b0)*55+55)->((s3.fell.again keep).K i).kept=(s.K i).kept:=fun i hi hn'=>by
      show z2B keep (s3.K i).kept (s3.K i).late=_;by_cases e:i=0
      ·subst e;rw[k0];show(if bitOf keep s2.next=true then _ else(s2.K 0).kept)=_;rw[if_neg hbit,hk0]
      ·rw[ki i e,hcal i hi];show(s2.K i).kept=_;rw[hK.rest i hi hn']
     refine⟨rfl,hn,fun _ _=>rfl,h.good,b0,q0,hb0,hq0,(hk 0 (by omega) (by omega)).trans hh,?_⟩
     rw[z7v (s:=s) (fun i hi=>hk _ (by have:b0*55<=55:=by omega
                                       omega) (by rcases Nat.le_one_iff_eq_zero_or_eq_one.1 hb0 with rfl|rfl <;> omega))]
     exact ht
  ·have hf3':s3.falls=false:=by simpa using hf3
   have hbit:bitOf 18446744073709551615 s2.next=true:=bitOf_all _ hnx
   refine .inl ⟨?_,?_,?_⟩
   ·unfold DSt.flushF;rw[if_neg hf3]
   ·unfold DSt.flushed;rw[if_neg hf3];exact hnew _ _ hup3 rfl hbit
   ·unfold DSt.flushed;rw[if_neg hf3];exact fun hl=>z2I (hl3 hl)
end
end Go.Proofs.YtbcpcbonlhlhpaaGreatDoor
