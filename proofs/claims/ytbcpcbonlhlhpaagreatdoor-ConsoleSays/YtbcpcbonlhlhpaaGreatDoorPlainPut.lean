/- What entries and keep of package shelf do, on a disk on -/
import Derived.Test.YtbcpcbonlhlhpaaGreatDoorShelfParse
set_option maxRecDepth 100000
set_option maxHeartbeats 8000000
namespace Go.Proofs.YtbcpcbonlhlhpaaGreatDoor
section
open Go.RowKit
def z0T (w:World)(g p:Nat):Prop:=w.heap[g]?=some (.cells #[.pointer (some ⟨p,0,none⟩)] 148 (0,0))
theorem z0T.lt{w:World}{g p:Nat}(h:z0T w g p):g<w.heap.size:=(Array.getElem?_eq_some_iff.1 h).1
theorem z0T.cell{w:World}{g p:Nat}(h:z0T w g p):w.cell? ⟨g,0,none⟩=some (.pointer (some ⟨p,0,none⟩)):=by simp[World.cell?,show w.heap[g]?=_ from h]
theorem z0T.later{w w':World}{g p:Nat}(h:z0T w g p)(hb:Below w.heap.size w w'):z0T w' g p:=(hb.block _ h.lt).trans h
theorem z0T.spun{w w':World}{B g p:Nat}(h:z0T w g p)(hs:Spun B w w'):z0T w' g p:=hs.block _ _ h (fun⟨c,t,f,e,ht⟩=>by
 injection e with _ e2 _;subst e2;exact absurd ht (by decide))
theorem z7B {w:World}{B B':Nat}{e:TypeId}{s n:Nat}{v:Value}{xs:List Value}(h:w.ownsRow B e s v n xs)(hB:B'<=B):w.ownsRow B' e s v n xs:=
 ⟨h.1,h.2.imp id fun⟨g,cap,cur,h1,h2,h3⟩=>⟨g,cap,cur,h1,Nat.le_trans hB h2,h3⟩⟩
theorem headT_at(b q:UInt8):(z3g b q).getD 18 0=b/\(z3g b q).getD 19 0=q:=⟨rfl,rfl⟩
theorem headOf_headT{b q:Nat}(hb:b<=1)(hq:q<=55):headOf (z3g b.toUInt8 q.toUInt8)=some (b.toUInt8,q.toUInt8):=by
 unfold headOf;rw[(headT_at _ _).1,(headT_at _ _).2,if_pos];refine⟨?_,?_,rfl⟩
 ·simp;omega
 ·simp;omega
theorem z0X.read{s:DSt}{n:Nat}{E:Nat->EntF}{k b q:Nat}(h:z0X s n E k)(hb:b<=1)(hq:q<=55)(hh:(s.K 0).kept=z3g b.toUInt8 q.toUInt8):z1x s n=(0,b.toUInt8,q.toUInt8):=by
 have hm:=h.many;have h0:s.readF n 0=0:=by unfold DSt.readF;rw[h.up,if_neg (by decide),if_pos (by omega)]
 unfold z1x;rw[if_neg (by simp[h0]),if_neg (by omega),h.now (by omega),hh,headOf_headT hb hq]
theorem bodyN_kept{s:DSt}{n:Nat}{E:Nat->EntF}{k b q:Nat}(h:z0X s n E k)(hb:b<=1)(hq:q<=55):bodyN s b q=bodyK s b q:=by
 have hm:=h.many;have hb55:b*55<=55:=by omega
 unfold bodyN bodyK;refine catTo_same fun i hi=>h.now (by omega)
theorem z4G (w:World)(B p n g:Nat)(s:DSt)(E:Nat->EntF)(k:Nat)(h:Disk w B p n s)(hS:z0X s n E k)(hg:z0T w g p)(hE:Env w) :
 Calls Tryz.prog 62 #[.pointer (some ⟨g,0,none⟩)] w fun e w'=>∃v V E',e=.returned (.tuple #[v,.nilIface])/\z0C w' 0 w.heap.size v k V E'/\(∀i,i<k->z2H (E' i) (E i))/\Below w.heap.size w w':=by
 obtain⟨b,q,hb,hq,hh,ht⟩:=hS.head;have hm:=hS.many;have HR:=readHead_any w B p n s h (h.ok (by omega)).now;rw[hS.read hb hq hh,show errV 0=.nilIface from rfl]at HR;have eb:((b.toUInt8.toNat:Nat):Int)=(b:Int):=by simp;omega
 have eq':((q.toUInt8.toNat:Nat):Int)=(q:Int):=by simp;omega
 simp only[eb,eq']at HR;have gc:=hg.cell;go_enter Tryz.func62,Tryz.ntmps62;go_wp2_with fail;refine(show Calls _ _ _ _ _ from HR).mono ?_;rintro e w1 ⟨rfl,hb1⟩;clear HR;have hb2:Below w.heap.size w (w1.alloc (.cells #[.int .i64 (b:Int),.int .i64 (q:Int)] 122)):=hb1.trans (((Below.refl _ _).alloc (Nat.le_refl _) _).mono hb1.size);have d0:(w1.alloc (.cells #[.int .i64 (b:Int),.int .i64 (q:Int)] 122)).cell? ⟨w1.heap.size,0,none⟩=some (.int .i64 (b:Int)):=by simp[go_sem]
 have d1:(w1.alloc (.cells #[.int .i64 (b:Int),.int .i64 (q:Int)] 122)).cell? ⟨w1.heap.size,1,none⟩=some (.int .i64 (q:Int)):=by simp[go_sem]
 have gc2:=cell_later hb2 gc;go_wp2;have hSS:(fun w':World=>w'.cell? ⟨g,0,none⟩=some (.pointer (some ⟨p,0,none⟩))/\w'.cell? ⟨w1.heap.size,0,none⟩=some (.int .i64 (b:Int))/\w'.cell? ⟨w1.heap.size,1,none⟩=some (.int .i64 (q:Int))) (w1.alloc (.cells #[.int .i64 (b:Int),.int .i64 (q:Int)] 122)).drew:=⟨gc2,d0,d1⟩;have hb3:Below w.heap.size w (w1.alloc (.cells #[.int .i64 (b:Int),.int .i64 (q:Int)] 122)).drew:=hb2.drew;refine z0f (fun w':World=>w'.cell? ⟨g,0,none⟩=some (.pointer (some ⟨p,0,none⟩))/\w'.cell? ⟨w1.heap.size,0,none⟩=some (.int .i64 (b:Int))/\w'.cell? ⟨w1.heap.size,1,none⟩=some (.int .i64 (q:Int))) 5 11 (by kernel_rfl) rfl ?_;generalize (w1.alloc (.cells #[.int .i64 (b:Int),.int .i64 (q:Int)] 122)).drew=w2 at *;clear d0 d1 gc2 hb2;refine tW 0 hSS ?_;refine tW 1 hSS ?_;refine tW 2 hSS ?_;refine tR 3 [] hSS ?_;refine tR 4 [] hSS ?_;have HB:=readBody_any w2 B p n s b q (h.later hb3) hS.up hm hb hq (fun i hi=>(h.ok hi).now);rw[bodyN_kept hS hb hq,ht]at HB;refine lG 5 fun K hK=>?_
 go_wp2_with fail;refine(show Calls _ _ _ _ _ from HB).mono ?_;rintro e w3 ⟨rfl,hb4⟩;clear HB;go_wp2;refine hK _ _ ?_;clear hK;refine tA 6 ?_;refine tA 7 ?_;refine tA 8 ?_;refine tA 9 ?_;refine tA 10 ?_;refine z1c (by kernel_rfl) ?_ _;have hb5:=hb3.trans (hb4.mono hb3.size);have HP:=shelfParse_any w3 (hE.later hb5) E k hS.good.few hS.good.ok hS.good.once ⟨(z0o E k).toArray⟩ (ba_mk _);generalize (⟨(z0o E k).toArray⟩:ByteArray)=T at *;go_wp2_with fail;refine(show Calls _ _ _ _ _ from HP).mono ?_;rintro e w4 ⟨v,V,E',rfl,hEO,hSame,hb6⟩;clear HP;obtain⟨a,c,rfl,_⟩:=hEO.ents;have HF:Hid (∃v V E',Ending.returned (.tuple #[.slice a k c,.nilIface])=.returned (.tuple #[v,.nilIface])/\z0C w4 0 w.heap.size v k V E'/\(∀i,i<k->z2H (E' i) (E i))/\Below w.heap.size w w4):=⟨_,V,E',rfl,⟨z7B hEO.row hb5.size,hEO.ins⟩,hSame,hb5.trans (hb6.mono hb5.size)⟩;go_wp2;go_ret2;exact HF.out
inductive KeepEnd (s:DSt) (n:Nat) (E:Nat->EntF) (k:Nat) (E':Nat->EntF) (k':Nat) (s':DSt):Ending->Prop
 |ok (h:z0X s' n E' k') (hl:s.left=-1->s'.left=-1):KeepEnd s n E k E' k' s' (.returned .nilIface)
 |fell (hl:s.left ≠ -1) (h:Split s' n E k E' k'):KeepEnd s n E k E' k' s' (.returned (errV 9))
inductive MidEnd (s:DSt) (n b:Nat) (t:List UInt8) (s':DSt) (w:World) (g:Nat):Value->Prop
 |ok (h:BodyKept s s' n b t) (hb:w.heap[g]?=some (.cells #[.int .i64 (b:Int),.int .i64 (z0Y t:Int)] 122 (0,0))):MidEnd s n b t s' w g .nilIface
 |fell (hl:s.left ≠ -1) (hd:s'.down=true) (hr:∀i,i<n->¬(1+b*55<=i/\i<1+b*55+55)->s'.K i=s.K i):MidEnd s n b t s' w g (.iface 43 (.int .i64 9))
theorem z5P {w w7:World}{B p n g g8:Nat}{s2:DSt}(hD:Disk w7 B p n s2)(hSp:Spun B w w7)(hB:B<=w.heap.size)(hge:w.heap.size<=g8)(h8:w7.heap[g8]?=some (.cells #[.int .i64 0,.int .i64 0] 122 (0,0)))(hg:z0T w7 g p)(x y:Value) :
 Disk ((w7.setCell ⟨g8,0,none⟩ x).setCell ⟨g8,1,none⟩ y) B p n s2/\Spun B w ((w7.setCell ⟨g8,0,none⟩ x).setCell ⟨g8,1,none⟩ y)/\z0T ((w7.setCell ⟨g8,0,none⟩ x).setCell ⟨g8,1,none⟩ y) g p/\((w7.setCell ⟨g8,0,none⟩ x).setCell ⟨g8,1,none⟩ y).heap[g8]?=some (.cells #[x,y] 122 (0,0)):=by
 have h8':=z1i (i:=0) x h8;have hne:g≠g8:=fun e=>by subst e;rw[show w7.heap[g]?=_ from hg]at h8;simp at h8
 exact⟨(hD.set h8 (by decide) _).set h8' (by decide) _,(hSp.own hB hge _).own hB hge _,(Below.heap_setCell _ _ _ _ hne).trans ((Below.heap_setCell _ _ _ _ hne).trans hg),z1i (i:=1) y h8'⟩
theorem toNat_u8{n:Nat}(h:n<256):((n.toUInt8.toNat:Nat):Int)=(n:Int):=by simp;omega
theorem keep_any(w:World)(B p n g:Nat)(s:DSt)(E:Nat->EntF)(k:Nat)(a:Option Addr)(c:Nat)(V':Nat->EntV)(E':Nat->EntF)(k':Nat)(h:Disk w B p n s)(hS:z0X s n E k)(hg:z0T w g p)(hE:Env w)(hr:z6J w a k' V' E')(hok:z1M E' k') :
 Calls Tryz.prog 145 #[.pointer (some ⟨g,0,none⟩),.slice a k' c] w fun e w'=>∃s',KeepEnd s n E k E' k' s' e/\Disk w' B p n s'/\Spun B w w':=by
 obtain⟨b,q,hb,hq,hh,ht⟩:=hS.head;have hm:=hS.many;have hB:=h.base;have HT:=textOf_any a k' c V' E' w hE hok.few hok.ok hr;have q0:errV 0=.nilIface:=rfl;have q9:errV 9=.iface 43 (.int .i64 9):=rfl;have hlen:=z5Q (E:=E') hok.few (fun i hi=>hok.ent hi);generalize hTT:(⟨(z0o E' k').toArray⟩:ByteArray)=T at HT;go_enter Tryz.func145,Tryz.ntmps145;go_wp2_with fail;refine(show Calls _ _ _ _ _ from HT).mono ?_;rintro e w1 ⟨rfl,hb1⟩;clear HT;have h1:=h.later hb1;have hg1:=hg.later hb1;have gc:=hg1.cell;have HR:=readHead_any w1 B p n s h1 (h1.ok (by omega)).now;rw[hS.read hb hq hh,q0]at HR;simp only[toNat_u8 (show b<256 by omega),toNat_u8 (show q<256 by omega)]at HR;clear h hg hE hr;go_wp2_with fail;refine(show Calls _ _ _ _ _ from HR).mono ?_;rintro e w2 ⟨rfl,hb2⟩;clear HR;have hbX:Below w.heap.size w (w2.alloc (.cells #[.int .i64 (b:Int),.int .i64 (q:Int)] 122)):=(hb1.trans (hb2.mono hb1.size)).trans (((Below.refl _ _).alloc (Nat.le_refl _) _).mono (Nat.le_trans hb1.size hb2.size));have hbY:Below w1.heap.size w1 (w2.alloc (.cells #[.int .i64 (b:Int),.int .i64 (q:Int)] 122)):=hb2.trans (((Below.refl _ _).alloc (Nat.le_refl _) _).mono hb2.size);have hw0:(w2.alloc (.cells #[.int .i64 (b:Int),.int .i64 (q:Int)] 122)).heap[w2.heap.size]?=some (.cells #[.int .i64 (b:Int),.int .i64 (q:Int)] 122 (0,0)):=Array.getElem?_push_size;have hD2:=h1.later hbY;have hg2:=hg1.later hbY;clear h1 hg1 gc hb1 hb2 hbY;go_wp2;generalize hW:w2.alloc (.cells #[.int .i64 (b:Int),.int .i64 (q:Int)] 122)=w3 at *;have hSp3:=Spun.of hB hbX;clear hW hbX;go_cut [6,8]from 28 to 38 (fun e y wc=>∃(s2:DSt) (g8:Nat),y=.pointer (some ⟨g8,0,none⟩)/\MidEnd s n (1-b) (z0o E' k') s2 wc g8 e/\Disk wc B p n s2/\Spun B w wc/\z0T wc g p)
 case first=>
  have hw3:w3.drew.heap[w2.heap.size]?=some (.cells #[.int .i64 (b:Int),.int .i64 (q:Int)] 122 (0,0)):=hw0;have hDw4:=hD2.later (Below.refl _ w3).drew;have hSpw4:Spun B w w3.drew:=hSp3.trans (Spun.of (Nat.le_trans hB hSp3.size) (Below.refl _ w3).drew);have hgw4:=hg2.later (Below.refl _ w3).drew;have hhw4:=hw3;have HO:∀W,Calls Tryz.prog 208 #[.agg #[.int .i64 (b:Int),.int .i64 (q:Int)]] W fun e w'=>e=.returned (.int .i64 ((1-b:Nat):Int))/\Below W.heap.size W w':=fun W=>by
   have:=other_any (b:Int) (q:Int) W (by omega) (by omega);rw[show(1:Int)-(b:Int)=((1-b:Nat):Int) by omega]at this;exact this
  have HWB:=fun W (hD:Disk W B p n s)=>writeBody_any W B p n s (1-b) (z0o E' k') hD hS.up hm (by omega) (by omega) hS.calm
  rw[hTT]at HWB;clear hD2 hSp3 hg2 hw0 hw3;generalize w2.heap.size=hw at *;have mkS:∀W:World,z0T W g p->W.heap[hw]?=some (.cells #[.int .i64 (b:Int),.int .i64 (q:Int)] 122 (0,0))->(fun w':World=>w'.cell? ⟨g,0,none⟩=some (.pointer (some ⟨p,0,none⟩))/\w'.cell? ⟨hw,0,none⟩=some (.int .i64 (b:Int))/\w'.cell? ⟨hw,1,none⟩=some (.int .i64 (q:Int))) W:=fun W h1 h2=>⟨h1.cell,(box2 h2).1,(box2 h2).2.1⟩
  have hSS:=mkS _ hgw4 hhw4;refine z0f (fun w':World=>w'.cell? ⟨g,0,none⟩=some (.pointer (some ⟨p,0,none⟩))/\w'.cell? ⟨hw,0,none⟩=some (.int .i64 (b:Int))/\w'.cell? ⟨hw,1,none⟩=some (.int .i64 (q:Int))) 12 14 (by kernel_rfl) rfl ?_;generalize w3.drew=w4 at *;refine tW 0 hSS ?_;refine tW 1 hSS ?_;refine tW 2 hSS ?_;refine tW 6 hSS ?_;refine tR 3 [] hSS ?_;refine tR 4 [] hSS ?_;clear hSS;refine z4Q [5,11] (by kernel_rfl) (by simp) (z0s 5 rfl (fun K hK=>?_) (z0s 11 rfl (fun K hK=>?_) z2r))
  ·skip
   go_wp2_with fail;refine(show Calls _ _ _ _ _ from HO w4).mono ?_;rintro e w5 ⟨rfl,hbO⟩;go_wp2;have hDw5:=hDw4.later hbO;have hSpw5:=hSpw4.trans (Spun.of (Nat.le_trans hB hSpw4.size) hbO);have hgw5:=hgw4.later hbO;have hhw5:=(hbO.block _ (Array.getElem?_eq_some_iff.1 hhw4).1).trans hhw4;refine hK _ _ (mkS _ hgw5 hhw5) ?_;clear hK;refine z4Q [7,11] (by kernel_rfl) (by simp) (z0s 7 rfl (fun K hK=>?_) (z0s 11 rfl (fun K hK=>?_) z2r))
   ·skip
    go_wp2_with fail;refine(show Calls _ _ _ _ _ from HWB w5 hDw5).mono ?_;rintro e w6 ⟨s2,hEnd,hDw6,hS7⟩;have hSpw6:=hSpw5.trans hS7;have hgw6:=hgw5.spun hS7;have hhw6:=hS7.block _ _ hhw5 (z3h _ _);cases hEnd with
    |ok hBK=>
     go_wp2;refine hK _ _ (mkS _ hgw6 hhw6) ?_;clear hK;have hSS:=mkS _ hgw6 hhw6;refine tW 8 hSS ?_;refine tW 9 hSS ?_;refine tW 10 hSS ?_;clear hSS;refine oG 11 fun K hK=>?_
     go_wp2_with fail;have hbN:Below w6.heap.size w6 (w6.alloc (.cells #[.int .i64 0,.int .i64 0] 122)):=(Below.refl _ _).alloc (Nat.le_refl _) _;have hDw6x:=hDw6.later hbN;have hSpw6x:=hSpw6.trans (Spun.of (Nat.le_trans hB hSpw6.size) hbN);have hgw6x:=hgw6.later hbN;have hhw6x:=(hbN.block _ (Array.getElem?_eq_some_iff.1 hhw6).1).trans hhw6;have h8w6x:(w6.alloc (.cells #[.int .i64 0,.int .i64 0] 122)).heap[w6.heap.size]?=some (.cells #[.int .i64 0,.int .i64 0] 122 (0,0)):=Array.getElem?_push_size;have hge:w.heap.size<=w6.heap.size:=hSpw6.size;refine hK _ _ (mkS _ hgw6x hhw6x) ?_;clear hK;generalize w6.alloc (.cells #[.int .i64 0,.int .i64 0] 122)=w6x at *;generalize w6.heap.size=g8 at *;obtain⟨z0,z1,z2,z3⟩:=box2 h8w6x;obtain⟨fD,fS,fG,f8⟩:=z5P hDw6x hSpw6x hB hge h8w6x hgw6x (.int .i64 ((1-b:Nat):Int)) (.int .i64 (z0Y (z0o E' k'):Int));refine lG 12 fun K hK=>?_
     go_wp2;refine hK _ _ ?_;clear hK;refine tA 13 ?_;refine z1c (by kernel_rfl) ?_ _;go_wp2;go_meet;exact⟨_,_,rfl,.ok hBK f8,fD,fS,fG⟩
    |fell x y hl hd hr=>
     go_wp2;refine hK _ _ (mkS _ hgw6 hhw6) ?_;clear hK;have hSS:=mkS _ hgw6 hhw6;refine tW 8 hSS ?_;refine tW 9 hSS ?_;refine tW 10 hSS ?_;clear hSS;refine oG 11 fun K hK=>?_
     go_wp2_with fail;have hbN:Below w6.heap.size w6 (w6.alloc (.cells #[.int .i64 0,.int .i64 0] 122)):=(Below.refl _ _).alloc (Nat.le_refl _) _;have hDw6x:=hDw6.later hbN;have hSpw6x:=hSpw6.trans (Spun.of (Nat.le_trans hB hSpw6.size) hbN);have hgw6x:=hgw6.later hbN;have hhw6x:=(hbN.block _ (Array.getElem?_eq_some_iff.1 hhw6).1).trans hhw6;have h8w6x:(w6.alloc (.cells #[.int .i64 0,.int .i64 0] 122)).heap[w6.heap.size]?=some (.cells #[.int .i64 0,.int .i64 0] 122 (0,0)):=Array.getElem?_push_size;have hge:w.heap.size<=w6.heap.size:=hSpw6.size;refine hK _ _ (mkS _ hgw6x hhw6x) ?_;clear hK;generalize w6.alloc (.cells #[.int .i64 0,.int .i64 0] 122)=w6x at *;generalize w6.heap.size=g8 at *;obtain⟨z0,z1,z2,z3⟩:=box2 h8w6x;obtain⟨fD,fS,fG,f8⟩:=z5P hDw6x hSpw6x hB hge h8w6x hgw6x (.int .i64 x) (.int .i64 y);refine lG 12 fun K hK=>?_
     go_wp2;refine hK _ _ ?_;clear hK;refine tA 13 ?_;refine z1c (by kernel_rfl) ?_ _;go_wp2;go_meet;exact⟨_,_,rfl,.fell hl hd hr,fD,fS,fG⟩
   ·skip
    go_wp2_with fail;have hbN:Below w5.heap.size w5 (w5.alloc (.cells #[.int .i64 0,.int .i64 0] 122)):=(Below.refl _ _).alloc (Nat.le_refl _) _;have hDw6:=hDw5.later hbN;have hSpw6:=hSpw5.trans (Spun.of (Nat.le_trans hB hSpw5.size) hbN);have hgw6:=hgw5.later hbN;have hhw6:=(hbN.block _ (Array.getElem?_eq_some_iff.1 hhw5).1).trans hhw5;have h8w6:(w5.alloc (.cells #[.int .i64 0,.int .i64 0] 122)).heap[w5.heap.size]?=some (.cells #[.int .i64 0,.int .i64 0] 122 (0,0)):=Array.getElem?_push_size;have hge:w.heap.size<=w5.heap.size:=hSpw5.size;refine hK _ _ (mkS _ hgw6 hhw6) ?_;clear hK;generalize w5.alloc (.cells #[.int .i64 0,.int .i64 0] 122)=w6 at *;generalize w5.heap.size=g8 at *;refine oG 7 fun K hK=>?_
    go_wp2_with fail;refine(show Calls _ _ _ _ _ from HWB w6 hDw6).mono ?_;rintro e w7 ⟨s2,hEnd,hDw7,hS7⟩;have hSpw7:=hSpw6.trans hS7;have hgw7:=hgw6.spun hS7;have hhw7:=hS7.block _ _ hhw6 (z3h _ _);have h8w7:=hS7.block _ _ h8w6 (z3h _ _);cases hEnd with
    |ok hBK=>
     go_wp2;refine hK _ _ (mkS _ hgw7 hhw7) ?_;clear hK;have hSS:=mkS _ hgw7 hhw7;refine tW 8 hSS ?_;refine tW 9 hSS ?_;refine tW 10 hSS ?_;clear hSS;obtain⟨z0,z1,z2,z3⟩:=box2 h8w7;obtain⟨fD,fS,fG,f8⟩:=z5P hDw7 hSpw7 hB hge h8w7 hgw7 (.int .i64 ((1-b:Nat):Int)) (.int .i64 (z0Y (z0o E' k'):Int));refine lG 12 fun K hK=>?_
     go_wp2;refine hK _ _ ?_;clear hK;refine tA 13 ?_;refine z1c (by kernel_rfl) ?_ _;go_wp2;go_meet;exact⟨_,_,rfl,.ok hBK f8,fD,fS,fG⟩
    |fell x y hl hd hr=>
     go_wp2;refine hK _ _ (mkS _ hgw7 hhw7) ?_;clear hK;have hSS:=mkS _ hgw7 hhw7;refine tW 8 hSS ?_;refine tW 9 hSS ?_;refine tW 10 hSS ?_;clear hSS;obtain⟨z0,z1,z2,z3⟩:=box2 h8w7;obtain⟨fD,fS,fG,f8⟩:=z5P hDw7 hSpw7 hB hge h8w7 hgw7 (.int .i64 x) (.int .i64 y);refine lG 12 fun K hK=>?_
     go_wp2;refine hK _ _ ?_;clear hK;refine tA 13 ?_;refine z1c (by kernel_rfl) ?_ _;go_wp2;go_meet;exact⟨_,_,rfl,.fell hl hd hr,fD,fS,fG⟩
  ·skip
   go_wp2_with fail;have hbN:Below w4.heap.size w4 (w4.alloc (.cells #[.int .i64 0,.int .i64 0] 122)):=(Below.refl _ _).alloc (Nat.le_refl _) _;have hDw5:=hDw4.later hbN;have hSpw5:=hSpw4.trans (Spun.of (Nat.le_trans hB hSpw4.size) hbN);have hgw5:=hgw4.later hbN;have hhw5:=(hbN.block _ (Array.getElem?_eq_some_iff.1 hhw4).1).trans hhw4;have h8w5:(w4.alloc (.cells #[.int .i64 0,.int .i64 0] 122)).heap[w4.heap.size]?=some (.cells #[.int .i64 0,.int .i64 0] 122 (0,0)):=Array.getElem?_push_size;have hge:w.heap.size<=w4.heap.size:=hSpw4.size;refine hK _ _ (mkS _ hgw5 hhw5) ?_;clear hK;generalize w4.alloc (.cells #[.int .i64 0,.int .i64 0] 122)=w5 at *;generalize w4.heap.size=g8 at *;refine oG 5 fun K hK=>?_
   go_wp2_with fail;refine(show Calls _ _ _ _ _ from HO w5).mono ?_;rintro e w6 ⟨rfl,hbO⟩;go_wp2;have hDw6:=hDw5.later hbO;have hSpw6:=hSpw5.trans (Spun.of (Nat.le_trans hB hSpw5.size) hbO);have hgw6:=hgw5.later hbO;have hhw6:=(hbO.block _ (Array.getElem?_eq_some_iff.1 hhw5).1).trans hhw5;have h8w6:=(hbO.block _ (Array.getElem?_eq_some_iff.1 h8w5).1).trans h8w5;refine hK _ _ (mkS _ hgw6 hhw6) ?_;clear hK;refine oG 7 fun K hK=>?_
   go_wp2_with fail;refine(show Calls _ _ _ _ _ from HWB w6 hDw6).mono ?_;rintro e w7 ⟨s2,hEnd,hDw7,hS7⟩;have hSpw7:=hSpw6.trans hS7;have hgw7:=hgw6.spun hS7;have hhw7:=hS7.block _ _ hhw6 (z3h _ _);have h8w7:=hS7.block _ _ h8w6 (z3h _ _);cases hEnd with
   |ok hBK=>
    go_wp2;refine hK _ _ (mkS _ hgw7 hhw7) ?_;clear hK;have hSS:=mkS _ hgw7 hhw7;refine tW 8 hSS ?_;refine tW 9 hSS ?_;refine tW 10 hSS ?_;clear hSS;obtain⟨z0,z1,z2,z3⟩:=box2 h8w7;obtain⟨fD,fS,fG,f8⟩:=z5P hDw7 hSpw7 hB hge h8w7 hgw7 (.int .i64 ((1-b:Nat):Int)) (.int .i64 (z0Y (z0o E' k'):Int));refine lG 12 fun K hK=>?_
    go_wp2;refine hK _ _ ?_;clear hK;refine tA 13 ?_;refine z1c (by kernel_rfl) ?_ _;go_wp2;go_meet;exact⟨_,_,rfl,.ok hBK f8,fD,fS,fG⟩
   |fell x y hl hd hr=>
    go_wp2;refine hK _ _ (mkS _ hgw7 hhw7) ?_;clear hK;have hSS:=mkS _ hgw7 hhw7;refine tW 8 hSS ?_;refine tW 9 hSS ?_;refine tW 10 hSS ?_;clear hSS;obtain⟨z0,z1,z2,z3⟩:=box2 h8w7;obtain⟨fD,fS,fG,f8⟩:=z5P hDw7 hSpw7 hB hge h8w7 hgw7 (.int .i64 x) (.int .i64 y);refine lG 12 fun K hK=>?_
    go_wp2;refine hK _ _ ?_;clear hK;refine tA 13 ?_;refine z1c (by kernel_rfl) ?_ _;go_wp2;go_meet;exact⟨_,_,rfl,.fell hl hd hr,fD,fS,fG⟩
 case rest=>
  obtain⟨s2,g8,rfl,hMid,hD5,hSp5,hg5⟩:=hcut;clear hD2 hg2 hw0 hSp3;generalize w2.heap.size=hw at *;cases hMid with
  |fell hl hd hr=>
   have HEND:KeepEnd s n E k E' k' s2 (.returned (errV 9)):=.fell hl (hS.fallen hb hq hh ht hd hr);go_wp2;go_ret;exact⟨s2,HEND,hD5,hSp5⟩
  |ok hBK hb8=>
   obtain⟨y0,y1,_,_⟩:=box2 hb8;have gc:=hg5.cell;have hq8:=many64_le hlen;have HD:=head_done hS hb hq hh ht hBK hok hD5.nx;go_wp2;have hSS:(fun w':World=>w'.cell? ⟨g,0,none⟩=some (.pointer (some ⟨p,0,none⟩))/\w'.cell? ⟨g8,0,none⟩=some (.int .i64 ((1-b:Nat):Int))/\w'.cell? ⟨g8,1,none⟩=some (.int .i64 (z0Y (z0o E' k'):Int))) wc.drew:=⟨gc,y0,y1⟩;have hD6:=hD5.later (Below.refl _ wc).drew;have hSp6:Spun B w wc.drew:=hSp5.trans (Spun.of (Nat.le_trans hB hSp5.size) (Below.refl _ wc).drew);clear gc y0 y1 hD5 hSp5 hg5 hb8;refine z0f (fun w':World=>w'.cell? ⟨g,0,none⟩=some (.pointer (some ⟨p,0,none⟩))/\w'.cell? ⟨g8,0,none⟩=some (.int .i64 ((1-b:Nat):Int))/\w'.cell? ⟨g8,1,none⟩=some (.int .i64 (z0Y (z0o E' k'):Int))) 5 7 (by kernel_rfl) rfl ?_;generalize wc.drew=w6 at *;have HWH:=writeHead_any w6 B p n s2 (1-b).toUInt8 (z0Y (z0o E' k')).toUInt8 hD6;simp only[toNat_u8 (show 1-b<256 by omega),toNat_u8 (show z0Y (z0o E' k')<256 by omega)]at HWH;refine tW 0 hSS ?_;refine tW 1 hSS ?_;refine tW 2 hSS ?_;refine tR 3 [] hSS ?_;refine tR 4 [] hSS ?_;refine lG 5 fun K hK=>?_
   rcases HD with⟨e0,hSt,hlf⟩|⟨hlf,e9,hSpl⟩
   ·rw[e0,q0]at HWH;have HEND:KeepEnd s n E k E' k' _ (.returned .nilIface):=.ok hSt hlf;go_wp2_with fail;refine(show Calls _ _ _ _ _ from HWH).mono ?_;rintro e w7 ⟨rfl,hD7,hS7⟩;clear HWH;go_wp2;refine hK _ _ ?_;clear hK;refine tA 6 ?_;refine z1c (by kernel_rfl) ?_ _;go_wp2;go_ret;exact⟨_,HEND,hD7,hSp6.trans hS7⟩
   ·rw[e9]at HWH;have HEND:KeepEnd s n E k E' k' _ (.returned (errV 9)):=.fell hlf hSpl;go_wp2_with fail;refine(show Calls _ _ _ _ _ from HWH).mono ?_;rintro e w7 ⟨rfl,hD7,hS7⟩;clear HWH;go_wp2;refine hK _ _ ?_;clear hK;refine tA 6 ?_;refine z1c (by kernel_rfl) ?_ _;go_wp2;go_ret;exact⟨_,HEND,hD7,hSp6.trans hS7⟩
end
section
open Go.RowKit
theorem z2H.symm{a b:EntF}(h:z2H a b):z2H b a:=
 ⟨h.root.symm,h.nP.symm,h.nQ.symm,fun i hi=>by obtain⟨h1,h2,h3⟩:=h.parts i (by rw[<-h.nP];exact hi);exact⟨h1.symm,h2.symm,h3.symm⟩,fun i hi=>by obtain⟨h1,h2,h3⟩:=h.pats i (by rw[<-h.nQ];exact hi);exact⟨h1.symm,h2.symm,h3.symm⟩⟩
theorem z2H.trans{a b c:EntF}(h:z2H a b)(g:z2H b c):z2H a c:=
 ⟨h.root.trans g.root,h.nP.trans g.nP,h.nQ.trans g.nQ,fun i hi=>by obtain⟨h1,h2,h3⟩:=h.parts i (by rw[g.nP];exact hi);obtain⟨g1,g2,g3⟩:=g.parts i hi;exact⟨h1.trans g1,h2.trans g2,h3.trans g3⟩,fun i hi=>by obtain⟨h1,h2,h3⟩:=h.pats i (by rw[g.nQ];exact hi);obtain⟨g1,g2,g3⟩:=g.pats i hi;exact⟨h1.trans g1,h2.trans g2,h3.trans g3⟩⟩
theorem z6g {E E':Nat->EntF}{root:ByteArray}{n:Nat}(h:∀i,i<n->(E i).root=(E' i).root):∀(m i:Nat),n-i=m->findF E root n i=findF E' root n i
 |0,i,hm=>by rw[z4g (by omega),z4g (by omega)]
 |m+1,i,hm=>by
  by_cases he:(E i).root=root
  ·rw[z5A (by omega) he,z5A (by omega) ((h i (by omega)).symm.trans he)]
  ·rw[z3N (by omega) he,z3N (by omega) (fun e=>he ((h i (by omega)).trans e))];exact z6g h m (i+1) (by omega)
theorem z1M.same{E E':Nat->EntF}{k:Nat}(h:z1M E k)(e:∀i,i<k->z2H (E i) (E' i)):z1M E' k:=
 ⟨h.few,fun i hi=>((e i hi).line (h.ok i hi)).1,fun i j hi hj he=>h.once i j hi hj (by rw[(e i hi).root,(e j hj).root];exact he)⟩
def cutV{α:Type}(V:Nat->α)(i j:Nat):α:=if j<i then V j else V (j+1)
def putE(E:Nat->EntF)(k:Nat)(en:EntF):Nat×(Nat->EntF)×Nat:=
 if entF en≠0 then(entF en,E,k)else if 0<=findF E en.root k 0 then(0,addV E (findF E en.root k 0).toNat en,k)else if k=3 then(2,E,k)else(0,addV E k en,k+1)
def z2F (E:Nat->EntF)(k:Nat)(root:ByteArray):Nat×(Nat->EntF)×Nat:=
 if findF E root k 0<0 then(5,E,k)else(0,cutV E (findF E root k 0).toNat,k-1)
theorem set_ok{E:Nat->EntF}{k i:Nat}{en:EntF}(h:z1M E k)(hr:(E i).root=en.root)(h0:entF en=0):z1M (addV E i en) k:=by
 have er:∀j,j<k->(addV E i en j).root=(E j).root:=fun j _=>by
  unfold addV;split
  ·rename_i e;rw[e,hr]
  ·rfl
 refine⟨h.few,fun j hj=>?_,fun a b ha hb he=>h.once a b ha hb (by rw[er a ha,er b hb]at he;exact he)⟩;unfold addV;split
 ·exact h0
 ·exact h.ok j hj
theorem add_ok{E:Nat->EntF}{k:Nat}{en:EntF}(h:z1M E k)(hk:k≠3)(hn:∀j,j<k->(E j).root≠en.root)(h0:entF en=0):z1M (addV E k en) (k+1):=by
 have hf:=h.few;refine⟨by omega,fun j hj=>?_,fun a b ha hb he=>?_⟩
 ·unfold addV;split
  ·exact h0
  ·exact h.ok j (by omega)
 ·unfold addV at he;split at he
  ·split at he
   ·omega
   ·exact absurd he.symm (hn b (by omega))
  ·split at he
   ·exact absurd he (hn a (by omega))
   ·exact h.once a b (by omega) (by omega) he
theorem cut_ok{E:Nat->EntF}{k i:Nat}(h:z1M E k)(hi:i<k):z1M (cutV E i) (k-1):=by
 have hf:=h.few;refine⟨by omega,fun j hj=>?_,fun a b ha hb he=>?_⟩
 ·unfold cutV;split
  ·exact h.ok j (by omega)
  ·exact h.ok _ (by omega)
 ·unfold cutV at he;split at he
  ·split at he
   ·exact h.once a b (by omega) (by omega) he
   ·have:=h.once a (b+1) (by omega) (by omega) he;omega
  ·split at he
   ·have:=h.once (a+1) b (by omega) (by omega) he;omega
   ·have:=h.once (a+1) (b+1) (by omega) (by omega) he;omega
theorem Split.same{s:DSt}{n:Nat}{E:Nat->EntF}{k:Nat}{F F':Nat->EntF}{m:Nat}(h:Split s n E k F m)(e:∀i,i<m->z2H (F i) (F' i)):Split s n E k F' m:=
 ⟨h.1,fun keep=>(h.2 keep).imp id fun h=>h.same e⟩
theorem KeepEnd.same{s:DSt}{n:Nat}{E:Nat->EntF}{k:Nat}{F F':Nat->EntF}{m:Nat}{s':DSt}{x:Ending}(h:KeepEnd s n E k F m s' x)(e:∀i,i<m->z2H (F i) (F' i)):KeepEnd s n E k F' m s' x:=by
 cases h with
 |ok h hl=>exact .ok (h.same e) hl
 |fell hl h=>exact .fell hl (h.same e)
inductive ShPut (s:DSt) (n:Nat) (E:Nat->EntF) (k:Nat) (r:Nat×(Nat->EntF)×Nat) (s':DSt):Ending->Prop
 |bad (h:r.1≠0) (hs:s'=s):ShPut s n E k r s' (.returned (errV r.1))
 |keep (e:Ending) (h:r.1=0) (hk:KeepEnd s n E k r.2.1 r.2.2 s' e):ShPut s n E k r s' e
theorem putE_bad{E:Nat->EntF}{k:Nat}{en:EntF}(h:entF en≠0):putE E k en=(entF en,E,k):=by unfold putE;rw[if_pos h]
theorem putE_set{E:Nat->EntF}{k i:Nat}{en:EntF}(h:entF en=0)(hf:findF E en.root k 0=(i:Int)):putE E k en=(0,addV E i en,k):=by
 unfold putE;rw[if_neg (by simp[h]),if_pos (by omega),hf];rfl
theorem putE_many{E:Nat->EntF}{en:EntF}(h:entF en=0)(hf:findF E en.root 3 0<0):putE E 3 en=(2,E,3):=by
 unfold putE;rw[if_neg (by simp[h]),if_neg (by omega),if_pos rfl]
theorem putE_add{E:Nat->EntF}{k:Nat}{en:EntF}(h:entF en=0)(hf:findF E en.root k 0<0)(hk:k≠3):putE E k en=(0,addV E k en,k+1):=by
 unfold putE;rw[if_neg (by simp[h]),if_neg (by omega),if_neg hk]
theorem dropE_none{E:Nat->EntF}{k:Nat}{root:ByteArray}(hf:findF E root k 0<0):z2F E k root=(5,E,k):=by unfold z2F;rw[if_pos hf]
theorem dropE_cut{E:Nat->EntF}{k i:Nat}{root:ByteArray}(hf:findF E root k 0=(i:Int)):z2F E k root=(0,cutV E i,k-1):=by unfold z2F;rw[if_neg (by omega),hf];rfl
theorem putE_kept{E:Nat->EntF}{k:Nat}{en:EntF}(h:(putE E k en).1≠0):(putE E k en).2=(E,k):=by
 unfold putE at h ⊢;split
 ·rfl
 ·rename_i h1;rw[if_neg h1]at h;split
  ·rename_i h2;rw[if_pos h2]at h;exact absurd rfl h
  ·rename_i h2;rw[if_neg h2]at h;split
   ·rfl
   ·rename_i h3;rw[if_neg h3]at h;exact absurd rfl h
theorem dropE_kept{E:Nat->EntF}{k:Nat}{root:ByteArray}(h:(z2F E k root).1≠0):(z2F E k root).2=(E,k):=by
 unfold z2F at h ⊢;split
 ·rfl
 ·rename_i h1;rw[if_neg h1]at h;exact absurd rfl h
end
end Go.Proofs.YtbcpcbonlhlhpaaGreatDoor
