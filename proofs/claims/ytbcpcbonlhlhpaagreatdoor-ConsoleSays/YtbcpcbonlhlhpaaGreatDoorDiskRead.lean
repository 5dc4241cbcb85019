/- What settle of package disk does, of a sector, and of a -/
import Derived.Test.YtbcpcbonlhlhpaaGreatDoorWholeRows
import Derived.Laws.MakeOwn
import Derived.Laws.IdiomStrings
namespace Go.Proofs.YtbcpcbonlhlhpaaGreatDoor
section
open Go.RowKit
set_option maxHeartbeats 1000000
set_option maxRecDepth 100000
def DSt.at(s:DSt)(i:Nat)(S:Sec):DSt:={s with K:=fun j=>if j=i then S else s.K j}
theorem DSt.at_same(s:DSt)(i:Nat)(S:Sec):(s.at i S).K i=S:=by simp[DSt.at]
theorem DSt.at_other(s:DSt){i j:Nat}(S:Sec)(h:j≠i):(s.at i S).K j=s.K j:=by simp[DSt.at,h]
theorem z0m.there{w:World}{B p bs n:Nat}{s:DSt}{v:Nat->Value}(h:z0m w B p bs n s v){i:Nat}(hi:i<n):w.there bs (i*65) 64:=fun j hj=>by
 obtain⟨C,hC⟩:=h.sec;refine⟨?_,by simp[World.frozen?,hC]⟩;obtain⟨u,hu⟩:∃u,(z0B (s.K i).kept++[v i])[j]?=some u:=⟨_,List.getElem?_eq_getElem (by simp[(h.ok i hi).kept];omega)⟩;rw[h.cells i hi j u hu];rfl
theorem z0m.keep{w:World}{B p bs n:Nat}{s:DSt}{v:Nat->Value}(h:z0m w B p bs n s v){i:Nat}(hi:i<n){c:List UInt8}(hc:c.length=64) :
 z0m (w.setCells bs (i*65) (z0B c)) B p bs n (s.at i ⟨c,(s.K i).late⟩) v:=by
 obtain⟨C,hC⟩:=h.sec;have hk:=(h.ok i hi).kept;have hth:w.there bs (i*65) (z0B c).length:=fun j hj=>by
  have hj':j<64:=by simpa[hc]using hj
  refine⟨?_,by simp[World.frozen?,hC]⟩;obtain⟨u,hu⟩:∃u,(z0B (s.K i).kept++[v i])[j]?=some u:=⟨_,List.getElem?_eq_getElem (by simp[hk];omega)⟩;rw[h.cells i hi j u hu];rfl
 refine⟨?_,?_,?_,?_,?_,h.apart,h.bp,h.bb,h.nx,h.lo,h.few⟩
 ·exact(z1Z _ _ _ _ _ h.ne).trans h.blk
 ·obtain⟨C',h1,_⟩:=heap_setCs bs _ _ (z0B c) (i*65) w C hC;exact⟨C',h1⟩
 ·intro j hj;by_cases e:j=i
  ·subst e;rw[DSt.at_same];intro q u hu;by_cases hq:q<64
   ·rw[List.getElem?_append_left (by simp[hc];exact hq)]at hu;exact World.rangeAt_setCells_same w bs (j*65) (z0B c) hth q u hu
   ·have hq2:q=64:=by
     have:=(List.getElem?_eq_some_iff.1 hu).1;simp[hc]at this;omega
    subst hq2;rw[World.cell?_setCells_out bs (z0B c) _ w ⟨bs,j*65+64,none⟩ (fun _ _=>.inr (by simp[hc]))];refine h.cells j hj 64 u ?_;rw[List.getElem?_append_right (by simp[hc])]at hu;rw[List.getElem?_append_right (by simp[hk])];simpa[hc,hk]using hu
  ·rw[DSt.at_other _ _ e];refine World.rangeAt_setCells_apart (h.cells j hj) _ _ _ (.inr ?_);have:=(h.ok j hj).kept;simp[hc,this];omega
 ·intro j hj;by_cases e:j=i
  ·subst e;rw[DSt.at_same];exact⟨hc,(h.ok j hj).late,(h.ok j hj).once⟩
  ·rw[DSt.at_other _ _ e];exact h.ok j hj
 ·intro j hj;have hrow:(w.setCells bs (i*65) (z0B c)).ownsRow B 174 65 (v j) (s.K j).late.length (z1j (s.K j).late):=z5X (h.rows j hj) (fun k hk=>z1Z _ _ _ _ _ (fun e=>by
   obtain⟨c',hc'⟩:=z3C (h.rows j hj) hk;subst e;rw[hC]at hc';simp at hc'))
  by_cases e:j=i
  ·subst e;rw[DSt.at_same];exact hrow
  ·rw[DSt.at_other _ _ e];exact hrow
theorem late_zero:∃Z:Array Value,(∀w,Sem.run Tryz.prog (zeroValue 174) w=.ok (.agg Z) w)/\Z.size=65:=
 ⟨#[.int .u64 0]++Array.replicate 64 (.int .u8 0),fun w=>by kernel_rfl,by simp⟩
theorem z2a {cs:List Value}(h:cs.length=65):(Tryz.prog.info? 174).map (·.size)=some cs.length:=by rw[h];kernel_rfl
theorem z4h {cs:List Value}(h:cs.length=64):(Tryz.prog.info? 172).map (·.size)=some cs.length:=by rw[h];kernel_rfl
theorem z0m.lateRow{w:World}{B p bs n:Nat}{s:DSt}{v:Nat->Value}(h:z0m w B p bs n s v){i:Nat}(hi:i<n){k:Nat}{x:Late}(hx:(s.K i).late[k]?=some x){a:Option Addr}{m c:Nat}(hv:v i=.slice a m c) :
 ∃g,a=some ⟨g,0,none⟩/\w.rangeAt g (k*65) (z0t x):=by
 have hr:=h.rows i hi;rw[hv]at hr;have key:∀j u,(z0t x)[j]?=some u->∃g,a=some ⟨g,0,none⟩/\B<=g/\w.cell? ⟨g,k*65+j,none⟩=some u:=fun j u hj=>z0K hr (latesC_at (h.ok i hi).late hx hj)
 obtain⟨g,ha,_,_⟩:=key 0 _ rfl;refine⟨g,ha,fun j u hj=>?_⟩;obtain⟨g',ha',_,hc⟩:=key j u hj;rw[ha]at ha';injection ha' with e;injection e with e;subst e;exact hc
theorem z0m.turn{w w':World}{B p bs n:Nat}{s:DSt}{v:Nat->Value}(h:z0m w B p bs n s v){i:Nat}(hi:i<n){u:Value}{l:List Late}(hl:∀x∈l,x.1<64/\x.2.length=64)(hd:(l.map (·.1)).Nodup)
 (hrow:w'.ownsRow B 174 65 u l.length (z1j l)) (hblk:u.ownBlock=none∨u.ownBlock=(v i).ownBlock∨∃k,u.ownBlock=some k/\w.heap.size<=k)
 (hp:w'.heap[p]?=w.heap[p]?) (hs:∃C,w'.heap[bs]?=some (.cells C 177 (0,0)))
 (hc:∀j,j≠i*65+64->w'.cell? ⟨bs,j,none⟩=w.cell? ⟨bs,j,none⟩) (hu:w'.cell? ⟨bs,i*65+64,none⟩=some u)
 (ho:∀k,k<w.heap.size->k≠bs->some k≠(v i).ownBlock->w'.heap[k]?=w.heap[k]?) :
 z0m w' B p bs n (s.at i ⟨(s.K i).kept,l⟩) (fun j=>if j=i then u else v j):=by
 refine⟨hp.trans h.blk,hs,?_,?_,?_,?_,h.bp,h.bb,h.nx,h.lo,h.few⟩
 ·intro j hj q z hq;by_cases e:j=i
  ·subst e;rw[DSt.at_same,if_pos rfl]at hq;have hk:=(h.ok j hj).kept;by_cases h64:q<64
   ·rw[List.getElem?_append_left (by simp[hk];exact h64)]at hq;rw[hc _ (by omega)];exact h.cells j hj q z (by rw[List.getElem?_append_left (by simp[hk];exact h64)];exact hq)
   ·have hq2:q=64:=by
     have:=(List.getElem?_eq_some_iff.1 hq).1;simp[hk]at this;omega
    subst hq2;rw[hu];rw[List.getElem?_append_right (by simp[hk])]at hq;simpa[hk]using hq
  ·rw[DSt.at_other _ _ e,if_neg e]at hq;have hk:=(h.ok j hj).kept;have hq2:q<65:=by
    have:=(List.getElem?_eq_some_iff.1 hq).1;simpa[hk]using this
   rw[hc _ (by omega)];exact h.cells j hj q z hq
 ·intro j hj;by_cases e:j=i
  ·subst e;rw[DSt.at_same];exact⟨(h.ok j hj).kept,hl,hd⟩
  ·rw[DSt.at_other _ _ e];exact h.ok j hj
 ·intro j hj;by_cases e:j=i
  ·subst e;rw[DSt.at_same,if_pos rfl];exact hrow
  ·rw[DSt.at_other _ _ e,if_neg e];refine z5X (h.rows j hj) (fun k hk=>ho k ((h.rows j hj).lt k hk).2 ?_ ?_)
   ·intro e2;obtain⟨c',hc'⟩:=z3C (h.rows j hj) hk;obtain⟨C,hC⟩:=h.sec;rw[e2,hC]at hc';simp at hc'
   ·intro e2;rcases h.apart j i hj hi e with h0|h0
    ·rw[hk]at h0;cases h0
    ·exact h0 (hk.trans e2)
 ·have side:∀j,j<n->j≠i->u.ownBlock=none∨u.ownBlock≠(v j).ownBlock:=fun j hj e=>by
   rcases hblk with h0|h0|⟨k,hk,hlt⟩
   ·exact .inl h0
   ·rw[h0];exact h.apart i j hi hj (Ne.symm e)
   ·refine .inr (fun e2=>?_);have:=((h.rows j hj).lt k (e2.symm.trans hk)).2;omega
  intro j q hj hq hne;show(if j=i then u else v j).ownBlock=none∨(if j=i then u else v j).ownBlock≠(if q=i then u else v q).ownBlock;by_cases e:j=i
  ·subst e;rw[if_pos rfl,if_neg (Ne.symm hne)];exact side q hq (Ne.symm hne)
  ·by_cases e2:q=i
   ·subst e2;rw[if_neg e,if_pos rfl];rcases side j hj e with h0|h0
    ·cases hv:(v j).ownBlock with
     |none=>exact .inl rfl
     |some k=>exact .inr (by rw[h0];simp)
    ·exact .inr (Ne.symm h0)
   ·rw[if_neg e,if_neg e2];exact h.apart j q hj hq hne
def bitOf(keep:Int)(k:Nat):Bool:=bits BinOp.and IntKind.u64 (keep / 2 ^ min k 64) 1==1
def z2B (keep:Int)(c:List UInt8)(l:List Late):List UInt8:=l.foldl (fun c x=>if bitOf keep x.1=true then x.2 else c) c
theorem keepTo_snoc(keep:Int)(c:List UInt8)(l:List Late)(x:Late):z2B keep c (l++[x])=if bitOf keep x.1=true then x.2 else z2B keep c l:=by simp[z2B]
theorem keepTo_len{keep:Int}{c:List UInt8}(hc:c.length=64):∀(l:List Late),(∀x∈l,x.1<64/\x.2.length=64)->(z2B keep c l).length=64:=by
 intro l
 induction l generalizing c with
 |nil=>intro _;exact hc
 |cons a l ih=>
  intro h;show(z2B keep (if bitOf keep a.1=true then a.2 else c) l).length=64;refine ih ?_ (fun x hx=>h x (by simp[hx]));split
  ·exact(h a (by simp)).2
  ·exact hc
def DSt.settleAt(s:DSt)(keep:Int)(i:Nat):DSt:=s.at i ⟨z2B keep (s.K i).kept (s.K i).late,[]⟩
theorem DSt.at_at(s:DSt)(i:Nat)(S T:Sec):(s.at i S).at i T=s.at i T:=by
 simp only[DSt.at];congr 1;funext j;by_cases e:j=i <;> simp[e]
theorem DSt.at_self(s:DSt)(i:Nat):s.at i (s.K i)=s:=by
 cases s with
 |mk a b c K=>
  simp only[DSt.at];congr 1;funext j;by_cases e:j=i <;> simp[e]
structure Still(B p bs:Nat)(w w':World):Prop where
 spun:Spun B w w'
 still:∀k,k<w.heap.size->k≠p->k≠bs->w'.heap[k]?=w.heap[k]?
theorem Still.refl(B p bs:Nat)(w:World):Still B p bs w w:=⟨Spun.refl _ _,fun _ _ _ _=>rfl⟩
theorem Still.trans{B p bs:Nat}{a b c:World}(h:Still B p bs a b)(g:Still B p bs b c):Still B p bs a c:=
 ⟨h.spun.trans g.spun,fun k hk h1 h2=>(g.still k (Nat.lt_of_lt_of_le hk h.spun.size) h1 h2).trans (h.still k hk h1 h2)⟩
theorem Still.of{B p bs:Nat}{w w':World}(hB:B<=w.heap.size)(h:Below w.heap.size w w'):Still B p bs w w':=⟨Spun.of hB h,fun k hk _ _=>h.block k hk⟩
theorem Still.set{B p bs g i:Nat}{w:World}{c:Array Value}{t:TypeId}{f:Nat×Nat}(hg:w.heap[g]?=some (.cells c t f))(hB:B<=g)(ht:t=118∨t=177∨t=174)(hp:g=p∨g=bs)(u:Value):Still B p bs w (w.setCell ⟨g,i,none⟩ u):=
 ⟨Spun.set hg hB ht u,fun k _ h1 h2=>Below.heap_setCell _ _ _ _ (by show k≠g;omega)⟩
theorem Still.sets{B p bs g o:Nat}{w:World}{c:Array Value}{t:TypeId}{f:Nat×Nat}(hg:w.heap[g]?=some (.cells c t f))(hB:B<=g)(ht:t=118∨t=177∨t=174)(hp:g=p∨g=bs)(vs:List Value):Still B p bs w (w.setCells g o vs):=
 ⟨Spun.sets hg hB ht vs,fun k _ h1 h2=>z1Z _ _ _ _ _ (by omega)⟩
theorem settleSec_still(w:World)(B p bs n:Nat)(s:DSt)(v:Nat->Value)(i:Nat)(keep:Int)(h:z0m w B p bs n s v)(hi:i<n) :
 Calls Tryz.prog 120 #[.pointer (some ⟨bs,i*65,none⟩),.int .u64 keep] w fun e w'=>e=.returned (.tuple #[])/\z0m w' B p bs n (s.settleAt keep i) (fun j=>if j=i then .slice none 0 0 else v j)/\Still B p bs w w':=by
 have hk:=(h.ok i hi).kept;have hlates:=(h.ok i hi).late;have hs1:w.cell? ⟨bs,i*65+64,none⟩=some (v i):=h.cells i hi 64 _ (by rw[List.getElem?_append_right (by simp[hk])];simp[hk]);obtain⟨a,c,hv,hle⟩:=z0c (h.rows i hi);have hfew:=(h.ok i hi).few;obtain⟨Z,hal,hZ⟩:=late_zero;generalize hL:(s.K i).late=L at *;generalize hm:L.length=m at *;rw[hv]at hs1;have h0:z0m w B p bs n (s.at i ⟨z2B keep (s.K i).kept (L.take 0),L⟩) v:=by
  have e:s.at i ⟨z2B keep (s.K i).kept (L.take 0),L⟩=s:=by
   rw[<-hL];exact DSt.at_self s i
  rw[e];exact h
 have HB:Hid (B<=bs):=h.bb;have HV:Hid (v i=.slice a m c):=hv;have HM:Hid (L.length=m):=hm;have HLE:Hid ((s.K i).late=L):=hL;clear hv hL h hm;go_enter Tryz.func120,Tryz.ntmps120;go_wp2;go_loopw [11] (fun y wr=>∃k:Nat,k<=m/\y=.int .i64 k/\Still B p bs w wr/\z0m wr B p bs n (s.at i ⟨z2B keep (s.K i).kept (L.take k),L⟩) v) (fun y _=>m-(intOf y).toNat)
 case atStart=>exact⟨0,Nat.zero_le _,rfl,Still.refl _ _ _ _,h0⟩
 case round=>
  obtain⟨k,hkm,rfl,hS,hD⟩:=hrel;clear h0;by_cases hlt:k<m
  ·obtain⟨x,hx⟩:∃x,L[k]?=some x:=⟨_,List.getElem?_eq_getElem (by rw[HM.out];exact hlt)⟩;obtain⟨g,rfl,hra⟩:=hD.lateRow hi (by rw[DSt.at_same];exact hx) HV.out;have hxl:=hlates x (List.mem_of_getElem? hx);have hl65:(z0t x).length=65:=by simp[z0t,hxl.2]
   have q0:(wr.alloc (.cells (z0t x).toArray 174)).cell? ⟨wr.heap.size,0,none⟩=some (.int .u64 (x.1:Int)):=by rw[World.cell?_alloc_mark];rfl
   have hnr:(wr.alloc (.cells (z0t x).toArray 174)).rangeAt wr.heap.size 1 (z0B x.2):=z4O wr _ _ 1 _ (fun j u hj=>by rw[Nat.add_comm];exact hj);have HL:Hid ((z0t x).length=65):=hl65;have hth:(wr.alloc (.cells (z0t x).toArray 174)).there bs (i*65) (z0B x.2).toArray.size:=by
    have:=World.there_alloc (hD.there hi) (.cells (z0t x).toArray 174);simpa[hxl.2]using this
   have HX:Hid ((z0B x.2).length=64):=by show(z0B x.2).length=64;simp[hxl.2]
   have htk:L.take (k+1)=L.take k++[x]:=by
    rw[List.take_add_one,hx];rfl
   have hb1:Below wr.heap.size wr (wr.alloc (.cells (z0t x).toArray 174)):=(Below.refl _ _).alloc (Nat.le_refl _) _;have hS1:=hS.trans (Still.of (by have:=HB.out;have:=hD.ltb;omega) hb1);have hD1:=hD.later hb1;have hKS:=keepTo_snoc keep (s.K i).kept (L.take k) x;rw[<-htk]at hKS;cases hbit:bitOf keep x.1 with
   |true=>
    have hD2:=hD1.keep hi hxl.2;rw[DSt.at_at,DSt.at_same]at hD2;rw[hbit,if_pos rfl]at hKS;have HD2:Hid (z0m ((wr.alloc (.cells (z0t x).toArray 174)).setCells bs (i*65) (z0B x.2)) B p bs n (s.at i ⟨z2B keep (s.K i).kept (L.take (k+1)),L⟩) v):=by rw[hKS];exact hD2
    obtain⟨C,hC⟩:=hD1.sec;have hS2:=hS1.trans (Still.sets (o:=i*65) hC HB.out (.inr (.inl rfl)) (.inr rfl) (z0B x.2));have hbt:(bits BinOp.and IntKind.u64 (keep / 2 ^ min x.fst 64) 1==1)=true:=hbit;clear hxl hl65 hbit hD hD1 hD2 hC hKS hx htk hlates;go_wp2_with (first
     |(refine wpList_load_mid rfl 174 (.tmp 13) rfl g (k*65) rfl (z0t x) _ hra Tryz.underlying174 rfl (z2a HL.out) ?_)
     |(refine z3k rfl 174 (.tmp 5) (.tmp 14) rfl wr Z rfl (z0t x) rfl rfl (hZ.trans HL.out.symm) (z2a HL.out) (z4W x) ?_)
     |(refine wpList_load_mid rfl 172 (.tmp 22) rfl wr.heap.size 1 rfl (z0B x.2) _ hnr Tryz.underlying172 rfl (z4h HX.out) ?_)
     |(refine wpList_store_mid rfl 172 (.tmp 25) (.tmp 23) rfl bs (i*65) (z0B x.2).toArray rfl rfl hth (by simpa using z4h HX.out) (all_oneCell_toArray (z5C x.2)) ?_))
    go_roundw
    case rel=>exact⟨k+1,by omega,by go_num,hS2,HD2.out⟩
    case measure=>simp[intOf];omega
   |false=>
    rw[hbit,if_neg (by simp)]at hKS;have HD2:Hid (z0m (wr.alloc (.cells (z0t x).toArray 174)) B p bs n (s.at i ⟨z2B keep (s.K i).kept (L.take (k+1)),L⟩) v):=by rw[hKS];exact hD1
    have hbt:(bits BinOp.and IntKind.u64 (keep / 2 ^ min x.fst 64) 1==1)=false:=hbit;clear hxl hl65 hbit hD hD1 hKS hx htk hlates;go_wp2_with (first
     |(refine wpList_load_mid rfl 174 (.tmp 13) rfl g (k*65) rfl (z0t x) _ hra Tryz.underlying174 rfl (z2a HL.out) ?_)
     |(refine z3k rfl 174 (.tmp 5) (.tmp 14) rfl wr Z rfl (z0t x) rfl rfl (hZ.trans HL.out.symm) (z2a HL.out) (z4W x) ?_))
    go_roundw
    case rel=>exact⟨k+1,by omega,by go_num,hS1,HD2.out⟩
    case measure=>simp[intOf];omega
  ·have e:L.take k=L:=List.take_of_length_le (by rw[HM.out];omega);rw[e]at hD;obtain⟨C,hC⟩:=hD.sec;have hkl:=keepTo_len (keep:=keep) hk L hlates;have c64:wr.cell? ⟨bs,i*65+64,none⟩=some (v i):=hD.cells i hi 64 _ (by rw[DSt.at_same,List.getElem?_append_right (by simp[hkl])];simp[hkl]);have fz:wr.frozen? ⟨bs,i*65+64,none⟩=false:=by simp[World.frozen?,hC]
   have hD2:z0m (wr.setCell ⟨bs,i*65+64,none⟩ (.slice none 0 0)) B p bs n (s.settleAt keep i) (fun j=>if j=i then .slice none 0 0 else v j):=by
    have:=hD.turn (w':=wr.setCell ⟨bs,i*65+64,none⟩ (.slice none 0 0)) hi (u:=.slice none 0 0) (l:=[]) (by simp) (by simp) (World.ownsRow_nil _ _ _ _) (.inl rfl) (Below.heap_setCell _ _ _ _ hD.ne) ⟨_,heap_setC _ _ _ _ _ _ _ hC⟩
     (fun j hj=>World.cell?_setCell_other _ _ _ _ (fun e=>hj (by injection e with _ e _;exact e.symm))) (World.cell?_setCell_same _ _ _ c64) (fun k _ hne _=>Below.heap_setCell _ _ _ _ hne)
    rw[DSt.at_at,DSt.at_same]at this;unfold DSt.settleAt;rw[HLE.out];exact this
   have hS2:=hS.trans (Still.set (i:=i*65+64) hC HB.out (.inr (.inl rfl)) (.inr rfl) (.slice none 0 0));rw[HV.out]at c64;clear hD hC hlates hkl e;go_wp2;go_end0;exact⟨rfl,hD2,hS2⟩
theorem z0m.congr{w:World}{B p bs n:Nat}{s s':DSt}{v:Nat->Value}(h:z0m w B p bs n s v)(h1:s'.next=s.next)(h2:s'.left=s.left)(h3:s'.down=s.down)(hK:∀j,j<n->s'.K j=s.K j):z0m w B p bs n s' v:=by
 refine⟨by rw[h1,h2,h3];exact h.blk,h.sec,?_,?_,?_,h.apart,h.bp,h.bb,by rw[h1];exact h.nx,by rw[h2];exact h.lo,h.few⟩
 ·intro i hi;rw[hK i hi];exact h.cells i hi
 ·intro i hi;rw[hK i hi];exact h.ok i hi
 ·intro i hi;rw[hK i hi];exact h.rows i hi
def DSt.settleTo(s:DSt)(keep:Int)(k:Nat):DSt:={s with K:=fun j=>if j<k then⟨z2B keep (s.K j).kept (s.K j).late,[]⟩else s.K j}
def DSt.settled(s:DSt)(keep:Int):DSt:={s with next:=0,K:=fun j=>⟨z2B keep (s.K j).kept (s.K j).late,[]⟩}
theorem DSt.settleTo_succ(s:DSt)(keep:Int)(k:Nat):(s.settleTo keep k).settleAt keep k=s.settleTo keep (k+1):=by
 simp only[DSt.settleAt,DSt.at,DSt.settleTo];congr 1;funext j;by_cases e:j=k
 ·subst e;simp
 ·by_cases h:j<k
  ·simp[e,h,Nat.lt_succ_of_lt h]
  ·simp[e,h,show ¬j<k+1 by omega]
theorem settle_still(w:World)(B p bs n:Nat)(s:DSt)(v:Nat->Value)(keep:Int)(h:z0m w B p bs n s v) :
 Calls Tryz.prog 88 #[.pointer (some ⟨p,0,none⟩),.int .u64 keep] w fun e w'=>e=.returned (.tuple #[])/\(∃v',z0m w' B p bs n (s.settled keep) v')/\Still B p bs w w':=by
 have c0:=h.c0;have hfew:=h.few;have h0:z0m w B p bs n (s.settleTo keep 0) v:=h.congr rfl rfl rfl (fun j _=>by simp[DSt.settleTo]);clear h;go_enter Tryz.func88,Tryz.ntmps88;go_wp2;go_loopw [10] (fun y wr=>∃(k:Nat) (v':Nat->Value),k<=n/\y=.int .i64 k/\Still B p bs w wr/\z0m wr B p bs n (s.settleTo keep k) v') (fun y _=>n-(intOf y).toNat)
 case atStart=>exact⟨0,v,Nat.zero_le _,rfl,Still.refl _ _ _ _,h0⟩
 case round=>
  obtain⟨k,v',hk,rfl,hS,hD⟩:=hrel;have c0r:=hD.c0;clear h0 c0;by_cases hlt:k<n
  ·have HC:=settleSec_still wr B p bs n _ v' k keep hD hlt;rw[DSt.settleTo_succ]at HC;clear hD;go_wp2_with fail;refine HC.mono ?_;rintro e w2 ⟨rfl,hD2,hS2⟩;clear HC;have hS3:=hS.trans hS2;go_wp2;go_roundw
   case rel=>exact⟨k+1,_,by omega,by go_num,hS3,hD2⟩
   case measure=>simp[intOf];omega
  ·have e:k=n:=by omega
   subst e;have c1:=hD.c1;have fz:=hD.fz 1;have hD2:z0m (wr.setCell ⟨p,1,none⟩ (.int .u64 0)) B p bs k (s.settled keep) v':=by
    have:=hD.put (w':=wr.setCell ⟨p,1,none⟩ (.int .u64 0)) (s':={s.settleTo keep k with next:=0}) (fun k hk=>Below.heap_setCell _ _ _ _ hk) (z1i _ hD.blk) rfl (by show 0<64;decide) hD.lo;exact this.congr rfl rfl rfl (fun j hj=>by simp[DSt.settled,DSt.settleTo,hj])
   have hS2:=hS.trans (Still.set (i:=1) hD.blk hD.bp (.inl rfl) (.inl rfl) (.int .u64 0));clear hD;generalize (s.settleTo keep k).next=nx at c1
   go_wp2;go_end0;exact⟨rfl,⟨_,hD2⟩,hS2⟩
theorem restart_still(w:World)(B p bs n:Nat)(s:DSt)(v:Nat->Value)(keep:Int)(h:z0m w B p bs n s v) :
 Calls Tryz.prog 72 #[.pointer (some ⟨p,0,none⟩),.int .u64 keep] w fun e w'=>e=.returned (.tuple #[])/\(∃v',z0m w' B p bs n {s.settled keep with down:=false,left:=-1} v')/\Still B p bs w w':=by
 have HC:=settle_still w B p bs n s v keep h;clear h;go_enter Tryz.func72,Tryz.ntmps72;go_wp2_with fail;refine HC.mono ?_;rintro e w2 ⟨rfl,⟨v',hD⟩,hS⟩;clear HC;have c2:=hD.c2;have c3:=hD.c3;have f2:=hD.fz 2;have f3:=hD.fz 3;have hD2:z0m ((w2.setCell ⟨p,3,none⟩ (.bool false)).setCell ⟨p,2,none⟩ (.int .i64 (-1))) B p bs n {s.settled keep with down:=false,left:=-1} v':=
  hD.put (fun k hk=>(Below.heap_setCell _ _ _ _ hk).trans (Below.heap_setCell _ _ _ _ hk)) (z1i _ (z1i _ hD.blk)) rfl hD.nx (by show(-1:Int) <= -1;decide)
 have hS2:=hS.trans ((Still.set (i:=3) hD.blk hD.bp (.inl rfl) (.inl rfl) (.bool false)).trans (Still.set (i:=2) (z1i _ hD.blk) hD.bp (.inl rfl) (.inl rfl) (.int .i64 (-1))));clear hD;generalize (s.settled keep).left=x2 at c2;generalize (s.settled keep).down=x3 at c3;go_wp2;go_end0;exact⟨rfl,⟨_,hD2⟩,hS2⟩
theorem settle_any(w:World)(B p bs n:Nat)(s:DSt)(v:Nat->Value)(keep:Int)(h:z0m w B p bs n s v) :
 Calls Tryz.prog 88 #[.pointer (some ⟨p,0,none⟩),.int .u64 keep] w fun e w'=>e=.returned (.tuple #[])/\(∃v',z0m w' B p bs n (s.settled keep) v')/\Spun B w w':=
 (settle_still w B p bs n s v keep h).mono fun _ _ ⟨h1,h2,h3⟩=>⟨h1,h2,h3.spun⟩
theorem restart_any(w:World)(B p bs n:Nat)(s:DSt)(v:Nat->Value)(keep:Int)(h:z0m w B p bs n s v) :
 Calls Tryz.prog 72 #[.pointer (some ⟨p,0,none⟩),.int .u64 keep] w fun e w'=>e=.returned (.tuple #[])/\(∃v',z0m w' B p bs n {s.settled keep with down:=false,left:=-1} v')/\Spun B w w':=
 (restart_still w B p bs n s v keep h).mono fun _ _ ⟨h1,h2,h3⟩=>⟨h1,h2,h3.spun⟩
theorem bitOf_all:∀k,k<64->bitOf 18446744073709551615 k=true:=by
 have:(List.range 64).all (fun k=>bitOf 18446744073709551615 k)=true:=by decide +kernel
 intro k hk;exact List.all_eq_true.1 this k (by simpa using hk)
theorem flush_goes(w:World)(B p bs n:Nat)(s:DSt)(v:Nat->Value)(h:z0m w B p bs n s v)(hf:s.falls=false)(hl:s.left<=9223372036854775807) :
 Calls Tryz.prog 61 #[.pointer (some ⟨p,0,none⟩)] w fun e w'=>e=.returned .nilIface/\(∃v',z0m w' B p bs n (s.stepped.settled 18446744073709551615) v')/\Spun B w w':=by
 have HC:=step_goes w B p bs n s v h hf hl;clear h;go_enter Tryz.func61,Tryz.ntmps61;go_wp2_with fail;refine HC.mono ?_;rintro e w2 ⟨rfl,hD,hS⟩;have HC2:=settle_any w2 B p bs n _ v 18446744073709551615 hD;clear HC hD;go_wp2_with fail;refine HC2.mono ?_;rintro e w3 ⟨rfl,hD3,hS3⟩;have hS4:=hS.trans hS3;clear HC2;go_wp2;go_ret;exact⟨rfl,hD3,hS4⟩
theorem flush_falls(w:World)(B p bs n:Nat)(s:DSt)(v:Nat->Value)(h:z0m w B p bs n s v)(hf:s.falls=true) :
 Calls Tryz.prog 61 #[.pointer (some ⟨p,0,none⟩)] w fun e w'=>e=.returned (errV 9)/\z0m w' B p bs n s.fell v/\Spun B w w':=by
 have HC:=step_falls w B p bs n s v h hf;clear h;go_enter Tryz.func61,Tryz.ntmps61;go_wp2_with fail;refine HC.mono ?_;rintro e w2 ⟨rfl,hD,hS⟩;have q9:errV 9=.iface 43 (.int .i64 9):=rfl;rw[q9];clear HC;go_wp2;go_ret;exact⟨rfl,hD,hS⟩
end
section
open Go.RowKit
set_option maxHeartbeats 1000000
set_option maxRecDepth 100000
def Sec.now(S:Sec):List UInt8:=match S.late.getLast? with
 |some x=>x.2
 |none=>S.kept
theorem SecOk.now{S:Sec}(h:SecOk S):S.now.length=64:=by
 unfold Sec.now;split
 ·rename_i x hx;exact(h.late x (List.mem_of_getLast? hx)).2
 ·exact h.kept
theorem cont_zero:∃Z:Array Value,(∀w,Sem.run Tryz.prog (zeroValue 172) w=.ok (.agg Z) w)/\Z.size=64:=
 ⟨Array.replicate 64 (.int .u8 0),fun w=>by kernel_rfl,by simp⟩
theorem now_any(w:World)(B p bs n:Nat)(s:DSt)(v:Nat->Value)(i:Nat)(h:z0m w B p bs n s v)(hi:i<n) :
 Calls Tryz.prog 162 #[.pointer (some ⟨bs,i*65,none⟩)] w fun e w'=>e=.returned (.agg (z0B (s.K i).now).toArray)/\Below w.heap.size w w':=by
 have hk:=(h.ok i hi).kept;have hs1:w.cell? ⟨bs,i*65+64,none⟩=some (v i):=h.cells i hi 64 _ (by rw[List.getElem?_append_right (by simp[hk])];simp[hk]);obtain⟨a,c,hv,hle⟩:=z0c (h.rows i hi);have hfew:=(h.ok i hi).few;obtain⟨Z,hal,hZ⟩:=cont_zero;have hnow:=(h.ok i hi).now;have hltb:=h.ltb;have hbA:Below w.heap.size w (w.alloc (.cells Z 172)):=(Below.refl _ _).alloc (Nat.le_refl _) _;have hD:=h.later hbA;have hs2:=cell_later hbA hs1;rw[hv]at hs2;generalize hm:(s.K i).late.length=m at *;have HN:Hid ((z0B (s.K i).now).length=64):=by show(z0B (s.K i).now).length=64;simp[hnow]
 have hbf:Below w.heap.size w (w.alloc (.cells (z0B (s.K i).now).toArray 172)):=(Below.refl _ _).alloc (Nat.le_refl _) _;have hld:(loadVar 172 ⟨w.heap.size,0,none⟩).run Tryz.prog (w.alloc (.cells (z0B (s.K i).now).toArray 172))=.ok (.agg (z0B (s.K i).now).toArray) (w.alloc (.cells (z0B (s.K i).now).toArray 172)):=
  run_loadVar_mid _ _ _ _ _ _ (z4O w _ _ 0 _ (fun j u hj=>by rw[Nat.zero_add];exact hj)) Tryz.underlying172 rfl (z4h HN.out)
 by_cases h0:0<m
 ·obtain⟨x,hx⟩:∃x,(s.K i).late[m-1]?=some x:=⟨_,List.getElem?_eq_getElem (by omega)⟩;obtain⟨g,rfl,hra⟩:=hD.lateRow hi hx hv;have hra1:(w.alloc (.cells Z 172)).rangeAt g ((m-1)*65+1) (z0B x.2):=fun j u hj=>by
   have:=hra (j+1) u (by exact hj);rw[show(m-1)*65+1+j=(m-1)*65+(j+1) by omega];exact this
  have hE:(s.K i).now=x.2:=by
   unfold Sec.now;have:(s.K i).late.getLast? = some x:=by rw[List.getLast?_eq_getElem?,hm];exact hx
   rw[this]
  have HE:Hid ((s.K i).now=x.2):=hE;rw[hE]at HN hbf hld;have htn:((m:Int)-1).toNat=m-1:=by omega
  clear h hD hra hx hE hv hbA hs1 hnow;go_enter Tryz.func162,Tryz.ntmps162;go_wp2_with (first
   |(refine wpList_load_mid rfl 172 (.tmp 18) rfl g ((m-1)*65+1) rfl (z0B x.2) _ hra1 Tryz.underlying172 rfl (z4h HN.out) ?_)
   |(refine z3k rfl 172 (.tmp 2) (.tmp 19) rfl w Z rfl (z0B x.2) rfl rfl (hZ.trans HN.out.symm) (z4h HN.out) (z5C x.2) ?_))
  refine bodyPost_ret (v:=.agg (z0B x.2).toArray) (results_cell rfl (by simp[go_sem]) hld) rfl ?_;rw[HE.out];exact⟨rfl,hbf⟩
 ·have hz:m=0:=by omega
  have hra1:(w.alloc (.cells Z 172)).rangeAt bs (i*65) (z0B (s.K i).kept):=fun j u hj=>by
   have hj2:j<64:=by
    have:=(List.getElem?_eq_some_iff.1 hj).1;simpa[hk]using this
   exact hD.cells i hi j u (by rw[List.getElem?_append_left (by simp[hk];exact hj2)];exact hj)
  have hE:(s.K i).now=(s.K i).kept:=by
   unfold Sec.now;have:(s.K i).late=[]:=List.eq_nil_of_length_eq_zero (by omega);rw[this];rfl
  have HE:Hid ((s.K i).now=(s.K i).kept):=hE;rw[hE]at HN hbf hld;subst hz;clear h hD hE hv hbA hs1 hnow hm;generalize (s.K i).kept=K0 at *;go_enter Tryz.func162,Tryz.ntmps162;go_wp2_with (first
   |(refine wpList_load_mid rfl 172 (.tmp 22) rfl bs (i*65) rfl (z0B K0) _ hra1 Tryz.underlying172 rfl (z4h HN.out) ?_)
   |(refine z3k rfl 172 (.tmp 2) (.tmp 23) rfl w Z rfl (z0B K0) rfl rfl (hZ.trans HN.out.symm) (z4h HN.out) (z5C K0) ?_))
  refine bodyPost_ret (v:=.agg (z0B K0).toArray) (results_cell rfl (by simp[go_sem]) hld) rfl ?_;rw[HE.out];exact⟨rfl,hbf⟩
def DSt.readF(s:DSt)(n:Nat)(at':Int):Nat:=if s.down=true then 9 else if 0<=at'/\at'<n then 0 else 1
theorem read_ok(w:World)(B p bs n:Nat)(s:DSt)(v:Nat->Value)(i:Nat)(h:z0m w B p bs n s v)(hd:s.down=false)(hi:i<n) :
 Calls Tryz.prog 121 #[.pointer (some ⟨p,0,none⟩),.int .i64 (i:Int)] w fun e w'=>e=.returned (.tuple #[.string ⟨(s.K i).now.toArray⟩,.nilIface])/\Below w.heap.size w w':=by
 have c0:=h.c0;have c3:=h.c3;rw[hd]at c3;have HH:=has_any w B p bs n s v (i:Int) h;have HN:=now_any w B p bs n s v i h hi;have hl:=(h.ok i hi).now;have hfew:=h.few;have hdec:(decide (0<=(i:Int))&&decide ((i:Int)<(n:Int)))=true:=by simp;exact hi
 rw[hdec]at HH;obtain⟨Z,hal,hZ⟩:=cont_zero;generalize (s.K i).now=cs at *;have HL:Hid ((z0B cs).length=64):=by show(z0B cs).length=64;simp[hl]
 clear h hdec;go_enter Tryz.func121,Tryz.ntmps121;go_wp2_with fail;refine HH.mono ?_;rintro e w1 ⟨rfl,rfl⟩;clear HH;go_wp2_with fail;refine HN.mono ?_;rintro e w2 ⟨rfl,hb2⟩;clear HN;have hcv:∀(src dst:TypeId),Tryz.prog.underlying src=some (.slice 5)->Tryz.prog.underlying dst=some .string->(convert src dst (.slice (some ⟨w2.heap.size,0,none⟩) 64 64)).run Tryz.prog (w2.alloc (.cells (z0B cs).toArray 172))=.ok (.string ⟨cs.toArray⟩) (w2.alloc (.cells (z0B cs).toArray 172)):=fun src dst hs hd'=>by
  have:=run_convert_bytes_back (P:=Tryz.prog) (w2.alloc (.cells (z0B cs).toArray 172)) src dst 5 ⟨w2.heap.size,0,none⟩ 64 cs hs Tryz.underlying5 hd' (fun j hj=>by
   rw[Addr.add_mid,Nat.zero_add,World.cell?_alloc_mark];simp[z0B,hj])
  rw[hl]at this;exact this
 have hbf:Below w1.heap.size w1 (w2.alloc (.cells (z0B cs).toArray 172)):=hb2.alloc hb2.size _;go_wp2_with (first
  |(refine z3k rfl 172 (.tmp 6) (.tmp 23) rfl w2 Z rfl (z0B cs) rfl rfl (hZ.trans HL.out.symm) (z4h HL.out) (z5C cs) ?_))
 go_ret2;exact⟨rfl,hbf⟩
theorem read_bad(w:World)(B p bs n:Nat)(s:DSt)(v:Nat->Value)(at':Int)(h:z0m w B p bs n s v)(hf:s.readF n at'≠0) :
 Calls Tryz.prog 121 #[.pointer (some ⟨p,0,none⟩),.int .i64 at'] w fun e w'=>e=.returned (.tuple #[.string ⟨#[]⟩,errV (s.readF n at')])/\w'=w:=by
 have c3:=h.c3;have HH:=has_any w B p bs n s v at' h;unfold DSt.readF at hf ⊢;clear h;cases hd:s.down with
 |true=>
  rw[hd]at c3;rw[if_pos rfl];go_enter Tryz.func121,Tryz.ntmps121;go_wp2;go_ret2;exact⟨rfl,rfl⟩
 |false=>
  rw[hd]at c3 hf;rw[if_neg (by simp)]at hf ⊢;by_cases h1:0<=at'/\at'<n
  ·rw[if_pos h1]at hf;exact absurd rfl hf
  ·have hdec:(decide (0<=at')&&decide (at'<n))=false:=by simp;omega
   rw[if_neg h1];rw[hdec]at HH;clear hdec h1 hf;go_enter Tryz.func121,Tryz.ntmps121;go_wp2_with fail;refine HH.mono ?_;rintro e w1 ⟨rfl,rfl⟩;clear HH;go_wp2;go_ret2;exact⟨rfl,rfl⟩
def DSt.fresh:DSt:=⟨0,-1,false,fun _=>⟨List.replicate 64 0,[]⟩⟩
theorem sec_zero:∃i z,Tryz.prog.info? 177=some i/\i.zero=some z/\i.size=65/\i.bytes=88/\z.cells=(z0B (List.replicate 64 0)++[Value.slice none 0 0]).toArray:=by
 obtain⟨x,hx,hp⟩:=Option.map_eq_some_iff.1 (show(Tryz.prog.info? 177).map (fun i=>(i.zero.map (·.cells),i.size,i.bytes))=some (some (z0B (List.replicate 64 0)++[Value.slice none 0 0]).toArray,65,88) by kernel_rfl);simp only[Prod.mk.injEq]at hp;obtain⟨h1,h2,h3⟩:=hp;obtain⟨z,hz,hc⟩:=Option.map_eq_some_iff.1 h1;exact⟨x,z,hx,hz,h2,h3,hc⟩
theorem sectors_made(w:World)(n:Nat)(h1:1<=n)(h2:n<=120):∃C:Array Value,(Instr.makeSlice 115 (.int .i64 (n:Int)) (.int .i64 (n:Int))).run Tryz.prog w=.ok (.slice (some ⟨w.heap.size,0,none⟩) n n) (w.alloc (.cells C 177)) /\
 ∀i,i<n->∀j u,(z0B (List.replicate 64 0)++[.slice none 0 0])[j]?=some u->C[i*65+j]?=some u:=by
 obtain⟨x,z,hx,hz,hs,hb,hc⟩:=sec_zero;refine⟨_,run_makeSlice (P:=Tryz.prog) w 115 177 x z Tryz.underlying115 hx hz .i64 .i64 n n (by omega) (Int.le_refl _) (by rw[hs];omega) (by rw[hb];omega) (by omega),?_⟩;intro i hi j u hj;have hj2:j<65:=by
  have:=(List.getElem?_eq_some_iff.1 hj).1;simpa using this
 rw[hs,hc];have hlt:i*65+j<(n:Int).toNat*65:=by rw[Int.toNat_natCast];omega
 have hsz:(z0B (List.replicate 64 0)++[Value.slice none 0 0]).toArray.size=65:=by simp
 generalize hL:z0B (List.replicate 64 0)++[Value.slice none 0 0]=L at *;have hmod:(i*65+j) % 65=j:=by omega
 simp only[madeCells];rw[Array.getElem?_map,Array.getElem?_range,if_pos hlt];simp only[Option.map_some];rw[hsz,hmod,getElem!_pos L.toArray j (by rw[hsz];exact hj2)];rw[List.getElem?_eq_some_iff]at hj;obtain⟨_,hj⟩:=hj;rw[<-hj];rfl
def IsDisk(w:World)(B p n:Nat)(s:DSt):Prop:=∃bs v,z0m w B p bs n s v
theorem IsDisk.later{w w':World}{B p n:Nat}{s:DSt}(h:IsDisk w B p n s)(hb:Below w.heap.size w w'):IsDisk w' B p n s:=by
 obtain⟨bs,v,h⟩:=h;exact⟨bs,v,h.later hb⟩
theorem newDisk_ok(w:World)(n:Nat)(h1:1<=n)(h2:n<=120) :
 Calls Tryz.prog 30 #[.int .i64 (n:Int)] w fun e w'=>∃p,e=.returned (.tuple #[.pointer (some ⟨p,0,none⟩),.nilIface])/\IsDisk w' w.heap.size p n DSt.fresh/\Below w.heap.size w w':=by
 obtain⟨C,hmk,hC⟩:=sectors_made w n h1 h2;have n1:¬(n:Int)<1:=by omega
 have n2:¬(120:Int)<(n:Int):=by omega
 have hD:z0m ((w.alloc (.cells C 177)).alloc (.cells #[.slice (some ⟨w.heap.size,0,none⟩) n n,.int .u64 0,.int .i64 (-1),.bool false] 118)) w.heap.size (w.heap.size+1) w.heap.size n DSt.fresh (fun _=>.slice none 0 0):=by
  refine⟨?_,⟨C,?_⟩,?_,?_,?_,fun _ _ _ _ _=>.inl rfl,by omega,Nat.le_refl _,by decide,by decide,h2⟩
  ·have e:(w.alloc (.cells C 177)).heap.size=w.heap.size+1:=by simp
   rw[<-e];show((w.alloc (.cells C 177)).heap.push _)[(w.alloc (.cells C 177)).heap.size]?=_;rw[Array.getElem?_push_size];rfl
  ·rw[heap_alloc_old _ _ (by simp)];exact heap_alloc_new w _
  ·intro i hi j u hj;rw[World.cell?_alloc_lt _ _ _ (by simp),World.cell?_alloc_mark];exact hC i hi j u hj
  ·exact fun i _=>⟨by simp[DSt.fresh],by simp[DSt.fresh],by simp[DSt.fresh]⟩
  ·exact fun i _=>World.ownsRow_nil _ _ _ _
 have hI:=(show IsDisk _ _ _ _ _ from⟨_,_,hD⟩);have hb:Below w.heap.size w ((w.alloc (.cells C 177)).alloc (.cells #[.slice (some ⟨w.heap.size,0,none⟩) n n,.int .u64 0,.int .i64 (-1),.bool false] 118)):=((Below.refl _ _).alloc (Nat.le_refl _) _).alloc (by simp) _;clear hC hD;go_enter Tryz.func30,Tryz.ntmps30;go_wp2;go_ret2;exact⟨_,rfl,hI,hb⟩
end
end Go.Proofs.YtbcpcbonlhlhpaaGreatDoor
