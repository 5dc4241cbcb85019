/- The document's shelf: what its Put and Drop do; all else -/
import Derived.Test.YtbcpcbonlhlhpaaGreatDoorShelfDel
import Derived.Test.YtbcpcbonlhlhpaaGreatDoorRefEntFault
import Derived.Test.YtbcpcbonlhlhpaaGreatDoorEntryStm
set_option maxRecDepth 100000
set_option maxHeartbeats 8000000
namespace Go.Proofs.YtbcpcbonlhlhpaaGreatDoor
section
open Go.RowKit
structure z1R (w:World)(B0 B m:Nat)(v:Value)(k:Nat)(V:Nat->EntV)(E:Nat->EntF):Prop where
 blk:w.heap[m]?=some (.cells #[v] 37 (0,0))
 own:z0C w B0 B v k V E
 few:k<=3
 once:∀i j,i<k->j<k->(E i).root=(E j).root->i=j
theorem z1R.lt{w:World}{B0 B m:Nat}{v:Value}{k:Nat}{V:Nat->EntV}{E:Nat->EntF}(h:z1R w B0 B m v k V E):m<w.heap.size:=(Array.getElem?_eq_some_iff.1 h.blk).1
theorem z1R.cell{w:World}{B0 B m:Nat}{v:Value}{k:Nat}{V:Nat->EntV}{E:Nat->EntF}(h:z1R w B0 B m v k V E):w.cell? ⟨m,0,none⟩=some v:=by simp[World.cell?,h.blk]
theorem z1R.later{w w':World}{B0 B m:Nat}{v:Value}{k:Nat}{V:Nat->EntV}{E:Nat->EntF}(h:z1R w B0 B m v k V E)(hB:B0<=w.heap.size)(hb:Below w.heap.size w w'):z1R w' B0 B m v k V E:=
 ⟨(hb.block _ h.lt).trans h.blk,h.own.later hB hb,h.few,h.once⟩
theorem z0C.other{w w':World}{B0 B m:Nat}{v:Value}{k:Nat}{V:Nat->EntV}{E:Nat->EntF}{C:Array Value}{t:TypeId}{f:Nat×Nat}(h:z0C w B0 B v k V E)(hm:w.heap[m]?=some (.cells C t f))(ht:t≠112/\t≠114/\t≠71)(hB:B0<=m)(hB1:B0<=w.heap.size)(hg:w.grownBy w' (some m)):z0C w' B0 B v k V E:=by
 have hne:∀(q:Nat) (C':Array Value) (t':TypeId),w.heap[q]?=some (.cells C' t' (0,0))->t'≠t->q≠m:=fun q C' t' hq hn e=>by
  subst e;rw[hm]at hq;injection hq with hq;injection hq with _ h2 _;exact hn h2.symm
 refine h.keeps ⟨fun q hq=>hg.block q (by omega) (fun e=>by injection e;omega),fun q C' t' ht' hq=>hg.block q (Array.getElem?_eq_some_iff.1 hq).1 (fun e=>?_)⟩ (fun b e=>?_)
 ·injection e with e;exact hne q C' t' hq (by rcases ht' with rfl|rfl;exact fun e=>ht.1 e.symm;exact fun e=>ht.2.1 e.symm) e
 ·obtain⟨C',hC'⟩:=z4r h.row e;exact hg.block b (Array.getElem?_eq_some_iff.1 hC').1 (fun e=>by injection e with e;exact hne b C' _ hC' (fun e=>ht.2.2 e.symm) e)
theorem grown_set{w W:World}(hb:Below w.heap.size w W)(m:Nat)(v:Value):w.grownBy (W.setCell ⟨m,0,none⟩ v) (some m):=
 ⟨hb.os,hb.tape,hb.output,by simp[World.setCell];exact hb.size,fun k hk hne=>(Below.heap_setCell _ _ _ _ (fun e=>hne (by rw[show k=m from e]))).trans (hb.block k hk)⟩
theorem z1R.stored{W:World}{B0 B B1 m:Nat}{v0 v:Value}{k:Nat}{V:Nat->EntV}{E:Nat->EntF}(hm:W.heap[m]?=some (.cells #[v0] 37 (0,0)))(hE:z0C W B0 B1 v k V E)(hB:B<=B1)(hB0:B0<=m)(hBW:B0<=W.heap.size)(hk:k<=3)(ho:∀i j,i<k->j<k->(E i).root=(E j).root->i=j) :
 z1R (W.setCell ⟨m,0,none⟩ v) B0 B m v k V E:=by
 have h1:=hE.other hm (by decide) hB0 hBW (grownBy_setCell' W m v);exact⟨z1i _ hm,⟨z7B h1.row hB,h1.ins⟩,hk,ho⟩
theorem z6d {E:Nat->EntF}{root:ByteArray}{k j:Nat}(hj:j<k)(hr:(E j).root=root)(h:∀i,i<j->(E i).root≠root):findF E root k 0=(j:Int):=by
 have key:∀(d i:Nat),i+d=j->findF E root k i=(j:Int):=fun d=>by
  induction d with
  |zero=>intro i hi;obtain rfl:i=j:=by omega
         exact z5A hj hr
  |succ d ih=>intro i hi;rw[z3N (by omega) (h i (by omega))];exact ih (i+1) (by omega)
 exact key j 0 (by omega)
theorem findF_no{E:Nat->EntF}{root:ByteArray}{k:Nat}(h:∀i,i<k->(E i).root≠root):findF E root k 0=-1:=by
 have key:∀(d i:Nat),i+d=k->findF E root k i=-1:=fun d=>by
  induction d with
  |zero=>intro i hi;exact z4g (by omega)
  |succ d ih=>intro i hi;rw[z3N (by omega) (h i (by omega))];exact ih (i+1) (by omega)
 exact key k 0 (by omega)
theorem joinC_put{f:Nat->List Value}{i:Nat}{x:List Value}:∀ {m:Nat},z0i f i++x++z0i (fun q=>f (q+(i+1))) m=z0i (addV f i x) (i+1+m)
 |0=>by
  show z0i f i++x++[]=z0i (addV f i x) i++addV f i x i;rw[List.append_nil];congr 1
  ·exact z1f fun j hj=>by unfold addV;rw[if_neg (by omega)]
  ·unfold addV;rw[if_pos rfl]
 |m+1=>by
  show z0i f i++x++(z0i (fun q=>f (q+(i+1))) m++f (m+(i+1)))=z0i (addV f i x) (i+1+m)++addV f i x (i+1+m);rw[<-List.append_assoc,joinC_put];congr 1;unfold addV;rw[if_neg (by omega)];congr 1;omega
theorem entL_add(V:Nat->EntV)(E:Nat->EntF)(i:Nat)(x:EntV)(e:EntF):addV (entL V E) i [.string e.root,.slice x.aP e.nP x.cP,.slice x.aQ e.nQ x.cQ]=entL (addV V i x) (addV E i e):=by
 funext j;by_cases h:j=i <;> simp[addV,entL,h]
theorem z0C.set{w:World}{B0 B g c k i:Nat}{V:Nat->EntV}{E:Nat->EntF}{x:EntV}{e:EntF}(h:z0C w B0 B (.slice (some ⟨g,0,none⟩) k c) k V E)(hB:B0<=B)(hi:i<k)(hx:z5N w B0 x e) :
 z0C (set3 w g (i*3) (.string e.root) (.slice x.aP e.nP x.cP) (.slice x.aQ e.nQ x.cQ)) B0 B (.slice (some ⟨g,0,none⟩) k c) k (addV V i x) (addV E i e)/\w.grownBy (set3 w g (i*3) (.string e.root) (.slice x.aP e.nP x.cP) (.slice x.aQ e.nQ x.cQ)) (some g):=by
 obtain⟨h1,h2⟩:=z3v [.string e.root,.slice x.aP e.nP x.cP,.slice x.aQ e.nQ x.cQ] (i*3) w _ h.row (by rw[h.row.1];simp;omega);obtain⟨C,hC⟩:=z4r h.row (k:=g) rfl;have hk:z1B B0 w (set3 w g (i*3) (.string e.root) (.slice x.aP e.nP x.cP) (.slice x.aQ e.nQ x.cQ)):=set3_keeps hC (Nat.le_trans hB (h.row.lt g rfl).1) _ _ _;refine⟨⟨?_,fun j hj=>?_⟩,h2⟩
 ·have e1:(z0i (entL V E) k).take (i*3)++[.string e.root,.slice x.aP e.nP x.cP,.slice x.aQ e.nQ x.cQ]++(z0i (entL V E) k).drop (i*3 + [Value.string e.root,.slice x.aP e.nP x.cP,.slice x.aQ e.nQ x.cQ].length)=z0i (entL (addV V i x) (addV E i e)) k:=by
   rw[show i*3 + [Value.string e.root,.slice x.aP e.nP x.cP,.slice x.aQ e.nQ x.cQ].length=(i+1)*3 by simp;omega,joinC_take (fun _=>rfl) (by omega),joinC_drop (fun _=>rfl) (by omega),joinC_put,<-entL_add];congr 1;omega
  rw[<-e1];exact h1
 ·unfold addV;split
  ·exact hx.keeps hk
  ·exact(h.ins j hj).keeps hk
theorem refPut_any(w:World)(B0 B m k:Nat)(vl:Value)(V:Nat->EntV)(E:Nat->EntF)(v:EntV)(en:EntF)(h:z1R w B0 B m vl k V E)(hB0:B0<=B)(hBm:B<=m)(hA:z5N w B0 v en)(hf:EntFit en) :
 Calls Tryz.prog 41 #[.pointer (some ⟨m,0,none⟩),.agg (z1r v en)] w fun e w'=>e=.returned (.int .i64 (((putE E k en).1:Nat):Int))/\(∃vl' V',z1R w' B0 B m vl' (putE E k en).2.2 V' (putE E k en).2.1)/\w.grownBy w' (some m):=by
 have hlt:=h.lt;have hBw:B0<=w.heap.size:=by omega
 have hb0:Below w.heap.size w (w.alloc (.cells (z1r v en) 71)):=(Below.refl _ _).alloc (Nat.le_refl _) _;have hX0:=EntBox.new w v en;have HC:=refEntFault_any v en _ (hA.here.later hb0) hf;have h1:=h.later (by omega) hb0;have hA1:=hA.keeps (z1B.of_below (by omega) hb0);have c0:=hX0.c0;have c1:=hX0.c1;have c2:=hX0.c2;have gb:∀w',Below w.heap.size w w'->w.grownBy w' (some m):=fun w' hb=>⟨hb.os,hb.tape,hb.output,hb.size,fun k hk _=>hb.block k hk⟩
 have hsz:w.heap.size<=(w.alloc (.cells (z1r v en) 71)).heap.size:=hb0.size;unfold z1r at *;generalize hW:w.alloc (.cells #[.string en.root,.slice v.aP en.nP v.cP,.slice v.aQ en.nQ v.cQ] 71)=W at *;by_cases hF:entF en=0
 ·rw[hF]at HC;go_enter Tryz.func41,Tryz.ntmps41;go_wp2_with fail;refine(show Calls _ _ _ _ _ from HC).mono ?_;rintro e w1 ⟨rfl,hb1⟩;clear HC;have hX1:=hX0.later hb1;have h2:=h1.later (by omega) hb1;have hA2:=hA1.keeps (z1B.of_below (by omega) hb1);have hbA:=hb0.trans (hb1.mono hb0.size);have mc:=h2.cell;obtain⟨a,c,rfl,hRow⟩:=h2.own.ents;have hk3:=h.few;have hlen:(z0i (entL V E) k).length=k*3:=h2.own.row.1;obtain⟨v1,W1,happ,hGr⟩:=z0J 35 71 3 64 (.agg #[.string ⟨#[]⟩,.slice none 0 0,.slice none 0 0]) (by kernel_rfl) (by kernel_rfl) (by rfl) (by decide) w1.heap.size w1 (.slice none 0 0) 0 [] (World.ownsRow_nil _ _ _ _) a k c (z0i (entL V E) k) hlen
   (by
     rcases rows3 (fun _=>rfl) h2.own.row with⟨a',c',e,hr⟩;cases e;rcases hr with h0|⟨bk,_,ha,hc,_⟩
     ·exact .inl h0
     ·refine .inr ⟨bk,0,ha,fun j u hj=>?_⟩;have hjl:=(List.getElem?_eq_some_iff.1 hj).1;have hd:j / 3<k:=by omega
      have:=hc (j / 3) hd (j % 3) u (by rw[<-z2G (s:=3) (fun _ _=>rfl) hd (Nat.mod_lt _ (by decide)),show j / 3*3+j % 3=j by omega];exact hj);rw[show j / 3*3+j % 3=j by omega]at this;rw[Nat.zero_add];exact this) (entL_one V E k) (Nat.le_refl _) (by omega) (by decide)
  rw[Nat.zero_add,List.nil_append]at hGr;have hBw1:B0<=w1.heap.size:=Nat.le_trans hBw hbA.size;have hBW1:B0<=W1.heap.size:=Nat.le_trans hBw1 hGr.below.size;have hk1:z1B B0 w1 W1:=z1B.of_below hBw1 hGr.below;have hEO1:z0C W1 B0 w1.heap.size v1 k V E:=⟨hGr.own,fun i hi=>(h2.own.ins i hi).keeps hk1⟩;have h3:=h2.later hBw1 hGr.below;have hX2:=hX1.later hGr.below;have hA3:=hA2.keeps hk1;have hbB:=hbA.trans (hGr.below.mono hbA.size);have hszW:w.heap.size<W.heap.size:=by rw[<-hW];simp
  have hszA:w.heap.size<w1.heap.size:=Nat.lt_of_lt_of_le hszW hb1.size;obtain⟨a1,c1',rfl,hRow1⟩:=hEO1.ents;clear hX1 h2 hA2 hk1 hRow h1 hA1 hX0 c0 c1 c2;go_wp2_with (at_builtin;refine z0b rfl (.const (.slice none 0 0)) (.tmp 16) 35 rfl (.slice none 0 0) (.slice a k c) _ rfl rfl happ ?_);clear happ mc;go_loopw [7] (fun y wr=>∃i:Nat,i<=k/\y=.int .i64 i/\Hid (∀j,j<i->(E j).root≠en.root)/\Below W1.heap.size W1 wr) (fun y _=>k-(intOf y).toNat)
  case atStart=>exact⟨0,Nat.zero_le _,rfl,fun j hj=>absurd hj (Nat.not_lt_zero _),Below.refl _ _⟩
  case round=>
   obtain⟨i,hi,rfl,HN,hbr⟩:=hrel;have hX3:=hX2.later hbr;have h4:=h3.later hBW1 hbr;have hEO2:=hEO1.later hBW1 hbr;have hA4:=hA3.keeps (z1B.of_below hBW1 hbr);have hbC:=hbB.trans (hbr.mono hbB.size);by_cases hlti:i<k
   ·rcases hRow1.later hbr with h0|⟨bk,o,rfl,hc⟩
    ·omega
    obtain⟨y0,_,_,_⟩:=hc i hlti;obtain rfl:o=0:=by
     rcases hEO2.row.2 with⟨h0,_⟩|⟨g',cap',cur,e,_⟩
     ·cases h0
     ·cases e;rfl
    have x0:=hX3.c0;rw[Nat.zero_add]at y0;have hi0:(0:Int)<=(i:Int):=by omega
    have hi1:(i:Int)<(k:Int):=by omega
    go_wp2;have hSS:(fun w':World=>w'.cell? ⟨bk,i*3,none⟩=some (.string (E i).root)/\w'.cell? ⟨w.heap.size,0,none⟩=some (.string en.root)) wr.drew:=⟨y0,x0⟩;have hbD:Below W1.heap.size W1 wr.drew:=hbr.drew;have hbE:Below wr.heap.size wr wr.drew:=(Below.refl _ _).drew;have h5:=h4.later (Nat.le_trans hBw hbC.size) hbE;have hEO3:=hEO2.later (Nat.le_trans hBw hbC.size) hbE;have hA5:=hA4.keeps (z1B.of_below (Nat.le_trans hBw hbC.size) hbE);have hbF:=hbC.trans (hbE.mono hbC.size);have hX4:=hX3.later hbE;clear h4 hEO2 hA4 y0 x0 hX3 hc;refine z0f (fun w':World=>w'.cell? ⟨bk,i*3,none⟩=some (.string (E i).root)/\w'.cell? ⟨w.heap.size,0,none⟩=some (.string en.root)) 7 8 (by kernel_rfl) rfl ?_;generalize wr.drew=w5 at *;refine tW 0 hSS ?_;refine tW 1 hSS ?_;refine tW 2 hSS ?_;refine tW 3 hSS ?_;refine tW 5 hSS ?_;refine tR 4 [] hSS ?_;refine tR 6 [] hSS ?_;refine lG 7 fun K hK=>?_
    by_cases he:(E i).root=en.root
    ·have hb:((E i).root.toList==en.root.toList)=true:=by rw[he];simp
     have HP:Hid (putE E k en=(0,addV E i en,k)):=putE_set hF (z6d hlti he HN.out);obtain⟨hEO4,hG4⟩:=hEO3.set hBw1 hlti hA5;have hbk:w1.heap.size<=bk:=(hEO3.row.lt bk rfl).1;have hbl:w5.heap[m]?=some (.cells #[.slice a k c] 37 (0,0)):=h5.blk;have hbl2:=(hG4.block m h5.lt (fun e=>by injection e;omega)).trans hbl;have hbG:=set3_below (o:=i*3) hbF (Nat.le_trans (Nat.le_of_lt hszA) hbk) (.string en.root) (.slice v.aP en.nP v.cP) (.slice v.aQ en.nQ v.cQ);have hRS:=z1R.stored (B:=B) hbl2 hEO4 (by omega) (by omega) (Nat.le_trans hBw hbG.size) h.few (fun p q hp hq hpq=>h.once p q hp hq (by
      have er:∀j,(addV E i en j).root=(E j).root:=fun j=>by
       unfold addV;split
       ·rename_i e';rw[e',he]
       ·rfl
      rw[er p,er q]at hpq;exact hpq))
     have hGW:=grown_set hbG m (.slice (some ⟨bk,0,none⟩) k c1');obtain⟨C,hC⟩:=z4r hEO3.row (k:=bk) rfl;have hfr:∀q,w5.frozen? ⟨bk,q,none⟩=false:=fun q=>by simp[World.frozen?,hC]
     have fr0:=hfr (i*3);have fr1:=hfr (i*3+1);have fr2:=hfr (i*3+2);have mf:w5.frozen? ⟨m,0,none⟩=false:=by simp[World.frozen?,hbl]
     have mc:=h5.cell;have hcell:∀q,q<k*3->∃u,w5.cell? ⟨bk,q,none⟩=some u:=fun q hq=>⟨_,by rw[hEO3.row.cellAt q hq,List.getElem?_eq_getElem (by rw[hEO3.row.1];exact hq)]⟩
     obtain⟨u0,e0⟩:=hcell (i*3) (by omega);obtain⟨u1,e1⟩:=hcell (i*3+1) (by omega);obtain⟨u2,e2⟩:=hcell (i*3+2) (by omega);have x0:=hX4.c0;have x1:=hX4.c1;have x2:=hX4.c2;have hmb:m≠bk:=by omega
     unfold set3 at hRS hGW;clear hfr hcell hEO3 hEO4 hG4 hbl2 he;go_wp2;refine hK _ _ ?_;clear hK;refine z1c (by kernel_rfl) ?_ _;go_wp2;go_ret;rw[HP.out];exact⟨rfl,⟨_,_,hRS⟩,hGW⟩
    ·have hb:((E i).root.toList==en.root.toList)=false:=by rw[z0z];exact decide_eq_false he
     have HN2:Hid (∀j,j<i+1->(E j).root≠en.root):=fun j hj=>by
      by_cases e:j=i
      ·subst e;exact he
      ·exact HN.out j (by omega)
     clear he;go_wp2;refine hK _ _ ?_;clear hK;refine z1c (by kernel_rfl) ?_ _;go_wp2;go_roundw
     case rel=>exact⟨i+1,by omega,by go_num,HN2,hbD⟩
     case measure=>simp[intOf];omega
   ·obtain rfl:i=k:=by omega
    have hno:=findF_no HN.out;by_cases hk:i=3
    ·subst hk;have HP:Hid (putE E 3 en=(2,E,3)):=putE_many hF (by omega);go_wp2;go_ret;rw[HP.out];exact⟨rfl,⟨_,_,h4⟩,gb _ hbC⟩
    ·have HP:Hid (putE E i en=(0,addV E i en,i+1)):=putE_add hF (by omega) hk;have hk':((i:Int)==3)=false:=by simp;omega
     obtain⟨v',W6,happ,hG6⟩:=growE (.string en.root) (.slice v.aP en.nP v.cP) (.slice v.aQ en.nQ v.cQ) rfl rfl rfl (Nat.le_trans hGr.below.size hbr.size:w1.heap.size<=wr.heap.size) hEO2.row (by omega);have hkp:z1B B0 wr W6:=(z1B.of_below (w:=wr) (Nat.le_trans hBw hbC.size) ((Below.refl _ wr).alloc (Nat.le_refl _) (.cells #[.string en.root,.slice v.aP en.nP v.cP,.slice v.aQ en.nQ v.cQ] 71))).trans (z1B.grown (w:=wr.alloc (.cells #[.string en.root,.slice v.aP en.nP v.cP,.slice v.aQ en.nQ v.cQ] 71)) hBw1 (by have:=hbC.size;simp;omega) (hEO2.row.alloc _) (by decide) hG6.grown);have hEO6:=z0C.added (V:=V) (E:=E) (k:=i) (x:=v) (e:=en) (fun j hj=>(hEO2.ins j hj).keeps hkp) (hA4.keeps hkp) hG6.own;have hb6:Below w1.heap.size w1 W6:=((hGr.below.trans (hbr.mono hGr.below.size)).trans (((Below.refl _ wr).alloc (Nat.le_refl _) _).mono (Nat.le_trans hGr.below.size hbr.size))).trans hG6.below;have hbZ:=hbA.trans (hb6.mono hbA.size);have hbl:W6.heap[m]?=some (.cells #[.slice a i c] 37 (0,0)):=by
      have e1:=hb6.block m (by omega);have e2:=((hGr.below.trans (hbr.mono hGr.below.size)).block m (by omega:m<w1.heap.size));exact e1.trans (e2.symm.trans h4.blk)
     obtain⟨g',cap',rfl⟩:=ownsRow_succ hEO6.row;have hRS:=z1R.stored (B:=B) hbl hEO6 (by omega) (by omega) (Nat.le_trans hBw hbZ.size) (by omega) (fun p q hp hq hpq=>by
      unfold addV at hpq;split at hpq
      ·split at hpq
       ·omega
       ·exact absurd hpq.symm (HN.out q (by omega))
      ·split at hpq
       ·exact absurd hpq (HN.out p (by omega))
       ·exact h.once p q (by omega) (by omega) hpq)
     have hGW:=grown_set hbZ m (.slice (some ⟨g',0,none⟩) (i+1) cap');have mf:W6.frozen? ⟨m,0,none⟩=false:=by simp[World.frozen?,hbl]
     have mc:W6.cell? ⟨m,0,none⟩=some (.slice a i c):=by simp[World.cell?,hbl]
     have x0:=hX3.c0;have x1:=hX3.c1;have x2:=hX3.c2;clear hno hEO6 hEO2 h4;go_wp2_with (at_builtin;refine z0b rfl (.tmp 44) (.tmp 46) 35 rfl (.slice a1 i c1') (.slice (some ⟨wr.heap.size,0,none⟩) 1 1) _ rfl rfl happ ?_);go_ret;rw[HP.out];exact⟨rfl,⟨_,_,hRS⟩,hGW⟩
 ·have HP:Hid (putE E k en=(entF en,E,k)):=putE_bad hF;generalize entF en=F at *;have hpos:(0:Int)<(F:Int):=by omega
  go_enter Tryz.func41,Tryz.ntmps41;go_wp2_with fail;refine(show Calls _ _ _ _ _ from HC).mono ?_;rintro e w1 ⟨rfl,hb1⟩;clear HC;have hbA:=hb0.trans (hb1.mono hb0.size);go_wp2;go_ret;rw[HP.out];exact⟨rfl,⟨_,_,h1.later (by omega) hb1⟩,gb _ hbA⟩
end
section
open Go.RowKit
theorem refGet_any(w:World)(B0 B m k:Nat)(vl:Value)(V:Nat->EntV)(E:Nat->EntF)(root:ByteArray)(h:z1R w B0 B m vl k V E)(hB0:B0<=w.heap.size) :
 Calls Tryz.prog 26 #[.pointer (some ⟨m,0,none⟩),.string root] w fun e w'=>∃v,e=.returned (.tuple #[.agg (z1r v (getE E k root).2),.bool (getE E k root).1])/\z5k w' v (getE E k root).2/\Below w.heap.size w w':=by
 have hb0:Below w.heap.size w (w.alloc (.cells #[.string ⟨#[]⟩,.slice none 0 0,.slice none 0 0] 71)):=(Below.refl _ _).alloc (Nat.le_refl _) _;have hres:(w.alloc (.cells #[.string ⟨#[]⟩,.slice none 0 0,.slice none 0 0] 71)).heap[w.heap.size]?=some (.cells #[.string ⟨#[]⟩,.slice none 0 0,.slice none 0 0] 71 (0,0)):=Array.getElem?_push_size;have h1:=h.later hB0 hb0;have hB1:B0<=(w.alloc (.cells #[.string ⟨#[]⟩,.slice none 0 0,.slice none 0 0] 71)).heap.size:=Nat.le_trans hB0 hb0.size;obtain⟨a,c,rfl,hRow⟩:=h1.own.ents;have mc:=h1.cell;have hk3:=h.few;have hIns:∀i,i<k->z5N _ B0 (V i) (E i):=h1.own.ins;have hlow:∀i,i<k->∀a0 a1 a2,z5k ((((w.alloc (.cells #[.string ⟨#[]⟩,.slice none 0 0,.slice none 0 0] 71)).setCell ⟨w.heap.size,0,none⟩ a0).setCell ⟨w.heap.size,1,none⟩ a1).setCell ⟨w.heap.size,2,none⟩ a2) (V i) (E i):=fun i hi a0 a1 a2=>
  (((hIns i hi).keeps (set3_keeps (o:=0) hres (B:=B0) hB0 a0 a1 a2))).here
 obtain⟨q0,q1,q2,f0,f1,f2⟩:=resAt hres;have hN:=z5b hb0 (Nat.le_refl w.heap.size);generalize hW:w.alloc (.cells #[.string ⟨#[]⟩,.slice none 0 0,.slice none 0 0] 71)=W0 at *;clear h1 hIns;go_enter Tryz.func26,Tryz.ntmps26;go_wp2;go_loopw [6] (fun y wr=>∃i:Nat,i<=k/\y=.int .i64 i/\wr=W0/\∀j,j<i->(E j).root≠root) (fun y _=>k-(intOf y).toNat)
 case atStart=>exact⟨0,Nat.zero_le _,rfl,rfl,fun j hj=>absurd hj (Nat.not_lt_zero _)⟩
 case round=>
  obtain⟨i,hi,rfl,rfl,hno⟩:=hrel;by_cases hlt:i<k
  ·rcases hRow with h0|⟨bk,o,rfl,hc⟩
   ·omega
   obtain⟨c0,c1,c2,_⟩:=hc i hlt;have hi0:(0:Int)<=(i:Int):=by omega
   have hi1:(i:Int)<(k:Int):=by omega
   by_cases he:(E i).root=root
   ·have hb':((E i).root.toList==root.toList)=true:=by rw[he];simp
    have HGE:Hid (getE E k root=(true,E i)):=by show getE E k root=_;unfold getE;rw[if_neg (by rw[z6d hlt he hno];omega),z6d hlt he hno];rfl
    have hA:=hlow i hlt (.string (E i).root) (.slice (V i).aP (E i).nP (V i).cP) (.slice (V i).aQ (E i).nQ (V i).cQ);have hNB:=hN (.string (E i).root) (.slice (V i).aP (E i).nP (V i).cP) (.slice (V i).aQ (E i).nQ (V i).cQ);clear hc he hlow hN;generalize E i=en at *;generalize V i=x at *;go_wp2;refine bodyPost_ret (v:=.tuple #[.agg #[.string en.root,.slice x.aP en.nP x.cP,.slice x.aQ en.nQ x.cQ],.bool true]) (by simp[results,Tryz.results26,go_sem,q0,q1,q2]) rfl ?_;rw[HGE.out];exact⟨x,rfl,hA,hNB⟩
   ·have hb':((E i).root.toList==root.toList)=false:=by rw[z0z];exact decide_eq_false he
    have hno':∀j,j<i+1->(E j).root≠root:=fun j hj=>by
     by_cases e:j=i
     ·subst e;exact he
     ·exact hno j (by omega)
    clear hc he hlow hN;go_wp2;go_roundw
    case rel=>exact⟨i+1,by omega,by go_num,by first|rfl|trivial,hno'⟩
    case measure=>simp[intOf];omega
  ·obtain rfl:i=k:=by omega
   have HGE:Hid (getE E i root=(false,z1g)):=if_pos (by rw[findF_no hno];decide);have hNB:=hN (.string ⟨#[]⟩) (.slice none 0 0) (.slice none 0 0);clear hlow hN hno;go_wp2;refine bodyPost_ret (v:=.tuple #[.agg #[.string ⟨#[]⟩,.slice none 0 0,.slice none 0 0],.bool false]) (by simp[results,Tryz.results26,go_sem,q0,q1,q2]) rfl ?_;rw[HGE.out];exact⟨⟨none,0,none,0⟩,rfl,⟨.inl rfl,.inl rfl⟩,hNB⟩
theorem refRoots_any(w:World)(B0 B m k:Nat)(vl:Value)(V:Nat->EntV)(E:Nat->EntF)(h:z1R w B0 B m vl k V E)(hB0:B0<=w.heap.size) :
 Calls Tryz.prog 15 #[.pointer (some ⟨m,0,none⟩)] w fun e w'=>∃v,e=.returned v/\w'.ownsRow w.heap.size 9 1 v k (z0i (z7d E) k)/\Below w.heap.size w w':=by
 obtain⟨a,c,rfl,hRow⟩:=h.own.ents;have hk3:=h.few;go_enter Tryz.func15,Tryz.ntmps15;go_wp2;go_loopw [3,4] (fun y3 y4 wr=>∃(i:Nat) (v:Value),i<=k/\y4=.int .i64 i/\y3=v/\wr.ownsRow w.heap.size 9 1 v i (z0i (z7d E) i)/\Below w.heap.size w wr) (fun _ y4 _=>k-(intOf y4).toNat)
 case atStart=>exact⟨0,_,Nat.zero_le _,rfl,rfl,World.ownsRow_nil _ _ _ _,Below.refl _ _⟩
 case round=>
  obtain⟨i,v,hi,rfl,rfl,hOw,hb⟩:=hrel;have mc:=(h.later hB0 hb).cell;obtain⟨av,cv,rfl⟩:∃av cv,u3=.slice av i cv:=by
   obtain⟨av,cv,e,_⟩:=z0c hOw;exact⟨av,cv,e⟩
  by_cases hlt:i<k
  ·rcases hRow.later hb with h0|⟨bk,o,rfl,hc⟩
   ·omega
   obtain⟨c0,c1,c2,_⟩:=hc i hlt;have hi0:(0:Int)<=(i:Int):=by omega
   have hi1:(i:Int)<(k:Int):=by omega
   obtain⟨v',W5,happ,hGr⟩:=growStr (E i).root hb.size hOw (by omega);have hb5:Below w.heap.size w W5:=(hb.alloc hb.size _).trans hGr.below;have hOw5:W5.ownsRow w.heap.size 9 1 v' (i+1) (z0i (z7d E) (i+1)):=hGr.own;obtain⟨g',cap',rfl⟩:=ownsRow_succ hOw5;clear hc hOw hGr;go_wp2_with (at_builtin;refine z0b rfl (.tmp 14) (.tmp 23) 22 rfl (.slice av i cv) (.slice (some ⟨wr.heap.size,0,none⟩) 1 1) _ rfl rfl happ ?_);go_roundw
   case rel=>exact⟨i+1,_,by omega,by go_num,rfl,hOw5,hb5⟩
   case measure=>simp[intOf];omega
  ·obtain rfl:i=k:=by omega
   have HF:Hid (∃v',Ending.returned (.slice av i cv)=.returned v'/\wr.ownsRow w.heap.size 9 1 v' i (z0i (z7d E) i)/\Below w.heap.size w wr):=⟨_,rfl,hOw,hb⟩;clear hOw;go_wp2;go_ret;exact HF.out
end
end Go.Proofs.YtbcpcbonlhlhpaaGreatDoor
namespace Go.Proofs.YtbcpcbonlhlhpaaGreatDoor
open Go.RowKit Go.Maps
theorem z6M {rd rd':ByteArray->Nat×ObjF}{root:ByteArray}{m:Nat}(e:∀j,j<m->rd' (nmAt rd root j)=rd (nmAt rd root j)):∀i,i<=m->z0g rd' root i=z0g rd root i
 |0,_=>rfl
 |i+1,hi=>by
  have ih:=z6M e i (by omega);have he:rd' (nmAt rd root i)=rd (nmAt rd root i):=e i (by omega);have hn:nmAt rd' root i=nmAt rd root i:=by unfold nmAt;rw[ih]
  show z2C (z0g rd' root i) (z0V (rd' (nmAt rd' root i)).2 (rd' (nmAt rd' root i)).2.nN)=z2C (z0g rd root i) (z0V (rd (nmAt rd root i)).2 (rd (nmAt rd root i)).2.nN);rw[ih,hn,he]
theorem nm_same{rd rd':ByteArray->Nat×ObjF}{root:ByteArray}{m:Nat}(e:∀j,j<m->rd' (nmAt rd root j)=rd (nmAt rd root j)){i:Nat}(hi:i<=m):nmAt rd' root i=nmAt rd root i:=by
 unfold nmAt;rw[z6M e i hi]
theorem ob_same{rd rd':ByteArray->Nat×ObjF}{root:ByteArray}{m:Nat}(e:∀j,j<m->rd' (nmAt rd root j)=rd (nmAt rd root j)){i:Nat}(hi:i<m):obAt rd' root i=obAt rd root i:=by
 show(rd' (nmAt rd' root i)).2=(rd (nmAt rd root i)).2;rw[nm_same e (by omega),e i hi]
theorem of_same{rd rd':ByteArray->Nat×ObjF}{root:ByteArray}{m:Nat}(h:OfIs rd root 0 m)(e:∀j,j<m->rd' (nmAt rd root j)=rd (nmAt rd root j)):OfIs rd' root 0 m:=by
 generalize hF:(0:Nat)=F at h;cases h with
 |bad _ _ _ hf=>exact absurd hF.symm hf
 |ok _ h hi=>
  refine .ok m (fun j hj=>?_) (by rw[z6M e m (Nat.le_refl _)];exact hi);rw[z6M e j (by omega),nm_same e (by omega),e j hj];exact h j hj
theorem bases_same{m:Nat}{sz sz' b:Nat->Int}{F:Nat}(h:BasesAre m sz 0 (fun _=>0) (fun _=>0) F b)(e:∀i,i<m->sz i=sz' i):BasesAre m sz' 0 (fun _=>0) (fun _=>0) F b:=by
 have hp:z1S m sz 0 (fun _=>0) (fun _=>0)=z1S m sz' 0 (fun _=>0) (fun _=>0):=by
  unfold z1S;rw[z3o (p:=fun i=>decide (sz i<1∨40<sz i)) (q:=fun i=>decide (sz' i<1∨40<sz' i)) fun i hi=>by rw[e i hi]]
 have hh:∀i,i<m->∀j,j<0+i->z0W (fun _=>0) 0 b j=z0W (fun _=>0) 0 b j/\z0W (fun _=>0) 0 (fun j=>z0x (sz j)) j=z0W (fun _=>0) 0 (fun j=>z0x (sz' j)) j:=fun i hi j hj=>⟨rfl,by
  unfold z0W;rw[if_neg (by omega),if_neg (by omega)];show z0x (sz (j-0))=z0x (sz' (j-0));rw[e _ (by omega)]⟩
 have hl:∀i,i<m->Laid (fun _=>0) (fun _=>0) 0 sz b i->Laid (fun _=>0) (fun _=>0) 0 sz' b i:=fun i hi ⟨k,hk,hb⟩=>⟨k,hk,by rw[<-e i hi];exact hb.congr (hh i hi)⟩
 cases h with
 |bad _ h=>rw[hp]at h ⊢;exact .bad _ h
 |full _ i h hi hl' hn=>exact .full _ i (by rw[<-hp];exact h) hi (fun j hj=>hl j (by omega) (hl' j hj)) (by unfold LaidNot;rw[<-e i hi];exact NoBase.congr hn (hh i hi))
 |ok _ h hl'=>exact .ok _ (by rw[<-hp];exact h) fun j hj=>hl j hj (hl' j hj)
theorem z3G {m:Nat}{O O':Nat->ObjF}(e:∀i,i<m->O' i=O i){s:ByteArray}{i k:Nat}(h:Hit (z1T m O) s i k):Hit (z1T m O') s i k/\(z1T m O').wk i k=(z1T m O).wk i k:=by
 obtain⟨h1,h2,h3⟩:=h;have h1':i<m:=h1;refine⟨⟨h1,?_,?_⟩,?_⟩
 ·show k<(O' i).nS;rw[e i h1'];exact h2
 ·show(O' i).sName k=s;rw[e i h1'];exact h3
 ·show(O' i).sWeak k=(O i).sWeak k;rw[e i h1']
theorem found_same{m:Nat}{O O':Nat->ObjF}(e:∀i,i<m->O' i=O i){s:ByteArray}{p q:Int}(h:IsFound (z1T m O) s p q):IsFound (z1T m O') s p q:=by
 have e':∀i,i<m->O i=O' i:=fun i hi=>(e i hi).symm
 cases h with
 |strong i k h hw hb=>exact .strong i k (z3G e h).1 (by rw[(z3G e h).2];exact hw) fun a b hh hbf=>by rw[(z3G e (z3G e' hh).1).2];exact hb a b (z3G e' hh).1 hbf
 |weak i k h hf hw=>exact .weak i k (z3G e h).1 (fun a b hh=>hf a b (z3G e' hh).1) fun a b hh=>by rw[(z3G e (z3G e' hh).1).2];exact hw a b (z3G e' hh).1
 |none h=>exact .none fun a b hh=>h a b (z3G e' hh).1
theorem finds_same{m:Nat}{O O':Nat->ObjF}(e:∀i,i<m->O' i=O i){P Q:ByteArray->Int}(h:z5p (z1T m O) P Q):z5p (z1T m O') P Q:=⟨fun s=>found_same e (h.is s)⟩
theorem tie_same{m:Nat}{O O':Nat->ObjF}(e:∀i,i<m->O' i=O i){P Q:ByteArray->Int}(h:z5p (z1T m O) P Q)(B:Nat->Int){i:Nat}(hi:i<m)(k:Nat):tieW O' P Q B i k=tieW O P Q B i k:=by
 unfold tieW whereF;rw[e i hi];split
 ·rfl
 ·split
  ·rename_i hp;rcases h.shape ((O i).tName k)with⟨h1,_⟩|⟨x,y,h1,h2,h3,_,_⟩
   ·rw[h1]at hp;omega
   ·rw[h1,h2,Int.toNat_natCast,e x h3]
  ·rfl
theorem patsOf_same{m:Nat}{O O':Nat->ObjF}(e:∀i,i<m->O' i=O i){P Q:ByteArray->Int}(h:z5p (z1T m O) P Q)(B:Nat->Int){i:Nat}(hi:i<m)(k:Nat):z1E O' P Q B i k=z1E O P Q B i k:=by
 induction k with
 |zero=>rfl
 |succ k ih=>simp only[z1E];rw[ih,tie_same e h B hi,e i hi]
theorem patsTo_same{m:Nat}{O O':Nat->ObjF}(e:∀i,i<m->O' i=O i){P Q:ByteArray->Int}(h:z5p (z1T m O) P Q)(B:Nat->Int):∀n,n<=m->z0A O' P Q B n=z0A O P Q B n
 |0,_=>rfl
 |n+1,hn=>by simp only[z0A];rw[patsTo_same e h B n (by omega),e n (by omega),patsOf_same e h B (by omega)]
theorem faultTo_same{g h:Nat->Nat}{n:Nat}(e:∀i,i<n->g i=h i):z0a g n=z0a h n:=by
 induction n with
 |zero=>rfl
 |succ n ih=>simp only[z0a];rw[ih fun i hi=>e i (by omega),e n (by omega)]
theorem all_same{m:Nat}{O O':Nat->ObjF}(e:∀i,i<m->O' i=O i){P Q:ByteArray->Int}(h:z5p (z1T m O) P Q)(B:Nat->Int):allF m O' P Q m B=allF m O P Q m B:=by
 have key:z0a (fun i=>z0a (fun k=>(tieW O' P Q B i k).1) (O' i).nT) m=z0a (fun i=>z0a (fun k=>(tieW O P Q B i k).1) (O i).nT) m:=faultTo_same fun i hi=>by
  show z0a (fun k=>(tieW O' P Q B i k).1) (O' i).nT=z0a (fun k=>(tieW O P Q B i k).1) (O i).nT;rw[e i hi];exact faultTo_same fun k _=>by rw[tie_same e h B hi]
 unfold allF tiesF;rw[key]
theorem reckoned_same{rd rd':ByteArray->Nat×ObjF}{root:ByteArray}{m:Nat}{B:Nat->Int}{P Q:ByteArray->Int}(h:z0Z rd root m B P Q)(e:∀j,j<m->rd' (nmAt rd root j)=rd (nmAt rd root j)) :
 z0Z rd' root m B P Q/\z0l rd' root m B P Q=z0l rd root m B P Q/\(∀i,i<m->nmAt rd' root i=nmAt rd root i/\obAt rd' root i=obAt rd root i):=by
 have ho:∀i,i<m->obAt rd' root i=obAt rd root i:=fun i hi=>ob_same e hi
 exact⟨⟨of_same h.of e,bases_same h.bases fun i hi=>by show((obAt rd root i).nW:Int)=((obAt rd' root i).nW:Int);rw[ho i hi],h.zero,finds_same ho h.finds,by rw[all_same ho h.finds];exact h.all⟩,patsTo_same ho h.finds B m (Nat.le_refl _),fun i hi=>⟨nm_same e (by omega),ho i hi⟩⟩
theorem putF_same{X X':Nat->Nat->Int}{p t v:Nat->Int}{i:Nat}(e:∀j,X' i j=X i j)(n j:Nat):putF X' p t v n i j=putF X p t v n i j:=by
 induction n with
 |zero=>exact e j
 |succ n ih=>simp only[putF];rw[ih]
theorem z5y.congr{w:World}{B0:Nat}{v:Value}{n:Nat}{nm nm':Nat->ByteArray}{B:Nat->Int}{M M':Nat->Nat}{X X':Nat->Nat->Int}{g:Nat}{A:Nat->Option Addr}{C G:Nat->Nat}(h:z5y w B0 v n nm B M X g A C G)
 (e:∀i,i<n->nm i=nm' i/\M i=M' i/\∀j,X i j=X' i j):z5y w B0 v n nm' B M' X' g A C G where
 out:={h.out with
  top:=fun i hi=>by rw[<-(e i hi).2.1];exact h.out.top i hi
  adr:=fun i hi hm=>h.out.adr i hi (by rw[(e i hi).2.1];exact hm)
  own:=fun i hi hm=>h.out.own i hi (by rw[(e i hi).2.1];exact hm)
  ne:=fun i hi hm=>h.out.ne i hi (by rw[(e i hi).2.1];exact hm)
  row:=fun i hi j hj=>by rw[<-(e i hi).2.2 j];exact h.out.row i hi j (by rw[(e i hi).2.1];exact hj)
  rfree:=fun i hi hm=>h.out.rfree i hi (by rw[(e i hi).2.1];exact hm)
  apart:=fun i j hi hj hij hmi hmj=>h.out.apart i j hi hj hij (by rw[(e i hi).2.1];exact hmi) (by rw[(e j hj).2.1];exact hmj)}
 own:=by
  have:=h.own
  rwa [z1f (g:=z4Z nm B A M C) (h:=z4Z nm' B A M' C) fun i hi=>by unfold z4Z;rw[(e i hi).1,(e i hi).2.1]]at this
end Go.Proofs.YtbcpcbonlhlhpaaGreatDoor
namespace Go.Proofs.YtbcpcbonlhlhpaaGreatDoor
open Go.RowKit Go.Maps
theorem texts_at{D:DataW Unit}{k:Nat}{T:ByteArray->ByteArray}(hI:Inv D k)(hT:z4C D T){x:ByteArray}(h:Maps.has D (keyB x)=true):∃n,D.atKey (keyB x) (z1s [] 0)=z1s (T x).data.toList n:=by
 obtain⟨t,n,h1,_⟩:=hI.st _ h;have h2:D.atKey (keyB x) (z1s [] 0)=z1s (⟨t.toArray⟩:ByteArray).data.toList n:=by simpa using h1
 exact⟨n,by rw[<-hT.is x _ n h h2];exact h2⟩
end Go.Proofs.YtbcpcbonlhlhpaaGreatDoor
namespace Go.Proofs.YtbcpcbonlhlhpaaGreatDoor
open Go.RowKit Go.Maps
theorem made_has{D:DataW Unit}{T:ByteArray->ByteArray}{root:ByteArray}{m:Nat}{k:Nat}(hI:Inv D k)(hO:OfIs (rdD D T) root 0 m):∀j,j<m->Maps.has D (keyB (nmAt (rdD D T) root j))=true:=fun j hj=>by
 obtain⟨hS,_,_⟩:=z4s hO (z6y (T:=T) hI);exact rd_has (by rw[hS.read j hj])
end Go.Proofs.YtbcpcbonlhlhpaaGreatDoor
namespace Go.Proofs.YtbcpcbonlhlhpaaGreatDoor
open Go.RowKit Go.Maps
def z2X (D:DataW Unit):Prop:=∀s,Maps.has D (keyB s)=true->z0r s.data.toList=0
theorem z2X.empty:z2X (.map []):=fun s h=>by simp[Maps.has]at h
theorem writeF_name{D:DataW Unit}{k:Nat}{s t:ByteArray}(h:writeF D k s t=0):z0r s.data.toList=0:=by
 unfold writeF at h;exact(z2u.1 h).1
theorem z2X.put{D:DataW Unit}{k:Nat}{s t:ByteArray}{d:DataW Unit}(h:z2X D)(hF:writeF D k s t=0):z2X (D.put (keyB s) d):=fun x hx=>by
 by_cases e:x=s
 ·subst e;exact writeF_name hF
 ·rw[has_put_other (fun q=>e (z2A q))]at hx;exact h x hx
theorem z2X.del{D:DataW Unit}{s:ByteArray}(h:z2X D):z2X (D.del (keyB s)):=fun x hx=>by
 by_cases e:x=s
 ·subst e;rw[has_del_same]at hx;cases hx
 ·rw[has_del_other (fun q=>e (z2A q))]at hx;exact h x hx
theorem stamp_le{D:DataW Unit}{k:Nat}{S:ByteArray->Int}(hI:Inv D k)(hS:z3q D S){x:ByteArray}(h:Maps.has D (keyB x)=true):S x<=(k:Int):=by
 obtain⟨t,n,h1,h2⟩:=hI.st _ h;have:=hS.is x t n h h1;omega
end Go.Proofs.YtbcpcbonlhlhpaaGreatDoor
namespace Go.Proofs.YtbcpcbonlhlhpaaGreatDoor
theorem ties_none{O:Nat->ObjF}{P Q:ByteArray->Int}{B:Nat->Int}{n:Nat}(h:tiesF O P Q B n=0){i k:Nat}(hi:i<n)(hk:k<(O i).nT):(tieW O P Q B i k).1=0:=z3t (z3t h i hi) k hk
end Go.Proofs.YtbcpcbonlhlhpaaGreatDoor
namespace Go.Proofs.YtbcpcbonlhlhpaaGreatDoor
open Go.RowKit Go.Maps
theorem parts_row{w:World}{B0:Nat}{v:Value}{n:Nat}{nm:Nat->ByteArray}{B:Nat->Int}{M:Nat->Nat}{X:Nat->Nat->Int}{g:Nat}{A:Nat->Option Addr}{C G:Nat->Nat}(h:z5y w B0 v n nm B M X g A C G) :
 ∃a c,v=.slice a n c/\n<=c/\z7s w a n nm B A M C X:=by
 obtain⟨a,c,rfl,hc⟩:=z0c h.own;refine⟨a,c,rfl,hc,?_⟩;by_cases h0:n=0
 ·exact .inl h0
 ·have key:∀i,i<n->∀j u,(z4Z nm B A M C i)[j]?=some u->j<3->∃g,a=some ⟨g,0,none⟩/\B0<=g/\w.cell? ⟨g,i*3+j,none⟩=some u:=fun i hi j u hu hj=>
   z0K h.own (by rw[z2G (s:=3) (fun i _=>rfl) hi hj];exact hu)
  obtain⟨g0,ha,_,_⟩:=key 0 (by omega) 0 _ rfl (by omega);refine .inr ⟨g0,0,ha,fun i hi=>?_⟩;have get:∀j u,(z4Z nm B A M C i)[j]?=some u->j<3->w.cell? ⟨g0,i*3+j,none⟩=some u:=fun j u hu hj=>by
   obtain⟨g',ha',_,hc'⟩:=key i hi j u hu hj;rw[ha]at ha';injection ha' with ha';injection ha' with ha';subst ha';exact hc'
  refine⟨by rw[Nat.zero_add];exact get 0 _ rfl (by omega),by rw[Nat.zero_add];exact get 1 _ rfl (by omega),by rw[Nat.zero_add];exact get 2 _ rfl (by omega),?_⟩;by_cases hm:M i=0
  ·exact .inl hm
  ·exact .inr ⟨G i,0,h.out.adr i hi (by omega),fun j hj=>by rw[Nat.zero_add];exact h.out.row i hi j hj⟩
end Go.Proofs.YtbcpcbonlhlhpaaGreatDoor
namespace Go.Proofs.YtbcpcbonlhlhpaaGreatDoor
open Go.RowKit Go.Maps
section
variable {O:Nat->ObjF} {P Q:ByteArray->Int} {B:Nat->Int} {m:Nat}
end
theorem allF_none{O:Nat->ObjF}{P Q:ByteArray->Int}{B:Nat->Int}{m:Nat}(h:allF m O P Q m B=0){i q:Nat}(hi:i<m)(hq:q<(O i).nT):(tieW O P Q B i q).1=0:=by
 unfold allF at h;rw[if_neg (by simp)]at h;split at h
 ·cases h
 ·exact ties_none h hi hq
end Go.Proofs.YtbcpcbonlhlhpaaGreatDoor
namespace Go.Proofs.YtbcpcbonlhlhpaaGreatDoor
open Go.RowKit Go.Maps
def z1y (D:DataW Unit):Prop:=∀s t n,Maps.has D (keyB s)=true->D.atKey (keyB s) (z1s [] 0)=z1s t n->1<=n
theorem z1y.empty:z1y (.map []):=fun s t n h _=>by simp[Maps.has]at h
theorem z1y.put{D:DataW Unit}{k:Nat}{s:ByteArray}{t:List UInt8}(hI:Inv D k)(h:z1y D):z1y (D.put (keyB s) (z1s t ((k:Int)+1))):=fun x t' n hx ha=>by
 by_cases e:x=s
 ·subst e;rw[atKey_put_same hI.tidy.isMap (z4p x)]at ha;have:=z4L ha;omega
 ·rw[has_put_other (fun q=>e (z2A q))]at hx;rw[atKey_put_other (fun q=>e (z2A q))]at ha;exact h x t' n hx ha
theorem z1y.del{D:DataW Unit}{s:ByteArray}(h:z1y D):z1y (D.del (keyB s)):=fun x t' n hx ha=>by
 by_cases e:x=s
 ·subst e;rw[has_del_same]at hx;cases hx
 ·rw[has_del_other (fun q=>e (z2A q))]at hx;rw[atKey_del_other (fun q=>e (z2A q))]at ha;exact h x t' n hx ha
theorem hang_word{kind base at' add:Int}{wh:Option Int}(h:(z3a kind base at' add wh).1=0):z0y (z3a kind base at' add wh).2=true:=by
 unfold z3a at *;cases wh with
 |none=>cases h
 |some p=>
  dsimp only at *;by_cases hk:kind=3
  ·rw[if_pos hk]at *;by_cases hp:p+add-(base+at') < -500∨500<p+add-(base+at')
   ·rw[if_pos hp]at h;cases h
   ·rw[if_neg hp];simp[z0y];omega
  ·rw[if_neg hk]at *;by_cases hw:z0y (p+add)=true
   ·rw[if_pos hw];exact hw
   ·rw[if_neg hw]at h;cases h
theorem base_ok{m:Nat}{sz:Nat->Int}{B:Nat->Int}(h:BasesAre m sz 0 (fun _=>0) (fun _=>0) 0 B){j:Nat}(hj:j<m)(h1:1<=sz j)(h2:sz j<=40):0<=B j/\B j<256/\B j % 16=0:=by
 have key:∀F,BasesAre m sz 0 (fun _=>0) (fun _=>0) F B->F=0->Laid (fun _=>0) (fun _=>0) 0 sz B j:=fun F h hF=>by
  cases h with
  |bad _ h=>exact absurd hF h
  |full _ _=>cases hF
  |ok _ _ hl=>exact hl j hj
 obtain⟨k,hk,hb⟩:=key 0 h rfl;have hin:=hb.inside;have hr:=z3W h1 h2;omega
def z4t (rd:ByteArray->Nat×ObjF)(S:ByteArray->Int)(root:ByteArray)(m:Nat)(B:Nat->Int)(l:List (Nat×Int×Int)):EntF:=⟨root,m,nmAt rd root,fun j=>S (nmAt rd root j),B,l.length,pP l,pT l,pV l⟩
theorem faultTo_none{g:Nat->Nat}{n:Nat}(h:∀i,i<n->g i=0):z0a g n=0:=by
 induction n with
 |zero=>rfl
 |succ n ih=>exact z0L (ih fun i hi=>h i (by omega)) (h n (by omega))
theorem z7I {D:DataW Unit}{k:Nat}{T:ByteArray->ByteArray}{S:ByteArray->Int}{root:ByteArray}{m:Nat}{B:Nat->Int}{P Q:ByteArray->Int}(hI:Inv D k)(hN:z2X D)(hP:z1y D)(hS:z3q D S)(hk:k<=1000000)(h:z0Z (rdD D T) root m B P Q) :
 entF (z4t (rdD D T) S root m B (z0l (rdD D T) root m B P Q))=0:=by
 obtain⟨hSc,_,_⟩:=z4s h.of (z6y (T:=T) hI);have hhas:=made_has hI h.of;have hok:∀j,j<m->z3J (obAt (rdD D T) root j):=fun j hj=>rd_ok (D:=D) (T:=T) (s:=nmAt (rdD D T) root j) (by rw[hSc.read j hj])
 have hlen:(z0l (rdD D T) root m B P Q).length<=6*m:=z6H (O:=obAt (rdD D T) root) P Q B (i:=m) fun j hj=>(hok j hj).nT
 have hm:=hSc.few;have hp:=hSc.pos;unfold entF z4t;have e1:z0r root.data.toList=0:=by have:=hN _ (hhas 0 hp);rwa [hSc.root]at this
 have e2:z3f (m:Int) ((z0l (rdD D T) root m B P Q).length:Int)=true:=by unfold z3f;exact decide_eq_true (by omega)
 rw[e1,z0p];dsimp only;rw[if_pos e2,z0p];have e3:z4H (z4t (rdD D T) S root m B (z0l (rdD D T) root m B P Q)) m=0:=faultTo_none fun i hi=>by
  show z0P (nmAt (rdD D T) root i) (S (nmAt (rdD D T) root i)) (B i)=0;unfold z0P;obtain⟨t,n,ha,_⟩:=hI.st _ (hhas i hi);have h1:=hP _ t n (hhas i hi) ha;have h2:=hS.is _ t n (hhas i hi) ha;have h3:=stamp_le hI hS (hhas i hi);have hb:=base_ok h.bases hi (by show(1:Int)<=((obAt (rdD D T) root i).nW:Int);have:=(hok i hi).nW0;omega) (by show((obAt (rdD D T) root i).nW:Int)<=40;have:=(hok i hi).nW;omega);rw[hN _ (hhas i hi),z0p,if_neg (by omega),if_neg (by omega)]
 have e4:z2w (z4t (rdD D T) S root m B (z0l (rdD D T) root m B P Q)) (z0l (rdD D T) root m B P Q).length=0:=faultTo_none fun i hi=>by
  show z1d m (pP (z0l (rdD D T) root m B P Q) i) (pT (z0l (rdD D T) root m B P Q) i) (pV (z0l (rdD D T) root m B P Q) i)=0;have hmem:(z0l (rdD D T) root m B P Q).getD i (0,0,0)∈z0l (rdD D T) root m B P Q:=by
   rw[List.getD_eq_getElem?_getD,List.getElem?_eq_getElem hi];exact List.getElem_mem hi
  obtain⟨a,q,ha,hq,e⟩:=patsTo_mem hmem;have ht:=(hok a ha).ties q hq;have hw:=hang_word (allF_none h.all ha hq);unfold z1d;rw[if_pos];refine⟨?_,?_,?_⟩
  ·show z0j ((((z0l (rdD D T) root m B P Q).getD i (0,0,0)).1:Nat):Int) (m:Int)=true;rw[e];simp[z0j];omega
  ·show z0j ((z0l (rdD D T) root m B P Q).getD i (0,0,0)).2.1 40=true;rw[e];show z0j ((obAt (rdD D T) root a).tAt q) 40=true;have hw40:=(hok a ha).nW;simp only[z0j,Bool.and_eq_true,decide_eq_true_eq];omega
  ·show z0y ((z0l (rdD D T) root m B P Q).getD i (0,0,0)).2.2=true;rw[e];exact hw
 show seqF (z4H (z4t (rdD D T) S root m B (z0l (rdD D T) root m B P Q)) m) (z2w (z4t (rdD D T) S root m B (z0l (rdD D T) root m B P Q)) (z0l (rdD D T) root m B P Q).length)=0;rw[e3,z0p];exact e4
end Go.Proofs.YtbcpcbonlhlhpaaGreatDoor
