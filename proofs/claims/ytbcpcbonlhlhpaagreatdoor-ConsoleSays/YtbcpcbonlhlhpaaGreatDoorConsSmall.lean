/- What Fresh and Entry of the document return, for all files, -/
import Derived.Test.YtbcpcbonlhlhpaaGreatDoorRefLoaded
import Derived.Test.YtbcpcbonlhlhpaaGreatDoorOnlyBase
set_option maxRecDepth 100000
set_option maxHeartbeats 4000000
namespace Go.Proofs.YtbcpcbonlhlhpaaGreatDoor
section
open Go.RowKit Go.Maps
theorem refFresh_any(B0:Nat)(w:World)(q:Nat)(L:List z0u)(k:Nat)(D:DataW Unit)(S:ByteArray->Int)(root:ByteArray)(n nq:Nat)(s:Nat->ByteArray)(st b:Nat->Int)(aP aQ:Option Addr)(cP cQ:Nat)(h:RAt B0 w q L k)(hL:L.length<=1000)(hA:z3I D L)(hI:Inv D k)(hS:z3q D S)(hn:n<=1000)(hr:StmRow w aP n s st b) :
 Calls Tryz.prog 42 #[.agg #[.string root,.slice aP n cP,.slice aQ nq cQ],.pointer (some ⟨q,0,none⟩)] w fun e w'=>e=.returned (.bool (!z0R D S s st n&&decide (0<n)))/\Below w.heap.size w w':=by
 generalize hF:z0R D S s st n=F;have HF:Hid (z0R D S s st n=F):=hF;clear hF;have hb0:Below w.heap.size w (w.alloc (.cells #[.string root,.slice aP n cP,.slice aQ nq cQ] 71)):=(Below.refl _ _).alloc (Nat.le_refl _) _;have e1:(w.alloc (.cells #[.string root,.slice aP n cP,.slice aQ nq cQ] 71)).cell? ⟨w.heap.size,1,none⟩=some (.slice aP n cP):=by simp[go_sem]
 have h1:=h.later hb0;have hr1:=hr.later hb0;clear h hr;go_enter Tryz.func42,Tryz.ntmps42;go_wp2;generalize w.alloc (.cells #[.string root,.slice aP n cP,.slice aQ nq cQ] 71)=W at *;go_loopw [5,6,7,8] (fun y _ _ _ wr=>∃i:Nat,i<=n/\y=.int .i64 i/\Hid (z0R D S s st i=false)/\Below W.heap.size W wr) (fun y _ _ _ _=>n-(intOf y).toNat)
 case atStart=>exact⟨0,Nat.zero_le _,rfl,rfl,Below.refl _ _⟩
 case round=>
  obtain⟨i,hi,rfl,HK,hb⟩:=hrel;have hb2:Below w.heap.size w wr:=hb0.trans (hb.mono hb0.size);have e1r:=cell_later hb e1;by_cases hlt:i<n
  ·have hr2:=hr1.later hb;rcases hr2 with h0|⟨bk,o,rfl,hc⟩
   ·omega
   obtain⟨x0,x1,x2⟩:=hc i hlt;have hi0:(0:Int)<=(i:Int):=by omega
   have hi1:(i:Int)<(n:Int):=by omega
   have HR:=readR_is B0 wr q L k D (s i) (h1.later hb) hL hA hI;clear hc hr1;go_wp2_with fail;refine(show Calls _ _ _ _ _ from HR).mono ?_;rintro e w2 ⟨⟨t,nst,f,rfl,hRI⟩,hb3⟩;replace e1r:=cell_later hb3 e1r;replace x1:=cell_later hb3 x1;have hb4:=hb2.trans (hb3.mono hb2.size);have hb5:=hb.trans (hb3.mono hb.size);clear HR x0 x2;cases hh:Maps.has D (keyB (s i))with
   |false=>
    obtain⟨rfl,rfl,rfl⟩:=hRI.no hh;have HE:Hid (F=true):=HF.out.symm.trans (z1D hlt (by rw[hh];rfl));clear hRI hh;go_wp2;go_ret;exact⟨z0w (by rw[HE.out];rfl),hb4⟩
   |true=>
    obtain⟨rfl,hat⟩:=hRI.yes hh;obtain rfl:=hS.is (s i) _ nst hh hat;by_cases he:S (s i)=st i
    ·have hne:(S (s i) != st i)=false:=by rw[bne_eq_false_iff_eq];exact he
     have HE:Hid (z0R D S s st (i+1)=false):=z2U HK.out (by rw[hh,decide_eq_true he];rfl);clear hRI hh hat he HK;go_wp2;go_roundw
     case rel=>exact⟨i+1,by omega,by go_num,HE,hb5⟩
     case measure=>simp[intOf];omega
    ·have hne:(S (s i) != st i)=true:=by rw[bne_iff_ne];exact he
     have HE:Hid (F=true):=HF.out.symm.trans (z1D hlt (by rw[hh,decide_eq_false he];rfl));clear hRI hh hat he HK;go_wp2;go_ret;exact⟨z0w (by rw[HE.out];rfl),hb4⟩
  ·have HE:Hid (F=false):=by
    have e:i=n:=by omega
    subst e;exact HF.out.symm.trans HK.out
   clear hr1 HK;go_wp2;go_ret;exact⟨z0w (by rw[HE.out];simp),hb2⟩
inductive RMadeEnd (w:World) (B0:Nat) (rd:ByteArray->Nat×ObjF) (S:ByteArray->Int) (root:ByteArray):Ending->Prop
 |bad (F:Nat) (h:ReckIs rd root F) (hf:F≠0):RMadeEnd w B0 rd S root (.returned (.tuple #[.agg #[.string ⟨#[]⟩,.slice none 0 0,.slice none 0 0],.int .i64 (F:Int)]))
 |ok (m:Nat) (B:Nat->Int) (P Q:ByteArray->Int) (aP aQ:Option Addr) (cP cQ:Nat) (h:z0Z rd root m B P Q) (hp:w.ownsRow B0 112 3 (.slice aP m cP) m (z0i (stmC (nmAt rd root) S B) m))
  (hq:w.ownsRow B0 114 3 (.slice aQ (z0l rd root m B P Q).length cQ) (z0l rd root m B P Q).length (z3x (z0l rd root m B P Q))):RMadeEnd w B0 rd S root (.returned (.tuple #[.agg #[.string root,.slice aP m cP,.slice aQ (z0l rd root m B P Q).length cQ],.int .i64 0]))
theorem refEntry_any(B0:Nat)(w:World)(q:Nat)(L:List z0u)(k:Nat)(D:DataW Unit)(T:ByteArray->ByteArray)(S:ByteArray->Int)(root:ByteArray)(h:RAt B0 w q L k)(hL:L.length<=1000)(hA:z3I D L)(hI:Inv D k)(hT:z4C D T)(hSt:z3q D S) :
 Calls Tryz.prog 40 #[.pointer (some ⟨q,0,none⟩),.string root] w fun e w'=>RMadeEnd w' w.heap.size (rdD D T) S root e/\Below w.heap.size w w':=by
 have hb0:Below w.heap.size w (w.alloc (.cells #[.string ⟨#[]⟩,.slice none 0 0,.slice none 0 0] 71)):=(Below.refl _ _).alloc (Nat.le_refl _) _;have HR:=refLoaded_any B0 (w.alloc (.cells #[.string ⟨#[]⟩,.slice none 0 0,.slice none 0 0] 71)) q L k D T root (h.later hb0) hL hA hI hT;have hfew:=z6y (T:=T) hI;have hres0:(w.alloc (.cells #[.string ⟨#[]⟩,.slice none 0 0,.slice none 0 0] 71)).heap[w.heap.size]?=some (.cells #[.string ⟨#[]⟩,.slice none 0 0,.slice none 0 0] 71 (0,0)):=by
  show(w.heap.push _)[w.heap.size]?=_;rw[Array.getElem?_push_size]
 have hsz0:(w.alloc (.cells #[.string ⟨#[]⟩,.slice none 0 0,.slice none 0 0] 71)).heap.size=w.heap.size+1:=by simp
 go_enter Tryz.func40,Tryz.ntmps40;go_wp2_with fail;refine(show Calls _ _ _ _ _ from HR).mono ?_;rintro e w1 ⟨he,hb1⟩;rw[hsz0]at he hb1;have hbw:=hb0.trans (hb1.mono (by omega));have hres1:w1.heap[w.heap.size]?=some (.cells #[.string ⟨#[]⟩,.slice none 0 0,.slice none 0 0] 71 (0,0)):=(hb1.block _ (by omega)).trans hres0;clear HR hb0 hres0 hsz0;cases he with
 |bad F hR hf=>
  have hpos:(0:Int)<(F:Int):=by omega
  have q0:w1.cell? ⟨w.heap.size,0,none⟩=some (.string ⟨#[]⟩):=by simp[World.cell?,hres1]
  have q1:w1.cell? ⟨w.heap.size,1,none⟩=some (.slice none 0 0):=by simp[World.cell?,hres1]
  have q2:w1.cell? ⟨w.heap.size,2,none⟩=some (.slice none 0 0):=by simp[World.cell?,hres1]
  have f0:w1.frozen? ⟨w.heap.size,0,none⟩=false:=by simp[World.frozen?,hres1]
  have f1:w1.frozen? ⟨w.heap.size,1,none⟩=false:=by simp[World.frozen?,hres1]
  have f2:w1.frozen? ⟨w.heap.size,2,none⟩=false:=by simp[World.frozen?,hres1]
  have hNB:=z5j hbw (Nat.le_refl w.heap.size) (.string ⟨#[]⟩) (.slice none 0 0) (.slice none 0 0);have HRR:Hid (ReckIs (rdD D T) root F):=hR;clear hR hT hSt hfew;go_wp2;refine bodyPost_ret (v:=.tuple #[.agg #[.string ⟨#[]⟩,.slice none 0 0,.slice none 0 0],.int .i64 (F:Int)]) (by simp[results,Tryz.results40,go_sem,q0,q1,q2]) rfl ?_;exact⟨.bad F HRR.out hf,hNB⟩
 |ok m B P Q u pv A C hR hu hp=>
  obtain⟨hS,hlen,hnm⟩:=z4s hR.of hfew;have hm6:=hS.few;have hhas:∀j,j<m->Maps.has D (keyB (nmAt (rdD D T) root j))=true:=fun j hj=>rd_has (by rw[hS.read j hj])
  obtain⟨ua,uc,rfl,_,hur⟩:=hu.rows;obtain⟨pa,pc,rfl,_⟩:=z0c hp;have hF1:=h.later hbw;have hsz1:w.heap.size<w1.heap.size:=(Array.getElem?_eq_some_iff.1 hres1).1;have hb4:Below w1.heap.size w1 (w1.alloc (.cells #[.string root,.slice none 0 0,.slice pa (z0l (rdD D T) root m B P Q).length pc] 71)):=(Below.refl _ _).alloc (Nat.le_refl _) _;have hM0:z6k (w1.alloc (.cells #[.string root,.slice none 0 0,.slice pa (z0l (rdD D T) root m B P Q).length pc] 71)) (w1.alloc (.cells #[.string root,.slice none 0 0,.slice pa (z0l (rdD D T) root m B P Q).length pc] 71)) w1.heap.size root (.slice pa (z0l (rdD D T) root m B P Q).length pc) (nmAt (rdD D T) root) S B 0 (.slice none 0 0):=⟨by
   show(w1.heap.push _)[w1.heap.size]?=_;rw[Array.getElem?_push_size],World.ownsRow_nil _ _ _ _,Below.refl _ _⟩
  generalize hlE:z0l (rdD D T) root m B P Q=l at *;generalize hnE:nmAt (rdD D T) root=nm at *;have HLE:Hid (z0l (rdD D T) root m B P Q=l):=hlE;have HNE:Hid (nmAt (rdD D T) root=nm):=hnE;clear hlE hnE;clear hS hlen hnm hu h hfew;go_wp2;generalize w1.alloc (.cells #[.string root,.slice none 0 0,.slice pa l.length pc] 71)=w4 at *;go_loopw [10,11,12,13] (fun y _ _ _ wr=>∃(i:Nat) (v:Value),i<=m/\y=.int .i64 i/\z6k w4 wr w1.heap.size root (.slice pa l.length pc) nm S B i v) (fun y _ _ _ _=>m-(intOf y).toNat)
  case atStart=>exact⟨0,_,Nat.zero_le _,rfl,hM0⟩
  case round=>
   obtain⟨i,v,hi,rfl,hM⟩:=hrel;obtain⟨av,cv,rfl,_⟩:=z0c hM.own;have hbr4:Below w1.heap.size w1 wr:=hb4.trans (hM.below);by_cases hlt:i<m
   ·rcases hur.later hbr4 with h0|⟨bu,ou,rfl,hcu⟩
    ·omega
    obtain⟨hn2,hv2,_,_⟩:=hcu i hlt;have hi0:(0:Int)<=(i:Int):=by omega
    have hi1:(i:Int)<(m:Int):=by omega
    have HRd:=readR_is B0 wr q L k D (nm i) (hF1.later hbr4) hL hA hI;clear hur hcu;go_wp2_with fail;refine(show Calls _ _ _ _ _ from HRd).mono ?_;rintro e w9 ⟨⟨t,nst,f,rfl,hRI⟩,hb9⟩;obtain⟨rfl,ht⟩:=hRI.yes (hhas i hlt);obtain rfl:=hSt.is (nm i) _ nst (hhas i hlt) ht;have hM9:=hM.later hb9;have hn9:=cell_later hb9 hn2;have hv9:=cell_later hb9 hv2;have hMd:z6k w4 w9.drew w1.heap.size root (.slice pa l.length pc) nm S B i (.slice av i cv):=hM9.later (Below.refl _ _).drew;obtain⟨v',W,happ,g0,gz,hMn⟩:=hMd.grow (by omega);obtain⟨av2,cv2,rfl,_⟩:=z0c hMn.own;have hC:w9.cell? ⟨w1.heap.size,1,none⟩=some (.slice av i cv):=by simp[World.cell?,hM9.blk]
    have hlt9:w1.heap.size<w9.heap.size:=(Array.getElem?_eq_some_iff.1 hM9.blk).1;clear HRd hRI ht hM hMd hM9 hn2 hv2 hhas hb9;go_wp2;go_region_law (refine step_run rfl (.tmp 46) (.tmp 59) 68 rfl (.slice av i cv) (.slice (some ⟨w9.heap.size,0,none⟩) 1 1) _ rfl rfl happ ?_)
    all_goals
     go_wp2;go_roundw
     case rel=>exact⟨i+1,_,by omega,by go_num,hMn⟩
     case measure=>simp[intOf];omega
   ·have e:i=m:=by omega
    subst e;have hres:wr.heap[w.heap.size]?=some (.cells #[.string ⟨#[]⟩,.slice none 0 0,.slice none 0 0] 71 (0,0)):=(hbr4.block _ hsz1).trans hres1;have q0:wr.cell? ⟨w.heap.size,0,none⟩=some (.string ⟨#[]⟩):=by simp[World.cell?,hres]
    have q1:wr.cell? ⟨w.heap.size,1,none⟩=some (.slice none 0 0):=by simp[World.cell?,hres]
    have q2:wr.cell? ⟨w.heap.size,2,none⟩=some (.slice none 0 0):=by simp[World.cell?,hres]
    have f0:wr.frozen? ⟨w.heap.size,0,none⟩=false:=by simp[World.frozen?,hres]
    have f1:wr.frozen? ⟨w.heap.size,1,none⟩=false:=by simp[World.frozen?,hres]
    have f2:wr.frozen? ⟨w.heap.size,2,none⟩=false:=by simp[World.frozen?,hres]
    have e0:wr.cell? ⟨w1.heap.size,0,none⟩=some (.string root):=by simp[World.cell?,hM.blk]
    have e1:wr.cell? ⟨w1.heap.size,1,none⟩=some (.slice av i cv):=by simp[World.cell?,hM.blk]
    have e2:wr.cell? ⟨w1.heap.size,2,none⟩=some (.slice pa l.length pc):=by simp[World.cell?,hM.blk]
    have hNB:=z5j (hbw.trans (hbr4.mono hbw.size)) (Nat.le_refl w.heap.size) (.string root) (.slice av i cv) (.slice pa l.length pc);have hO1:=z6h (World.ownsRow.mono hM.own (show w.heap.size<=w1.heap.size+1 by omega)) hres (by decide) (.string root) (.slice av i cv) (.slice pa l.length pc);have hO2:=z6h (World.ownsRow.mono (z0e hp hbr4) (Nat.le_succ w.heap.size)) hres (by decide) (.string root) (.slice av i cv) (.slice pa l.length pc);clear hM hres hur hp;go_wp2;refine bodyPost_ret (v:=.tuple #[.agg #[.string root,.slice av i cv,.slice pa l.length pc],.int .i64 0]) (by simp[results,Tryz.results40,go_sem,q0,q1,q2]) rfl ?_;have hl1:=HLE.out;have hn1:=HNE.out;subst hl1;subst hn1;exact⟨.ok i B P Q av pa cv pc hR hO1 hO2,hNB⟩
end
section
open Go.RowKit Go.Maps
inductive RBuilt (E:Nat->EntF) (k:Nat) (rd:ByteArray->Nat×ObjF) (S:ByteArray->Int) (root:ByteArray):Nat->(Nat->EntF)×Nat->Prop
 |bad (F:Nat) (h:ReckIs rd root F) (hf:F≠0):RBuilt E k rd S root F (E,k)
 |put (m:Nat) (Bs:Nat->Int) (P Q:ByteArray->Int) (h:z0Z rd root m Bs P Q):RBuilt E k rd S root (putE E k (z4t rd S root m Bs (z0l rd root m Bs P Q))).1 (putE E k (z4t rd S root m Bs (z0l rd root m Bs P Q))).2
theorem z7k {w w':World}(h:Below w.heap.size w w')(row:Option Nat):w.grownBy w' row:=⟨h.os,h.tape,h.output,h.size,fun k hk _=>h.block k hk⟩
theorem made_in{w:World}{B0 B m:Nat}{aP aQ:Option Addr}{cP cQ:Nat}{rd:ByteArray->Nat×ObjF}{S:ByteArray->Int}{root:ByteArray}{Bs:Nat->Int}{l:List (Nat×Int×Int)}(hp:w.ownsRow B0 112 3 (.slice aP m cP) m (z0i (stmC (nmAt rd root) S Bs) m))(hq:w.ownsRow B0 114 3 (.slice aQ l.length cQ) l.length (z3x l)) :
 z5N w B ⟨aP,cP,aQ,cQ⟩ (z4t rd S root m Bs l):=by
 refine⟨⟨rows_stm hp,?_⟩,?_,?_⟩
 ·obtain⟨qa,qc,eq,_,rQ⟩:=rows_pat hq;cases eq;exact rQ
 ·rcases hp.2 with⟨_,h0⟩|⟨g,cap,cur,hv,_,hg,_⟩
  ·exact .inl h0
  ·injection hv with hv _ _;exact .inr ⟨g,0,hv,.inr ⟨cur,hg⟩⟩
 ·rcases hq.2 with⟨_,h0⟩|⟨g,cap,cur,hv,_,hg,_⟩
  ·exact .inl h0
  ·injection hv with hv _ _;exact .inr ⟨g,0,hv,.inr ⟨cur,hg⟩⟩
theorem refBuild_any(Bf B0 B:Nat)(w:World)(m q:Nat)(vl:Value)(k:Nat)(V:Nat->EntV)(E:Nat->EntF)(L:List z0u)(kf:Nat)(D:DataW Unit)(T:ByteArray->ByteArray)(S:ByteArray->Int)(root:ByteArray)(hR:z1R w B0 B m vl k V E)(hB0:B0<=B)(hBm:B<=m)(h:RAt Bf w q L kf)(hL:L.length<=1000)(hA:z3I D L)(hI:Inv D kf)(hN:z2X D)(hP:z1y D)(hk:kf<=1000000)(hT:z4C D T)(hSt:z3q D S) :
 Calls Tryz.prog 22 #[.pointer (some ⟨m,0,none⟩),.pointer (some ⟨q,0,none⟩),.string root] w fun e w'=>∃(F:Nat) (r:(Nat->EntF)×Nat),e=.returned (.int .i64 (F:Int))/\RBuilt E k (rdD D T) S root F r/\(∃vl' V',z1R w' B0 B m vl' r.2 V' r.1)/\w.grownBy w' (some m):=by
 have HM:=refEntry_any Bf w q L kf D T S root h hL hA hI hT hSt;have hBw:B0<=w.heap.size:=by have:=hR.lt;omega
 go_enter Tryz.func22,Tryz.ntmps22;go_wp2_with fail;refine(show Calls _ _ _ _ _ from HM).mono ?_;rintro e w1 ⟨hM,hb1⟩;clear HM;cases hM with
 |bad F h1 hf=>
  have hpos:(0:Int)<(F:Int):=by omega
  have hbn:Below w1.heap.size w1 (w1.alloc (.cells #[.string ⟨#[]⟩,.slice none 0 0,.slice none 0 0] 71)):=(Below.refl _ _).alloc (Nat.le_refl _) _;have hb2:=hb1.trans (hbn.mono hb1.size);have HB:Hid (RBuilt E k (rdD D T) S root F (E,k)):=.bad F h1 hf;have hR2:=hR.later hBw hb2;clear hbn hb1 h1 hf;go_wp2;go_ret;exact⟨F,(E,k),rfl,HB.out,⟨vl,V,hR2⟩,z7k hb2 _⟩
 |ok mm Bs P Q aP aQ cP cQ h1 hp1 hq1=>
  have hEF:=z7I (S:=S) hI hN hP hSt hk h1;have hfit:=(z5t hEF).fit;have hIn1:z5N w1 B0 ⟨aP,cP,aQ,cQ⟩ (z4t (rdD D T) S root mm Bs (z0l (rdD D T) root mm Bs P Q)):=made_in hp1 hq1;have HB:Hid (∀(F:Nat) (r:(Nat->EntF)×Nat),(putE E k (z4t (rdD D T) S root mm Bs (z0l (rdD D T) root mm Bs P Q))).1=F->(putE E k (z4t (rdD D T) S root mm Bs (z0l (rdD D T) root mm Bs P Q))).2=r->RBuilt E k (rdD D T) S root F r):=fun F r e1 e2=>by subst e1;subst e2;exact .put mm Bs P Q h1
  obtain⟨en,hen⟩:∃en,z4t (rdD D T) S root mm Bs (z0l (rdD D T) root mm Bs P Q)=en:=⟨_,rfl⟩;have q0:Hid (en.root=root):=by show en.root=root;rw[<-hen];rfl
  have q1:Hid (en.nP=mm):=by show en.nP=mm;rw[<-hen];rfl
  have q2:Hid (en.nQ=(z0l (rdD D T) root mm Bs P Q).length):=by show en.nQ=_;rw[<-hen];rfl
  rw[hen]at hIn1 hfit HB;rw[<-q2.out];clear hp1 hq1 hEF h1 hen;have hbn:Below w1.heap.size w1 (w1.alloc (.cells #[.string root,.slice aP mm cP,.slice aQ en.nQ cQ] 71)):=(Below.refl _ _).alloc (Nat.le_refl _) _;have hb2:=hb1.trans (hbn.mono hb1.size);have hR2:=hR.later hBw hb2;have hIn2:=hIn1.keeps (z1B.of_below (Nat.le_trans hBw hb1.size) hbn);have HPU:=refPut_any _ B0 B m k vl V E ⟨aP,cP,aQ,cQ⟩ en hR2 hB0 hBm hIn2 hfit;generalize hr:putE E k en=r at HPU HB;obtain⟨rn,rr⟩:=r;have HBB:=HB.out rn rr rfl rfl;have HBH:Hid (RBuilt E k (rdD D T) S root rn rr):=HBB;unfold z1r at HPU;dsimp only at HPU;rw[q0.out,q1.out]at HPU;have hgw:=z7k hb2 (some m);clear hIn1 hIn2 hfit hR2 hbn hb1 HB HBB hr q0 q1 q2;go_wp2_with fail;refine(show Calls _ _ _ _ _ from HPU).mono ?_;rintro e w3 ⟨rfl,hR3,hG3⟩;clear HPU;have hG:=hgw.andThen hG3 (fun j hj=>.inr hj);go_wp2;go_ret;exact⟨rn,rr,rfl,HBH.out,hR3,hG⟩
theorem refLoad_any(Bf B0 B:Nat)(w:World)(m q:Nat)(vl:Value)(k:Nat)(V:Nat->EntV)(E:Nat->EntF)(L:List z0u)(kf:Nat)(D:DataW Unit)(T:ByteArray->ByteArray)(S:ByteArray->Int)(root:ByteArray)(hR:z1R w B0 B m vl k V E)(hB0:B0<=w.heap.size)(h:RAt Bf w q L kf)(hL:L.length<=1000)(hA:z3I D L)(hI:Inv D kf)(hT:z4C D T)(hSt:z3q D S)(hnP:(getE E k root).2.nP<=1000) :
 Calls Tryz.prog 24 #[.pointer (some ⟨m,0,none⟩),.pointer (some ⟨q,0,none⟩),.string root] w fun e w'=>(∃(u v:Value) (F B1:Nat),e=.returned (.tuple #[u,.bool ((getE E k root).1&&(!z0R D S (getE E k root).2.pName (getE E k root).2.pStamp (getE E k root).2.nP&&decide (0<(getE E k root).2.nP))),.int .i64 (F:Int)])/\RLoadEnd w' B1 (rdD D T) root (.returned (.tuple #[u,v,.int .i64 (F:Int)])))/\Below w.heap.size w w':=by
 have HG:=refGet_any w B0 B m k vl V E root hR hB0;generalize getE E k root=r at *;obtain⟨rb,re⟩:=r;dsimp only at *;obtain⟨fr,hfr⟩:∃fr,(!z0R D S re.pName re.pStamp re.nP&&decide (0<re.nP))=fr:=⟨_,rfl⟩;rw[hfr];have HFR:Hid ((!z0R D S re.pName re.pStamp re.nP&&decide (0<re.nP))=fr):=hfr;clear hfr;go_enter Tryz.func24,Tryz.ntmps24;go_wp2_with fail;refine(show Calls _ _ _ _ _ from HG).mono ?_;rintro e w1 ⟨v,rfl,hA1,hb1⟩;clear HG;have hbn:Below w1.heap.size w1 (w1.alloc (.cells #[.string re.root,.slice v.aP re.nP v.cP,.slice v.aQ re.nQ v.cQ] 71)):=(Below.refl _ _).alloc (Nat.le_refl _) _;have hb2:=hb1.trans (hbn.mono hb1.size);have HF:=refFresh_any Bf _ q L kf D S re.root re.nP re.nQ re.pName re.pStamp re.pBase v.aP v.aQ v.cP v.cQ (h.later hb2) hL hA hI hSt hnP (hA1.parts.later hbn);have hh2:=h.later hb2;rw[HFR.out]at HF;clear hA1 hnP HFR hbn hb1;unfold z1r;go_wp2_with fail;refine(show Calls _ _ _ _ _ from HF).mono ?_;rintro e w3 ⟨rfl,hb3⟩;clear HF;have hb4:=hb2.trans (hb3.mono hb2.size);have HL:=refLoaded_any Bf w3 q L kf D T root (h.later hb4) hL hA hI hT;clear hh2 hb2 hb3;go_wp2_with fail;refine(show Calls _ _ _ _ _ from HL).mono ?_;rintro e w5 ⟨hLE,hb5⟩;clear HL;have hb6:=hb4.trans (hb5.mono hb4.size);obtain⟨u,v',F,rfl⟩:∃u v' F,e=.returned (.tuple #[u,v',.int .i64 ((F:Nat):Int)]):=by
  cases hLE with
  |bad F _ _=>exact⟨_,_,F,rfl⟩
  |ok _ _ _ _ u v _ _ _ _ _=>exact⟨u,v,0,rfl⟩
 have HLE:Hid (RLoadEnd w5 w3.heap.size (rdD D T) root (.returned (.tuple #[u,v',.int .i64 (F:Int)]))):=hLE;clear hLE hb4 hb5;cases rb with
 |true=>
  go_wp2;go_ret3;exact⟨⟨u,v',F,w3.heap.size,rfl,HLE.out⟩,hb6⟩
 |false=>
  go_wp2;go_ret3;exact⟨⟨u,v',F,w3.heap.size,rfl,HLE.out⟩,hb6⟩
end
section
open Go.RowKit Go.Maps
structure CSt where
 text:ByteArray
 D:DataW Unit
 kf:Nat
 E:Nat->EntF
 k:Nat
inductive Cmd
 |bad
 |line (t:List UInt8)
 |clear
 |object
 |list
 |roots
 |write (n:ByteArray)
 |remove (n:ByteArray)
 |stamp (n:ByteArray)
 |build (n:ByteArray)
 |drop (n:ByteArray)
 |load (n:ByteArray)
 |entry (n:ByteArray)
 |hash (n:ByteArray)
 |restart
abbrev cLine:List UInt8:=[108,105,110,101]
abbrev cClear:List UInt8:=[99,108,101,97,114]
abbrev cObject:List UInt8:=[111,98,106,101,99,116]
abbrev cList:List UInt8:=[108,105,115,116]
abbrev cRoots:List UInt8:=[114,111,111,116,115]
abbrev cWrite:List UInt8:=[119,114,105,116,101]
abbrev cRemove:List UInt8:=[114,101,109,111,118,101]
abbrev cStamp:List UInt8:=[115,116,97,109,112]
abbrev cBuild:List UInt8:=[98,117,105,108,100]
abbrev cDrop:List UInt8:=[100,114,111,112]
abbrev cLoad:List UInt8:=[108,111,97,100]
abbrev cEntry:List UInt8:=[101,110,116,114,121]
abbrev cHash:List UInt8:=[104,97,115,104]
abbrev cArm:List UInt8:=[97,114,109]
abbrev z6V:List UInt8:=[114,101,115,116,97,114,116]
def wOf(l:List UInt8):List UInt8:=l.takeWhile (· != 32)
def rOf(l:List UInt8):List UInt8:=(l.dropWhile (· != 32)).drop 1
def numK(r:List UInt8):Bool:=match z1I r with|some n=>decide (0<=n)&&decide (n<=999)|none=>false
def z2h (l:List UInt8):Cmd:=if l=cClear then .clear else if l=cObject then .object else if l=cList then .list else if l=cRoots then .roots else .bad
def z1e (w:List UInt8)(r:ByteArray):Cmd:=
 if w=cWrite then .write r else if w=cRemove then .remove r else if w=cStamp then .stamp r else if w=cBuild then .build r else if w=cDrop then .drop r else if w=cLoad then .load r else if w=cEntry then .entry r else if w=cHash then .hash r else .bad
def z3F (w r:List UInt8):Cmd:=if w=cLine then .line r else if (32:UInt8)∈r then .bad else if w=z6V then(if numK r=true then .restart else .bad)else z1e w ⟨r.toArray⟩
def z1n (l:List UInt8):Cmd:=if 60<l.length then .bad else if (32:UInt8)∈l then z3F (wOf l) (rOf l)else z2h l
abbrev okT:List UInt8:=[111,107]
def z1h (F:Nat):List UInt8:=[101,114,114,111,114,32]++Lib.itoa (F:Int)
def z5z (F:Nat):List UInt8:=if F=0 then okT else z1h F
def listT(l:List (List UInt8)):List UInt8:=if l=[]then [45]else Lib.join l [32]
def z3c (X:Nat->Int):Nat->List UInt8
 |0=>[]
 |j+1=>z3c X j++([32]++Lib.itoa (X j))
def partT(nm:ByteArray)(b:Int)(X:Nat->Int)(M:Nat):List UInt8:=nm.data.toList++[32]++Lib.itoa b++[58]++z3c X M
def z1P (nm:Nat->ByteArray)(B:Nat->Int)(X:Nat->Nat->Int)(M:Nat->Nat):Nat->List (List UInt8)
 |0=>[]
 |i+1=>z1P nm B X M i++[partT (nm i) (B i) (X i) (M i)]
def z5E (E:Nat->EntF):Nat->List (List UInt8)
 |0=>[]
 |i+1=>z5E E i++[(E i).root.data.toList]
noncomputable def txD (D:DataW Unit):ByteArray->ByteArray:=(texts_some D).choose
theorem txD_is(D:DataW Unit):z4C D (txD D):=(texts_some D).choose_spec
noncomputable def stD (D:DataW Unit):ByteArray->Int:=(stamps_some D).choose
theorem z6n (D:DataW Unit):z3q D (stD D):=(stamps_some D).choose_spec
noncomputable abbrev rdC (st:CSt):ByteArray->Nat×ObjF:=rdD st.D (txD st.D)
theorem RBuilt.unique{E:Nat->EntF}{k:Nat}{rd:ByteArray->Nat×ObjF}{S:ByteArray->Int}{root:ByteArray}{F F':Nat}{r r':(Nat->EntF)×Nat}(h:RBuilt E k rd S root F r)(h':RBuilt E k rd S root F' r'):F=F'/\r=r':=by
 cases h with
 |bad F h1 hf=>
  cases h' with
  |bad F' h2 hf2=>exact⟨h1.unique h2,rfl⟩
  |put m Bs P Q h2=>exact(h1.not h2).elim
 |put m Bs P Q h1=>
  cases h' with
  |bad F' h2 hf2=>exact(h2.not h1).elim
  |put m' Bs' P' Q' h2=>
   obtain⟨rfl,rfl,rfl,rfl⟩:=h2.unique h1;exact⟨rfl,rfl⟩
open Classical in
noncomputable def builtC (st:CSt) (n:ByteArray):Nat×(Nat->EntF)×Nat:=
 if h:∃x:Nat×(Nat->EntF)×Nat,RBuilt st.E st.k (rdC st) (stD st.D) n x.1 x.2 then h.choose else(0,st.E,st.k)
theorem builtC_is{st:CSt}{n:ByteArray}{F:Nat}{r:(Nat->EntF)×Nat}(h:RBuilt st.E st.k (rdC st) (stD st.D) n F r):builtC st n=(F,r):=by
 have hx:∃x:Nat×(Nat->EntF)×Nat,RBuilt st.E st.k (rdC st) (stD st.D) n x.1 x.2:=⟨(F,r),h⟩;unfold builtC;rw[dif_pos hx];obtain⟨e1,e2⟩:=hx.choose_spec.unique h;exact Prod.ext e1 e2
open Classical in
noncomputable def loadC (rd:ByteArray->Nat×ObjF) (n:ByteArray):Nat×List UInt8:=
 if h:∃F,F≠0/\ReckIs rd n F then(h.choose,[])
 else if h:∃x:Nat×(Nat->Int)×(ByteArray->Int)×(ByteArray->Int),z0Z rd n x.1 x.2.1 x.2.2.1 x.2.2.2 then
  (0,Lib.join (z1P (nmAt rd n) h.choose.2.1 (z4m rd n h.choose.1 h.choose.2.1 h.choose.2.2.1 h.choose.2.2.2) (fun i=>(obAt rd n i).nW) h.choose.1) [59,32])
 else(0,[])
theorem loadC_bad{rd:ByteArray->Nat×ObjF}{n:ByteArray}{F:Nat}(h:ReckIs rd n F)(hf:F≠0):loadC rd n=(F,[]):=by
 have hx:∃F,F≠0/\ReckIs rd n F:=⟨F,hf,h⟩;unfold loadC;rw[dif_pos hx];rw[hx.choose_spec.2.unique h]
theorem loadC_ok{rd:ByteArray->Nat×ObjF}{n:ByteArray}{m:Nat}{B:Nat->Int}{P Q:ByteArray->Int}(h:z0Z rd n m B P Q):loadC rd n=(0,Lib.join (z1P (nmAt rd n) B (z4m rd n m B P Q) (fun i=>(obAt rd n i).nW) m) [59,32]):=by
 have h1:¬ ∃F,F≠0/\ReckIs rd n F:=fun⟨F,_,hF⟩=>hF.not h
 have hx:∃x:Nat×(Nat->Int)×(ByteArray->Int)×(ByteArray->Int),z0Z rd n x.1 x.2.1 x.2.2.1 x.2.2.2:=⟨(m,B,P,Q),h⟩;unfold loadC;rw[dif_neg h1,dif_pos hx];obtain⟨e1,e2,e3,e4⟩:=hx.choose_spec.unique h;rw[e1,e2,e3,e4]
noncomputable def keptC (st:CSt) (n:ByteArray):Bool:=(getE st.E st.k n).1&&z5c st.D (stD st.D) (getE st.E st.k n).2
abbrev keptT:List UInt8:=[107,101,112,116,32]
abbrev newT:List UInt8:=[110,101,119,32]
abbrev manyT:List UInt8:=[32,119,111,114,100,115]
noncomputable def sayC (st:CSt):Cmd->CSt×List UInt8
 | .bad=>(st,z1h 4)
 | .line t=>({st with text:=st.text++⟨t.toArray⟩++⟨#[10]⟩},okT)
 | .clear=>({st with text:=⟨#[]⟩},okT)
 | .object=>(st,if (z0k st.text).1=0 then Lib.itoa (((z0k st.text).2.nW:Nat):Int)++manyT else z1h (z0k st.text).1)
 | .list=>(st,listT (z3L st.D))
 | .roots=>(st,listT (z5E st.E st.k))
 | .write n=>(if writeF st.D st.kf n st.text=0 then {st with D:=st.D.put (keyB n) (z1s st.text.data.toList ((st.kf:Int)+1)),kf:=st.kf+1}else st,z5z (writeF st.D st.kf n st.text))
 | .remove n=>({st with D:=st.D.del (keyB n)},z5z (if Maps.has st.D (keyB n)=true then 0 else 5))
 | .stamp n=>(st,if Maps.has st.D (keyB n)=true then Lib.itoa (stD st.D n)else z1h 5)
 | .build n=>({st with E:=(builtC st n).2.1,k:=(builtC st n).2.2},z5z (builtC st n).1)
 | .drop n=>({st with E:=(z2F st.E st.k n).2.1,k:=(z2F st.E st.k n).2.2},z5z (z2F st.E st.k n).1)
 | .load n=>(st,if (loadC (rdC st) n).1=0 then(if keptC st n=true then keptT else newT)++(loadC (rdC st) n).2 else z1h (loadC (rdC st) n).1)
 | .entry n=>(st,if (getE st.E st.k n).1=true then(z0D (getE st.E st.k n).2).dropLast else z1h 5)
 | .hash n=>(st,Lib.itoa ((z5r n.data.toList:Nat):Int))
 | .restart=>(st,okT)
noncomputable def stAt (X:Nat->ByteArray):Nat->CSt
 |0=>⟨⟨#[]⟩,.map [],0,fun _=>z1g,0⟩
 |i+1=>(sayC (stAt X i) (z1n (X i).data.toList)).1
noncomputable def ansAt (X:Nat->ByteArray) (i:Nat):List UInt8:=(sayC (stAt X i) (z1n (X i).data.toList)).2
def Real(D:DataW Unit):Prop:=∃(w:World) (bm n:Nat),w.ownsMap Tryz.prog 9 z2t bm n D
structure Well(st:CSt)(i:Nat):Prop where
 text:st.text.size<=61*i
 inv:Inv st.D st.kf
 names:z2X st.D
 pos:z1y st.D
 few:st.kf<=i
 held:∀j,j<st.k->Held st.D st.kf (st.E j)
 good:z1M st.E st.k
 real:Real st.D
theorem z5D:∀ {l:List UInt8},(32:UInt8)∈l->l=wOf l++32 :: rOf l/\(32:UInt8) ∉ wOf l
 | [],h=>by cases h
 |b :: l,h=>by
  by_cases e:b=32
  ·subst e;exact⟨by simp[wOf,rOf],by simp[wOf]⟩
  ·have h':(32:UInt8)∈l:=by
    rcases List.mem_cons.1 h with e'|e'
    ·exact absurd e'.symm e
    ·exact e'
   obtain⟨h1,h2⟩:=z5D h';have hb:(b != 32)=true:=by rw[bne_iff_ne];exact e
   have e1:wOf (b :: l)=b :: wOf l:=by unfold wOf;rw[List.takeWhile_cons,if_pos hb]
   have e2:rOf (b :: l)=rOf l:=by unfold rOf;rw[List.dropWhile_cons,if_pos hb]
   rw[e1,e2];refine⟨by rw[List.cons_append,<-h1],fun hm=>?_⟩;rcases List.mem_cons.1 hm with e'|e'
   ·exact e e'.symm
   ·exact h2 e'
theorem words_one{l:List UInt8}(h:(32:UInt8) ∉ l):z0O l=[l]:=z1H l h
theorem words_more{l:List UInt8}(h:(32:UInt8)∈l):z0O l=wOf l :: z0O (rOf l):=by
 obtain⟨h1,h2⟩:=z5D h;have:=z0N (wOf l) (rOf l) h2
 rwa [<-h1]at this
theorem words_pos(l:List UInt8):1<=(z0O l).length:=by unfold z0O;simp
theorem words_few{l:List UInt8}(h:(32:UInt8)∈l):2<=(z0O l).length:=by
 rw[words_more h];have:=words_pos (rOf l);simp;omega
end
section
open Go.RowKit Go.Maps
theorem z6w (n:Int)(w:World)(hE:Env w)(h0:-9223372036854775808<=n)(h1:n<=9223372036854775807) :
 Calls Tryz.prog 47 #[.int .i64 n] w fun e w'=>e=.returned (.string ⟨(Lib.itoa n).toArray⟩)/\Below w.heap.size w w':=by
 have HI:=z4u n w hE h0 h1;go_enter Tryz.func47,Tryz.ntmps47;go_wp2_with fail;refine(show Calls _ _ _ _ _ from HI).mono ?_;rintro e w1 ⟨rfl,hb⟩;clear HI;go_wp2;go_ret;exact⟨rfl,hb⟩
theorem cfault_any(F:Nat)(w:World)(hE:Env w)(hF:F≠0)(h:F<=1000) :
 Calls Tryz.prog 34 #[errV F] w fun e w'=>(∃t:ByteArray,e=.returned (.string t)/\t.data.toList=z1h F)/\Below w.heap.size w w':=by
 obtain⟨f,rfl⟩:∃f,F=f+1:=⟨F-1,by omega⟩;unfold z1h;have HC:=z6w ((f+1:Nat):Int) w hE (by omega) (by omega);have hsz:(⟨(Lib.itoa ((f+1:Nat):Int)).toArray⟩:ByteArray).size<=21:=by
  show(Lib.itoa _).toArray.size<=21;rw[List.size_toArray];exact Nat.le_trans (z1v _ (by omega) (by omega)) (by decide)
 show Calls _ _ #[.iface 43 (.int .i64 ((f+1:Nat):Int))] _ _;have ht:∀t:ByteArray,t=⟨(Lib.itoa ((f+1:Nat):Int)).toArray⟩->((⟨#[101,114,114,111,114,32]⟩:ByteArray)++t).data.toList=[101,114,114,111,114,32]++Lib.itoa ((f+1:Nat):Int):=fun t e=>by subst e;simp
 generalize hz:((f+1:Nat):Int)=z at *;have ha:=assert_errno z;generalize hT:(⟨(Lib.itoa z).toArray⟩:ByteArray)=t at *;have HT:Hid (((⟨#[101,114,114,111,114,32]⟩:ByteArray)++t).data.toList=[101,114,114,111,114,32]++Lib.itoa z):=ht t rfl;clear ht hT hz;go_enter Tryz.func34,Tryz.ntmps34;go_wp2_with fail;refine(show Calls _ _ _ _ _ from HC).mono ?_;rintro e w1 ⟨rfl,hb⟩;clear HC;go_wp2;go_ret;exact⟨⟨_,rfl,HT.out⟩,hb⟩
theorem z4S (v:Value)(w:World):Calls Tryz.prog 50 #[v] w fun e w'=>e=.returned (.tuple #[.string ⟨#[111,107]⟩,v])/\w'=w:=by
 go_enter Tryz.func50,Tryz.ntmps50;go_wp2;go_ret2;exact⟨rfl,rfl⟩
theorem clist_any(B:Nat)(a:Option Addr)(n c:Nat)(l:List (List UInt8))(w:World)(h:w.ownsRow B 9 1 (.slice a n c) n (z1A l))(hn:n<=1000)(hlen:(Lib.join l [32]).length<=100000) :
 Calls Tryz.prog 66 #[.slice a n c] w fun e w'=>(∃t:ByteArray,e=.returned (.string t)/\t.data.toList=listT l)/\Below w.heap.size w w':=by
 have hl:l.length=n:=by have:=h.1;simpa[z1A]using this
 by_cases h0:n=0
 ·have hl0:l=[]:=List.eq_nil_of_length_eq_zero (hl.trans h0);subst h0;subst hl0;go_enter Tryz.func66,Tryz.ntmps66;go_wp2;go_ret;exact⟨⟨_,rfl,rfl⟩,Below.refl _ _⟩
 ·have HJ:=joinW h (by omega) hn hlen;have hne:l ≠ []:=fun e=>h0 (by rw[<-hl,e];rfl)
  have hn0:((n:Int)==0)=false:=by rw[beq_eq_false_iff_ne];omega
  have HL:Hid ((⟨(Lib.join l [32]).toArray⟩:ByteArray).data.toList=listT l):=(by unfold listT;rw[if_neg hne]:(⟨(Lib.join l [32]).toArray⟩:ByteArray).data.toList=listT l);generalize (⟨(Lib.join l [32]).toArray⟩:ByteArray)=t at *;clear hne h0 hl h hlen;go_enter Tryz.func66,Tryz.ntmps66;go_wp2_with fail;refine(show Calls _ _ _ _ _ from HJ).mono ?_;rintro e w1 ⟨rfl,hb⟩;clear HJ;go_wp2;go_ret;exact⟨⟨_,rfl,HL.out⟩,hb⟩
end
end Go.Proofs.YtbcpcbonlhlhpaaGreatDoor
