/- What Make of package entry returns, over any files and any -/
import Derived.Test.YtbcpcbonlhlhpaaGreatDoorRefLoaded
set_option maxRecDepth 100000
set_option maxHeartbeats 4000000
namespace Go.Proofs.YtbcpcbonlhlhpaaGreatDoor
open Go.RowKit Go.Maps
structure z3q (D:DataW Unit)(S:ByteArray->Int):Prop where
 is:∀s t n,Maps.has D (keyB s)=true->D.atKey (keyB s) (z1s [] 0)=z1s t n->n=S s
theorem z4L {t t':List UInt8}{n n':Int}(h:z1s t n=z1s t' n'):n=n':=by
 simp[z1s]at h;exact h.2
theorem stamps_some(D:DataW Unit):∃S,z3q D S:=by
 have h:∀s:ByteArray,∃S:Int,∀t n,D.atKey (keyB s) (z1s [] 0)=z1s t n->n=S:=fun s=>by
  by_cases e:∃t n,D.atKey (keyB s) (z1s [] 0)=z1s t n
  ·obtain⟨t,n,e⟩:=e;exact⟨n,fun t' n' e'=>z4L (e'.symm.trans e)⟩
  ·exact⟨0,fun t n e'=>absurd ⟨t,n,e'⟩ e⟩
 obtain⟨f,hf⟩:=Classical.axiomOfChoice h;exact⟨f,⟨fun s t n _ he=>hf s t n he⟩⟩
theorem rd_has{D:DataW Unit}{T:ByteArray->ByteArray}{x:ByteArray}(h:(rdD D T x).1=0):Maps.has D (keyB x)=true:=by
 cases e:Maps.has D (keyB x)with
 |true=>rfl
 |false=>unfold rdD at h;rw[if_neg (by simp[e])]at h;cases h
def stmC(nm:Nat->ByteArray)(S:ByteArray->Int)(B:Nat->Int)(i:Nat):List Value:=[.string (nm i),.int .i64 (S (nm i)),.int .i64 (B i)]
theorem growStm{B0:Nat}{w:World}{v:Value}{n:Nat}{xs:List Value}(s:ByteArray)(x y:Int)(hB:B0<=w.heap.size)(h:w.ownsRow B0 112 3 v n xs)(hn:n<1000) :
 ∃v' W,(Builtin.append_ #[68,68] 68 #[v,.slice (some ⟨w.heap.size,0,none⟩) 1 1]).run Tryz.prog (w.alloc (.cells #[.string s,.int .i64 x,.int .i64 y] 112))=.ok v' W/\Grown B0 112 3 (w.alloc (.cells #[.string s,.int .i64 x,.int .i64 y] 112)) v (n+1) (xs++[.string s,.int .i64 x,.int .i64 y]) v' W:=
 z0J 68 112 3 32 (.agg #[.string ⟨#[]⟩,.int .i64 0,.int .i64 0]) (by kernel_rfl) (by kernel_rfl) (by rfl) (by decide) B0 _ v n _ (h.alloc _) (some ⟨w.heap.size,0,none⟩) 1 1 [.string s,.int .i64 x,.int .i64 y] rfl
  (.inr ⟨_,_,rfl,fun j u hj=>by
    match j,hj with
    |0,hj=>simp at hj;subst hj;simp[go_sem]
    |1,hj=>simp at hj;subst hj;simp[go_sem]
    |2,hj=>simp at hj;subst hj;simp[go_sem]
    |j+3,hj=>simp at hj⟩) (fun u hu=>by simp at hu;rcases hu with rfl|rfl|rfl <;> rfl) (by simp;omega) (by omega) (by decide)
structure z6k (w4 wr:World)(be:Nat)(root:ByteArray)(q:Value)(nm:Nat->ByteArray)(S:ByteArray->Int)(B:Nat->Int)(i:Nat)(v:Value):Prop where
 blk:wr.heap[be]?=some (.cells #[.string root,v,q] 71 (0,0))
 own:wr.ownsRow (be+1) 112 3 v i (z0i (stmC nm S B) i)
 below:Below be w4 wr
theorem z6k.later{w4 wr w':World}{be:Nat}{root:ByteArray}{q:Value}{nm:Nat->ByteArray}{S:ByteArray->Int}{B:Nat->Int}{i:Nat}{v:Value}(h:z6k w4 wr be root q nm S B i v)(hb:Below wr.heap.size wr w'):z6k w4 w' be root q nm S B i v:=
 ⟨(hb.block be (Array.getElem?_eq_some_iff.1 h.blk).1).trans h.blk,z0e h.own hb,h.below.trans (hb.mono (Nat.le_of_lt (Array.getElem?_eq_some_iff.1 h.blk).1))⟩
theorem z6k.grow{w4 wr:World}{be:Nat}{root:ByteArray}{q:Value}{nm:Nat->ByteArray}{S:ByteArray->Int}{B:Nat->Int}{i:Nat}{v:Value}(h:z6k w4 wr be root q nm S B i v)(hi:i<1000) :
 ∃v' W,(Builtin.append_ #[68,68] 68 #[v,.slice (some ⟨wr.heap.size,0,none⟩) 1 1]).run Tryz.prog (wr.alloc (.cells #[.string (nm i),.int .i64 (S (nm i)),.int .i64 (B i)] 112))=.ok v' W/\W.cell? ⟨be,1,none⟩=some v/\W.frozen? ⟨be,1,none⟩=false/\z6k w4 (W.setCell ⟨be,1,none⟩ v') be root q nm S B (i+1) v':=by
 have hlt:=(Array.getElem?_eq_some_iff.1 h.blk).1;obtain⟨v',W,happ,hG⟩:=growStm (nm i) (S (nm i)) (B i) (by omega) h.own hi;have hb2:Below (be+1) wr W:=((Below.refl (be+1) wr).alloc (by omega) _).trans hG.below;have hW:W.heap[be]?=some (.cells #[.string root,v,q] 71 (0,0)):=(hb2.block be (by omega)).trans h.blk;refine⟨v',W,happ,by simp[World.cell?,hW],by simp[World.frozen?,hW],heap_setCell W be 1 _ _ v' hW,z1m hG.own hW (by decide),?_⟩;exact(h.below.trans (hb2.mono (by omega))).trans ⟨rfl,rfl,rfl,by simp[World.setCell],fun k hk=>Below.heap_setCell _ _ _ _ (Nat.ne_of_lt hk)⟩
inductive MadeEnd (w:World) (B0:Nat) (rd:ByteArray->Nat×ObjF) (S:ByteArray->Int) (root:ByteArray):Ending->Prop
 |bad (F:Nat) (h:ReckIs rd root F) (hf:F≠0):MadeEnd w B0 rd S root (.returned (.tuple #[.agg #[.string ⟨#[]⟩,.slice none 0 0,.slice none 0 0],errV F]))
 |ok (m:Nat) (B:Nat->Int) (P Q:ByteArray->Int) (aP aQ:Option Addr) (cP cQ:Nat) (h:z0Z rd root m B P Q) (hp:w.ownsRow B0 112 3 (.slice aP m cP) m (z0i (stmC (nmAt rd root) S B) m))
  (hq:w.ownsRow B0 114 3 (.slice aQ (z0l rd root m B P Q).length cQ) (z0l rd root m B P Q).length (z3x (z0l rd root m B P Q))):MadeEnd w B0 rd S root (.returned (.tuple #[.agg #[.string root,.slice aP m cP,.slice aQ (z0l rd root m B P Q).length cQ],.nilIface]))
theorem z5j {B g:Nat}{w w':World}(h:Below B w w')(hg:B<=g)(a0 a1 a2:Value):Below B w (((w'.setCell ⟨g,0,none⟩ a0).setCell ⟨g,1,none⟩ a1).setCell ⟨g,2,none⟩ a2):=
 h.trans ⟨rfl,rfl,rfl,by simp[World.setCell],fun k hk=>((Below.heap_setCell _ _ _ _ (Nat.ne_of_lt (Nat.lt_of_lt_of_le hk hg))).trans (Below.heap_setCell _ _ _ _ (Nat.ne_of_lt (Nat.lt_of_lt_of_le hk hg)))).trans (Below.heap_setCell _ _ _ _ (Nat.ne_of_lt (Nat.lt_of_lt_of_le hk hg)))⟩
theorem z6h {w:World}{B s n g:Nat}{e t:TypeId}{v:Value}{xs:List Value}{c:Array Value}(h:w.ownsRow B e s v n xs)(hb:w.heap[g]?=some (.cells c t (0,0)))(hne:e≠t)(a0 a1 a2:Value):(((w.setCell ⟨g,0,none⟩ a0).setCell ⟨g,1,none⟩ a1).setCell ⟨g,2,none⟩ a2).ownsRow B e s v n xs:=
 have h0:=heap_setCell w g 0 c t a0 hb;have h1:=heap_setCell _ g 1 _ t a1 h0
 z1m (z1m (z1m h hb hne) h0 hne) h1 hne
theorem make_any(w:World)(p bm:Nat)(D:DataW Unit)(k:Nat)(T:ByteArray->ByteArray)(S:ByteArray->Int)(root:ByteArray)(h:z0q w p bm D k)(hI:Inv D k)(hT:z4C D T)(hSt:z3q D S)(hE:Env w)(hroot:root.size<=maxLen) :
 Calls Tryz.prog 103 #[.pointer (some ⟨p,0,none⟩),.string root] w fun e w'=>MadeEnd w' w.heap.size (rdD D T) S root e/\Below w.heap.size w w':=by
 have hb0:Below w.heap.size w (w.alloc (.cells #[.string ⟨#[]⟩,.slice none 0 0,.slice none 0 0] 71)):=(Below.refl _ _).alloc (Nat.le_refl _) _;have HR:=reckon_any (w.alloc (.cells #[.string ⟨#[]⟩,.slice none 0 0,.slice none 0 0] 71)) p bm D k T root (h.later hb0) hI hT (hE.later hb0) hroot;have hfew:=z6y (T:=T) hI;have hres0:(w.alloc (.cells #[.string ⟨#[]⟩,.slice none 0 0,.slice none 0 0] 71)).heap[w.heap.size]?=some (.cells #[.string ⟨#[]⟩,.slice none 0 0,.slice none 0 0] 71 (0,0)):=by
  show(w.heap.push _)[w.heap.size]?=_;rw[Array.getElem?_push_size]
 have hsz0:(w.alloc (.cells #[.string ⟨#[]⟩,.slice none 0 0,.slice none 0 0] 71)).heap.size=w.heap.size+1:=by simp
 go_enter Tryz.func103,Tryz.ntmps103;go_wp2_with fail;refine HR.mono ?_;rintro e w1 ⟨he,hb1⟩;rw[hsz0]at he hb1;have hbw:=hb0.trans (hb1.mono (by omega));have hres1:w1.heap[w.heap.size]?=some (.cells #[.string ⟨#[]⟩,.slice none 0 0,.slice none 0 0] 71 (0,0)):=(hb1.block _ (by omega)).trans hres0;clear HR hE hb0 hres0 hsz0;cases he with
 |bad F hR hf=>
  obtain⟨z,hz⟩:=z5V hf;rw[hz];have q0:w1.cell? ⟨w.heap.size,0,none⟩=some (.string ⟨#[]⟩):=by simp[World.cell?,hres1]
  have q1:w1.cell? ⟨w.heap.size,1,none⟩=some (.slice none 0 0):=by simp[World.cell?,hres1]
  have q2:w1.cell? ⟨w.heap.size,2,none⟩=some (.slice none 0 0):=by simp[World.cell?,hres1]
  have f0:w1.frozen? ⟨w.heap.size,0,none⟩=false:=by simp[World.frozen?,hres1]
  have f1:w1.frozen? ⟨w.heap.size,1,none⟩=false:=by simp[World.frozen?,hres1]
  have f2:w1.frozen? ⟨w.heap.size,2,none⟩=false:=by simp[World.frozen?,hres1]
  have hNB:=z5j hbw (Nat.le_refl w.heap.size) (.string ⟨#[]⟩) (.slice none 0 0) (.slice none 0 0);go_wp2;refine bodyPost_ret (v:=.tuple #[.agg #[.string ⟨#[]⟩,.slice none 0 0,.slice none 0 0],.iface 43 (.int .i64 z)]) (by simp[results,Tryz.results103,go_sem,q0,q1,q2]) rfl ?_;rw[<-hz];exact⟨.bad F hR hf,hNB⟩
 |ok m B P Q u x b pv V hR hu hx hb hp=>
  obtain⟨hS,hlen,hnm⟩:=z4s hR.of hfew;have hm6:=hS.few;have hok:∀j,j<m->z3J (obAt (rdD D T) root j):=fun j hj=>rd_ok (by rw[hS.read j hj])
  have hnz:∀j,j<m->(nmAt (rdD D T) root j).size<=maxLen:=fun j hj=>by
   by_cases h0:j=0
   ·subst h0;rw[hS.root];exact hroot
   ·obtain⟨q,z,hq,hz,e⟩:=hS.want j (by omega) hj;have h1:=z1k ((hok q (by omega)).needs z hz);rw[e]at h1;have:(nmAt (rdD D T) root j).data.toList.length=(nmAt (rdD D T) root j).size:=by simp
    simp only[maxLen];omega
  have hhas:∀j,j<m->Maps.has D (keyB (nmAt (rdD D T) root j))=true:=fun j hj=>rd_has (by rw[hS.read j hj])
  obtain⟨ua,uc,rfl,_,hur⟩:=z3H hu;obtain⟨ba,bc,rfl,_,hbr⟩:=z5a hb;obtain⟨pa,pc,rfl,_⟩:=z0c hp;rw[hlen]at hur ⊢;have hur2:z1z w1 ua m fun i=>.string (nmAt (rdD D T) root i):=by
   rcases hur with h0|⟨bk,o,ha,hc⟩
   ·exact .inl h0
   ·exact .inr ⟨bk,o,ha,fun i hi=>by rw[hc i hi];show some (Value.string _)=_;rw[hnm i hi]⟩
  have hF1:=h.later hbw;have hsz1:w.heap.size<w1.heap.size:=(Array.getElem?_eq_some_iff.1 hres1).1;have hb4:Below w1.heap.size w1 (w1.alloc (.cells #[.string root,.slice none 0 0,.slice pa (z0l (rdD D T) root m B P Q).length pc] 71)):=(Below.refl _ _).alloc (Nat.le_refl _) _;have hM0:z6k (w1.alloc (.cells #[.string root,.slice none 0 0,.slice pa (z0l (rdD D T) root m B P Q).length pc] 71)) (w1.alloc (.cells #[.string root,.slice none 0 0,.slice pa (z0l (rdD D T) root m B P Q).length pc] 71)) w1.heap.size root (.slice pa (z0l (rdD D T) root m B P Q).length pc) (nmAt (rdD D T) root) S B 0 (.slice none 0 0):=⟨by
   show(w1.heap.push _)[w1.heap.size]?=_;rw[Array.getElem?_push_size],World.ownsRow_nil _ _ _ _,Below.refl _ _⟩
  generalize hlE:z0l (rdD D T) root m B P Q=l at *;generalize hnE:nmAt (rdD D T) root=nm at *;have HLE:Hid (z0l (rdD D T) root m B P Q=l):=hlE;have HNE:Hid (nmAt (rdD D T) root=nm):=hnE;clear hlE hnE;clear hS hlen hnm hur hu hb hx h hfew hok;go_wp2;generalize w1.alloc (.cells #[.string root,.slice none 0 0,.slice pa l.length pc] 71)=w4 at *;go_loopw [34] (fun y wr=>∃(i:Nat) (v:Value),i<=m/\y=.int .i64 i/\z6k w4 wr w1.heap.size root (.slice pa l.length pc) nm S B i v) (fun y _=>m-(intOf y).toNat)
  case atStart=>exact⟨0,_,Nat.zero_le _,rfl,hM0⟩
  case round=>
   obtain⟨i,v,hi,rfl,hM⟩:=hrel;obtain⟨av,cv,rfl,_⟩:=z0c hM.own;have hbr4:Below w1.heap.size w1 wr:=hb4.trans (hM.below);by_cases hlt:i<m
   ·have hni:∃bu ou,ua=some ⟨bu,ou,none⟩/\w1.cell? ⟨bu,ou+i,none⟩=some (.string (nm i)):=by
     rcases hur2 with h0|⟨bu,ou,ha,hc⟩
     ·omega
     ·exact⟨bu,ou,ha,hc i hlt⟩
    have hbi:∃bv ov,ba=some ⟨bv,ov,none⟩/\w1.cell? ⟨bv,ov+i,none⟩=some (.int .i64 (B i)):=by
     rcases hbr with h0|⟨bu,ou,ha,hc⟩
     ·omega
     ·exact⟨bu,ou,ha,hc i hlt⟩
    obtain⟨bu,ou,rfl,hn1⟩:=hni;obtain⟨bv,ov,rfl,hv1⟩:=hbi;have hn2:=cell_later hbr4 hn1;have HRd:=z4b wr p bm D k (nm i) (hF1.later hbr4) (hnz i hlt);clear hur2 hbr;go_wp2_with fail;refine HRd.mono ?_;rintro e w9 ⟨⟨t,nst,f,rfl,hRI⟩,hb9⟩;obtain⟨rfl,ht⟩:=hRI.yes (hhas i hlt);obtain rfl:=hSt.is (nm i) _ nst (hhas i hlt) ht;have hM9:=hM.later hb9;have hn9:=cell_later hb9 hn2;have hv9:=cell_later hb9 (cell_later hbr4 hv1);have hMd:z6k w4 w9.drew w1.heap.size root (.slice pa l.length pc) nm S B i (.slice av i cv):=hM9.later (Below.refl _ _).drew;obtain⟨v',W,happ,g0,gz,hMn⟩:=hMd.grow (by omega);obtain⟨av2,cv2,rfl,_⟩:=z0c hMn.own;have hC:w9.cell? ⟨w1.heap.size,1,none⟩=some (.slice av i cv):=by simp[World.cell?,hM9.blk]
    have hlt9:w1.heap.size<w9.heap.size:=(Array.getElem?_eq_some_iff.1 hM9.blk).1;have q0:errV 0=.nilIface:=rfl;rw[q0];clear HRd hRI ht hM hMd hM9 hn1 hv1 hn2 q0 hhas hnz;go_wp2;go_region_law (refine step_run rfl (.tmp 52) (.tmp 63) 68 rfl (.slice av i cv) (.slice (some ⟨w9.heap.size,0,none⟩) 1 1) _ rfl rfl happ ?_)
    all_goals
     go_wp2;go_roundw
     case rel=>exact⟨i+1,_,by omega,by go_num,hMn⟩
     case measure=>simp[intOf];omega
   ·have e:i=m:=by omega
    subst e;have hres:wr.heap[w.heap.size]?=some (.cells #[.string ⟨#[]⟩,.slice none 0 0,.slice none 0 0] 71 (0,0)):=(hbr4.block _ hsz1).trans hres1;have q0:wr.cell? ⟨w.heap.size,0,none⟩=some (.string ⟨#[]⟩):=by simp[World.cell?,hres]
    have q1:wr.cell? ⟨w.heap.size,1,none⟩=some (.slice none 0 0):=by simp[World.cell?,hres]
    have q2:wr.cell? ⟨w.heap.size,2,none⟩=some (.slice none 0 0):=by simp[World.cell?,hres]
    have f0:wr.frozen? ⟨w.heap.size,0,none⟩=false:=by simp[World.frozen?,hres]
    have f1:wr.frozen? ⟨w.heap.size,1,none⟩=false:=by simp[World.frozen?,hres]
    have f2:wr.frozen? ⟨w.heap.size,2,none⟩=false:=by simp[World.frozen?,hres]
    have e0:wr.cell? ⟨w1.heap.size,0,none⟩=some (.string root):=by simp[World.cell?,hM.blk]
    have e1:wr.cell? ⟨w1.heap.size,1,none⟩=some (.slice av i cv):=by simp[World.cell?,hM.blk]
    have e2:wr.cell? ⟨w1.heap.size,2,none⟩=some (.slice pa l.length pc):=by simp[World.cell?,hM.blk]
    have hNB:=z5j (hbw.trans (hbr4.mono hbw.size)) (Nat.le_refl w.heap.size) (.string root) (.slice av i cv) (.slice pa l.length pc);have hO1:=z6h (World.ownsRow.mono hM.own (show w.heap.size<=w1.heap.size+1 by omega)) hres (by decide) (.string root) (.slice av i cv) (.slice pa l.length pc);have hO2:=z6h (World.ownsRow.mono (z0e hp hbr4) (Nat.le_succ w.heap.size)) hres (by decide) (.string root) (.slice av i cv) (.slice pa l.length pc);clear hM hres hur2 hbr hp;go_wp2;refine bodyPost_ret (v:=.tuple #[.agg #[.string root,.slice av i cv,.slice pa l.length pc],.nilIface]) (by simp[results,Tryz.results103,go_sem,q0,q1,q2]) rfl ?_;have hl1:=HLE.out;have hn1:=HNE.out;subst hl1;subst hn1;exact⟨.ok i B P Q av pa cv pc hR hO1 hO2,hNB⟩
end Go.Proofs.YtbcpcbonlhlhpaaGreatDoor
namespace Go.Proofs.YtbcpcbonlhlhpaaGreatDoor
open Go.RowKit Go.Maps
def StmRow(w:World)(a:Option Addr)(n:Nat)(s:Nat->ByteArray)(k b:Nat->Int):Prop:=
 n=0∨∃bk o,a=some ⟨bk,o,none⟩/\∀i,i<n->w.cell? ⟨bk,o+i*3,none⟩=some (.string (s i))/\w.cell? ⟨bk,o+i*3+1,none⟩=some (.int .i64 (k i))/\w.cell? ⟨bk,o+i*3+2,none⟩=some (.int .i64 (b i))
theorem StmRow.later{w w':World}{a:Option Addr}{n:Nat}{s:Nat->ByteArray}{k b:Nat->Int}(h:StmRow w a n s k b)(hb:Below w.heap.size w w'):StmRow w' a n s k b:=by
 rcases h with h|⟨bk,o,ha,hc⟩
 ·exact .inl h
 ·exact .inr ⟨bk,o,ha,fun i hi=>⟨cell_later hb (hc i hi).1,cell_later hb (hc i hi).2.1,cell_later hb (hc i hi).2.2⟩⟩
theorem rows_stm{w:World}{B0:Nat}{e:TypeId}{a:Option Addr}{n c:Nat}{nm:Nat->ByteArray}{S:ByteArray->Int}{B:Nat->Int}(h:w.ownsRow B0 e 3 (.slice a n c) n (z0i (stmC nm S B) n)):StmRow w a n nm (fun i=>S (nm i)) B:=by
 by_cases h0:n=0
 ·exact .inl h0
 ·have key:∀i,i<n->∀j u,(stmC nm S B i)[j]?=some u->j<3->∃g,a=some ⟨g,0,none⟩/\B0<=g/\w.cell? ⟨g,i*3+j,none⟩=some u:=fun i hi j u hu hj=>
   z0K h (by rw[z2G (s:=3) (fun i _=>rfl) hi hj];exact hu)
  obtain⟨g0,ha,_,_⟩:=key 0 (by omega) 0 _ rfl (by omega);refine .inr ⟨g0,0,ha,fun i hi=>?_⟩;have get:∀j u,(stmC nm S B i)[j]?=some u->j<3->w.cell? ⟨g0,i*3+j,none⟩=some u:=fun j u hu hj=>by
   obtain⟨g',ha',_,hc'⟩:=key i hi j u hu hj;rw[ha]at ha';injection ha' with ha';injection ha' with ha';subst ha';exact hc'
  exact⟨by rw[Nat.zero_add];exact get 0 _ rfl (by omega),by rw[Nat.zero_add];exact get 1 _ rfl (by omega),by rw[Nat.zero_add];exact get 2 _ rfl (by omega)⟩
end Go.Proofs.YtbcpcbonlhlhpaaGreatDoor
namespace Go.Proofs.YtbcpcbonlhlhpaaGreatDoor
open Go.RowKit Go.Maps
def z0R (D:DataW Unit)(S:ByteArray->Int)(s:Nat->ByteArray)(st:Nat->Int):Nat->Bool:=z0H fun i=>!(Maps.has D (keyB (s i))&&decide (S (s i)=st i))
theorem fresh_any(w:World)(p bm:Nat)(D:DataW Unit)(k:Nat)(S:ByteArray->Int)(root:ByteArray)(n nq:Nat)(s:Nat->ByteArray)(st b:Nat->Int)(aP aQ:Option Addr)(cP cQ:Nat)(h:z0q w p bm D k)(hS:z3q D S)(hn:n<=1000)(hs:∀i,i<n->(s i).size<=maxLen)(hr:StmRow w aP n s st b) :
 Calls Tryz.prog 148 #[.agg #[.string root,.slice aP n cP,.slice aQ nq cQ],.pointer (some ⟨p,0,none⟩)] w fun e w'=>e=.returned (.bool (!z0R D S s st n&&decide (0<n)))/\Below w.heap.size w w':=by
 generalize hF:z0R D S s st n=F;have HF:Hid (z0R D S s st n=F):=hF;clear hF;have hb0:Below w.heap.size w (w.alloc (.cells #[.string root,.slice aP n cP,.slice aQ nq cQ] 71)):=(Below.refl _ _).alloc (Nat.le_refl _) _;have e1:(w.alloc (.cells #[.string root,.slice aP n cP,.slice aQ nq cQ] 71)).cell? ⟨w.heap.size,1,none⟩=some (.slice aP n cP):=by simp[go_sem]
 have h1:=h.later hb0;have hr1:=hr.later hb0;clear h hr;go_enter Tryz.func148,Tryz.ntmps148;go_wp2;generalize w.alloc (.cells #[.string root,.slice aP n cP,.slice aQ nq cQ] 71)=W at *;go_loopw [12] (fun y wr=>∃i:Nat,i<=n/\y=.int .i64 i/\Hid (z0R D S s st i=false)/\Below W.heap.size W wr) (fun y _=>n-(intOf y).toNat)
 case atStart=>exact⟨0,Nat.zero_le _,rfl,rfl,Below.refl _ _⟩
 case round=>
  obtain⟨i,hi,rfl,HK,hb⟩:=hrel;have hb2:Below w.heap.size w wr:=hb0.trans (hb.mono hb0.size);have e1r:=cell_later hb e1;by_cases hlt:i<n
  ·have hr2:=hr1.later hb;rcases hr2 with h0|⟨bk,o,rfl,hc⟩
   ·omega
   obtain⟨x0,x1,x2⟩:=hc i hlt;have HR:=z4b wr p bm D k (s i) (h1.later hb) (hs i hlt);clear hc hr1;go_wp2_with fail;refine HR.mono ?_;rintro e w2 ⟨⟨t,nst,f,rfl,hRI⟩,hb3⟩;replace e1r:=cell_later hb3 e1r;replace x1:=cell_later hb3 x1;have hb4:=hb2.trans (hb3.mono hb2.size);have hb5:=hb.trans (hb3.mono hb.size);clear HR x0 x2;cases hh:Maps.has D (keyB (s i))with
   |false=>
    obtain⟨rfl,rfl,rfl⟩:=hRI.no hh;have HE:Hid (F=true):=HF.out.symm.trans (z1D hlt (by rw[hh];rfl));have q5:errV 5=.iface 43 (.int .i64 5):=rfl;rw[q5];clear hRI hh;go_wp2;go_ret;exact⟨z0w (by rw[HE.out];rfl),hb4⟩
   |true=>
    obtain⟨rfl,hat⟩:=hRI.yes hh;obtain rfl:=hS.is (s i) _ nst hh hat;have q0:errV 0=.nilIface:=rfl;rw[q0];by_cases he:S (s i)=st i
    ·have hne:(S (s i) != st i)=false:=by rw[bne_eq_false_iff_eq];exact he
     have HE:Hid (z0R D S s st (i+1)=false):=z2U HK.out (by rw[hh,decide_eq_true he];rfl);clear hRI hh hat he HK;go_wp2;go_roundw
     case rel=>exact⟨i+1,by omega,by go_num,HE,hb5⟩
     case measure=>simp[intOf];omega
    ·have hne:(S (s i) != st i)=true:=by rw[bne_iff_ne];exact he
     have HE:Hid (F=true):=HF.out.symm.trans (z1D hlt (by rw[hh,decide_eq_false he];rfl));clear hRI hh hat he HK;go_wp2;go_ret;exact⟨z0w (by rw[HE.out];rfl),hb4⟩
  ·have HE:Hid (F=false):=by
    have e:i=n:=by omega
    subst e;exact HF.out.symm.trans HK.out
   clear hr1 HK;go_wp2;go_ret;exact⟨z0w (by rw[HE.out];simp),hb2⟩
end Go.Proofs.YtbcpcbonlhlhpaaGreatDoor
namespace Go.Proofs.YtbcpcbonlhlhpaaGreatDoor
open Go.RowKit Go.Maps
theorem refFresh_any(B0:Nat)(w:World)(q:Nat)(L:List z0u)(k:Nat)(D:DataW Unit)(S:ByteArray->Int)(root:ByteArray)(n nq:Nat)(s:Nat->ByteArray)(st b:Nat->Int)(aP aQ:Option Addr)(cP cQ:Nat)(h:RAt B0 w q L k)(hL:L.length<=1000)(hA:z3I D L)(hI:Inv D k)(hS:z3q D S)(hn:n<=1000)(hr:StmRow w aP n s st b) :
 Calls Tryz.prog 42 #[.agg #[.string root,.slice aP n cP,.slice aQ nq cQ],.pointer (some ⟨q,0,none⟩)] w fun e w'=>e=.returned (.bool (!z0R D S s st n&&decide (0<n)))/\Below w.heap.size w w':=by
 generalize hF:z0R D S s st n=F;have HF:Hid (z0R D S s st n=F):=hF;clear hF;have hb0:Below w.heap.size w (w.alloc (.cells #[.string root,.slice aP n cP,.slice aQ nq cQ] 71)):=(Below.refl _ _).alloc (Nat.le_refl _) _;have e1:(w.alloc (.cells #[.string root,.slice aP n cP,.slice aQ nq cQ] 71)).cell? ⟨w.heap.size,1,none⟩=some (.slice aP n cP):=by simp[go_sem]
 have h1:=h.later hb0;have hr1:=hr.later hb0;clear h hr;go_enter Tryz.func42,Tryz.ntmps42;go_wp2;generalize w.alloc (.cells #[.string root,.slice aP n cP,.slice aQ nq cQ] 71)=W at *;go_loopw [5,6,7,8] (fun y _ _ _ wr=>∃i:Nat,i<=n/\y=.int .i64 i/\Hid (z0R D S s st i=false)/\Below W.heap.size W wr) (fun y _ _ _ _=>n-(intOf y).toNat)
 case atStart=>exact⟨0,Nat.zero_le _,rfl,rfl,Below.refl _ _⟩
 case round=>
  obtain⟨i,hi,rfl,HK,hb⟩:=hrel;have hb2:Below w.heap.size w wr:=hb0.trans (hb.mono hb0.size);have e1r:=cell_later hb e1;by_cases hlt:i<n
  ·have hr2:=hr1.later hb;rcases hr2 with h0|⟨bk,o,rfl,hc⟩
   ·omega
   obtain⟨x0,x1,x2⟩:=hc i hlt;have hi0:(0:Int)<=(i:Int):=by omega
   have hi1:(i:Int)<(n:Int):=by omega
   have HR:=readR_is B0 wr q L k D (s i) (h1.later hb) hL hA hI;clear hc hr1;go_wp2_with fail;refine(show Calls _ _ _ _ _ from HR).mono ?_;rintro e w2 ⟨⟨t,nst,f,rfl,hRI⟩,hb3⟩;replace e1r:=cell_later hb3 e1r;replace x1:=cell_later hb3 x1;have hb4:=hb2.trans (hb3.mono hb2.size);have hb5:=hb.trans (hb3.mono hb.size);clear HR x0 x2;cases hh:Maps.has D (keyB (s i))with
   |false=>
    obtain⟨rfl,rfl,rfl⟩:=hRI.no hh;have HE:Hid (F=true):=HF.out.symm.trans (z1D hlt (by rw[hh];rfl));clear hRI hh;go_wp2;go_ret;exact⟨z0w (by rw[HE.out];rfl),hb4⟩
   |true=>
    obtain⟨rfl,hat⟩:=hRI.yes hh;obtain rfl:=hS.is (s i) _ nst hh hat;by_cases he:S (s i)=st i
    ·have hne:(S (s i) != st i)=false:=by rw[bne_eq_false_iff_eq];exact he
     have HE:Hid (z0R D S s st (i+1)=false):=z2U HK.out (by rw[hh,decide_eq_true he];rfl);clear hRI hh hat he HK;go_wp2;go_roundw
     case rel=>exact⟨i+1,by omega,by go_num,HE,hb5⟩
     case measure=>simp[intOf];omega
    ·have hne:(S (s i) != st i)=true:=by rw[bne_iff_ne];exact he
     have HE:Hid (F=true):=HF.out.symm.trans (z1D hlt (by rw[hh,decide_eq_false he];rfl));clear hRI hh hat he HK;go_wp2;go_ret;exact⟨z0w (by rw[HE.out];rfl),hb4⟩
  ·have HE:Hid (F=false):=by
    have e:i=n:=by omega
    subst e;exact HF.out.symm.trans HK.out
   clear hr1 HK;go_wp2;go_ret;exact⟨z0w (by rw[HE.out];simp),hb2⟩
inductive RMadeEnd (w:World) (B0:Nat) (rd:ByteArray->Nat×ObjF) (S:ByteArray->Int) (root:ByteArray):Ending->Prop
 |bad (F:Nat) (h:ReckIs rd root F) (hf:F≠0):RMadeEnd w B0 rd S root (.returned (.tuple #[.agg #[.string ⟨#[]⟩,.slice none 0 0,.slice none 0 0],.int .i64 (F:Int)]))
 |ok (m:Nat) (B:Nat->Int) (P Q:ByteArray->Int) (aP aQ:Option Addr) (cP cQ:Nat) (h:z0Z rd root m B P Q) (hp:w.ownsRow B0 112 3 (.slice aP m cP) m (z0i (stmC (nmAt rd root) S B) m))
  (hq:w.ownsRow B0 114 3 (.slice aQ (z0l rd root m B P Q).length cQ) (z0l rd root m B P Q).length (z3x (z0l rd root m B P Q))):RMadeEnd w B0 rd S root (.returned (.tuple #[.agg #[.string root,.slice aP m cP,.slice aQ (z0l rd root m B P Q).length cQ],.int .i64 0]))
theorem refEntry_any(B0:Nat)(w:World)(q:Nat)(L:List z0u)(k:Nat)(D:DataW Unit)(T:ByteArray->ByteArray)(S:ByteArray->Int)(root:ByteArray)(h:RAt B0 w q L k)(hL:L.length<=1000)(hA:z3I D L)(hI:Inv D k)(hT:z4C D T)(hSt:z3q D S) :
 Calls Tryz.prog 40 #[.pointer (some ⟨q,0,none⟩),.string root] w fun e w'=>RMadeEnd w' w.heap.size (rdD D T) S root e/\Below w.heap.size w w':=by
 have hb0:Below w.heap.size w (w.alloc (.cells #[.string ⟨#[]⟩,.slice none 0 0,.slice none 0 0] 71)):=(Below.refl _ _).alloc (Nat.le_refl _) _;have HR:=refLoaded_any B0 (w.alloc (.cells #[.string ⟨#[]⟩,.slice none 0 0,.slice none 0 0] 71)) q L k D T root (h.later hb0) hL hA hI hT;have hfew:=z6y (T:=T) hI;have hres0:(w.alloc (.cells #[.string ⟨#[]⟩,.slice none 0 0,.slice none 0 0] 71)).heap[w.heap.size]?=some (.cells #[.string ⟨#[]⟩,.slice none 0 0,.slice none 0 0] 71 (0,0)):=by
  show(w.heap.push _)[w.heap.size]?=_;rw[Array.getElem?_push_size]
 have hsz0:(w.alloc (.cells #[.string ⟨#[]⟩,.slice none 0 0,.slice none 0 0] 71)).heap.size=w.heap.size+1:=by simp
 go_enter Tryz.func40,Tryz.ntmps40;go_wp2_with fail;refine(show Calls _ _ _ _ _ from HR).mono ?_;rintro e w1 ⟨he,hb1⟩;rw[hsz0]at he hb1;have hbw:=hb0.trans (hb1.mono (by omega));have hres1:w1.heap[w.heap.size]?=some (.cells #[.string ⟨#[]⟩,.slice none 0 0,.slice none 0 0] 71 (0,0)):=(hb1.block _ (by omega)).trans hres0;clear HR hb0 hres0 hsz0;cases he with
 |bad F hR hf=>
  have hpos:(0:Int)<(F:Int):=by omega
  have q0:w1.cell? ⟨w.heap.size,0,none⟩=some (.string ⟨#[]⟩):=by simp[World.cell?,hres1]
  have q1:w1.cell? ⟨w.heap.size,1,none⟩=some (.slice none 0 0):=by simp[World.cell?,hres1]
  have q2:w1.cell? ⟨w.heap.size,2,none⟩=some (.slice none 0 0):=by simp[World.cell?,hres1]
  have f0:w1.frozen? ⟨w.heap.size,0,none⟩=false:=by simp[World.frozen?,hres1]
  have f1:w1.frozen? ⟨w.heap.size,1,none⟩=false:=by simp[World.frozen?,hres1]
  have f2:w1.frozen? ⟨w.heap.size,2,none⟩=false:=by simp[World.frozen?,hres1]
  have hNB:=z5j hbw (Nat.le_refl w.heap.size) (.string ⟨#[]⟩) (.slice none 0 0) (.slice none 0 0);have HRR:Hid (ReckIs (rdD D T) root F):=hR;clear hR hT hSt hfew;go_wp2;refine bodyPost_ret (v:=.tuple #[.agg #[.string ⟨#[]⟩,.slice none 0 0,.slice none 0 0],.int .i64 (F:Int)]) (by simp[results,Tryz.results40,go_sem,q0,q1,q2]) rfl ?_;exact⟨.bad F HRR.out hf,hNB⟩
 |ok m B P Q u pv A C hR hu hp=>
  obtain⟨hS,hlen,hnm⟩:=z4s hR.of hfew;have hm6:=hS.few;have hhas:∀j,j<m->Maps.has D (keyB (nmAt (rdD D T) root j))=true:=fun j hj=>rd_has (by rw[hS.read j hj])
  obtain⟨ua,uc,rfl,_,hur⟩:=hu.rows;obtain⟨pa,pc,rfl,_⟩:=z0c hp;have hF1:=h.later hbw;have hsz1:w.heap.size<w1.heap.size:=(Array.getElem?_eq_some_iff.1 hres1).1;have hb4:Below w1.heap.size w1 (w1.alloc (.cells #[.string root,.slice none 0 0,.slice pa (z0l (rdD D T) root m B P Q).length pc] 71)):=(Below.refl _ _).alloc (Nat.le_refl _) _;have hM0:z6k (w1.alloc (.cells #[.string root,.slice none 0 0,.slice pa (z0l (rdD D T) root m B P Q).length pc] 71)) (w1.alloc (.cells #[.string root,.slice none 0 0,.slice pa (z0l (rdD D T) root m B P Q).length pc] 71)) w1.heap.size root (.slice pa (z0l (rdD D T) root m B P Q).length pc) (nmAt (rdD D T) root) S B 0 (.slice none 0 0):=⟨by
   show(w1.heap.push _)[w1.heap.size]?=_;rw[Array.getElem?_push_size],World.ownsRow_nil _ _ _ _,Below.refl _ _⟩
  generalize hlE:z0l (rdD D T) root m B P Q=l at *;generalize hnE:nmAt (rdD D T) root=nm at *;have HLE:Hid (z0l (rdD D T) root m B P Q=l):=hlE;have HNE:Hid (nmAt (rdD D T) root=nm):=hnE;clear hlE hnE;clear hS hlen hnm hu h hfew;go_wp2;generalize w1.alloc (.cells #[.string root,.slice none 0 0,.slice pa l.length pc] 71)=w4 at *;go_loopw [10,11,12,13] (fun y _ _ _ wr=>∃(i:Nat) (v:Value),i<=m/\y=.int .i64 i/\z6k w4 wr w1.heap.size root (.slice pa l.length pc) nm S B i v) (fun y _ _ _ _=>m-(intOf y).toNat)
  case atStart=>exact⟨0,_,Nat.zero_le _,rfl,hM0⟩
  case round=>
   obtain⟨i,v,hi,rfl,hM⟩:=hrel;obtain⟨av,cv,rfl,_⟩:=z0c hM.own;have hbr4:Below w1.heap.size w1 wr:=hb4.trans (hM.below);by_cases hlt:i<m
   ·rcases hur.later hbr4 with h0|⟨bu,ou,rfl,hcu⟩
    ·omega
    obtain⟨hn2,hv2,_,_⟩:=hcu i hlt;have hi0:(0:Int)<=(i:Int):=by omega
    have hi1:(i:Int)<(m:Int):=by omega
    have HRd:=readR_is B0 wr q L k D (nm i) (hF1.later hbr4) hL hA hI;clear hur hcu;go_wp2_with fail;refine(show Calls _ _ _ _ _ from HRd).mono ?_;rintro e w9 ⟨⟨t,nst,f,rfl,hRI⟩,hb9⟩;obtain⟨rfl,ht⟩:=hRI.yes (hhas i hlt);obtain rfl:=hSt.is (nm i) _ nst (hhas i hlt) ht;have hM9:=hM.later hb9;have hn9:=cell_later hb9 hn2;have hv9:=cell_later hb9 hv2;have hMd:z6k w4 w9.drew w1.heap.size root (.slice pa l.length pc) nm S B i (.slice av i cv):=hM9.later (Below.refl _ _).drew;obtain⟨v',W,happ,g0,gz,hMn⟩:=hMd.grow (by omega);obtain⟨av2,cv2,rfl,_⟩:=z0c hMn.own;have hC:w9.cell? ⟨w1.heap.size,1,none⟩=some (.slice av i cv):=by simp[World.cell?,hM9.blk]
    have hlt9:w1.heap.size<w9.heap.size:=(Array.getElem?_eq_some_iff.1 hM9.blk).1;clear HRd hRI ht hM hMd hM9 hn2 hv2 hhas hb9;go_wp2;go_region_law (refine step_run rfl (.tmp 46) (.tmp 59) 68 rfl (.slice av i cv) (.slice (some ⟨w9.heap.size,0,none⟩) 1 1) _ rfl rfl happ ?_)
    all_goals
     go_wp2;go_roundw
     case rel=>exact⟨i+1,_,by omega,by go_num,hMn⟩
     case measure=>simp[intOf];omega
   ·have e:i=m:=by omega
    subst e;have hres:wr.heap[w.heap.size]?=some (.cells #[.string ⟨#[]⟩,.slice none 0 0,.slice none 0 0] 71 (0,0)):=(hbr4.block _ hsz1).trans hres1;have q0:wr.cell? ⟨w.heap.size,0,none⟩=some (.string ⟨#[]⟩):=by simp[World.cell?,hres]
    have q1:wr.cell? ⟨w.heap.size,1,none⟩=some (.slice none 0 0):=by simp[World.cell?,hres]
    have q2:wr.cell? ⟨w.heap.size,2,none⟩=some (.slice none 0 0):=by simp[World.cell?,hres]
    have f0:wr.frozen? ⟨w.heap.size,0,none⟩=false:=by simp[World.frozen?,hres]
    have f1:wr.frozen? ⟨w.heap.size,1,none⟩=false:=by simp[World.frozen?,hres]
    have f2:wr.frozen? ⟨w.heap.size,2,none⟩=false:=by simp[World.frozen?,hres]
    have e0:wr.cell? ⟨w1.heap.size,0,none⟩=some (.string root):=by simp[World.cell?,hM.blk]
    have e1:wr.cell? ⟨w1.heap.size,1,none⟩=some (.slice av i cv):=by simp[World.cell?,hM.blk]
    have e2:wr.cell? ⟨w1.heap.size,2,none⟩=some (.slice pa l.length pc):=by simp[World.cell?,hM.blk]
    have hNB:=z5j (hbw.trans (hbr4.mono hbw.size)) (Nat.le_refl w.heap.size) (.string root) (.slice av i cv) (.slice pa l.length pc);have hO1:=z6h (World.ownsRow.mono hM.own (show w.heap.size<=w1.heap.size+1 by omega)) hres (by decide) (.string root) (.slice av i cv) (.slice pa l.length pc);have hO2:=z6h (World.ownsRow.mono (z0e hp hbr4) (Nat.le_succ w.heap.size)) hres (by decide) (.string root) (.slice av i cv) (.slice pa l.length pc);clear hM hres hur hp;go_wp2;refine bodyPost_ret (v:=.tuple #[.agg #[.string root,.slice av i cv,.slice pa l.length pc],.int .i64 0]) (by simp[results,Tryz.results40,go_sem,q0,q1,q2]) rfl ?_;have hl1:=HLE.out;have hn1:=HNE.out;subst hl1;subst hn1;exact⟨.ok i B P Q av pa cv pc hR hO1 hO2,hNB⟩
end Go.Proofs.YtbcpcbonlhlhpaaGreatDoor
