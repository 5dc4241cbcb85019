/- What Lay of package image returns: parts, their words -/
import Derived.Test.YtbcpcbonlhlhpaaGreatDoorPutBoth
import Derived.Test.YtbcpcbonlhlhpaaGreatDoorBothAt
import Derived.Deep.Onto
set_option maxRecDepth 100000
set_option maxHeartbeats 4000000
namespace Go.Proofs.YtbcpcbonlhlhpaaGreatDoor
open Go.RowKit
def z4Z (nm:Nat->ByteArray)(B:Nat->Int)(A:Nat->Option Addr)(M C:Nat->Nat)(i:Nat):List Value:=[.string (nm i),.int .i64 (B i),.slice (A i) (M i) (C i)]
theorem growPart{B0:Nat}{w:World}{v:Value}{n:Nat}{xs:List Value}(s:ByteArray)(x:Int)(a:Option Addr)(m c:Nat)(hB:B0<=w.heap.size)(h:w.ownsRow B0 110 3 v n xs)(hn:n<1000) :
 ∃v' W,(Builtin.append_ #[64,64] 64 #[v,.slice (some ⟨w.heap.size,0,none⟩) 1 1]).run Tryz.prog (w.alloc (.cells #[.string s,.int .i64 x,.slice a m c] 110))=.ok v' W/\Grown B0 110 3 (w.alloc (.cells #[.string s,.int .i64 x,.slice a m c] 110)) v (n+1) (xs++[.string s,.int .i64 x,.slice a m c]) v' W:=
 z0J 64 110 3 48 (.agg #[.string ⟨#[]⟩,.int .i64 0,.slice none 0 0]) (by kernel_rfl) (by kernel_rfl) (by rfl) (by decide) B0 _ v n _ (h.alloc _) (some ⟨w.heap.size,0,none⟩) 1 1 [.string s,.int .i64 x,.slice a m c] rfl
  (.inr ⟨_,_,rfl,fun j u hj=>by
    match j,hj with
    |0,hj=>simp at hj;subst hj;simp[go_sem]
    |1,hj=>simp at hj;subst hj;simp[go_sem]
    |2,hj=>simp at hj;subst hj;simp[go_sem]
    |j+3,hj=>simp at hj⟩) (fun u hu=>by simp at hu;rcases hu with rfl|rfl|rfl <;> rfl) (by simp;omega) (by omega) (by decide)
inductive LayEnd (w:World) (B0 n:Nat) (nm:Nat->ByteArray) (B:Nat->Int) (O:Nat->ObjF) (np:Nat) (p t v:Nat->Int):Ending->Prop
 |bad (h:BadAt (fun k=>z7e n (fun i=>(O i).nW) (p k) (t k)) np):LayEnd w B0 n nm B O np p t v (.returned (.tuple #[.slice none 0 0,errV 1]))
 |ok (u:Value) (g:Nat) (A:Nat->Option Addr) (C G:Nat->Nat) (h:AllOk (fun k=>z7e n (fun i=>(O i).nW) (p k) (t k)) np) (ho:z4V w B0 g n (fun i=>(O i).nW) A C G (putF (fun i j=>(O i).words j) p t v np))
  (hu:w.ownsRow B0 110 3 u n (z0i (z4Z nm B A (fun i=>(O i).nW) C) n)):LayEnd w B0 n nm B O np p t v (.returned (.tuple #[u,.nilIface]))
theorem lay_any(an ab al ap:Option Addr)(n cn cb cl np cp:Nat)(nm:Nat->ByteArray)(B:Nat->Int)(V:Nat->ObjV)(O:Nat->ObjF)(p t v:Nat->Int)(w:World)(hn:n<=1000)(hM:∀i,i<n->(O i).nW<=1000)(hnp:np<=1000)
 (hrn:z1z w an n fun i=>.string (nm i)) (hrb:z1z w ab n fun i=>.int .i64 (B i)) (hro:z3U w al n V O) (hrp:z6m w ap np p t v) :
 Calls Tryz.prog 209 #[.slice an n cn,.slice ab n cb,.slice al n cl,.slice ap np cp] w fun e w'=>LayEnd w' w.heap.size n nm B O np p t v e/\Below w.heap.size w w':=by
 have HW:=wordsOf_any al n cl V O w hn hro;have h1:((n:Int) != (n:Int))=false:=by simp
 go_enter Tryz.func209,Tryz.ntmps209;go_wp2_with fail;refine HW.mono ?_;rintro e w1 ⟨⟨v1,rfl,ho1⟩,hb1⟩;have hA:∀i,i<n->z1C w1 (V i) (O i):=fun i hi=>by
  rcases hro with h0|⟨bk,o,_,hc⟩
  ·omega
  ·exact(hc i hi).here.later hb1
 obtain⟨a1,c1,rfl,_,hl1⟩:=rows_wd ho1 hA;have HP:=put_any a1 ap n c1 np cp (fun i=>(V i).aW) (fun i=>(O i).nW) (fun i=>(V i).cW) (fun i j=>(O i).words j) p t v w1 hn hM hnp hl1 (hrp.later hb1);clear HW ho1 hA hl1 hro hrp;go_wp2_with fail;refine HP.mono ?_;rintro e w2 ⟨he,hb2⟩;have hb3:=hb1.trans (hb2.mono hb1.size);clear HP;cases he with
 |bad h=>
  have q1:errV 1=.iface 43 (.int .i64 1):=rfl;rw[q1];go_wp2;go_ret2;rw[<-q1];exact⟨.bad h,hb3⟩
 |ok g A C G h ho=>
  have hrn2:=hrn.later hb3;have hrb2:=hrb.later hb3;clear hrn hrb hb2;go_wp2;go_loopw [12,40] (fun x z wr=>∃(k:Nat) (u:Value),k<=n/\z=.int .i64 k/\x=u/\wr.ownsRow w2.heap.size 110 3 u k (z0i (z4Z nm B A (fun i=>(O i).nW) C) k)/\Below w2.heap.size w2 wr) (fun _ z _=>n-(intOf z).toNat)
  case atStart=>exact⟨0,.slice none 0 0,Nat.zero_le _,rfl,rfl,World.ownsRow_nil _ _ _ _,Below.refl _ _⟩
  case round=>
   obtain⟨k,u,hk,rfl,rfl,hu,hb⟩:=hrel;by_cases hlt:k<n
   ·have hrn3:=hrn2.later hb;have hrb3:=hrb2.later hb;have htop:=(ho.later hb).top k hlt;rcases hrn3 with h0|⟨bn,on,rfl,hcn⟩
    ·omega
    rcases hrb3 with h0|⟨bb,ob,rfl,hcb⟩
    ·omega
    have d0:=hcn k hlt;have d1:=hcb k hlt;have hB:=hb.size;have hu':wr.drew.ownsRow w2.heap.size 110 3 u12 k (z0i (z4Z nm B A (fun i=>(O i).nW) C) k):=hu;obtain⟨v3,W3,happ,hG⟩:=growPart (w:=wr.drew) (nm k) (B k) (A k) (O k).nW (C k) hB hu' (by omega);have hu3:W3.ownsRow w2.heap.size 110 3 v3 (k+1) (z0i (z4Z nm B A (fun i=>(O i).nW) C) (k+1)):=hG.own;have hb4:Below w2.heap.size w2 W3:=(hb.drew.alloc hB _).trans hG.below;clear hcn hcb hG hu hu' hb;go_wp2;go_region_law (refine step_run rfl (.tmp 45) (.tmp 56) 64 rfl u12 (.slice (some ⟨wr.heap.size,0,none⟩) 1 1) _ rfl rfl happ ?_)
    all_goals
     go_wp2;go_roundw
     case rel=>exact⟨k+1,v3,by omega,by go_num,rfl,hu3,hb4⟩
     case measure=>simp[intOf];omega
   ·have e:k=n:=by omega
    subst e;have hBz:w.heap.size<=w2.heap.size:=hb3.size;have hu2:wr.ownsRow w.heap.size 110 3 u12 k (z0i (z4Z nm B A (fun i=>(O i).nW) C) k):=⟨hu.1,by
     rcases hu.2 with h|⟨g,cap,cur,h1,h2,h3⟩
     ·exact .inl h
     ·exact .inr ⟨g,cap,cur,h1,Nat.le_trans hBz h2,h3⟩⟩
    have ho2:=ho.later hb;have hw1:=hb1.size;go_wp2;go_ret2;exact⟨.ok _ g A C G h {ho2 with hB:=Nat.le_trans hw1 ho2.hB,own:=fun i hi hm=>Nat.le_trans hw1 (ho2.own i hi hm)} hu2,hb3.trans (hb.mono hb3.size)⟩
end Go.Proofs.YtbcpcbonlhlhpaaGreatDoor
namespace Go.Proofs.YtbcpcbonlhlhpaaGreatDoor
open Go.RowKit Go.Maps
abbrev obAt(rd:ByteArray->Nat×ObjF)(root:ByteArray)(j:Nat):ObjF:=(rd (nmAt rd root j)).2
abbrev szAt(rd:ByteArray->Nat×ObjF)(root:ByteArray)(j:Nat):Int:=((obAt rd root j).nW:Int)
inductive ReckIs (rd:ByteArray->Nat×ObjF) (root:ByteArray):Nat->Prop
 |of {F:Nat} (i:Nat) (h:OfIs rd root F i) (hf:F≠0):ReckIs rd root F
 |bases {F:Nat} (m:Nat) (B:Nat->Int) (h:OfIs rd root 0 m) (hb:BasesAre m (szAt rd root) 0 (fun _=>0) (fun _=>0) F B) (hf:F≠0):ReckIs rd root F
 |all {F:Nat} (m:Nat) (B:Nat->Int) (P Q:ByteArray->Int) (h:OfIs rd root 0 m) (hb:BasesAre m (szAt rd root) 0 (fun _=>0) (fun _=>0) 0 B) (hz:∀j,m<=j->B j=0) (hP:z5p (z1T m (obAt rd root)) P Q) (he:allF m (obAt rd root) P Q m B=F) (hf:F≠0):ReckIs rd root F
structure z0Z (rd:ByteArray->Nat×ObjF)(root:ByteArray)(m:Nat)(B:Nat->Int)(P Q:ByteArray->Int):Prop where
 of:OfIs rd root 0 m
 bases:BasesAre m (szAt rd root) 0 (fun _=>0) (fun _=>0) 0 B
 zero:∀j,m<=j->B j=0
 finds:z5p (z1T m (obAt rd root)) P Q
 all:allF m (obAt rd root) P Q m B=0
theorem z5p.uniq{L:z3S}{P Q P' Q':ByteArray->Int}(h:z5p L P Q)(h':z5p L P' Q'):P=P'/\Q=Q':=
 ⟨funext fun s=>(h'.eq (h.is s)).1,funext fun s=>(h'.eq (h.is s)).2⟩
theorem bases_fun{m:Nat}{sz:Nat->Int}{B B':Nat->Int}(h:BasesAre m sz 0 (fun _=>0) (fun _=>0) 0 B)(h':BasesAre m sz 0 (fun _=>0) (fun _=>0) 0 B')(hz:∀j,m<=j->B j=0)(hz':∀j,m<=j->B' j=0):B=B':=
 funext fun j=>by
  by_cases e:j<m
  ·exact(h.unique h').2 rfl j e
  ·rw[hz j (by omega),hz' j (by omega)]
theorem ReckIs.unique{rd:ByteArray->Nat×ObjF}{root:ByteArray}{F G:Nat}(h:ReckIs rd root F)(h':ReckIs rd root G):F=G:=by
 cases h with
 |of i h hf=>
  cases h' with
  |of i' h' hf'=>exact(h.unique h').1
  |bases m' B' h' hb' hf'=>exact absurd (h.unique h').1 hf
  |all m' B' P' Q' h' hb' hz' hP' he' hf'=>exact absurd (h.unique h').1 hf
 |bases m B h hb hf=>
  cases h' with
  |of i' h' hf'=>exact absurd (h'.unique h).1 hf'
  |bases m' B' h' hb' hf'=>
   obtain⟨_,rfl⟩:=h.unique h';exact(hb.unique hb').1
  |all m' B' P' Q' h' hb' hz' hP' he' hf'=>
   obtain⟨_,rfl⟩:=h.unique h';exact absurd (hb.unique hb').1 hf
 |all m B P Q h hb hz hP he hf=>
  cases h' with
  |of i' h' hf'=>exact absurd (h'.unique h).1 hf'
  |bases m' B' h' hb' hf'=>
   obtain⟨_,rfl⟩:=h.unique h';exact absurd (hb'.unique hb).1 hf'
  |all m' B' P' Q' h' hb' hz' hP' he' hf'=>
   obtain⟨_,rfl⟩:=h.unique h';obtain rfl:=bases_fun hb hb' hz hz';obtain⟨rfl,rfl⟩:=hP.uniq hP';exact he.symm.trans he'
theorem ReckIs.not{rd:ByteArray->Nat×ObjF}{root:ByteArray}{F m:Nat}{B:Nat->Int}{P Q:ByteArray->Int}(h:ReckIs rd root F)(h':z0Z rd root m B P Q):False:=by
 cases h with
 |of i h hf=>exact hf (h.unique h'.of).1
 |bases m B h hb hf=>
  obtain⟨_,rfl⟩:=h.unique h'.of;exact hf (hb.unique h'.bases).1
 |all m B P Q h hb hz hP he hf=>
  obtain⟨_,rfl⟩:=h.unique h'.of;obtain rfl:=bases_fun hb h'.bases hz h'.zero;obtain⟨rfl,rfl⟩:=hP.uniq h'.finds;exact hf (he.symm.trans h'.all)
theorem z0Z.unique{rd:ByteArray->Nat×ObjF}{root:ByteArray}{m m':Nat}{B B':Nat->Int}{P Q P' Q':ByteArray->Int}(h:z0Z rd root m B P Q)(h':z0Z rd root m' B' P' Q'):m=m'/\B=B'/\P=P'/\Q=Q':=by
 obtain⟨_,rfl⟩:=h.of.unique h'.of;obtain rfl:=bases_fun h.bases h'.bases h.zero h'.zero;obtain⟨rfl,rfl⟩:=h.finds.uniq h'.finds;exact⟨rfl,rfl,rfl,rfl⟩
abbrev z0l (rd:ByteArray->Nat×ObjF)(root:ByteArray)(m:Nat)(B:Nat->Int)(P Q:ByteArray->Int):List (Nat×Int×Int):=z0A (obAt rd root) P Q B m
theorem patsOf_mem{O:Nat->ObjF}{P Q:ByteArray->Int}{B:Nat->Int}{i k:Nat}{x:Nat×Int×Int}(h:x∈z1E O P Q B i k):∃q,q<k/\x=(i,(O i).tAt q,(tieW O P Q B i q).2):=by
 induction k with
 |zero=>cases h
 |succ k ih=>
  rcases List.mem_append.1 h with h|h
  ·obtain⟨q,hq,e⟩:=ih h;exact⟨q,by omega,e⟩
  ·exact⟨k,by omega,by simpa using h⟩
theorem patsTo_mem{O:Nat->ObjF}{P Q:ByteArray->Int}{B:Nat->Int}{m:Nat}{x:Nat×Int×Int}(h:x∈z0A O P Q B m):∃i q,i<m/\q<(O i).nT/\x=(i,(O i).tAt q,(tieW O P Q B i q).2):=by
 induction m with
 |zero=>cases h
 |succ m ih=>
  rcases List.mem_append.1 h with h|h
  ·obtain⟨i,q,hi,hq,e⟩:=ih h;exact⟨i,q,by omega,hq,e⟩
  ·obtain⟨q,hq,e⟩:=patsOf_mem h;exact⟨m,q,by omega,hq,e⟩
def cutB(m:Nat)(b:Nat->Int):Nat->Int:=fun j=>if j<m then b j else 0
theorem cutB_is{m:Nat}{b:Nat->Int}{j:Nat}(h:j<m):b j=cutB m b j:=(if_pos h).symm
theorem cutB_zero{m:Nat}{b:Nat->Int}(j:Nat)(h:m<=j):cutB m b j=0:=if_neg (by omega)
theorem BasesAre.cut{m:Nat}{sz tf tm b:Nat->Int}{nt:Nat}(h:BasesAre m sz nt tf tm 0 b):BasesAre m sz nt tf tm 0 (cutB m b):=by
 obtain⟨h0,hl⟩:=h.laid rfl;exact .ok _ h0 fun j hj=>(hl j hj).congr fun i hi=>cutB_is (by omega)
end Go.Proofs.YtbcpcbonlhlhpaaGreatDoor
namespace Go.Proofs.YtbcpcbonlhlhpaaGreatDoor
open Go.RowKit Go.Maps
theorem z5i {fn:Func}{t u v x y:Tmp}(h:fn.results=#[.tmp t,.tmp u,.tmp v,.tmp x,.tmp y])(tmps:Array Value)(P:Program)(w:World) :
 (results fn tmps).run P w=.ok (.tuple #[tmps.getD t undef,tmps.getD u undef,tmps.getD v undef,tmps.getD x undef,tmps.getD y undef]) w:=by
 simp[results,h]
inductive ReckEnd (w:World) (B0:Nat) (rd:ByteArray->Nat×ObjF) (root:ByteArray):Ending->Prop
 |bad (F:Nat) (h:ReckIs rd root F) (hf:F≠0):ReckEnd w B0 rd root (.returned (.tuple #[.slice none 0 0,.slice none 0 0,.slice none 0 0,.slice none 0 0,errV F]))
 |ok (m:Nat) (B:Nat->Int) (P Q:ByteArray->Int) (u x b p:Value) (V:Nat->ObjV) (h:z0Z rd root m B P Q) (hu:z5n w B0 u (z0g rd root m)) (hx:ObjsIn w B0 x m V (obAt rd root))
  (hb:w.ownsRow B0 3 1 b m (z0i (intC B) m)) (hp:w.ownsRow B0 114 3 p (z0l rd root m B P Q).length (z3x (z0l rd root m B P Q))):ReckEnd w B0 rd root (.returned (.tuple #[u,x,b,p,.nilIface]))
theorem ObjsIn.below{w w':World}{B n:Nat}{x:Value}{V:Nat->ObjV}{O:Nat->ObjF}(h:ObjsIn w B x n V O)(hb:Below w.heap.size w w'):ObjsIn w' B x n V O:=⟨z0e h.own hb,fun j hj=>(h.at' j hj).later hb⟩
theorem reckon_any(w:World)(p bm:Nat)(D:DataW Unit)(k:Nat)(T:ByteArray->ByteArray)(root:ByteArray)(h:z0q w p bm D k)(hI:Inv D k)(hT:z4C D T)(hE:Env w)(hroot:root.size<=maxLen) :
 Calls Tryz.prog 143 #[.pointer (some ⟨p,0,none⟩),.string root] w fun e w'=>ReckEnd w' w.heap.size (rdD D T) root e/\Below w.heap.size w w':=by
 have HO:=of_any w p bm D k T root h hI hT hE hroot;have hfew:=z6y (T:=T) hI;go_enter Tryz.func143,Tryz.ntmps143;go_wp2_with fail;refine HO.mono ?_;rintro e w1 ⟨he,hb1⟩;clear HO h hT hE hroot hI;cases he with
 |bad F i h hf=>
  obtain⟨z,hz⟩:=z5V hf;rw[hz];go_wp2
  (try simp only[Exit.inBlock,Exit.then])
  refine bodyPost_ret (z5i rfl _ _ _) rfl ?_;rw[<-hz];exact⟨.bad F (.of i h hf) hf,hb1⟩
 |ok m u x V h hu hx=>
  obtain⟨hS,hlen,hnm⟩:=z4s h hfew;have hok:∀j,j<m->z3J (obAt (rdD D T) root j):=fun j hj=>rd_ok (by rw[hS.read j hj])
  have hm6:=hS.few;clear hS hfew hlen hnm;obtain⟨xa,xc,rfl,_,hrow⟩:=hx.own.row hx.at';have HZ:=sizes_any xa m xc V (obAt (rdD D T) root) w1 (by omega) (fun i hi=>by have:=(hok i hi).nW;unfold maxLen;omega) hrow;go_wp2_with fail;refine HZ.mono ?_;rintro e w2 ⟨⟨v2,rfl,ho2⟩,hb2⟩;have hb12:=hb1.trans (hb2.mono hb1.size);obtain⟨a2,c2,rfl,_,hr2⟩:=z5a ho2;have HB:=bases_any (szAt (rdD D T) root) (fun _=>0) (fun _=>0) a2 none m c2 0 0 w2 (by unfold maxLen;omega) (by unfold maxLen;omega) hr2 (.inl rfl);have hu2:=z0e hu hb2;have hx2:=hx.below hb2;clear HZ ho2 hr2 hu hx hrow;go_wp2_with fail;refine HB.mono ?_;rintro e w3 ⟨he,hb3⟩;have hb13:=hb12.trans (hb3.mono hb12.size);have hu3:=z0e hu2 hb3;have hx3:=hx2.below hb3;clear HB hu2 hx2;cases he with
  |bad F B hf hB=>
   obtain⟨z,hz⟩:=z5V hf;rw[hz];go_wp2
   (try simp only[Exit.inBlock,Exit.then])
   refine bodyPost_ret (z5i rfl _ _ _) rfl ?_;rw[<-hz];exact⟨.bad F (.bases m B h hB hf) hf,hb13⟩
  |ok B v3 hB hv3=>
   obtain⟨P,Q,hP⟩:=finds_some (z1T m (obAt (rdD D T) root));have hBc:=hB.cut;have hz:=fun j=>cutB_zero (m:=m) (b:=B) j
   rw[z1f (h:=intC (cutB m B)) (fun i hi=>by unfold intC;rw[<-cutB_is (b:=B) hi])]at hv3;clear hB;generalize cutB m B=B' at *;obtain⟨xa,xc,hxe,_,hrow⟩:=hx3.own.row hx3.at';cases hxe;obtain⟨a3,c3,rfl,_,hr3⟩:=z5a hv3;have HA:=all_any xa a3 m xc m c3 V (obAt (rdD D T) root) B' P Q w3 (by omega) (by unfold maxLen;omega) hrow hr3 hok hP;clear hr3 hrow;go_wp2_with fail;refine HA.mono ?_;rintro e w4 ⟨he,hb4⟩;have hb14:=hb13.trans (hb4.mono hb13.size);have hu4:=z0e hu3 hb4;have hx4:=hx3.below hb4;have hv4:=z0e hv3 hb4;clear HA hu3 hx3 hv3;cases he with
   |bad hf=>
    obtain⟨z,hz2⟩:=z5V hf;rw[hz2];go_wp2
    (try simp only[Exit.inBlock,Exit.then])
    refine bodyPost_ret (z5i rfl _ _ _) rfl ?_;rw[<-hz2];exact⟨.bad _ (.all m B' P Q h hBc hz hP rfl hf) hf,hb14⟩
   |ok hf v4 ho4=>
    go_wp2
    (try simp only[Exit.inBlock,Exit.then])
    refine bodyPost_ret (z5i rfl _ _ _) rfl ?_;exact⟨.ok m B' P Q _ _ _ _ V ⟨h,hBc,hz,hP,hf⟩ hu4 hx4 (World.ownsRow.mono hv4 hb12.size) (World.ownsRow.mono ho4 hb13.size),hb14⟩
end Go.Proofs.YtbcpcbonlhlhpaaGreatDoor
namespace Go.Proofs.YtbcpcbonlhlhpaaGreatDoor
open Go.RowKit Go.Maps
abbrev z4m (rd:ByteArray->Nat×ObjF)(root:ByteArray)(m:Nat)(B:Nat->Int)(P Q:ByteArray->Int):Nat->Nat->Int:=
 putF (fun i j=>(obAt rd root i).words j) (pP (z0l rd root m B P Q)) (pT (z0l rd root m B P Q)) (pV (z0l rd root m B P Q)) (z0l rd root m B P Q).length
structure z5y (w:World)(B0:Nat)(v:Value)(n:Nat)(nm:Nat->ByteArray)(B:Nat->Int)(M:Nat->Nat)(X:Nat->Nat->Int)(g:Nat)(A:Nat->Option Addr)(C G:Nat->Nat):Prop where
 out:z4V w B0 g n M A C G X
 own:w.ownsRow B0 110 3 v n (z0i (z4Z nm B A M C) n)
inductive LoadEnd (w:World) (B0:Nat) (rd:ByteArray->Nat×ObjF) (root:ByteArray):Ending->Prop
 |bad (F:Nat) (h:ReckIs rd root F) (hf:F≠0):LoadEnd w B0 rd root (.returned (.tuple #[.slice none 0 0,errV F]))
 |ok (m:Nat) (B:Nat->Int) (P Q:ByteArray->Int) (u:Value) (g:Nat) (A:Nat->Option Addr) (C G:Nat->Nat) (h:z0Z rd root m B P Q)
  (hu:z5y w B0 u m (nmAt rd root) B (fun i=>(obAt rd root i).nW) (z4m rd root m B P Q) g A C G):LoadEnd w B0 rd root (.returned (.tuple #[u,.nilIface]))
theorem pats_ok{O:Nat->ObjF}{P Q:ByteArray->Int}{B:Nat->Int}{m:Nat}(h:∀j,j<m->z3J (O j)):AllOk (fun k=>z7e m (fun i=>(O i).nW) (pP (z0A O P Q B m) k) (pT (z0A O P Q B m) k)) (z0A O P Q B m).length:=fun k hk=>by
 have hm:(z0A O P Q B m).getD k (0,0,0)∈z0A O P Q B m:=by
  rw[List.getD_eq_getElem?_getD,List.getElem?_eq_getElem hk];exact List.getElem_mem hk
 obtain⟨i,q,hi,hq,e⟩:=patsTo_mem hm;have ht:=(h i hi).ties q hq;show(z0j ((z0A O P Q B m).getD k (0,0,0)).1 (m:Int)&&z0j ((z0A O P Q B m).getD k (0,0,0)).2.1 ((O (((z0A O P Q B m).getD k (0,0,0)).1:Int).toNat).nW:Int))=true;rw[e];show(z0j (i:Int) (m:Int)&&z0j ((O i).tAt q) ((O (i:Int).toNat).nW:Int))=true;rw[Int.toNat_natCast];simp only[z0j,Bool.and_eq_true,decide_eq_true_eq];omega
theorem load_any(w:World)(p bm:Nat)(D:DataW Unit)(k:Nat)(T:ByteArray->ByteArray)(root:ByteArray)(h:z0q w p bm D k)(hI:Inv D k)(hT:z4C D T)(hE:Env w)(hroot:root.size<=maxLen) :
 Calls Tryz.prog 150 #[.pointer (some ⟨p,0,none⟩),.string root] w fun e w'=>LoadEnd w' w.heap.size (rdD D T) root e/\Below w.heap.size w w':=by
 have HR:=reckon_any w p bm D k T root h hI hT hE hroot;have hfew:=z6y (T:=T) hI;go_enter Tryz.func150,Tryz.ntmps150;go_wp2_with fail;refine HR.mono ?_;rintro e w1 ⟨he,hb1⟩;clear HR h hT hE hroot hI;cases he with
 |bad F h hf=>
  obtain⟨z,hz⟩:=z5V hf;rw[hz];go_wp2;go_ret2;rw[<-hz];exact⟨.bad F h hf,hb1⟩
 |ok m B P Q u x b p V h hu hx hb hp=>
  obtain⟨hS,hlen,hnm⟩:=z4s h.of hfew;have hok:∀j,j<m->z3J (obAt (rdD D T) root j):=fun j hj=>rd_ok (by rw[hS.read j hj])
  have hm6:=hS.few;obtain⟨xa,xc,rfl,_,hrow⟩:=hx.own.row hx.at';obtain⟨ua,uc,rfl,_,hur⟩:=z3H hu;obtain⟨ba,bc,rfl,_,hbr⟩:=z5a hb;obtain⟨pa,pc,rfl,_,hpr⟩:=rows_pat hp;rw[hlen]at hur ⊢;have hur2:z1z w1 ua m fun i=>.string (nmAt (rdD D T) root i):=by
   rcases hur with h0|⟨bk,o,ha,hc⟩
   ·exact .inl h0
   ·exact .inr ⟨bk,o,ha,fun i hi=>by rw[hc i hi];show some (Value.string _)=_;rw[hnm i hi]⟩
  have hnp:(z0l (rdD D T) root m B P Q).length<=1000:=by
   have:=z6H (O:=obAt (rdD D T) root) P Q B (i:=m) fun j hj=>(hok j hj).nT
   show(z0A (obAt (rdD D T) root) P Q B m).length<=1000;omega
  have HL:=lay_any ua ba xa pa m uc bc xc (z0l (rdD D T) root m B P Q).length pc (nmAt (rdD D T) root) B V (obAt (rdD D T) root) _ _ _ w1 (by omega) (fun i hi=>by have:=(hok i hi).nW;omega) hnp hur2 hbr hrow hpr;have hpo:=pats_ok (P:=P) (Q:=Q) (B:=B) hok;clear hur hur2 hbr hpr hrow hp hb hu hx hS hlen hnm hfew;go_wp2_with fail;refine HL.mono ?_;rintro e w2 ⟨he,hb2⟩;have hb12:=hb1.trans (hb2.mono hb1.size);clear HL;cases he with
  |bad hbad=>exact(hbad.not hpo).elim
  |ok u g A C G hal ho hu=>
   go_wp2;go_ret2;exact⟨.ok m B P Q _ g A C G h ⟨{ho with hB:=Nat.le_trans hb1.size ho.hB,own:=fun i hi hm=>Nat.le_trans hb1.size (ho.own i hi hm)},World.ownsRow.mono hu hb1.size⟩,hb12⟩
end Go.Proofs.YtbcpcbonlhlhpaaGreatDoor
namespace Go.Proofs.YtbcpcbonlhlhpaaGreatDoor
open Go.RowKit Go.Maps
structure z3q (D:DataW Unit)(S:ByteArray->Int):Prop where
 is:∀s t n,Maps.has D (keyB s)=true->D.atKey (keyB s) (z1s [] 0)=z1s t n->n=S s
theorem z4L {t t':List UInt8}{n n':Int}(h:z1s t n=z1s t' n'):n=n':=by
 simp[z1s]at h;exact h.2
theorem stamps_some(D:DataW Unit):∃S,z3q D S:=by
 have h:∀s:ByteArray,∃S:Int,∀t n,D.atKey (keyB s) (z1s [] 0)=z1s t n->n=S:=fun s=>by
  by_cases e:∃t n,D.atKey (keyB s) (z1s [] 0)=z1s t n
  ·obtain⟨t,n,e⟩:=e;exact⟨n,fun t' n' e'=>z4L (e'.symm.trans e)⟩
  ·exact⟨0,fun t n e'=>absurd ⟨t,n,e'⟩ e⟩
 obtain⟨f,hf⟩:=Classical.axiomOfChoice h;exact⟨f,⟨fun s t n _ he=>hf s t n he⟩⟩
theorem rd_has{D:DataW Unit}{T:ByteArray->ByteArray}{x:ByteArray}(h:(rdD D T x).1=0):Maps.has D (keyB x)=true:=by
 cases e:Maps.has D (keyB x)with
 |true=>rfl
 |false=>unfold rdD at h;rw[if_neg (by simp[e])]at h;cases h
def stmC(nm:Nat->ByteArray)(S:ByteArray->Int)(B:Nat->Int)(i:Nat):List Value:=[.string (nm i),.int .i64 (S (nm i)),.int .i64 (B i)]
theorem growStm{B0:Nat}{w:World}{v:Value}{n:Nat}{xs:List Value}(s:ByteArray)(x y:Int)(hB:B0<=w.heap.size)(h:w.ownsRow B0 112 3 v n xs)(hn:n<1000) :
 ∃v' W,(Builtin.append_ #[68,68] 68 #[v,.slice (some ⟨w.heap.size,0,none⟩) 1 1]).run Tryz.prog (w.alloc (.cells #[.string s,.int .i64 x,.int .i64 y] 112))=.ok v' W/\Grown B0 112 3 (w.alloc (.cells #[.string s,.int .i64 x,.int .i64 y] 112)) v (n+1) (xs++[.string s,.int .i64 x,.int .i64 y]) v' W:=
 z0J 68 112 3 32 (.agg #[.string ⟨#[]⟩,.int .i64 0,.int .i64 0]) (by kernel_rfl) (by kernel_rfl) (by rfl) (by decide) B0 _ v n _ (h.alloc _) (some ⟨w.heap.size,0,none⟩) 1 1 [.string s,.int .i64 x,.int .i64 y] rfl
  (.inr ⟨_,_,rfl,fun j u hj=>by
    match j,hj with
    |0,hj=>simp at hj;subst hj;simp[go_sem]
    |1,hj=>simp at hj;subst hj;simp[go_sem]
    |2,hj=>simp at hj;subst hj;simp[go_sem]
    |j+3,hj=>simp at hj⟩) (fun u hu=>by simp at hu;rcases hu with rfl|rfl|rfl <;> rfl) (by simp;omega) (by omega) (by decide)
structure z6k (w4 wr:World)(be:Nat)(root:ByteArray)(q:Value)(nm:Nat->ByteArray)(S:ByteArray->Int)(B:Nat->Int)(i:Nat)(v:Value):Prop where
 blk:wr.heap[be]?=some (.cells #[.string root,v,q] 71 (0,0))
 own:wr.ownsRow (be+1) 112 3 v i (z0i (stmC nm S B) i)
 below:Below be w4 wr
theorem z6k.later{w4 wr w':World}{be:Nat}{root:ByteArray}{q:Value}{nm:Nat->ByteArray}{S:ByteArray->Int}{B:Nat->Int}{i:Nat}{v:Value}(h:z6k w4 wr be root q nm S B i v)(hb:Below wr.heap.size wr w'):z6k w4 w' be root q nm S B i v:=
 ⟨(hb.block be (Array.getElem?_eq_some_iff.1 h.blk).1).trans h.blk,z0e h.own hb,h.below.trans (hb.mono (Nat.le_of_lt (Array.getElem?_eq_some_iff.1 h.blk).1))⟩
theorem z6k.grow{w4 wr:World}{be:Nat}{root:ByteArray}{q:Value}{nm:Nat->ByteArray}{S:ByteArray->Int}{B:Nat->Int}{i:Nat}{v:Value}(h:z6k w4 wr be root q nm S B i v)(hi:i<1000) :
 ∃v' W,(Builtin.append_ #[68,68] 68 #[v,.slice (some ⟨wr.heap.size,0,none⟩) 1 1]).run Tryz.prog (wr.alloc (.cells #[.string (nm i),.int .i64 (S (nm i)),.int .i64 (B i)] 112))=.ok v' W/\W.cell? ⟨be,1,none⟩=some v/\W.frozen? ⟨be,1,none⟩=false/\z6k w4 (W.setCell ⟨be,1,none⟩ v') be root q nm S B (i+1) v':=by
 have hlt:=(Array.getElem?_eq_some_iff.1 h.blk).1;obtain⟨v',W,happ,hG⟩:=growStm (nm i) (S (nm i)) (B i) (by omega) h.own hi;have hb2:Below (be+1) wr W:=((Below.refl (be+1) wr).alloc (by omega) _).trans hG.below;have hW:W.heap[be]?=some (.cells #[.string root,v,q] 71 (0,0)):=(hb2.block be (by omega)).trans h.blk;refine⟨v',W,happ,by simp[World.cell?,hW],by simp[World.frozen?,hW],heap_setCell W be 1 _ _ v' hW,z1m hG.own hW (by decide),?_⟩;exact(h.below.trans (hb2.mono (by omega))).trans ⟨rfl,rfl,rfl,by simp[World.setCell],fun k hk=>Below.heap_setCell _ _ _ _ (Nat.ne_of_lt hk)⟩
inductive MadeEnd (w:World) (B0:Nat) (rd:ByteArray->Nat×ObjF) (S:ByteArray->Int) (root:ByteArray):Ending->Prop
 |bad (F:Nat) (h:ReckIs rd root F) (hf:F≠0):MadeEnd w B0 rd S root (.returned (.tuple #[.agg #[.string ⟨#[]⟩,.slice none 0 0,.slice none 0 0],errV F]))
 |ok (m:Nat) (B:Nat->Int) (P Q:ByteArray->Int) (aP aQ:Option Addr) (cP cQ:Nat) (h:z0Z rd root m B P Q) (hp:w.ownsRow B0 112 3 (.slice aP m cP) m (z0i (stmC (nmAt rd root) S B) m))
  (hq:w.ownsRow B0 114 3 (.slice aQ (z0l rd root m B P Q).length cQ) (z0l rd root m B P Q).length (z3x (z0l rd root m B P Q))):MadeEnd w B0 rd S root (.returned (.tuple #[.agg #[.string root,.slice aP m cP,.slice aQ (z0l rd root m B P Q).length cQ],.nilIface]))
theorem z5j {B g:Nat}{w w':World}(h:Below B w w')(hg:B<=g)(a0 a1 a2:Value):Below B w (((w'.setCell ⟨g,0,none⟩ a0).setCell ⟨g,1,none⟩ a1).setCell ⟨g,2,none⟩ a2):=
 h.trans ⟨rfl,rfl,rfl,by simp[World.setCell],fun k hk=>((Below.heap_setCell _ _ _ _ (Nat.ne_of_lt (Nat.lt_of_lt_of_le hk hg))).trans (Below.heap_setCell _ _ _ _ (Nat.ne_of_lt (Nat.lt_of_lt_of_le hk hg)))).trans (Below.heap_setCell _ _ _ _ (Nat.ne_of_lt (Nat.lt_of_lt_of_le hk hg)))⟩
theorem z6h {w:World}{B s n g:Nat}{e t:TypeId}{v:Value}{xs:List Value}{c:Array Value}(h:w.ownsRow B e s v n xs)(hb:w.heap[g]?=some (.cells c t (0,0)))(hne:e≠t)(a0 a1 a2:Value):(((w.setCell ⟨g,0,none⟩ a0).setCell ⟨g,1,none⟩ a1).setCell ⟨g,2,none⟩ a2).ownsRow B e s v n xs:=
 have h0:=heap_setCell w g 0 c t a0 hb;have h1:=heap_setCell _ g 1 _ t a1 h0
 z1m (z1m (z1m h hb hne) h0 hne) h1 hne
theorem make_any(w:World)(p bm:Nat)(D:DataW Unit)(k:Nat)(T:ByteArray->ByteArray)(S:ByteArray->Int)(root:ByteArray)(h:z0q w p bm D k)(hI:Inv D k)(hT:z4C D T)(hSt:z3q D S)(hE:Env w)(hroot:root.size<=maxLen) :
 Calls Tryz.prog 103 #[.pointer (some ⟨p,0,none⟩),.string root] w fun e w'=>MadeEnd w' w.heap.size (rdD D T) S root e/\Below w.heap.size w w':=by
 have hb0:Below w.heap.size w (w.alloc (.cells #[.string ⟨#[]⟩,.slice none 0 0,.slice none 0 0] 71)):=(Below.refl _ _).alloc (Nat.le_refl _) _;have HR:=reckon_any (w.alloc (.cells #[.string ⟨#[]⟩,.slice none 0 0,.slice none 0 0] 71)) p bm D k T root (h.later hb0) hI hT (hE.later hb0) hroot;have hfew:=z6y (T:=T) hI;have hres0:(w.alloc (.cells #[.string ⟨#[]⟩,.slice none 0 0,.slice none 0 0] 71)).heap[w.heap.size]?=some (.cells #[.string ⟨#[]⟩,.slice none 0 0,.slice none 0 0] 71 (0,0)):=by
  show(w.heap.push _)[w.heap.size]?=_;rw[Array.getElem?_push_size]
 have hsz0:(w.alloc (.cells #[.string ⟨#[]⟩,.slice none 0 0,.slice none 0 0] 71)).heap.size=w.heap.size+1:=by simp
 go_enter Tryz.func103,Tryz.ntmps103;go_wp2_with fail;refine HR.mono ?_;rintro e w1 ⟨he,hb1⟩;rw[hsz0]at he hb1;have hbw:=hb0.trans (hb1.mono (by omega));have hres1:w1.heap[w.heap.size]?=some (.cells #[.string ⟨#[]⟩,.slice none 0 0,.slice none 0 0] 71 (0,0)):=(hb1.block _ (by omega)).trans hres0;clear HR hE hb0 hres0 hsz0;cases he with
 |bad F hR hf=>
  obtain⟨z,hz⟩:=z5V hf;rw[hz];have q0:w1.cell? ⟨w.heap.size,0,none⟩=some (.string ⟨#[]⟩):=by simp[World.cell?,hres1]
  have q1:w1.cell? ⟨w.heap.size,1,none⟩=some (.slice none 0 0):=by simp[World.cell?,hres1]
  have q2:w1.cell? ⟨w.heap.size,2,none⟩=some (.slice none 0 0):=by simp[World.cell?,hres1]
  have f0:w1.frozen? ⟨w.heap.size,0,none⟩=false:=by simp[World.frozen?,hres1]
  have f1:w1.frozen? ⟨w.heap.size,1,none⟩=false:=by simp[World.frozen?,hres1]
  have f2:w1.frozen? ⟨w.heap.size,2,none⟩=false:=by simp[World.frozen?,hres1]
  have hNB:=z5j hbw (Nat.le_refl w.heap.size) (.string ⟨#[]⟩) (.slice none 0 0) (.slice none 0 0);go_wp2;refine bodyPost_ret (v:=.tuple #[.agg #[.string ⟨#[]⟩,.slice none 0 0,.slice none 0 0],.iface 43 (.int .i64 z)]) (by simp[results,Tryz.results103,go_sem,q0,q1,q2]) rfl ?_;rw[<-hz];exact⟨.bad F hR hf,hNB⟩
 |ok m B P Q u x b pv V hR hu hx hb hp=>
  obtain⟨hS,hlen,hnm⟩:=z4s hR.of hfew;have hm6:=hS.few;have hok:∀j,j<m->z3J (obAt (rdD D T) root j):=fun j hj=>rd_ok (by rw[hS.read j hj])
  have hnz:∀j,j<m->(nmAt (rdD D T) root j).size<=maxLen:=fun j hj=>by
   by_cases h0:j=0
   ·subst h0;rw[hS.root];exact hroot
   ·obtain⟨q,z,hq,hz,e⟩:=hS.want j (by omega) hj;have h1:=z1k ((hok q (by omega)).needs z hz);rw[e]at h1;have:(nmAt (rdD D T) root j).data.toList.length=(nmAt (rdD D T) root j).size:=by simp
    simp only[maxLen];omega
  have hhas:∀j,j<m->Maps.has D (keyB (nmAt (rdD D T) root j))=true:=fun j hj=>rd_has (by rw[hS.read j hj])
  obtain⟨ua,uc,rfl,_,hur⟩:=z3H hu;obtain⟨ba,bc,rfl,_,hbr⟩:=z5a hb;obtain⟨pa,pc,rfl,_⟩:=z0c hp;rw[hlen]at hur ⊢;have hur2:z1z w1 ua m fun i=>.string (nmAt (rdD D T) root i):=by
   rcases hur with h0|⟨bk,o,ha,hc⟩
   ·exact .inl h0
   ·exact .inr ⟨bk,o,ha,fun i hi=>by rw[hc i hi];show some (Value.string _)=_;rw[hnm i hi]⟩
  have hF1:=h.later hbw;have hsz1:w.heap.size<w1.heap.size:=(Array.getElem?_eq_some_iff.1 hres1).1;have hb4:Below w1.heap.size w1 (w1.alloc (.cells #[.string root,.slice none 0 0,.slice pa (z0l (rdD D T) root m B P Q).length pc] 71)):=(Below.refl _ _).alloc (Nat.le_refl _) _;have hM0:z6k (w1.alloc (.cells #[.string root,.slice none 0 0,.slice pa (z0l (rdD D T) root m B P Q).length pc] 71)) (w1.alloc (.cells #[.string root,.slice none 0 0,.slice pa (z0l (rdD D T) root m B P Q).length pc] 71)) w1.heap.size root (.slice pa (z0l (rdD D T) root m B P Q).length pc) (nmAt (rdD D T) root) S B 0 (.slice none 0 0):=⟨by
   show(w1.heap.push _)[w1.heap.size]?=_;rw[Array.getElem?_push_size],World.ownsRow_nil _ _ _ _,Below.refl _ _⟩
  generalize hlE:z0l (rdD D T) root m B P Q=l at *;generalize hnE:nmAt (rdD D T) root=nm at *;have HLE:Hid (z0l (rdD D T) root m B P Q=l):=hlE;have HNE:Hid (nmAt (rdD D T) root=nm):=hnE;clear hlE hnE;clear hS hlen hnm hur hu hb hx h hfew hok;go_wp2;generalize w1.alloc (.cells #[.string root,.slice none 0 0,.slice pa l.length pc] 71)=w4 at *;go_loopw [34] (fun y wr=>∃(i:Nat) (v:Value),i<=m/\y=.int .i64 i/\z6k w4 wr w1.heap.size root (.slice pa l.length pc) nm S B i v) (fun y _=>m-(intOf y).toNat)
  case atStart=>exact⟨0,_,Nat.zero_le _,rfl,hM0⟩
  case round=>
   obtain⟨i,v,hi,rfl,hM⟩:=hrel;obtain⟨av,cv,rfl,_⟩:=z0c hM.own;have hbr4:Below w1.heap.size w1 wr:=hb4.trans (hM.below);by_cases hlt:i<m
   ·have hni:∃bu ou,ua=some ⟨bu,ou,none⟩/\w1.cell? ⟨bu,ou+i,none⟩=some (.string (nm i)):=by
     rcases hur2 with h0|⟨bu,ou,ha,hc⟩
     ·omega
     ·exact⟨bu,ou,ha,hc i hlt⟩
    have hbi:∃bv ov,ba=some ⟨bv,ov,none⟩/\w1.cell? ⟨bv,ov+i,none⟩=some (.int .i64 (B i)):=by
     rcases hbr with h0|⟨bu,ou,ha,hc⟩
     ·omega
     ·exact⟨bu,ou,ha,hc i hlt⟩
    obtain⟨bu,ou,rfl,hn1⟩:=hni;obtain⟨bv,ov,rfl,hv1⟩:=hbi;have hn2:=cell_later hbr4 hn1;have HRd:=z4b wr p bm D k (nm i) (hF1.later hbr4) (hnz i hlt);clear hur2 hbr;go_wp2_with fail;refine HRd.mono ?_;rintro e w9 ⟨⟨t,nst,f,rfl,hRI⟩,hb9⟩;obtain⟨rfl,ht⟩:=hRI.yes (hhas i hlt);obtain rfl:=hSt.is (nm i) _ nst (hhas i hlt) ht;have hM9:=hM.later hb9;have hn9:=cell_later hb9 hn2;have hv9:=cell_later hb9 (cell_later hbr4 hv1);have hMd:z6k w4 w9.drew w1.heap.size root (.slice pa l.length pc) nm S B i (.slice av i cv):=hM9.later (Below.refl _ _).drew;obtain⟨v',W,happ,g0,gz,hMn⟩:=hMd.grow (by omega);obtain⟨av2,cv2,rfl,_⟩:=z0c hMn.own;have hC:w9.cell? ⟨w1.heap.size,1,none⟩=some (.slice av i cv):=by simp[World.cell?,hM9.blk]
    have hlt9:w1.heap.size<w9.heap.size:=(Array.getElem?_eq_some_iff.1 hM9.blk).1;have q0:errV 0=.nilIface:=rfl;rw[q0];clear HRd hRI ht hM hMd hM9 hn1 hv1 hn2 q0 hhas hnz;go_wp2;go_region_law (refine step_run rfl (.tmp 52) (.tmp 63) 68 rfl (.slice av i cv) (.slice (some ⟨w9.heap.size,0,none⟩) 1 1) _ rfl rfl happ ?_)
    all_goals
     go_wp2;go_roundw
     case rel=>exact⟨i+1,_,by omega,by go_num,hMn⟩
     case measure=>simp[intOf];omega
   ·have e:i=m:=by omega
    subst e;have hres:wr.heap[w.heap.size]?=some (.cells #[.string ⟨#[]⟩,.slice none 0 0,.slice none 0 0] 71 (0,0)):=(hbr4.block _ hsz1).trans hres1;have q0:wr.cell? ⟨w.heap.size,0,none⟩=some (.string ⟨#[]⟩):=by simp[World.cell?,hres]
    have q1:wr.cell? ⟨w.heap.size,1,none⟩=some (.slice none 0 0):=by simp[World.cell?,hres]
    have q2:wr.cell? ⟨w.heap.size,2,none⟩=some (.slice none 0 0):=by simp[World.cell?,hres]
    have f0:wr.frozen? ⟨w.heap.size,0,none⟩=false:=by simp[World.frozen?,hres]
    have f1:wr.frozen? ⟨w.heap.size,1,none⟩=false:=by simp[World.frozen?,hres]
    have f2:wr.frozen? ⟨w.heap.size,2,none⟩=false:=by simp[World.frozen?,hres]
    have e0:wr.cell? ⟨w1.heap.size,0,none⟩=some (.string root):=by simp[World.cell?,hM.blk]
    have e1:wr.cell? ⟨w1.heap.size,1,none⟩=some (.slice av i cv):=by simp[World.cell?,hM.blk]
    have e2:wr.cell? ⟨w1.heap.size,2,none⟩=some (.slice pa l.length pc):=by simp[World.cell?,hM.blk]
    have hNB:=z5j (hbw.trans (hbr4.mono hbw.size)) (Nat.le_refl w.heap.size) (.string root) (.slice av i cv) (.slice pa l.length pc);have hO1:=z6h (World.ownsRow.mono hM.own (show w.heap.size<=w1.heap.size+1 by omega)) hres (by decide) (.string root) (.slice av i cv) (.slice pa l.length pc);have hO2:=z6h (World.ownsRow.mono (z0e hp hbr4) (Nat.le_succ w.heap.size)) hres (by decide) (.string root) (.slice av i cv) (.slice pa l.length pc);clear hM hres hur2 hbr hp;go_wp2;refine bodyPost_ret (v:=.tuple #[.agg #[.string root,.slice av i cv,.slice pa l.length pc],.nilIface]) (by simp[results,Tryz.results103,go_sem,q0,q1,q2]) rfl ?_;have hl1:=HLE.out;have hn1:=HNE.out;subst hl1;subst hn1;exact⟨.ok i B P Q av pa cv pc hR hO1 hO2,hNB⟩
end Go.Proofs.YtbcpcbonlhlhpaaGreatDoor
namespace Go.Proofs.YtbcpcbonlhlhpaaGreatDoor
open Go.RowKit Go.Maps
def StmRow(w:World)(a:Option Addr)(n:Nat)(s:Nat->ByteArray)(k b:Nat->Int):Prop:=
 n=0∨∃bk o,a=some ⟨bk,o,none⟩/\∀i,i<n->w.cell? ⟨bk,o+i*3,none⟩=some (.string (s i))/\w.cell? ⟨bk,o+i*3+1,none⟩=some (.int .i64 (k i))/\w.cell? ⟨bk,o+i*3+2,none⟩=some (.int .i64 (b i))
theorem StmRow.later{w w':World}{a:Option Addr}{n:Nat}{s:Nat->ByteArray}{k b:Nat->Int}(h:StmRow w a n s k b)(hb:Below w.heap.size w w'):StmRow w' a n s k b:=by
 rcases h with h|⟨bk,o,ha,hc⟩
 ·exact .inl h
 ·exact .inr ⟨bk,o,ha,fun i hi=>⟨cell_later hb (hc i hi).1,cell_later hb (hc i hi).2.1,cell_later hb (hc i hi).2.2⟩⟩
theorem rows_stm{w:World}{B0:Nat}{e:TypeId}{a:Option Addr}{n c:Nat}{nm:Nat->ByteArray}{S:ByteArray->Int}{B:Nat->Int}(h:w.ownsRow B0 e 3 (.slice a n c) n (z0i (stmC nm S B) n)):StmRow w a n nm (fun i=>S (nm i)) B:=by
 by_cases h0:n=0
 ·exact .inl h0
 ·have key:∀i,i<n->∀j u,(stmC nm S B i)[j]?=some u->j<3->∃g,a=some ⟨g,0,none⟩/\B0<=g/\w.cell? ⟨g,i*3+j,none⟩=some u:=fun i hi j u hu hj=>
   z0K h (by rw[z2G (s:=3) (fun i _=>rfl) hi hj];exact hu)
  obtain⟨g0,ha,_,_⟩:=key 0 (by omega) 0 _ rfl (by omega);refine .inr ⟨g0,0,ha,fun i hi=>?_⟩;have get:∀j u,(stmC nm S B i)[j]?=some u->j<3->w.cell? ⟨g0,i*3+j,none⟩=some u:=fun j u hu hj=>by
   obtain⟨g',ha',_,hc'⟩:=key i hi j u hu hj;rw[ha]at ha';injection ha' with ha';injection ha' with ha';subst ha';exact hc'
  exact⟨by rw[Nat.zero_add];exact get 0 _ rfl (by omega),by rw[Nat.zero_add];exact get 1 _ rfl (by omega),by rw[Nat.zero_add];exact get 2 _ rfl (by omega)⟩
end Go.Proofs.YtbcpcbonlhlhpaaGreatDoor
namespace Go.Proofs.YtbcpcbonlhlhpaaGreatDoor
open Go.RowKit Go.Maps
def z0R (D:DataW Unit)(S:ByteArray->Int)(s:Nat->ByteArray)(st:Nat->Int):Nat->Bool:=z0H fun i=>!(Maps.has D (keyB (s i))&&decide (S (s i)=st i))
theorem fresh_any(w:World)(p bm:Nat)(D:DataW Unit)(k:Nat)(S:ByteArray->Int)(root:ByteArray)(n nq:Nat)(s:Nat->ByteArray)(st b:Nat->Int)(aP aQ:Option Addr)(cP cQ:Nat)(h:z0q w p bm D k)(hS:z3q D S)(hn:n<=1000)(hs:∀i,i<n->(s i).size<=maxLen)(hr:StmRow w aP n s st b) :
 Calls Tryz.prog 148 #[.agg #[.string root,.slice aP n cP,.slice aQ nq cQ],.pointer (some ⟨p,0,none⟩)] w fun e w'=>e=.returned (.bool (!z0R D S s st n&&decide (0<n)))/\Below w.heap.size w w':=by
 generalize hF:z0R D S s st n=F;have HF:Hid (z0R D S s st n=F):=hF;clear hF;have hb0:Below w.heap.size w (w.alloc (.cells #[.string root,.slice aP n cP,.slice aQ nq cQ] 71)):=(Below.refl _ _).alloc (Nat.le_refl _) _;have e1:(w.alloc (.cells #[.string root,.slice aP n cP,.slice aQ nq cQ] 71)).cell? ⟨w.heap.size,1,none⟩=some (.slice aP n cP):=by simp[go_sem]
 have h1:=h.later hb0;have hr1:=hr.later hb0;clear h hr;go_enter Tryz.func148,Tryz.ntmps148;go_wp2;generalize w.alloc (.cells #[.string root,.slice aP n cP,.slice aQ nq cQ] 71)=W at *;go_loopw [12] (fun y wr=>∃i:Nat,i<=n/\y=.int .i64 i/\Hid (z0R D S s st i=false)/\Below W.heap.size W wr) (fun y _=>n-(intOf y).toNat)
 case atStart=>exact⟨0,Nat.zero_le _,rfl,rfl,Below.refl _ _⟩
 case round=>
  obtain⟨i,hi,rfl,HK,hb⟩:=hrel;have hb2:Below w.heap.size w wr:=hb0.trans (hb.mono hb0.size);have e1r:=cell_later hb e1;by_cases hlt:i<n
  ·have hr2:=hr1.later hb;rcases hr2 with h0|⟨bk,o,rfl,hc⟩
   ·omega
   obtain⟨x0,x1,x2⟩:=hc i hlt;have HR:=z4b wr p bm D k (s i) (h1.later hb) (hs i hlt);clear hc hr1;go_wp2_with fail;refine HR.mono ?_;rintro e w2 ⟨⟨t,nst,f,rfl,hRI⟩,hb3⟩;replace e1r:=cell_later hb3 e1r;replace x1:=cell_later hb3 x1;have hb4:=hb2.trans (hb3.mono hb2.size);have hb5:=hb.trans (hb3.mono hb.size);clear HR x0 x2;cases hh:Maps.has D (keyB (s i))with
   |false=>
    obtain⟨rfl,rfl,rfl⟩:=hRI.no hh;have HE:Hid (F=true):=HF.out.symm.trans (z1D hlt (by rw[hh];rfl));have q5:errV 5=.iface 43 (.int .i64 5):=rfl;rw[q5];clear hRI hh;go_wp2;go_ret;exact⟨z0w (by rw[HE.out];rfl),hb4⟩
   |true=>
    obtain⟨rfl,hat⟩:=hRI.yes hh;obtain rfl:=hS.is (s i) _ nst hh hat;have q0:errV 0=.nilIface:=rfl;rw[q0];by_cases he:S (s i)=st i
    ·have hne:(S (s i) != st i)=false:=by rw[bne_eq_false_iff_eq];exact he
     have HE:Hid (z0R D S s st (i+1)=false):=z2U HK.out (by rw[hh,decide_eq_true he];rfl);clear hRI hh hat he HK;go_wp2;go_roundw
     case rel=>exact⟨i+1,by omega,by go_num,HE,hb5⟩
     case measure=>simp[intOf];omega
    ·have hne:(S (s i) != st i)=true:=by rw[bne_iff_ne];exact he
     have HE:Hid (F=true):=HF.out.symm.trans (z1D hlt (by rw[hh,decide_eq_false he];rfl));clear hRI hh hat he HK;go_wp2;go_ret;exact⟨z0w (by rw[HE.out];rfl),hb4⟩
  ·have HE:Hid (F=false):=by
    have e:i=n:=by omega
    subst e;exact HF.out.symm.trans HK.out
   clear hr1 HK;go_wp2;go_ret;exact⟨z0w (by rw[HE.out];simp),hb2⟩
end Go.Proofs.YtbcpcbonlhlhpaaGreatDoor
