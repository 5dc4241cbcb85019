/- What Put of package patch returns, for every list of lists -/
import Derived.Test.YtbcpcbonlhlhpaaGreatDoorPatRows
import Derived.Deep.Onto
set_option maxRecDepth 100000
set_option maxHeartbeats 4000000
namespace Go.Proofs.YtbcpcbonlhlhpaaGreatDoor
open Go.RowKit
theorem isPlaceP_any(a n:Int)(w:World):Calls Tryz.prog 268 #[.int .i64 a,.int .i64 n] w fun e w'=>e=.returned (.bool (z0j a n))/\w'=w:=by
 by_cases h1:0<=a
 all_goals by_cases h2:a<n
 all_goals
  go_enter Tryz.func268,Tryz.ntmps268;go_wp2;go_ret;exact⟨z0w (by simp[z0j] <;> omega),rfl⟩
theorem int_cells{w:World}{a:Option Addr}{n:Nat}{f:Nat->Int}(h:z1z w a n fun i=>.int .i64 (f i)):n=0∨∃b o,a=some ⟨b,o,none⟩/\∀j u,(z0i (intC f) n)[j]?=some u->w.cell? ⟨b,o+j,none⟩=some u:=by
 rcases h with h|⟨b,o,ha,hc⟩
 ·exact .inl h
 ·refine .inr ⟨b,o,ha,fun j u hj=>?_⟩;have hlt:j<n:=by
   have:=(List.getElem?_eq_some_iff.1 hj).1;rw[z3B (fun i _=>z6S f i)]at this;omega
  have hj':=z2G (g:=intC f) (s:=1) (n:=n) (i:=j) (j:=0) (fun i _=>z6S f i) hlt (by omega);simp only[Nat.mul_one,Nat.add_zero]at hj';rw[hj']at hj;simp[intC]at hj;rw[<-hj];exact hc j hlt
theorem int_one{f:Nat->Int}{n:Nat}:∀u∈z0i (intC f) n,u.oneCell'=true:=fun u hu=>by
 obtain⟨i,_,h⟩:=joinC_mem hu;simp[intC]at h;subst h;rfl
theorem cloneInt_any(f:Nat->Int)(a:Option Addr)(n c:Nat)(w:World)(hn:n<=1000000)(hr:z1z w a n fun i=>.int .i64 (f i)) :
 Calls Tryz.prog 267 #[.slice a n c] w fun e w'=>(∃v',e=.returned v'/\w'.ownsRow w.heap.size 3 1 v' n (z0i (intC f) n))/\Below w.heap.size w w':=by
 have q:∀(w:World) (a:Option Addr) (n c n' c':Nat),(binOp .eql 52 (.slice a n c) (.slice none n' c')).run Tryz.prog w=.ok (.bool a.isNone) w:=fun w a n c n' c'=>Lib.run_eql_slice_nil w _ _ a n c n' c' Tryz.underlying52
 cases a with
 |none=>
  have h0:n=0:=by
   rcases hr with h|⟨b,o,h,_⟩
   ·exact h
   ·cases h
  subst h0;go_enter Tryz.func267,Tryz.ntmps267;go_wp2;go_ret;exact⟨⟨_,rfl,World.ownsRow_nil _ _ _ _⟩,Below.refl _ _⟩
 |some ad=>
  obtain⟨v',W,happ,hG⟩:=z0J 52 3 1 8 (.int .i64 0) (by kernel_rfl) (by kernel_rfl) (by rfl) (by decide) w.heap.size (w.alloc (.cells #[] 3)) (.slice (some ⟨w.heap.size,0,none⟩) 0 0) 0 []
   (World.ownsRow_made w #[] 0 (Nat.le_refl _) (Nat.zero_le _) rfl) (some ad) n c (z0i (intC f) n) (by rw[z3B (fun i _=>z6S f i)]) (int_cells (hr.later ((Below.refl _ _).alloc (Nat.le_refl _) _))) int_one (by simp) (by omega) (by decide)
  clear hr;go_enter Tryz.func267,Tryz.ntmps267;go_wp2_with (at_builtin;refine z0b rfl _ _ 52 rfl _ _ _ rfl rfl happ ?_);go_ret;exact⟨⟨v',rfl,by simpa using hG.own⟩,((Below.refl _ _).alloc (Nat.le_refl _) _).trans hG.below⟩
theorem owns_block{w:World}{B:Nat}{e:TypeId}{n c:Nat}{a:Option Addr}{b:Nat->Int}(h:w.ownsRow B e 1 (.slice a n c) n (z0i (intC b) n))(hn:0<n) :
 ∃g,a=some ⟨g,0,none⟩/\B<=g/\(∀j,j<n->w.cell? ⟨g,j,none⟩=some (.int .i64 (b j)))/\∀j,w.frozen? ⟨g,j,none⟩=false:=by
 have hc:∀j,j<n->∃g,a=some ⟨g,0,none⟩/\B<=g/\w.cell? ⟨g,j,none⟩=some (.int .i64 (b j)):=fun i hi=>
  z0K h (by have:=z2G (g:=intC b) (s:=1) (n:=n) (i:=i) (j:=0) (fun i _=>z6S b i) hi (by omega);simpa[intC]using this)
 rcases h.2 with⟨_,h0⟩|⟨g,cap,cur,hv,hB,hg,_⟩
 ·omega
 ·injection hv with h1 h2 h3;refine⟨g,h1,hB,fun j hj=>?_,fun j=>by simp[World.frozen?,hg]⟩;obtain⟨g',ha,_,h'⟩:=hc j hj;rw[h1]at ha;injection ha with ha;injection ha with ha;subst ha;exact h'
def updF{α:Type}(f:Nat->α)(k:Nat)(x:α):Nat->α:=fun i=>if i=k then x else f i
theorem z3Z {α:Type}{f:Nat->α}{k:Nat}{x:α}:updF f k x k=x:=if_pos rfl
theorem z3i {α:Type}{f:Nat->α}{k:Nat}{x:α}{i:Nat}(h:i≠k):updF f k x i=f i:=if_neg h
theorem z4V.more{w w1:World}{B g k:Nat}{M:Nat->Nat}{A:Nat->Option Addr}{C G:Nat->Nat}{X:Nat->Nat->Int}{e:TypeId}{a':Option Addr}{c':Nat}{u:Value}(h:z4V w B g k M A C G X)(hb:Below w.heap.size w w1)(hB:B<=w.heap.size)
 (hc:w1.cell? ⟨g,k,none⟩=some u) (ho:w1.ownsRow w.heap.size e 1 (.slice a' (M k) c') (M k) (z0i (intC (X k)) (M k))) :
 ∃A' C' G',z4V (w1.setCell ⟨g,k,none⟩ (.slice a' (M k) c')) B g (k+1) M A' C' G' X:=by
 have h1:=h.later hb;obtain⟨gk,hgk⟩:∃gk,0<M k->a'=some ⟨gk,0,none⟩/\w.heap.size<=gk/\(∀j,j<M k->w1.cell? ⟨gk,j,none⟩=some (.int .i64 (X k j)))/\∀j,w1.frozen? ⟨gk,j,none⟩=false:=by
  by_cases hm:0<M k
  ·obtain⟨gk,hh⟩:=owns_block ho hm;exact⟨gk,fun _=>hh⟩
  ·exact⟨0,fun h=>absurd h hm⟩
 have lts:∀i,i<k->0<M i->G i<w.heap.size:=fun i hi hm=>World.block_lt_of_cell? _ _ (h.row i hi 0 hm)
 refine⟨updF A k a',updF C k c',updF G k gk,h.hB,?_,?_,?_,?_,?_,?_,?_,?_,?_⟩
 ·simpa[World.setCell]using h1.lt
 ·intro i hi;by_cases e:i=k
  ·subst e;rw[World.cell?_setCell_same _ _ _ hc,z3Z,z3Z]
  ·rw[World.cell?_setCell_other _ _ _ _ (by intro e2;injection e2 with _ e2 _;exact e e2.symm),z3i e,z3i e];exact h1.top i (by omega)
 ·intro i;rw[World.frozen?_setCell];exact h1.free i
 ·intro i hi hm;by_cases e:i=k
  ·subst e;rw[z3Z,z3Z];exact(hgk hm).1
  ·rw[z3i e,z3i e];exact h1.adr i (by omega) hm
 ·intro i hi hm;by_cases e:i=k
  ·subst e;rw[z3Z];exact Nat.le_trans hB (hgk hm).2.1
  ·rw[z3i e];exact h1.own i (by omega) hm
 ·intro i hi hm;by_cases e:i=k
  ·subst e;rw[z3Z];have:=(hgk hm).2.1;have:=h.lt;omega
  ·rw[z3i e];exact h1.ne i (by omega) hm
 ·intro i hi j hj;by_cases e:i=k
  ·subst e;rw[z3Z];have hh:=hgk (by omega);rw[World.cell?_setCell_other _ _ _ _ (by intro e2;injection e2 with e2 _ _;have:=hh.2.1;have:=h.lt;omega)];exact hh.2.2.1 j hj
  ·rw[z3i e,World.cell?_setCell_other _ _ _ _ (by intro e2;injection e2 with e2 _ _;exact h1.ne i (by omega) (by omega) e2.symm)];exact h1.row i (by omega) j hj
 ·intro i hi hm j;rw[World.frozen?_setCell];by_cases e:i=k
  ·subst e;rw[z3Z];exact(hgk hm).2.2.2 j
  ·rw[z3i e];exact h1.rfree i (by omega) hm j
 ·intro i j hi hj hij hmi hmj;by_cases e:i=k
  ·subst e;rw[z3Z,z3i (fun e=>hij e.symm)];have:=(hgk hmi).2.1;have:=lts j (by omega) hmj;omega
  ·by_cases e2:j=k
   ·subst e2;rw[z3i e,z3Z];have:=(hgk hmj).2.1;have:=lts i (by omega) hmi;omega
   ·rw[z3i e,z3i e2];exact h1.apart i j (by omega) (by omega) hij hmi hmj
theorem z4V.none{w:World}{B g:Nat}(hB:B<=g)(hg:g<w.heap.size)(hf:∀i,w.frozen? ⟨g,i,none⟩=false)(M:Nat->Nat)(X:Nat->Nat->Int):z4V w B g 0 M (fun _=>none) (fun _=>0) (fun _=>0) X:=
 ⟨hB,hg,fun i hi=>by omega,hf,fun i hi=>by omega,fun i hi=>by omega,fun i hi=>by omega,fun i hi=>by omega,fun i hi=>by omega,fun i j hi=>by omega⟩
inductive PutEnd (w:World) (B n:Nat) (M:Nat->Nat) (X:Nat->Nat->Int) (np:Nat) (p t v:Nat->Int):Ending->Prop
 |bad (h:BadAt (fun k=>z7e n M (p k) (t k)) np):PutEnd w B n M X np p t v (.returned (.tuple #[.slice none 0 0,errV 1]))
 |ok (g:Nat) (A:Nat->Option Addr) (C G:Nat->Nat) (h:AllOk (fun k=>z7e n M (p k) (t k)) np) (ho:z4V w B g n M A C G (putF X p t v np)):PutEnd w B n M X np p t v (.returned (.tuple #[.slice (some ⟨g,0,none⟩) n n,.nilIface]))
end Go.Proofs.YtbcpcbonlhlhpaaGreatDoor
namespace Go.Proofs.YtbcpcbonlhlhpaaGreatDoor
open Go.RowKit
theorem put_any(a a':Option Addr)(n c np c':Nat)(A:Nat->Option Addr)(M C:Nat->Nat)(X:Nat->Nat->Int)(p t v:Nat->Int)(w:World)(hn:n<=1000)(hM:∀i,i<n->M i<=1000)(hnp:np<=1000)(hr:ListsRow w a n A M C X)(hp:z6m w a' np p t v) :
 Calls Tryz.prog 248 #[.slice a n c,.slice a' np c'] w fun e w'=>PutEnd w' w.heap.size n M X np p t v e/\Below w.heap.size w w':=by
 have hmk:=fun(w:World)=>run_make_row' (P:=Tryz.prog) 325 52 (.slice none 0 0) 24 Tryz.underlying325 (by kernel_rfl) rfl .i64 .i64 n (by omega) (by omega) w
 have hrow:=World.rowIs_made w (.slice none 0 0) n 52;have hb0:Below w.heap.size w (w.alloc (.cells (madeCells #[.slice none 0 0] n) 52)):=(Below.refl _ _).alloc (Nat.le_refl _) _;have hlt0:w.heap.size<(w.alloc (.cells (madeCells #[.slice none 0 0] n) 52)).heap.size:=by simp
 go_enter Tryz.func248,Tryz.ntmps248;go_wp2;clear hmk;generalize w.alloc (.cells (madeCells #[.slice none 0 0] n) 52)=w0 at *;go_loopw [16] (fun x wr=>∃(k:Nat) (A':Nat->Option Addr) (C' G:Nat->Nat),k<=n/\x=.int .i64 k/\z4V wr w.heap.size w.heap.size k M A' C' G X/\(∀i,i<n->∃u,wr.cell? ⟨w.heap.size,i,none⟩=some u)/\Below w.heap.size w wr) (fun x _=>n-(intOf x).toNat)
 case atStart=>exact⟨0,_,_,_,Nat.zero_le _,rfl,z4V.none (Nat.le_refl _) hlt0 hrow.frozen _ _,fun i hi=>⟨_,hrow.cell hi⟩,hb0⟩
 case round=>
  clear hrow hb0 hlt0;obtain⟨k,A',C',G,hk,rfl,hO,hcs,hb⟩:=hrel;by_cases hlt:k<n
  ·have hr1:=hr.later hb;rcases hr1 with h0|⟨bk,o,rfl,hc⟩
   ·omega
   have hck:=(hc k hlt).1;have HC:=cloneInt_any (X k) (A k) (M k) (C k) wr (by have:=hM k hlt;omega) (hc k hlt).2;clear hc;go_wp2_with fail;refine HC.mono ?_;rintro e w2 ⟨⟨v',rfl,ho⟩,hb2⟩;clear HC;obtain⟨a2,c2,rfl,_⟩:=z0c ho;obtain⟨u,hu⟩:=hcs k hlt;have hu2:=cell_later hb2 hu;have hz:=(hO.later hb2).free k;obtain⟨A2,C2,G2,hO2⟩:=hO.more hb2 hb.size hu2 ho;have hcs2:∀i,i<n->∃u,(w2.setCell ⟨w.heap.size,k,none⟩ (.slice a2 (M k) c2)).cell? ⟨w.heap.size,i,none⟩=some u:=fun i hi=>by
    obtain⟨u,hu⟩:=hcs i hi;exact cell?_setCell_some (cell_later hb2 hu)
   have hb3:Below w.heap.size w (w2.setCell ⟨w.heap.size,k,none⟩ (.slice a2 (M k) c2)):=(hb.trans (hb2.mono hb.size)).setCell (Nat.le_refl _) _;clear hO hcs hu hb hb2 ho;go_wp2;go_roundw
   case rel=>exact⟨k+1,A2,C2,G2,by omega,by go_num,hO2,hcs2,hb3⟩
   case measure=>simp[intOf];omega
  ·have e:k=n:=by omega
   subst e;clear hcs;go_wp2;go_loopw [29] (fun x wr=>∃j:Nat,j<=np/\x=.int .i64 j/\z4V wr w.heap.size w.heap.size k M A' C' G (putF X p t v j)/\Hid (∀i,i<j->z7e k M (p i) (t i)=true)/\Below w.heap.size w wr) (fun x _=>np-(intOf x).toNat)
   case atStart=>exact⟨0,Nat.zero_le _,rfl,hO,fun i hi=>by omega,hb⟩
   case round=>
    clear hO hb;obtain⟨j,hj,rfl,hO,HP,hb⟩:=hrel;by_cases hlj:j<np
    ·have hp1:=hp.later hb;rcases hp1 with h0|⟨bp,op,rfl,hc⟩
     ·omega
     obtain⟨p0,p1,p2⟩:=hc j hlj;clear hc;have hq:∀ob:Obj,Below wr.heap.size wr (wr.alloc ob):=fun ob=>(Below.refl _ _).alloc (Nat.le_refl _) ob
     have HI:=isPlaceP_any;cases h1:z0j (p j) (k:Int)with
     |false=>
      have HE:Hid (BadAt (fun i=>z7e k M (p i) (t i)) np):=⟨j,hlj,by simp[z7e,h1]⟩;have HI1:=fun(w:World)=>HI (p j) (k:Int) w
      simp only[h1]at HI1;clear h1 HI;go_wp2;go_quiet ((go_at_call 268;exact Calls.quiet_of_same (HI1 _)));go_wp2;go_ret2;exact⟨.bad HE.out,below_drewN (hb.alloc hb.size _) _⟩
     |true=>
      obtain⟨x,hx,hxk⟩:∃x:Nat,p j=x/\x<k:=by
       simp[z0j]at h1;exact⟨(p j).toNat,by omega,by omega⟩
      have HI1:=fun(w:World)=>HI (x:Int) (k:Int) w
      rw[hx]at h1 p0;simp only[h1]at HI1;clear h1;have htop:∀ob,(wr.alloc ob).cell? ⟨w.heap.size,x,none⟩=some (.slice (A' x) (M x) (C' x)):=fun ob=>cell_later (hq ob) (hO.top x hxk)
      have hMx:=hM x hxk;cases h2:z0j (t j) (M x:Int)with
      |false=>
       have HE:Hid (BadAt (fun i=>z7e k M (p i) (t i)) np):=⟨j,hlj,by simp[z7e,hx,h2]⟩;have HI2:=fun(w:World)=>HI (t j) (M x:Int) w
       simp only[h2]at HI2;clear h2 HI;go_wp2;go_quiet ((first|(go_at_call_of 268 (Value.int IntKind.i64 (x:Int));exact Calls.quiet_of_same (HI1 _))|(go_at_call_of 268 (Value.int IntKind.i64 (t j));exact Calls.quiet_of_same (HI2 _))));go_wp2;go_ret2;exact⟨.bad HE.out,below_drewN (hb.alloc hb.size _) _⟩
      |true=>
       obtain⟨y,hy,hyk⟩:∃y:Nat,t j=y/\y<M x:=by
        simp[z0j]at h2;exact⟨(t j).toNat,by omega,by omega⟩
       have HE:Hid (∀i,i<j+1->z7e k M (p i) (t i)=true):=fun i hi=>by
        by_cases e:i=j
        ·subst e;simp[z7e,hx,hy,z0j,hxk,hyk]
        ·exact HP.out i (by omega)
       have HI2:=fun(w:World)=>HI (y:Int) (M x:Int) w
       rw[hy]at h2 p1;simp only[h2]at HI2;clear h2 HI;have hO1:=fun ob=>(hO.later (hq ob)).put hxk hyk (v j)
       have hadr:=hO.adr x hxk (by omega);rw[hadr]at htop;have hcy:∀ob,(wr.alloc ob).cell? ⟨G x,y,none⟩=some (.int .i64 (putF X p t v j x y)):=fun ob=>cell_later (hq ob) (hO.row x hxk y hyk)
       have hzy:∀ob,(wr.alloc ob).frozen? ⟨G x,y,none⟩=false:=fun ob=>(hO.later (hq ob)).rfree x hxk (by omega) y
       have hown:=hO.own x hxk (by omega);have hpf:∀i i',putF X p t v (j+1) i i'=if i=x/\i'=y then v j else putF X p t v j i i':=fun i i'=>by
        simp only[putF,hx,hy];by_cases e:i=x/\i'=y
        ·rw[if_pos e,if_pos (by omega)]
        ·rw[if_neg e,if_neg (by omega)]
       have HPF:Hid (∀i i',putF X p t v (j+1) i i'=if i=x/\i'=y then v j else putF X p t v j i i'):=hpf;clear hpf hO hx hy hadr;go_wp2;go_quiet ((first|(go_at_call_of 268 (Value.int IntKind.i64 (x:Int));exact Calls.quiet_of_same (HI1 _))|(go_at_call_of 268 (Value.int IntKind.i64 (y:Int));exact Calls.quiet_of_same (HI2 _))));go_wp2;go_region;go_wp2;go_roundw
       case rel=>exact⟨j+1,by omega,by go_num,((hO1 _).congr fun i _ i' _=>(HPF.out i i').symm).later (below_drewN (Below.refl _ _) _),HE,below_drewN ((hb.alloc hb.size _).setCell hown _) _⟩
       case measure=>simp[intOf];omega
    ·have e:j=np:=by omega
     subst e;go_wp2;go_ret2;exact⟨.ok _ _ _ _ HP.out hO,hb⟩
end Go.Proofs.YtbcpcbonlhlhpaaGreatDoor
namespace Go.Proofs.YtbcpcbonlhlhpaaGreatDoor
open Go.RowKit
def z4Z (nm:Nat->ByteArray)(B:Nat->Int)(A:Nat->Option Addr)(M C:Nat->Nat)(i:Nat):List Value:=[.string (nm i),.int .i64 (B i),.slice (A i) (M i) (C i)]
theorem growPart{B0:Nat}{w:World}{v:Value}{n:Nat}{xs:List Value}(s:ByteArray)(x:Int)(a:Option Addr)(m c:Nat)(hB:B0<=w.heap.size)(h:w.ownsRow B0 110 3 v n xs)(hn:n<1000) :
 ∃v' W,(Builtin.append_ #[64,64] 64 #[v,.slice (some ⟨w.heap.size,0,none⟩) 1 1]).run Tryz.prog (w.alloc (.cells #[.string s,.int .i64 x,.slice a m c] 110))=.ok v' W/\Grown B0 110 3 (w.alloc (.cells #[.string s,.int .i64 x,.slice a m c] 110)) v (n+1) (xs++[.string s,.int .i64 x,.slice a m c]) v' W:=
 z0J 64 110 3 48 (.agg #[.string ⟨#[]⟩,.int .i64 0,.slice none 0 0]) (by kernel_rfl) (by kernel_rfl) (by rfl) (by decide) B0 _ v n _ (h.alloc _) (some ⟨w.heap.size,0,none⟩) 1 1 [.string s,.int .i64 x,.slice a m c] rfl
  (.inr ⟨_,_,rfl,fun j u hj=>by
    match j,hj with
    |0,hj=>simp at hj;subst hj;simp[go_sem]
    |1,hj=>simp at hj;subst hj;simp[go_sem]
    |2,hj=>simp at hj;subst hj;simp[go_sem]
    |j+3,hj=>simp at hj⟩) (fun u hu=>by simp at hu;rcases hu with rfl|rfl|rfl <;> rfl) (by simp;omega) (by omega) (by decide)
inductive LayEnd (w:World) (B0 n:Nat) (nm:Nat->ByteArray) (B:Nat->Int) (O:Nat->ObjF) (np:Nat) (p t v:Nat->Int):Ending->Prop
 |bad (h:BadAt (fun k=>z7e n (fun i=>(O i).nW) (p k) (t k)) np):LayEnd w B0 n nm B O np p t v (.returned (.tuple #[.slice none 0 0,errV 1]))
 |ok (u:Value) (g:Nat) (A:Nat->Option Addr) (C G:Nat->Nat) (h:AllOk (fun k=>z7e n (fun i=>(O i).nW) (p k) (t k)) np) (ho:z4V w B0 g n (fun i=>(O i).nW) A C G (putF (fun i j=>(O i).words j) p t v np))
  (hu:w.ownsRow B0 110 3 u n (z0i (z4Z nm B A (fun i=>(O i).nW) C) n)):LayEnd w B0 n nm B O np p t v (.returned (.tuple #[u,.nilIface]))
theorem lay_any(an ab al ap:Option Addr)(n cn cb cl np cp:Nat)(nm:Nat->ByteArray)(B:Nat->Int)(V:Nat->ObjV)(O:Nat->ObjF)(p t v:Nat->Int)(w:World)(hn:n<=1000)(hM:∀i,i<n->(O i).nW<=1000)(hnp:np<=1000)
 (hrn:z1z w an n fun i=>.string (nm i)) (hrb:z1z w ab n fun i=>.int .i64 (B i)) (hro:z3U w al n V O) (hrp:z6m w ap np p t v) :
 Calls Tryz.prog 209 #[.slice an n cn,.slice ab n cb,.slice al n cl,.slice ap np cp] w fun e w'=>LayEnd w' w.heap.size n nm B O np p t v e/\Below w.heap.size w w':=by
 have HW:=wordsOf_any al n cl V O w hn hro;have h1:((n:Int) != (n:Int))=false:=by simp
 go_enter Tryz.func209,Tryz.ntmps209;go_wp2_with fail;refine HW.mono ?_;rintro e w1 ⟨⟨v1,rfl,ho1⟩,hb1⟩;have hA:∀i,i<n->z1C w1 (V i) (O i):=fun i hi=>by
  rcases hro with h0|⟨bk,o,_,hc⟩
  ·omega
  ·exact(hc i hi).here.later hb1
 obtain⟨a1,c1,rfl,_,hl1⟩:=rows_wd ho1 hA;have HP:=put_any a1 ap n c1 np cp (fun i=>(V i).aW) (fun i=>(O i).nW) (fun i=>(V i).cW) (fun i j=>(O i).words j) p t v w1 hn hM hnp hl1 (hrp.later hb1);clear HW ho1 hA hl1 hro hrp;go_wp2_with fail;refine HP.mono ?_;rintro e w2 ⟨he,hb2⟩;have hb3:=hb1.trans (hb2.mono hb1.size);clear HP;cases he with
 |bad h=>
  have q1:errV 1=.iface 43 (.int .i64 1):=rfl;rw[q1];go_wp2;go_ret2;rw[<-q1];exact⟨.bad h,hb3⟩
 |ok g A C G h ho=>
  have hrn2:=hrn.later hb3;have hrb2:=hrb.later hb3;clear hrn hrb hb2;go_wp2;go_loopw [12,40] (fun x z wr=>∃(k:Nat) (u:Value),k<=n/\z=.int .i64 k/\x=u/\wr.ownsRow w2.heap.size 110 3 u k (z0i (z4Z nm B A (fun i=>(O i).nW) C) k)/\Below w2.heap.size w2 wr) (fun _ z _=>n-(intOf z).toNat)
  case atStart=>exact⟨0,.slice none 0 0,Nat.zero_le _,rfl,rfl,World.ownsRow_nil _ _ _ _,Below.refl _ _⟩
  case round=>
   obtain⟨k,u,hk,rfl,rfl,hu,hb⟩:=hrel;by_cases hlt:k<n
   ·have hrn3:=hrn2.later hb;have hrb3:=hrb2.later hb;have htop:=(ho.later hb).top k hlt;rcases hrn3 with h0|⟨bn,on,rfl,hcn⟩
    ·omega
    rcases hrb3 with h0|⟨bb,ob,rfl,hcb⟩
    ·omega
    have d0:=hcn k hlt;have d1:=hcb k hlt;have hB:=hb.size;have hu':wr.drew.ownsRow w2.heap.size 110 3 u12 k (z0i (z4Z nm B A (fun i=>(O i).nW) C) k):=hu;obtain⟨v3,W3,happ,hG⟩:=growPart (w:=wr.drew) (nm k) (B k) (A k) (O k).nW (C k) hB hu' (by omega);have hu3:W3.ownsRow w2.heap.size 110 3 v3 (k+1) (z0i (z4Z nm B A (fun i=>(O i).nW) C) (k+1)):=hG.own;have hb4:Below w2.heap.size w2 W3:=(hb.drew.alloc hB _).trans hG.below;clear hcn hcb hG hu hu' hb;go_wp2;go_region_law (refine step_run rfl (.tmp 45) (.tmp 56) 64 rfl u12 (.slice (some ⟨wr.heap.size,0,none⟩) 1 1) _ rfl rfl happ ?_)
    all_goals
     go_wp2;go_roundw
     case rel=>exact⟨k+1,v3,by omega,by go_num,rfl,hu3,hb4⟩
     case measure=>simp[intOf];omega
   ·have e:k=n:=by omega
    subst e;have hBz:w.heap.size<=w2.heap.size:=hb3.size;have hu2:wr.ownsRow w.heap.size 110 3 u12 k (z0i (z4Z nm B A (fun i=>(O i).nW) C) k):=⟨hu.1,by
     rcases hu.2 with h|⟨g,cap,cur,h1,h2,h3⟩
     ·exact .inl h
     ·exact .inr ⟨g,cap,cur,h1,Nat.le_trans hBz h2,h3⟩⟩
    have ho2:=ho.later hb;have hw1:=hb1.size;go_wp2;go_ret2;exact⟨.ok _ g A C G h {ho2 with hB:=Nat.le_trans hw1 ho2.hB,own:=fun i hi hm=>Nat.le_trans hw1 (ho2.own i hi hm)} hu2,hb3.trans (hb.mono hb3.size)⟩
end Go.Proofs.YtbcpcbonlhlhpaaGreatDoor
namespace Go.Proofs.YtbcpcbonlhlhpaaGreatDoor
open Go.RowKit Go.Maps
abbrev obAt(rd:ByteArray->Nat×ObjF)(root:ByteArray)(j:Nat):ObjF:=(rd (nmAt rd root j)).2
abbrev szAt(rd:ByteArray->Nat×ObjF)(root:ByteArray)(j:Nat):Int:=((obAt rd root j).nW:Int)
inductive ReckIs (rd:ByteArray->Nat×ObjF) (root:ByteArray):Nat->Prop
 |of {F:Nat} (i:Nat) (h:OfIs rd root F i) (hf:F≠0):ReckIs rd root F
 |bases {F:Nat} (m:Nat) (B:Nat->Int) (h:OfIs rd root 0 m) (hb:BasesAre m (szAt rd root) 0 (fun _=>0) (fun _=>0) F B) (hf:F≠0):ReckIs rd root F
 |all {F:Nat} (m:Nat) (B:Nat->Int) (P Q:ByteArray->Int) (h:OfIs rd root 0 m) (hb:BasesAre m (szAt rd root) 0 (fun _=>0) (fun _=>0) 0 B) (hz:∀j,m<=j->B j=0) (hP:z5p (z1T m (obAt rd root)) P Q) (he:allF m (obAt rd root) P Q m B=F) (hf:F≠0):ReckIs rd root F
structure z0Z (rd:ByteArray->Nat×ObjF)(root:ByteArray)(m:Nat)(B:Nat->Int)(P Q:ByteArray->Int):Prop where
 of:OfIs rd root 0 m
 bases:BasesAre m (szAt rd root) 0 (fun _=>0) (fun _=>0) 0 B
 zero:∀j,m<=j->B j=0
 finds:z5p (z1T m (obAt rd root)) P Q
 all:allF m (obAt rd root) P Q m B=0
theorem z5p.uniq{L:z3S}{P Q P' Q':ByteArray->Int}(h:z5p L P Q)(h':z5p L P' Q'):P=P'/\Q=Q':=
 ⟨funext fun s=>(h'.eq (h.is s)).1,funext fun s=>(h'.eq (h.is s)).2⟩
theorem bases_fun{m:Nat}{sz:Nat->Int}{B B':Nat->Int}(h:BasesAre m sz 0 (fun _=>0) (fun _=>0) 0 B)(h':BasesAre m sz 0 (fun _=>0) (fun _=>0) 0 B')(hz:∀j,m<=j->B j=0)(hz':∀j,m<=j->B' j=0):B=B':=
 funext fun j=>by
  by_cases e:j<m
  ·exact(h.unique h').2 rfl j e
  ·rw[hz j (by omega),hz' j (by omega)]
theorem ReckIs.unique{rd:ByteArray->Nat×ObjF}{root:ByteArray}{F G:Nat}(h:ReckIs rd root F)(h':ReckIs rd root G):F=G:=by
 cases h with
 |of i h hf=>
  cases h' with
  |of i' h' hf'=>exact(h.unique h').1
  |bases m' B' h' hb' hf'=>exact absurd (h.unique h').1 hf
  |all m' B' P' Q' h' hb' hz' hP' he' hf'=>exact absurd (h.unique h').1 hf
 |bases m B h hb hf=>
  cases h' with
  |of i' h' hf'=>exact absurd (h'.unique h).1 hf'
  |bases m' B' h' hb' hf'=>
   obtain⟨_,rfl⟩:=h.unique h';exact(hb.unique hb').1
  |all m' B' P' Q' h' hb' hz' hP' he' hf'=>
   obtain⟨_,rfl⟩:=h.unique h';exact absurd (hb.unique hb').1 hf
 |all m B P Q h hb hz hP he hf=>
  cases h' with
  |of i' h' hf'=>exact absurd (h'.unique h).1 hf'
  |bases m' B' h' hb' hf'=>
   obtain⟨_,rfl⟩:=h.unique h';exact absurd (hb'.unique hb).1 hf'
  |all m' B' P' Q' h' hb' hz' hP' he' hf'=>
   obtain⟨_,rfl⟩:=h.unique h';obtain rfl:=bases_fun hb hb' hz hz';obtain⟨rfl,rfl⟩:=hP.uniq hP';exact he.symm.trans he'
theorem ReckIs.not{rd:ByteArray->Nat×ObjF}{root:ByteArray}{F m:Nat}{B:Nat->Int}{P Q:ByteArray->Int}(h:ReckIs rd root F)(h':z0Z rd root m B P Q):False:=by
 cases h with
 |of i h hf=>exact hf (h.unique h'.of).1
 |bases m B h hb hf=>
  obtain⟨_,rfl⟩:=h.unique h'.of;exact hf (hb.unique h'.bases).1
 |all m B P Q h hb hz hP he hf=>
  obtain⟨_,rfl⟩:=h.unique h'.of;obtain rfl:=bases_fun hb h'.bases hz h'.zero;obtain⟨rfl,rfl⟩:=hP.uniq h'.finds;exact hf (he.symm.trans h'.all)
theorem z0Z.unique{rd:ByteArray->Nat×ObjF}{root:ByteArray}{m m':Nat}{B B':Nat->Int}{P Q P' Q':ByteArray->Int}(h:z0Z rd root m B P Q)(h':z0Z rd root m' B' P' Q'):m=m'/\B=B'/\P=P'/\Q=Q':=by
 obtain⟨_,rfl⟩:=h.of.unique h'.of;obtain rfl:=bases_fun h.bases h'.bases h.zero h'.zero;obtain⟨rfl,rfl⟩:=h.finds.uniq h'.finds;exact⟨rfl,rfl,rfl,rfl⟩
abbrev z0l (rd:ByteArray->Nat×ObjF)(root:ByteArray)(m:Nat)(B:Nat->Int)(P Q:ByteArray->Int):List (Nat×Int×Int):=z0A (obAt rd root) P Q B m
theorem patsOf_mem{O:Nat->ObjF}{P Q:ByteArray->Int}{B:Nat->Int}{i k:Nat}{x:Nat×Int×Int}(h:x∈z1E O P Q B i k):∃q,q<k/\x=(i,(O i).tAt q,(tieW O P Q B i q).2):=by
 induction k with
 |zero=>cases h
 |succ k ih=>
  rcases List.mem_append.1 h with h|h
  ·obtain⟨q,hq,e⟩:=ih h;exact⟨q,by omega,e⟩
  ·exact⟨k,by omega,by simpa using h⟩
theorem patsTo_mem{O:Nat->ObjF}{P Q:ByteArray->Int}{B:Nat->Int}{m:Nat}{x:Nat×Int×Int}(h:x∈z0A O P Q B m):∃i q,i<m/\q<(O i).nT/\x=(i,(O i).tAt q,(tieW O P Q B i q).2):=by
 induction m with
 |zero=>cases h
 |succ m ih=>
  rcases List.mem_append.1 h with h|h
  ·obtain⟨i,q,hi,hq,e⟩:=ih h;exact⟨i,q,by omega,hq,e⟩
  ·obtain⟨q,hq,e⟩:=patsOf_mem h;exact⟨m,q,by omega,hq,e⟩
def cutB(m:Nat)(b:Nat->Int):Nat->Int:=fun j=>if j<m then b j else 0
theorem cutB_is{m:Nat}{b:Nat->Int}{j:Nat}(h:j<m):b j=cutB m b j:=(if_pos h).symm
theorem cutB_zero{m:Nat}{b:Nat->Int}(j:Nat)(h:m<=j):cutB m b j=0:=if_neg (by omega)
theorem BasesAre.cut{m:Nat}{sz tf tm b:Nat->Int}{nt:Nat}(h:BasesAre m sz nt tf tm 0 b):BasesAre m sz nt tf tm 0 (cutB m b):=by
 obtain⟨h0,hl⟩:=h.laid rfl;exact .ok _ h0 fun j hj=>(hl j hj).congr fun i hi=>cutB_is (by omega)
end Go.Proofs.YtbcpcbonlhlhpaaGreatDoor
namespace Go.Proofs.YtbcpcbonlhlhpaaGreatDoor
open Go.RowKit Go.Maps
theorem z5i {fn:Func}{t u v x y:Tmp}(h:fn.results=#[.tmp t,.tmp u,.tmp v,.tmp x,.tmp y])(tmps:Array Value)(P:Program)(w:World) :
 (results fn tmps).run P w=.ok (.tuple #[tmps.getD t undef,tmps.getD u undef,tmps.getD v undef,tmps.getD x undef,tmps.getD y undef]) w:=by
 simp[results,h]
inductive ReckEnd (w:World) (B0:Nat) (rd:ByteArray->Nat×ObjF) (root:ByteArray):Ending->Prop
 |bad (F:Nat) (h:ReckIs rd root F) (hf:F≠0):ReckEnd w B0 rd root (.returned (.tuple #[.slice none 0 0,.slice none 0 0,.slice none 0 0,.slice none 0 0,errV F]))
 |ok (m:Nat) (B:Nat->Int) (P Q:ByteArray->Int) (u x b p:Value) (V:Nat->ObjV) (h:z0Z rd root m B P Q) (hu:z5n w B0 u (z0g rd root m)) (hx:ObjsIn w B0 x m V (obAt rd root))
  (hb:w.ownsRow B0 3 1 b m (z0i (intC B) m)) (hp:w.ownsRow B0 114 3 p (z0l rd root m B P Q).length (z3x (z0l rd root m B P Q))):ReckEnd w B0 rd root (.returned (.tuple #[u,x,b,p,.nilIface]))
theorem ObjsIn.below{w w':World}{B n:Nat}{x:Value}{V:Nat->ObjV}{O:Nat->ObjF}(h:ObjsIn w B x n V O)(hb:Below w.heap.size w w'):ObjsIn w' B x n V O:=⟨z0e h.own hb,fun j hj=>(h.at' j hj).later hb⟩
theorem reckon_any(w:World)(p bm:Nat)(D:DataW Unit)(k:Nat)(T:ByteArray->ByteArray)(root:ByteArray)(h:z0q w p bm D k)(hI:Inv D k)(hT:z4C D T)(hE:Env w)(hroot:root.size<=maxLen) :
 Calls Tryz.prog 143 #[.pointer (some ⟨p,0,none⟩),.string root] w fun e w'=>ReckEnd w' w.heap.size (rdD D T) root e/\Below w.heap.size w w':=by
 have HO:=of_any w p bm D k T root h hI hT hE hroot;have hfew:=z6y (T:=T) hI;go_enter Tryz.func143,Tryz.ntmps143;go_wp2_with fail;refine HO.mono ?_;rintro e w1 ⟨he,hb1⟩;clear HO h hT hE hroot hI;cases he with
 |bad F i h hf=>
  obtain⟨z,hz⟩:=z5V hf;rw[hz];go_wp2
  (try simp only[Exit.inBlock,Exit.then])
  refine bodyPost_ret (z5i rfl _ _ _) rfl ?_;rw[<-hz];exact⟨.bad F (.of i h hf) hf,hb1⟩
 |ok m u x V h hu hx=>
  obtain⟨hS,hlen,hnm⟩:=z4s h hfew;have hok:∀j,j<m->z3J (obAt (rdD D T) root j):=fun j hj=>rd_ok (by rw[hS.read j hj])
  have hm6:=hS.few;clear hS hfew hlen hnm;obtain⟨xa,xc,rfl,_,hrow⟩:=hx.own.row hx.at';have HZ:=sizes_any xa m xc V (obAt (rdD D T) root) w1 (by omega) (fun i hi=>by have:=(hok i hi).nW;unfold maxLen;omega) hrow;go_wp2_with fail;refine HZ.mono ?_;rintro e w2 ⟨⟨v2,rfl,ho2⟩,hb2⟩;have hb12:=hb1.trans (hb2.mono hb1.size);obtain⟨a2,c2,rfl,_,hr2⟩:=z5a ho2;have HB:=bases_any (szAt (rdD D T) root) (fun _=>0) (fun _=>0) a2 none m c2 0 0 w2 (by unfold maxLen;omega) (by unfold maxLen;omega) hr2 (.inl rfl);have hu2:=z0e hu hb2;have hx2:=hx.below hb2;clear HZ ho2 hr2 hu hx hrow;go_wp2_with fail;refine HB.mono ?_;rintro e w3 ⟨he,hb3⟩;have hb13:=hb12.trans (hb3.mono hb12.size);have hu3:=z0e hu2 hb3;have hx3:=hx2.below hb3;clear HB hu2 hx2;cases he with
  |bad F B hf hB=>
   obtain⟨z,hz⟩:=z5V hf;rw[hz];go_wp2
   (try simp only[Exit.inBlock,Exit.then])
   refine bodyPost_ret (z5i rfl _ _ _) rfl ?_;rw[<-hz];exact⟨.bad F (.bases m B h hB hf) hf,hb13⟩
  |ok B v3 hB hv3=>
   obtain⟨P,Q,hP⟩:=finds_some (z1T m (obAt (rdD D T) root));have hBc:=hB.cut;have hz:=fun j=>cutB_zero (m:=m) (b:=B) j
   rw[z1f (h:=intC (cutB m B)) (fun i hi=>by unfold intC;rw[<-cutB_is (b:=B) hi])]at hv3;clear hB;generalize cutB m B=B' at *;obtain⟨xa,xc,hxe,_,hrow⟩:=hx3.own.row hx3.at';cases hxe;obtain⟨a3,c3,rfl,_,hr3⟩:=z5a hv3;have HA:=all_any xa a3 m xc m c3 V (obAt (rdD D T) root) B' P Q w3 (by omega) (by unfold maxLen;omega) hrow hr3 hok hP;clear hr3 hrow;go_wp2_with fail;refine HA.mono ?_;rintro e w4 ⟨he,hb4⟩;have hb14:=hb13.trans (hb4.mono hb13.size);have hu4:=z0e hu3 hb4;have hx4:=hx3.below hb4;have hv4:=z0e hv3 hb4;clear HA hu3 hx3 hv3;cases he with
   |bad hf=>
    obtain⟨z,hz2⟩:=z5V hf;rw[hz2];go_wp2
    (try simp only[Exit.inBlock,Exit.then])
    refine bodyPost_ret (z5i rfl _ _ _) rfl ?_;rw[<-hz2];exact⟨.bad _ (.all m B' P Q h hBc hz hP rfl hf) hf,hb14⟩
   |ok hf v4 ho4=>
    go_wp2
    (try simp only[Exit.inBlock,Exit.then])
    refine bodyPost_ret (z5i rfl _ _ _) rfl ?_;exact⟨.ok m B' P Q _ _ _ _ V ⟨h,hBc,hz,hP,hf⟩ hu4 hx4 (World.ownsRow.mono hv4 hb12.size) (World.ownsRow.mono ho4 hb13.size),hb14⟩
end Go.Proofs.YtbcpcbonlhlhpaaGreatDoor
namespace Go.Proofs.YtbcpcbonlhlhpaaGreatDoor
open Go.RowKit Go.Maps
abbrev z4m (rd:ByteArray->Nat×ObjF)(root:ByteArray)(m:Nat)(B:Nat->Int)(P Q:ByteArray->Int):Nat->Nat->Int:=
 putF (fun i j=>(obAt rd root i).words j) (pP (z0l rd root m B P Q)) (pT (z0l rd root m B P Q)) (pV (z0l rd root m B P Q)) (z0l rd root m B P Q).length
structure z5y (w:World)(B0:Nat)(v:Value)(n:Nat)(nm:Nat->ByteArray)(B:Nat->Int)(M:Nat->Nat)(X:Nat->Nat->Int)(g:Nat)(A:Nat->Option Addr)(C G:Nat->Nat):Prop where
 out:z4V w B0 g n M A C G X
 own:w.ownsRow B0 110 3 v n (z0i (z4Z nm B A M C) n)
inductive LoadEnd (w:World) (B0:Nat) (rd:ByteArray->Nat×ObjF) (root:ByteArray):Ending->Prop
 |bad (F:Nat) (h:ReckIs rd root F) (hf:F≠0):LoadEnd w B0 rd root (.returned (.tuple #[.slice none 0 0,errV F]))
 |ok (m:Nat) (B:Nat->Int) (P Q:ByteArray->Int) (u:Value) (g:Nat) (A:Nat->Option Addr) (C G:Nat->Nat) (h:z0Z rd root m B P Q)
  (hu:z5y w B0 u m (nmAt rd root) B (fun i=>(obAt rd root i).nW) (z4m rd root m B P Q) g A C G):LoadEnd w B0 rd root (.returned (.tuple #[u,.nilIface]))
theorem pats_ok{O:Nat->ObjF}{P Q:ByteArray->Int}{B:Nat->Int}{m:Nat}(h:∀j,j<m->z3J (O j)):AllOk (fun k=>z7e m (fun i=>(O i).nW) (pP (z0A O P Q B m) k) (pT (z0A O P Q B m) k)) (z0A O P Q B m).length:=fun k hk=>by
 have hm:(z0A O P Q B m).getD k (0,0,0)∈z0A O P Q B m:=by
  rw[List.getD_eq_getElem?_getD,List.getElem?_eq_getElem hk];exact List.getElem_mem hk
 obtain⟨i,q,hi,hq,e⟩:=patsTo_mem hm;have ht:=(h i hi).ties q hq;show(z0j ((z0A O P Q B m).getD k (0,0,0)).1 (m:Int)&&z0j ((z0A O P Q B m).getD k (0,0,0)).2.1 ((O (((z0A O P Q B m).getD k (0,0,0)).1:Int).toNat).nW:Int))=true;rw[e];show(z0j (i:Int) (m:Int)&&z0j ((O i).tAt q) ((O (i:Int).toNat).nW:Int))=true;rw[Int.toNat_natCast];simp only[z0j,Bool.and_eq_true,decide_eq_true_eq];omega
theorem load_any(w:World)(p bm:Nat)(D:DataW Unit)(k:Nat)(T:ByteArray->ByteArray)(root:ByteArray)(h:z0q w p bm D k)(hI:Inv D k)(hT:z4C D T)(hE:Env w)(hroot:root.size<=maxLen) :
 Calls Tryz.prog 150 #[.pointer (some ⟨p,0,none⟩),.string root] w fun e w'=>LoadEnd w' w.heap.size (rdD D T) root e/\Below w.heap.size w w':=by
 have HR:=reckon_any w p bm D k T root h hI hT hE hroot;have hfew:=z6y (T:=T) hI;go_enter Tryz.func150,Tryz.ntmps150;go_wp2_with fail;refine HR.mono ?_;rintro e w1 ⟨he,hb1⟩;clear HR h hT hE hroot hI;cases he with
 |bad F h hf=>
  obtain⟨z,hz⟩:=z5V hf;rw[hz];go_wp2;go_ret2;rw[<-hz];exact⟨.bad F h hf,hb1⟩
 |ok m B P Q u x b p V h hu hx hb hp=>
  obtain⟨hS,hlen,hnm⟩:=z4s h.of hfew;have hok:∀j,j<m->z3J (obAt (rdD D T) root j):=fun j hj=>rd_ok (by rw[hS.read j hj])
  have hm6:=hS.few;obtain⟨xa,xc,rfl,_,hrow⟩:=hx.own.row hx.at';obtain⟨ua,uc,rfl,_,hur⟩:=z3H hu;obtain⟨ba,bc,rfl,_,hbr⟩:=z5a hb;obtain⟨pa,pc,rfl,_,hpr⟩:=rows_pat hp;rw[hlen]at hur ⊢;have hur2:z1z w1 ua m fun i=>.string (nmAt (rdD D T) root i):=by
   rcases hur with h0|⟨bk,o,ha,hc⟩
   ·exact .inl h0
   ·exact .inr ⟨bk,o,ha,fun i hi=>by rw[hc i hi];show some (Value.string _)=_;rw[hnm i hi]⟩
  have hnp:(z0l (rdD D T) root m B P Q).length<=1000:=by
   have:=z6H (O:=obAt (rdD D T) root) P Q B (i:=m) fun j hj=>(hok j hj).nT
   show(z0A (obAt (rdD D T) root) P Q B m).length<=1000;omega
  have HL:=lay_any ua ba xa pa m uc bc xc (z0l (rdD D T) root m B P Q).length pc (nmAt (rdD D T) root) B V (obAt (rdD D T) root) _ _ _ w1 (by omega) (fun i hi=>by have:=(hok i hi).nW;omega) hnp hur2 hbr hrow hpr;have hpo:=pats_ok (P:=P) (Q:=Q) (B:=B) hok;clear hur hur2 hbr hpr hrow hp hb hu hx hS hlen hnm hfew;go_wp2_with fail;refine HL.mono ?_;rintro e w2 ⟨he,hb2⟩;have hb12:=hb1.trans (hb2.mono hb1.size);clear HL;cases he with
  |bad hbad=>exact(hbad.not hpo).elim
  |ok u g A C G hal ho hu=>
   go_wp2;go_ret2;exact⟨.ok m B P Q _ g A C G h ⟨{ho with hB:=Nat.le_trans hb1.size ho.hB,own:=fun i hi hm=>Nat.le_trans hb1.size (ho.own i hi hm)},World.ownsRow.mono hu hb1.size⟩,hb12⟩
end Go.Proofs.YtbcpcbonlhlhpaaGreatDoor
