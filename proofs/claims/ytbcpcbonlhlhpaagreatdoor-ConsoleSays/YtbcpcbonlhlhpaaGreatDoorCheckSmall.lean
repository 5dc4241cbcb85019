/- What fits, Check, NameFault and same return, for every -/
import Derived.Test.YtbcpcbonlhlhpaaGreatDoorPlain
import Derived.WalkSpells
import Derived.Deep.OwnRows
import Derived.Laws.AppendOwn
import Derived.Deep.RegionLaw
namespace Go.Proofs.YtbcpcbonlhlhpaaGreatDoor
open Go.RowKit
set_option maxHeartbeats 400000
theorem fits_any(n:Int)(b:Bool)(w:World)(h0:0<=n)(h1:n<=255) :
 Calls Tryz.prog 141 #[.int .u8 n,.bool b] w fun e w'=>e=.returned (.bool (fit n b))/\w=w':=by
 cases b
 all_goals
  by_cases a1:97<=n
  all_goals by_cases a2:n<=122
  all_goals by_cases a3:48<=n
  all_goals by_cases a4:n<=57
  all_goals by_cases a5:n=95
  all_goals try omega
 all_goals
  go_enter Tryz.func141,Tryz.ntmps141;go_wp2;go_ret;exact⟨z0w (by first|(simp[fit];done)|(simp[fit];omega)|(rw[Bool.eq_iff_iff];simp[fit];omega)),rfl⟩
theorem z4U (s:ByteArray)(w:World)(hs:s.size<=maxLen) :
 Calls Tryz.prog 100 #[.string s] w fun e w'=>e=.returned (errV (z0r s.data.toList))/\w=w':=by
 unfold maxLen at hs;have hl:s.data.toList.length=s.size:=by simp
 by_cases h0:s.size<1
 ·have HF:Hid (z0r s.data.toList=1):=z4I _ (by omega);have hz:((s.size:Int)==0)=true:=by rw[beq_iff_eq];omega
  clear hl h0;go_enter Tryz.func100,Tryz.ntmps100;go_wp2;go_ret;rw[HF.out];exact⟨rfl,rfl⟩
 ·have hz:((s.size:Int)==0)=false:=by rw[beq_eq_false_iff_ne];omega
  by_cases h8:8<s.size
  ·have HF:Hid (z0r s.data.toList=1):=z4I _ (by omega);have h8':(8:Int)<s.size:=by omega
   clear hl h0 h8;go_enter Tryz.func100,Tryz.ntmps100;go_wp2;go_ret;rw[HF.out];exact⟨rfl,rfl⟩
  ·have HL:Hid (s.data.toList.length=s.size):=hl;clear hl;go_enter Tryz.func100,Tryz.ntmps100;go_wp2;go_loop [15] (fun i=>∃k:Nat,k<=s.size/\i=.int .i64 k/\Hid (z6p s.data.toList k=true)) (fun i=>s.size-(intOf i).toNat)
   case atStart=>exact⟨0,Nat.zero_le _,rfl,rfl⟩
   case round=>
    obtain⟨k,hk,rfl,HK⟩:=hrel;by_cases hlt:k<s.size
    ·have hb:(s[k].toNat:Int)<256:=by have:=s[k].toNat_lt;omega
     have HS:Hid (z6p s.data.toList (k+1)=fit (s[k].toNat:Int) ((k:Int)==0)):=fitTo_succ s k hlt HK.out;by_cases hf:fit (s[k].toNat:Int) ((k:Int)==0)=true
     ·go_wp2_with (go_at_call 141;refine(fits_any _ _ _ (by omega) (by omega)).mono ?_;rintro e w' ⟨rfl,rfl⟩);go_round
      case rel=>exact⟨k+1,by omega,by go_num,HS.out.trans hf⟩
      case measure=>simp[intOf];omega
     ·simp only[Bool.not_eq_true]at hf;have HF:Hid (z0r s.data.toList=3):=nameF_shape _ (by rw[HL.out];omega) (fitTo_false _ (k+1) _ (by rw[HL.out];omega) (HS.out.trans hf));go_wp2_with (go_at_call 141;refine(fits_any _ _ _ (by omega) (by omega)).mono ?_;rintro e w' ⟨rfl,rfl⟩);go_ret;rw[HF.out];exact⟨rfl,rfl⟩
    ·have HF:Hid (z0r s.data.toList=0):=nameF_ok _ (by rw[HL.out];omega) (by rw[HL.out];have e:k=s.size:=by omega
                                                                             rw[<-e];exact HK.out)
     go_wp2;go_ret;rw[HF.out];exact⟨rfl,rfl⟩
end Go.Proofs.YtbcpcbonlhlhpaaGreatDoor
namespace Go.Proofs.YtbcpcbonlhlhpaaGreatDoor
open Go.RowKit
def z1z (w:World)(a:Option Addr)(n:Nat)(f:Nat->Value):Prop:=
 n=0∨∃b o,a=some ⟨b,o,none⟩/\∀i,i<n->w.cell? ⟨b,o+i,none⟩=some (f i)
theorem z1z.later{w w':World}{a:Option Addr}{n:Nat}{f:Nat->Value}(h:z1z w a n f)(hb:Below w.heap.size w w'):z1z w' a n f:=by
 rcases h with h|⟨b,o,ha,hc⟩
 ·exact .inl h
 ·exact .inr ⟨b,o,ha,fun i hi=>cell_later hb (hc i hi)⟩
end Go.Proofs.YtbcpcbonlhlhpaaGreatDoor
namespace Go.Proofs.YtbcpcbonlhlhpaaGreatDoor
open Go.RowKit
def z4K (w:World)(a:Option Addr)(n:Nat)(s:Nat->ByteArray)(v:Nat->Int)(b:Nat->Bool):Prop:=
 n=0∨∃bk o,a=some ⟨bk,o,none⟩/\∀i,i<n->w.cell? ⟨bk,o+i*3,none⟩=some (.string (s i))/\w.cell? ⟨bk,o+i*3+1,none⟩=some (.int .i64 (v i))/\w.cell? ⟨bk,o+i*3+2,none⟩=some (.bool (b i))
def z6x (w:World)(a:Option Addr)(n:Nat)(x k d:Nat->Int)(s:Nat->ByteArray)(b:Nat->Bool):Prop:=
 n=0∨∃bk o,a=some ⟨bk,o,none⟩/\∀i,i<n->w.cell? ⟨bk,o+i*5,none⟩=some (.int .i64 (x i))/\w.cell? ⟨bk,o+i*5+1,none⟩=some (.int .i64 (k i))/\w.cell? ⟨bk,o+i*5+2,none⟩=some (.int .i64 (d i))/\w.cell? ⟨bk,o+i*5+3,none⟩=some (.string (s i))/\w.cell? ⟨bk,o+i*5+4,none⟩=some (.bool (b i))
theorem z4K.later{w w':World}{a:Option Addr}{n:Nat}{s:Nat->ByteArray}{v:Nat->Int}{b:Nat->Bool}(h:z4K w a n s v b)(hb:Below w.heap.size w w'):z4K w' a n s v b:=by
 rcases h with h|⟨bk,o,ha,hc⟩
 ·exact .inl h
 ·exact .inr ⟨bk,o,ha,fun i hi=>⟨cell_later hb (hc i hi).1,cell_later hb (hc i hi).2.1,cell_later hb (hc i hi).2.2⟩⟩
theorem z6x.later{w w':World}{a:Option Addr}{n:Nat}{x k d:Nat->Int}{s:Nat->ByteArray}{b:Nat->Bool}(h:z6x w a n x k d s b)(hb:Below w.heap.size w w'):z6x w' a n x k d s b:=by
 rcases h with h|⟨bk,o,ha,hc⟩
 ·exact .inl h
 ·exact .inr ⟨bk,o,ha,fun i hi=>⟨cell_later hb (hc i hi).1,cell_later hb (hc i hi).2.1,cell_later hb (hc i hi).2.2.1,cell_later hb (hc i hi).2.2.2.1,cell_later hb (hc i hi).2.2.2.2⟩⟩
structure ObjV where
 aN:Option Addr
 cN:Nat
 aW:Option Addr
 cW:Nat
 aS:Option Addr
 cS:Nat
 aT:Option Addr
 cT:Nat
def ObjV.cells(v:ObjV)(o:ObjF):Array Value:=#[.slice v.aN o.nN v.cN,.slice v.aW o.nW v.cW,.slice v.aS o.nS v.cS,.slice v.aT o.nT v.cT]
structure z1C (w:World)(v:ObjV)(o:ObjF):Prop where
 needs:z1z w v.aN o.nN fun i=>.string (o.needs i)
 words:z1z w v.aW o.nW fun i=>.int .i64 (o.words i)
 syms:z4K w v.aS o.nS o.sName o.sAt o.sWeak
 ties:z6x w v.aT o.nT o.tAt o.tKind o.tAdd o.tName o.tWeak
 capN:o.nN<=v.cN
 capS:o.nS<=v.cS
theorem z1C.later{w w':World}{v:ObjV}{o:ObjF}(h:z1C w v o)(hb:Below w.heap.size w w'):z1C w' v o:=
 ⟨h.needs.later hb,h.words.later hb,h.syms.later hb,h.ties.later hb,h.capN,h.capS⟩
structure z6z (o:ObjF):Prop where
 lN:o.nN<=maxLen
 lW:o.nW<=maxLen
 lS:o.nS<=maxLen
 lT:o.nT<=maxLen
 needs:∀i,i<o.nN->(o.needs i).size<=maxLen
 words:∀i,i<o.nW->(Lit.int .i64 (o.words i)).wf=true
 syms:∀i,i<o.nS->(o.sName i).size<=maxLen/\(Lit.int .i64 (o.sAt i)).wf=true
 ties:∀i,i<o.nT->(o.tName i).size<=maxLen/\(Lit.int .i64 (o.tAt i)).wf=true/\(Lit.int .i64 (o.tKind i)).wf=true/\(Lit.int .i64 (o.tAdd i)).wf=true
end Go.Proofs.YtbcpcbonlhlhpaaGreatDoor
namespace Go.Proofs.YtbcpcbonlhlhpaaGreatDoor
open Go.RowKit
structure ObjHere(w:World)(bk o:Nat)(v:ObjV)(x:ObjF):Prop where
 c0:w.cell? ⟨bk,o,none⟩=some (.slice v.aN x.nN v.cN)
 c1:w.cell? ⟨bk,o+1,none⟩=some (.slice v.aW x.nW v.cW)
 c2:w.cell? ⟨bk,o+2,none⟩=some (.slice v.aS x.nS v.cS)
 c3:w.cell? ⟨bk,o+3,none⟩=some (.slice v.aT x.nT v.cT)
 here:z1C w v x
theorem ObjHere.later{w w':World}{bk o:Nat}{v:ObjV}{x:ObjF}(h:ObjHere w bk o v x)(hb:Below w.heap.size w w'):ObjHere w' bk o v x:=
 ⟨cell_later hb h.c0,cell_later hb h.c1,cell_later hb h.c2,cell_later hb h.c3,h.here.later hb⟩
def z3U (w:World)(a:Option Addr)(n:Nat)(V:Nat->ObjV)(O:Nat->ObjF):Prop:=
 n=0∨∃bk o,a=some ⟨bk,o,none⟩/\∀i,i<n->ObjHere w bk (o+i*4) (V i) (O i)
theorem z3U.later{w w':World}{a:Option Addr}{n:Nat}{V:Nat->ObjV}{O:Nat->ObjF}(h:z3U w a n V O)(hb:Below w.heap.size w w'):z3U w' a n V O:=by
 rcases h with h|⟨bk,o,ha,hc⟩
 ·exact .inl h
 ·exact .inr ⟨bk,o,ha,fun i hi=>(hc i hi).later hb⟩
def z1T (n:Nat)(O:Nat->ObjF):z3S:=⟨n,fun i=>(O i).nS,fun i=>(O i).sName,fun i=>(O i).sWeak⟩
end Go.Proofs.YtbcpcbonlhlhpaaGreatDoor
namespace Go.Proofs.YtbcpcbonlhlhpaaGreatDoor
open Go.RowKit
def z6m (w:World)(a:Option Addr)(n:Nat)(p t v:Nat->Int):Prop:=
 n=0∨∃bk o,a=some ⟨bk,o,none⟩/\∀i,i<n->w.cell? ⟨bk,o+i*3,none⟩=some (.int .i64 (p i))/\w.cell? ⟨bk,o+i*3+1,none⟩=some (.int .i64 (t i))/\w.cell? ⟨bk,o+i*3+2,none⟩=some (.int .i64 (v i))
theorem z6m.later{w w':World}{a:Option Addr}{n:Nat}{p t v:Nat->Int}(h:z6m w a n p t v)(hb:Below w.heap.size w w'):z6m w' a n p t v:=by
 rcases h with h|⟨bk,o,ha,hc⟩
 ·exact .inl h
 ·exact .inr ⟨bk,o,ha,fun i hi=>⟨cell_later hb (hc i hi).1,cell_later hb (hc i hi).2.1,cell_later hb (hc i hi).2.2⟩⟩
def ListsRow(w:World)(a:Option Addr)(n:Nat)(A:Nat->Option Addr)(M C:Nat->Nat)(X:Nat->Nat->Int):Prop:=
 n=0∨∃bk o,a=some ⟨bk,o,none⟩/\∀i,i<n->w.cell? ⟨bk,o+i,none⟩=some (.slice (A i) (M i) (C i))/\z1z w (A i) (M i) fun j=>.int .i64 (X i j)
theorem ListsRow.later{w w':World}{a:Option Addr}{n:Nat}{A:Nat->Option Addr}{M C:Nat->Nat}{X:Nat->Nat->Int}(h:ListsRow w a n A M C X)(hb:Below w.heap.size w w'):ListsRow w' a n A M C X:=by
 rcases h with h|⟨bk,o,ha,hc⟩
 ·exact .inl h
 ·exact .inr ⟨bk,o,ha,fun i hi=>⟨cell_later hb (hc i hi).1,(hc i hi).2.later hb⟩⟩
def z7e (n:Nat)(M:Nat->Nat)(p t:Int):Bool:=z0j p n&&z0j t (M p.toNat)
def putF(X:Nat->Nat->Int)(p t v:Nat->Int):Nat->Nat->Nat->Int
 |0,i,j=>X i j
 |k+1,i,j=>if p k=i/\t k=j then v k else putF X p t v k i j
def BadAt(f:Nat->Bool)(n:Nat):Prop:=∃k,k<n/\f k=false
def AllOk(f:Nat->Bool)(n:Nat):Prop:=∀k,k<n->f k=true
theorem BadAt.not{f:Nat->Bool}{n:Nat}(h:BadAt f n)(h':AllOk f n):False:=by
 obtain⟨k,hk,e⟩:=h;rw[h' k hk]at e;cases e
structure z4V (w:World)(B g n:Nat)(M:Nat->Nat)(A:Nat->Option Addr)(C G:Nat->Nat)(X:Nat->Nat->Int):Prop where
 hB:B<=g
 lt:g<w.heap.size
 top:∀i,i<n->w.cell? ⟨g,i,none⟩=some (.slice (A i) (M i) (C i))
 free:∀i,w.frozen? ⟨g,i,none⟩=false
 adr:∀i,i<n->0<M i->A i=some ⟨G i,0,none⟩
 own:∀i,i<n->0<M i->B<=G i
 ne:∀i,i<n->0<M i->G i≠g
 row:∀i,i<n->∀j,j<M i->w.cell? ⟨G i,j,none⟩=some (.int .i64 (X i j))
 rfree:∀i,i<n->0<M i->∀j,w.frozen? ⟨G i,j,none⟩=false
 apart:∀i j,i<n->j<n->i≠j->0<M i->0<M j->G i≠G j
theorem z4V.later{w w':World}{B g n:Nat}{M:Nat->Nat}{A:Nat->Option Addr}{C G:Nat->Nat}{X:Nat->Nat->Int}(h:z4V w B g n M A C G X)(hb:Below w.heap.size w w'):z4V w' B g n M A C G X where
 hB:=h.hB
 lt:=Nat.lt_of_lt_of_le h.lt hb.size
 top:=fun i hi=>cell_later hb (h.top i hi)
 free:=fun i=>by rw[hb.frozen (p:=⟨g,i,none⟩) h.lt];exact h.free i
 adr:=h.adr
 own:=h.own
 ne:=h.ne
 row:=fun i hi j hj=>cell_later hb (h.row i hi j hj)
 rfree:=fun i hi hm j=>by
  have:=World.block_lt_of_cell? _ _ (h.row i hi 0 hm);rw[hb.frozen (p:=⟨G i,j,none⟩) this];exact h.rfree i hi hm j
 apart:=h.apart
theorem z4V.put{w:World}{B g n:Nat}{M:Nat->Nat}{A:Nat->Option Addr}{C G:Nat->Nat}{X:Nat->Nat->Int}(h:z4V w B g n M A C G X){x y:Nat}(hx:x<n)(hy:y<M x)(v:Int) :
 z4V (w.setCell ⟨G x,y,none⟩ (.int .i64 v)) B g n M A C G fun i j=>if i=x/\j=y then v else X i j where
 hB:=h.hB
 lt:=by simpa[World.setCell]using h.lt
 top:=fun i hi=>by
  rw[World.cell?_setCell_other _ _ _ _ (by intro e;injection e with e _ _;exact h.ne x hx (by omega) e)];exact h.top i hi
 free:=fun i=>by rw[World.frozen?_setCell];exact h.free i
 adr:=h.adr
 own:=h.own
 ne:=h.ne
 row:=fun i hi j hj=>by
  by_cases e:i=x/\j=y
  ·obtain⟨rfl,rfl⟩:=e;rw[World.cell?_setCell_same _ _ _ (h.row i hi j hj)];simp
  ·rw[World.cell?_setCell_other _ _ _ _ ?_,if_neg e]
   ·exact h.row i hi j hj
   ·intro e2;injection e2 with e2 e3 _;by_cases hix:i=x
    ·subst hix;exact e ⟨rfl,e3.symm⟩
    ·exact h.apart i x hi hx hix (by omega) (by omega) e2.symm
 rfree:=fun i hi hm j=>by rw[World.frozen?_setCell];exact h.rfree i hi hm j
 apart:=h.apart
theorem z4V.congr{w:World}{B g n:Nat}{M:Nat->Nat}{A:Nat->Option Addr}{C G:Nat->Nat}{X Y:Nat->Nat->Int}(h:z4V w B g n M A C G X)(e:∀i,i<n->∀j,j<M i->X i j=Y i j):z4V w B g n M A C G Y:=
 {h with row:=fun i hi j hj=>by rw[<-e i hi j hj];exact h.row i hi j hj}
end Go.Proofs.YtbcpcbonlhlhpaaGreatDoor
namespace Go.Proofs.YtbcpcbonlhlhpaaGreatDoor
open Go.RowKit
def z0i (g:Nat->List Value):Nat->List Value
 |0=>[]
 |k+1=>z0i g k++g k
theorem z1f {g h:Nat->List Value}{n:Nat}(e:∀i,i<n->g i=h i):z0i g n=z0i h n:=by
 induction n with
 |zero=>rfl
 |succ n ih=>simp only[z0i,ih (fun i hi=>e i (by omega)),e n (by omega)]
theorem z3B {g:Nat->List Value}{s n:Nat}(e:∀i,i<n->(g i).length=s):(z0i g n).length=n*s:=by
 induction n with
 |zero=>simp[z0i]
 |succ n ih=>simp only[z0i,List.length_append,ih (fun i hi=>e i (by omega)),e n (by omega),Nat.add_mul];omega
theorem z2G {g:Nat->List Value}{s n i j:Nat}(e:∀i,i<n->(g i).length=s)(hi:i<n)(hj:j<s):(z0i g n)[i*s+j]?=(g i)[j]?:=by
 induction n with
 |zero=>omega
 |succ n ih=>
  have hl:=z3B (g:=g) (s:=s) (n:=n) (fun i hi=>e i (by omega));simp only[z0i];by_cases h:i=n
  ·subst h;rw[List.getElem?_append_right (by omega),hl];congr 1;omega
  ·have hlt:i*s+j<n*s:=by
    have h1:(i+1)*s<=n*s:=Nat.mul_le_mul_right s (by omega);rw[Nat.add_mul]at h1;omega
   rw[List.getElem?_append_left (by omega)];exact ih (fun i hi=>e i (by omega)) (by omega)
theorem joinC_mem{g:Nat->List Value}{n:Nat}{u:Value}(h:u∈z0i g n):∃i,i<n/\u∈g i:=by
 induction n with
 |zero=>simp[z0i]at h
 |succ n ih=>
  simp only[z0i,List.mem_append]at h;rcases h with h|h
  ·obtain⟨i,hi,hu⟩:=ih h;exact⟨i,by omega,hu⟩
  ·exact⟨n,by omega,h⟩
theorem add_at(b o j:Nat):(⟨b,o,none⟩:Addr).add j=⟨b,o+j,none⟩:=by cases j <;> simp[Addr.add]
theorem z0K {w:World}{B:Nat}{e:TypeId}{s n:Nat}{a:Option Addr}{m c:Nat}{xs:List Value}(h:w.ownsRow B e s (.slice a m c) n xs){j:Nat}{u:Value}(hj:xs[j]?=some u) :
 ∃g,a=some ⟨g,0,none⟩/\B<=g/\w.cell? ⟨g,j,none⟩=some u:=by
 have hlen:=h.1;rcases h.2 with⟨hv,rfl⟩|⟨g,cap,cur,hv,hB,hg,_,_,hcs,ht⟩
 ·have:xs=[]:=List.eq_nil_of_length_eq_zero (by simpa using hlen);subst this;simp at hj
 ·injection hv with h1 h2 h3;refine⟨g,h1,hB,?_⟩;rw[<-ht]at hj;have hlt:j<n*s:=by
   have:=(List.getElem?_eq_some_iff.1 hj).1;simp at this;omega
  rw[List.getElem?_take_of_lt hlt]at hj;simp[World.cell?,hg];simpa using hj
theorem z0c {w:World}{B:Nat}{e:TypeId}{s n:Nat}{v:Value}{xs:List Value}(h:w.ownsRow B e s v n xs):∃a c,v=.slice a n c/\n<=c:=by
 rcases h.2 with⟨rfl,rfl⟩|⟨g,cap,cur,rfl,_,_,hc,_⟩
 ·exact⟨_,_,rfl,Nat.le_refl _⟩
 ·exact⟨_,_,rfl,hc⟩
theorem z0e {w w':World}{B:Nat}{e:TypeId}{s n:Nat}{v:Value}{xs:List Value}(h:w.ownsRow B e s v n xs)(hb:Below w.heap.size w w'):w'.ownsRow B e s v n xs:=by
 refine h.kept (row:=none) ⟨hb.os,hb.tape,hb.output,hb.size,fun k hk _=>hb.block k hk⟩ ?_;cases hv:v.ownBlock <;> simp
theorem z4T {B:Nat}{w w':World}{e:TypeId}{s n:Nat}{v:Value}{xs:List Value}(h:w.ownsRow B e s v n xs)(hB:B<=w.heap.size)(hg:w.grownBy w' v.ownBlock):Below B w w':=
 (Below.refl B w).grown hg hB (fun k hk=>(h.lt k hk).1)
structure Grown(B:Nat)(e:TypeId)(s:Nat)(w:World)(v:Value)(n:Nat)(xs:List Value)(v':Value)(W:World):Prop where
 own:W.ownsRow B e s v' n xs
 grown:w.grownBy W v.ownBlock
 below:Below B w W
theorem append_none(t e ty:TypeId)(size bytes:Nat)(z:Value)(ht:Tryz.prog.underlying t=some (.slice e))(hinfo:(Tryz.prog.info? e).map (fun i=>(i.zero,i.size,i.bytes))=some (some z,size,bytes))
 (B:Nat) (w:World) (v:Value) (n c:Nat) (xs:List Value) (hown:w.ownsRow B e size v n xs) :
 (Builtin.append_ #[t,t] ty #[v,.slice none 0 c]).run Tryz.prog w=.ok v w:=by
 obtain⟨i,hi,hzz⟩:=Option.map_eq_some_iff.1 hinfo;simp only[Prod.mk.injEq]at hzz;obtain⟨hz,hs,hb⟩:=hzz;rcases hown.2 with⟨rfl,rfl⟩|⟨g,cap,cur,rfl,hbg,hg,hnc,hcm,hcs,htake⟩
 ·simp[Builtin.append_,run_underlying ht,sizeOf,typeInfo,hi,Builtin.lenOf,Builtin.firstCells]
 ·simp[Builtin.append_,run_underlying ht,sizeOf,typeInfo,hi,Builtin.lenOf,Builtin.firstCells,hnc,storeCells]
theorem z0J (t e:TypeId)(size bytes:Nat)(z:Value)(ht:Tryz.prog.underlying t=some (.slice e))(hinfo:(Tryz.prog.info? e).map (fun i=>(i.zero,i.size,i.bytes))=some (some z,size,bytes))(hzs:z.cells.size=size)(hsz:0<size)
 (B:Nat) (w:World) (v:Value) (n:Nat) (xs:List Value) (hown:w.ownsRow B e size v n xs) (a:Option Addr) (m c:Nat) (news:List Value) (hl:news.length=m*size)
 (hsrc:m=0∨∃b o,a=some ⟨b,o,none⟩/\∀j u,news[j]?=some u->w.cell? ⟨b,o+j,none⟩=some u) (h1:∀u∈news,u.oneCell'=true) (hB:B<=w.heap.size) (hn:n+m<=1000000) (hby:bytes<=1000) :
 ∃v' W,(Builtin.append_ #[t,t] t #[v,.slice a m c]).run Tryz.prog w=.ok v' W/\Grown B e size w v (n+m) (xs++news) v' W:=by
 obtain⟨i,hi,hzz⟩:=Option.map_eq_some_iff.1 hinfo;simp only[Prod.mk.injEq]at hzz;obtain⟨hz,hs,hb⟩:=hzz;have hbnd:(n+m)*bytes<=140737488355328:=by
  have:(n+m)*bytes<=1000000*1000:=Nat.mul_le_mul hn hby;omega
 have fin:∀(ad:Addr),(∀j u,news[j]?=some u->w.cell? (ad.add j)=some u)->∃v' W,(Builtin.append_ #[t,t] t #[v,.slice (some ad) m c]).run Tryz.prog w=.ok v' W/\Grown B e size w v (n+m) (xs++news) v' W:=fun ad hc=>by
  obtain⟨v',W,h2,h3,h4,_⟩:=run_append_own (P:=Tryz.prog) w B t t e i z size bytes ht hi hz hs hb hzs hsz v n xs hown ad m c news hl hc h1 (by simp only[maxLen];omega) hbnd hB;exact⟨v',W,h2,h3,h4,z4T hown hB h4⟩
 cases a with
 |none=>
  rcases hsrc with rfl|⟨b,o,h,_⟩
  ·have:news=[]:=List.eq_nil_of_length_eq_zero (by simpa using hl);subst this;exact⟨v,w,append_none t e t size bytes z ht hinfo B w v n c xs hown,by simpa using hown,⟨rfl,rfl,rfl,Nat.le_refl _,fun _ _ _=>rfl⟩,Below.refl _ _⟩
  ·cases h
 |some ad=>
  refine fin ad ?_;rcases hsrc with rfl|⟨b,o,h,hc⟩
  ·have:news=[]:=List.eq_nil_of_length_eq_zero (by simpa using hl);subst this;intro j u hj;simp at hj
  ·injection h with h;subst h;intro j u hj;rw[add_at];exact hc j u hj
theorem step_own{P:Program}{ops:Array Oper}{o:Oper}{a:Act}{w:World}{K:Act->World->Prop}{Q:Exit->Act->World->Prop}{E:Prop}{R:Value->World->Prop}
 (hg:o.guard=none) (s x:Operand) (t:TypeId) (hop:o.op=Op.call {callee:=Callee.builtin Builtin.append,args:=#[s,x],argTypes:=#[t,t]}) (v sl:Value)
 (hs:a.eval s=v) (hx:a.eval x=sl) (hrun:∃v' W,(Builtin.append_ #[t,t] o.type #[v,sl]).run P w=.ok v' W/\R v' W) (hK:∀v' W,R v' W->K (a.put o.dst v') W) :
 if Region.wanted o (yielded ops a.tmps)=true then Oper.wp P o a w K Q else E:=by
 obtain⟨v',W,hrun,hR⟩:=hrun;have hw:Region.wanted o (yielded ops a.tmps)=true:=by simp[Region.wanted,hg]
 rw[if_pos hw];unfold Oper.wp;simp[execOp,hop,resolve,invoke,builtin,hs,hx,hrun,Result.andThen];exact hK _ _ hR
theorem step_run{P:Program}{ops:Array Oper}{o:Oper}{a:Act}{w W:World}{K:Act->World->Prop}{Q:Exit->Act->World->Prop}{E:Prop}
 (hg:o.guard=none) (s x:Operand) (t:TypeId) (hop:o.op=Op.call {callee:=Callee.builtin Builtin.append,args:=#[s,x],argTypes:=#[t,t]}) (v sl v':Value)
 (hs:a.eval s=v) (hx:a.eval x=sl) (hrun:(Builtin.append_ #[t,t] o.type #[v,sl]).run P w=.ok v' W) (hK:K (a.put o.dst v') W) :
 if Region.wanted o (yielded ops a.tmps)=true then Oper.wp P o a w K Q else E:=
 step_own (R:=fun u X=>u=v'/\X=W) hg s x t hop v sl hs hx ⟨v',W,hrun,rfl,rfl⟩ (by rintro _ _ ⟨rfl,rfl⟩;exact hK)
theorem z0b {P:Program}{ops:Array Oper}{rest:List Oper}{o:Oper}{a:Act}{w W:World}{Q:Exit->Act->World->Prop}(hg:o.guard=none)(s x:Operand)(t:TypeId)
 (hop:o.op=Op.call {callee:=Callee.builtin Builtin.append,args:=#[s,x],argTypes:=#[t,t]}) (v sl v':Value)
 (hs:a.eval s=v) (hx:a.eval x=sl) (hrun:(Builtin.append_ #[t,t] o.type #[v,sl]).run P w=.ok v' W) (h:wpList P ops Q rest (a.put o.dst v') W):wpList P ops Q (o :: rest) a w:=
 wpList_plain hg fun _ hK=>by
  unfold Oper.wp;simp[execOp,hop,resolve,invoke,builtin,hs,hx,hrun,Result.andThen];exact hK _ _ h
end Go.Proofs.YtbcpcbonlhlhpaaGreatDoor
namespace Go.Proofs.YtbcpcbonlhlhpaaGreatDoor
open Go.RowKit
set_option maxHeartbeats 1000000
theorem isWord_any(n:Int)(w:World):Calls Tryz.prog 226 #[.int .i64 n] w fun e w'=>e=.returned (.bool (z0y n))/\w=w':=by
 by_cases h1:-2147483648<=n
 all_goals by_cases h2:n<=2147483647
 all_goals
  go_enter Tryz.func226,Tryz.ntmps226;go_wp2;go_ret;exact⟨z0w (by simp[z0y] <;> omega),rfl⟩
theorem isPlace_any(a n:Int)(w:World):Calls Tryz.prog 227 #[.int .i64 a,.int .i64 n] w fun e w'=>e=.returned (.bool (z0j a n))/\w=w':=by
 by_cases h1:0<=a
 all_goals by_cases h2:a<n
 all_goals
  go_enter Tryz.func227,Tryz.ntmps227;go_wp2;go_ret;exact⟨z0w (by simp[z0j] <;> omega),rfl⟩
theorem contains_any(f:Nat->ByteArray)(a:Option Addr)(n c:Nat)(s:ByteArray)(w:World)(hn:n<=1000000000)(hr:z1z w a n fun i=>.string (f i)) :
 Calls Tryz.prog 225 #[.slice a n c,.string s] w fun e w'=>e=.returned (.bool (z0H (fun j=>decide (f j=s)) n))/\w=w':=by
 generalize hF:z0H (fun j=>decide (f j=s)) n=F;have HF:Hid (z0H (fun j=>decide (f j=s)) n=F):=hF;clear hF;go_enter Tryz.func225,Tryz.ntmps225;go_wp2;go_loop [8] (fun x=>∃k:Nat,k<=n/\x=.int .i64 k/\Hid (z0H (fun j=>decide (f j=s)) k=false)) (fun x=>n-(intOf x).toNat)
 case atStart=>exact⟨0,Nat.zero_le _,rfl,rfl⟩
 case round=>
  obtain⟨k,hk,rfl,HK⟩:=hrel;by_cases hlt:k<n
  ·rcases hr with h0|⟨b,o,rfl,hc⟩
   ·omega
   ·have hck:=hc k hlt;by_cases he:f k=s
    ·have HE:Hid (F=true):=HF.out.symm.trans (z1D hlt (by simp[he]));have dq:(s.toList==(f k).toList)=true:=by rw[z0z];simp[he]
     clear hc he;go_wp2;go_ret;exact⟨z0w HE.out.symm,rfl⟩
    ·have HE:Hid (z0H (fun j=>decide (f j=s)) (k+1)=false):=z2U HK.out (by simp[he]);have dq:(s.toList==(f k).toList)=false:=by rw[z0z];simp;exact fun e=>he e.symm
     clear hc he;go_wp2;go_round
     case rel=>exact⟨k+1,by omega,by go_num,HE⟩
     case measure=>simp[intOf];omega
  ·have HE:Hid (F=false):=by
    have e:k=n:=by omega
    rw[<-HF.out,<-e];exact HK.out
   go_wp2;go_ret;exact⟨z0w HE.out.symm,rfl⟩
theorem checkCounts_any(v:ObjV)(o:ObjF)(w:World)(hf:z6z o) :
 Calls Tryz.prog 178 #[.agg (v.cells o)] w fun e w'=>e=.returned (errV (z2j o))/\Below w.heap.size w w':=by
 have hb:∀ob:Obj,Below w.heap.size w (w.alloc ob):=fun ob=>(Below.refl _ _).alloc (Nat.le_refl _) ob
 have l1:=hf.lN;have l2:=hf.lW;have l3:=hf.lS;have l4:=hf.lT;unfold maxLen at l1 l2 l3 l4;by_cases h:4<o.nN∨o.nW=0∨40<o.nW∨8<o.nS∨6<o.nT
 ·have HE:Hid (z2j o=2):=if_pos h;unfold ObjV.cells;by_cases h1:(4:Int)<(o.nN:Int)
  ·clear h;go_enter Tryz.func178,Tryz.ntmps178;go_wp2;go_ret;rw[HE.out];exact⟨rfl,hb _⟩
  ·by_cases h2:((o.nW:Int)==0)=true
   ·clear h;go_enter Tryz.func178,Tryz.ntmps178;go_wp2;go_ret;rw[HE.out];exact⟨rfl,hb _⟩
   ·simp only[Bool.not_eq_true]at h2;have h2':¬o.nW=0:=by rw[beq_eq_false_iff_ne]at h2;omega
    by_cases h3:(40:Int)<(o.nW:Int)
    ·clear h h2';go_enter Tryz.func178,Tryz.ntmps178;go_wp2;go_ret;rw[HE.out];exact⟨rfl,hb _⟩
    ·by_cases h4:(8:Int)<(o.nS:Int)
     ·clear h h2';go_enter Tryz.func178,Tryz.ntmps178;go_wp2;go_ret;rw[HE.out];exact⟨rfl,hb _⟩
     ·have h5:(6:Int)<(o.nT:Int):=by omega
      clear h h2';go_enter Tryz.func178,Tryz.ntmps178;go_wp2;go_ret;rw[HE.out];exact⟨rfl,hb _⟩
 ·have HE:Hid (z2j o=0):=if_neg h;unfold ObjV.cells;have h1:¬(4:Int)<(o.nN:Int):=by omega
  have h2:((o.nW:Int)==0)=false:=by rw[beq_eq_false_iff_ne];omega
  have h3:¬(40:Int)<(o.nW:Int):=by omega
  have h4:¬(8:Int)<(o.nS:Int):=by omega
  have h5:¬(6:Int)<(o.nT:Int):=by omega
  clear h;go_enter Tryz.func178,Tryz.ntmps178;go_wp2;go_ret;rw[HE.out];exact⟨rfl,hb _⟩
theorem z3j {f:Nat}(h:f=0):errV f=.nilIface:=by rw[h];rfl
theorem z1J {f:Nat}(h:f≠0):errV f=.iface 43 (.int .i64 (f:Int)):=by
 cases f with
 |zero=>omega
 |succ f=>rfl
theorem z3Y (f:Nat->ByteArray)(a:Option Addr)(n c:Nat)(w:World)(hn:n<=1000000000)(hc:n<=c)(hr:z1z w a n fun i=>.string (f i))(hs:∀i,i<n->(f i).size<=maxLen) :
 Calls Tryz.prog 179 #[.slice a n c] w fun e w'=>e=.returned (errV (z0a (z3w f) n))/\w=w':=by
 generalize hF:z0a (z3w f) n=F;have HF:Hid (z0a (z3w f) n=F):=hF;clear hF;go_enter Tryz.func179,Tryz.ntmps179;go_wp2;go_loop [8] (fun x=>∃k:Nat,k<=n/\x=.int .i64 k/\Hid (z0a (z3w f) k=0)) (fun x=>n-(intOf x).toNat)
 case atStart=>exact⟨0,Nat.zero_le _,rfl,rfl⟩
 case round=>
  obtain⟨k,hk,rfl,HK⟩:=hrel;by_cases hlt:k<n
  ·rcases hr with h0|⟨b,o,rfl,hc'⟩
   ·omega
   ·have hck:=hc' k hlt;have HN:=z4U (f k) w (hs k hlt);by_cases h0:z0r (f k).data.toList=0
    ·rw[z3j h0]at HN;have HC:=contains_any f (some ⟨b,o,none⟩) k c (f k) w (by omega) (.inr ⟨b,o,rfl,fun i hi=>hc' i (by omega)⟩);have HD:Hid (z3w f k=if dupF f k=true then 3 else 0):=by
      show z3w f k=_;unfold z3w;rw[h0,z0p]
     clear hc' h0 hs;cases hd:z0H (fun j=>decide (f j=f k)) k with
     |true=>
      have hd':dupF f k=true:=hd;have HE:Hid (F=3):=by
       rw[<-HF.out,z0E hlt HK.out (by rw[HD.out,if_pos hd'];decide),HD.out,if_pos hd'];rfl
      clear hd';rw[hd]at HC;clear hd;go_wp2_with fail;refine HN.mono ?_;rintro e w' ⟨rfl,rfl⟩;clear HN;go_wp2_with fail;refine HC.mono ?_;rintro e w' ⟨rfl,rfl⟩;clear HC;go_wp2;go_ret;rw[HE.out];exact⟨rfl,rfl⟩
     |false=>
      have HE:Hid (z0a (z3w f) (k+1)=0):=z0L HK.out (by rw[HD.out,if_neg (by unfold dupF;simp[hd])]);rw[hd]at HC;clear hd;go_wp2_with fail;refine HN.mono ?_;rintro e w' ⟨rfl,rfl⟩;clear HN;go_wp2_with fail;refine HC.mono ?_;rintro e w' ⟨rfl,rfl⟩;clear HC;go_wp2;go_round
      case rel=>exact⟨k+1,by omega,by go_num,HE⟩
      case measure=>simp[intOf];omega
    ·have HD:Hid (F=z0r (f k).data.toList):=by
      have e:z3w f k=z0r (f k).data.toList:=z1q _ h0;show F=_;rw[<-HF.out,z0E hlt HK.out (by rw[e];exact h0),e]
     rw[z1J h0]at HN;have HV:Hid (errV F=.iface 43 (.int .i64 ((z0r (f k).data.toList:Nat):Int))):=by
      show errV F=_;rw[HD.out,z1J h0]
     clear hc' h0 hs;go_wp2_with fail;refine HN.mono ?_;rintro e w' ⟨rfl,rfl⟩;clear HN;go_wp2;go_ret;rw[HV.out];exact⟨rfl,rfl⟩
  ·have HE:Hid (F=0):=by
    have e:k=n:=by omega
    rw[<-HF.out,<-e];exact HK.out
   go_wp2;go_ret;rw[HE.out];exact⟨rfl,rfl⟩
theorem z5w (f:Nat->Int)(a:Option Addr)(n c:Nat)(w:World)(hn:n<=1000000000)(hr:z1z w a n fun i=>.int .i64 (f i)) :
 Calls Tryz.prog 180 #[.slice a n c] w fun e w'=>e=.returned (errV (z0a (z4w f) n))/\w=w':=by
 generalize hF:z0a (z4w f) n=F;have HF:Hid (z0a (z4w f) n=F):=hF;clear hF;go_enter Tryz.func180,Tryz.ntmps180;go_wp2;go_loop [7] (fun x=>∃k:Nat,k<=n/\x=.int .i64 k/\Hid (z0a (z4w f) k=0)) (fun x=>n-(intOf x).toNat)
 case atStart=>exact⟨0,Nat.zero_le _,rfl,rfl⟩
 case round=>
  obtain⟨k,hk,rfl,HK⟩:=hrel;by_cases hlt:k<n
  ·rcases hr with h0|⟨b,o,rfl,hc'⟩
   ·omega
   ·have hck:=hc' k hlt;have HN:=isWord_any (f k) w;clear hc';cases hd:z0y (f k)with
    |true=>
     have HE:Hid (z0a (z4w f) (k+1)=0):=z0L HK.out (if_pos hd);rw[hd]at HN;clear hd;go_wp2_with fail;refine HN.mono ?_;rintro e w' ⟨rfl,rfl⟩;clear HN;go_wp2;go_round
     case rel=>exact⟨k+1,by omega,by go_num,HE⟩
     case measure=>simp[intOf];omega
    |false=>
     have e1:z4w f k=1:=if_neg (by simp[hd]);have HE:Hid (F=1):=by
      show F=1;rw[<-HF.out,z0E hlt HK.out (by rw[e1];decide),e1]
     rw[hd]at HN;clear hd e1;go_wp2_with fail;refine HN.mono ?_;rintro e w' ⟨rfl,rfl⟩;clear HN;go_wp2;go_ret;rw[HE.out];exact⟨rfl,rfl⟩
  ·have HE:Hid (F=0):=by
    have e:k=n:=by omega
    rw[<-HF.out,<-e];exact HK.out
   go_wp2;go_ret;rw[HE.out];exact⟨rfl,rfl⟩
end Go.Proofs.YtbcpcbonlhlhpaaGreatDoor
