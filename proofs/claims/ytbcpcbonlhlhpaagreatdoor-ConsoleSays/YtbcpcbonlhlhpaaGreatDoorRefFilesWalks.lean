/- Plain words on the document's files, with nothing of the -/
import Derived.Test.YtbcpcbonlhlhpaaGreatDoorPlainCut
import Derived.Maps.OwnSet
import Derived.Maps.Views
import Derived.StringKeys
set_option maxRecDepth 100000
set_option maxHeartbeats 2000000
namespace Go.Proofs.YtbcpcbonlhlhpaaGreatDoor
section
structure z0u where
 nm:ByteArray
 tx:ByteArray
 st:Int
def ltN(x y:ByteArray):Prop:=x.data.toList<y.data.toList
def Rising(L:List z0u):Prop:=L.Pairwise fun f g=>ltN f.nm g.nm
theorem ltN_irrefl(x:ByteArray):¬ltN x x:=List.lt_irrefl _
theorem ltN_trans{x y z:ByteArray}(h:ltN x y)(h':ltN y z):ltN x z:=List.lt_trans h h'
theorem ltN_tri(x y:ByteArray):ltN x y∨x=y∨ltN y x:=by
 unfold ltN;by_cases h:x.data.toList<y.data.toList
 ·exact .inl h
 ·by_cases h':y.data.toList<x.data.toList
  ·exact .inr (.inr h')
  ·exact .inr (.inl (WideShapes.bytes_inj (List.le_antisymm (List.not_lt.1 h') (List.not_lt.1 h))))
def leN(x y:ByteArray):Bool:=decide (x.data.toList<=y.data.toList)
theorem leN_no{x y:ByteArray}(h:leN x y=false):ltN y x:=by
 unfold leN at h;exact List.not_le.1 (of_decide_eq_false h)
theorem leN_yes{x y:ByteArray}(h:leN x y=true):¬ltN y x:=by
 unfold leN at h;exact List.not_lt.2 (of_decide_eq_true h)
def z4R (new:z0u)(q:List z0u×Bool)(f:z0u):List z0u×Bool:=
 ((q.1++(if !q.2&&leN new.nm f.nm then [new]else []))++(if f.nm=new.nm then []else [f]),q.2||leN new.nm f.nm)
def z2y (new:z0u)(L:List z0u):List z0u×Bool:=L.foldl (z4R new) ([],false)
def putR(new:z0u)(L:List z0u):List z0u:=if (z2y new L).2=true then(z2y new L).1 else(z2y new L).1++[new]
def delR(s:ByteArray)(L:List z0u):List z0u:=L.filter fun f=>!decide (f.nm=s)
theorem stepsR_snoc(new:z0u)(L:List z0u)(f:z0u):z2y new (L++[f])=z4R new (z2y new L) f:=by simp[z2y,List.foldl_append]
theorem snocInd{α:Type}{P:List α->Prop}(h0:P [])(h1:∀L a,P L->P (L++[a]))(L:List α):P L:=by
 have:∀M:List α,P M.reverse:=fun M=>by
  induction M with
  |nil=>simpa using h0
  |cons a M ih=>rw[List.reverse_cons];exact h1 _ _ ih
 rw[<-List.reverse_reverse L];exact this _
structure Going(new:z0u)(L:List z0u)(q:List z0u×Bool):Prop where
 mem:∀f,f∈q.1 ↔ (q.2=true/\f=new)∨(f∈L/\f.nm≠new.nm)
 rise:Rising q.1
 low:q.2=false->∀f∈L,ltN f.nm new.nm
 high:∀g:z0u,(∀f∈L,ltN f.nm g.nm)->q.2=true->ltN new.nm g.nm
theorem going(new:z0u)(L:List z0u)(h:Rising L):Going new L (z2y new L):=by
 induction L using snocInd with
 |h0=>exact⟨fun f=>by simp[z2y],List.Pairwise.nil,fun _ f hf=>by simp at hf,fun g _ hq=>by simp[z2y]at hq⟩
 |h1 L f ih=>
  have hL:Rising L:=(List.pairwise_append.1 h).1;have hf:∀x∈L,ltN x.nm f.nm:=fun x hx=>(List.pairwise_append.1 h).2.2 x hx f (by simp)
  have I:=ih hL;rw[stepsR_snoc];generalize z2y new L=q at I;obtain⟨acc,b⟩:=q;have Imem:=I.mem;have Irise:=I.rise;have Ilow:=I.low;have Ihigh:=I.high;simp only at Imem Irise Ilow Ihigh;cases hle:leN new.nm f.nm with
  |false=>
   have hlt:=leN_no hle;have hb:b=false:=by
    cases b with
    |false=>rfl
    |true=>exact absurd (ltN_trans (Ihigh f hf rfl) hlt) (ltN_irrefl _)
   subst hb;have hne:f.nm≠new.nm:=fun e=>ltN_irrefl _ (e ▸ hlt)
   simp only[z4R,hle,Bool.and_false,Bool.false_eq_true,if_false,List.append_nil,if_neg hne,Bool.or_false];refine⟨fun x=>?_,?_,fun _ x hx=>?_,fun g _ hq=>by simp at hq⟩
   ·simp only[List.mem_append,List.mem_singleton,Imem,Bool.false_eq_true,false_and,false_or];constructor
    ·rintro(⟨h1,h2⟩|rfl)
     ·exact⟨.inl h1,h2⟩
     ·exact⟨.inr rfl,hne⟩
    ·rintro⟨h1|rfl,h2⟩
     ·exact .inl ⟨h1,h2⟩
     ·exact .inr rfl
   ·refine List.pairwise_append.2 ⟨Irise,by simp,fun x hx y hy=>?_⟩;simp at hy;subst hy;rcases(Imem x).1 hx with⟨h1,_⟩|⟨h1,_⟩
    ·cases h1
    ·exact hf x h1
   ·rcases List.mem_append.1 hx with h1|h1
    ·exact Ilow rfl x h1
    ·simp at h1;subst h1;exact hlt
  |true=>
   have hnl:=leN_yes hle;have hge:f.nm=new.nm∨ltN new.nm f.nm:=by
    rcases ltN_tri f.nm new.nm with h1|h1|h1
    ·exact absurd h1 hnl
    ·exact .inl h1
    ·exact .inr h1
   have accLt:∀x∈acc,b=false->ltN x.nm new.nm:=fun x hx hb=>by
    rcases(Imem x).1 hx with⟨h1,_⟩|⟨h1,_⟩
    ·rw[hb]at h1;cases h1
    ·exact Ilow hb x h1
   have accF:∀x∈acc,f.nm≠new.nm->ltN x.nm f.nm:=fun x hx hne=>by
    rcases(Imem x).1 hx with⟨_,rfl⟩|⟨h1,_⟩
    ·rcases hge with e|e
     ·exact absurd e hne
     ·exact e
    ·exact hf x h1
   have hfin:(z4R new (acc,b) f).2=true:=by simp[z4R,hle]
   have hmem:∀x,x∈(z4R new (acc,b) f).1 ↔ (x=new)∨(x∈L++[f]/\x.nm≠new.nm):=by
    intro x;simp only[z4R,hle,Bool.and_true,List.mem_append,Imem,List.mem_singleton];by_cases hne:f.nm=new.nm
    ·rw[if_pos hne];cases b with
     |false=>
      simp;constructor
      ·rintro(⟨h1,h2⟩|rfl)
       ·exact .inr ⟨.inl h1,h2⟩
       ·exact .inl rfl
      ·rintro(rfl|⟨h1|rfl,h2⟩)
       ·exact .inr rfl
       ·exact .inl ⟨h1,h2⟩
       ·exact absurd hne h2
     |true=>
      simp;constructor
      ·rintro(rfl|⟨h1,h2⟩)
       ·exact .inl rfl
       ·exact .inr ⟨.inl h1,h2⟩
      ·rintro(rfl|⟨h1|rfl,h2⟩)
       ·exact .inl rfl
       ·exact .inr ⟨h1,h2⟩
       ·exact absurd hne h2
    ·rw[if_neg hne];cases b with
     |false=>
      simp;constructor
      ·rintro((⟨h1,h2⟩|rfl)|rfl)
       ·exact .inr ⟨.inl h1,h2⟩
       ·exact .inl rfl
       ·exact .inr ⟨.inr rfl,hne⟩
      ·rintro(rfl|⟨h1|rfl,h2⟩)
       ·exact .inl (.inr rfl)
       ·exact .inl (.inl ⟨h1,h2⟩)
       ·exact .inr rfl
     |true=>
      simp;constructor
      ·rintro((rfl|⟨h1,h2⟩)|rfl)
       ·exact .inl rfl
       ·exact .inr ⟨.inl h1,h2⟩
       ·exact .inr ⟨.inr rfl,hne⟩
      ·rintro(rfl|⟨h1|rfl,h2⟩)
       ·exact .inl (.inl rfl)
       ·exact .inl (.inr ⟨h1,h2⟩)
       ·exact .inr rfl
   refine⟨fun x=>?_,?_,(fun h=>by rw[hfin]at h;cases h),fun g hg _=>?_⟩
   ·rw[hmem x,hfin];simp
   ·simp only[z4R,hle,Bool.and_true];have h1:Rising (acc++if (!b)=true then [new]else []):=by
     cases b with
     |true=>simpa using Irise
     |false=>
      simp;refine List.pairwise_append.2 ⟨Irise,by simp,fun x hx y hy=>?_⟩;simp at hy;subst hy;exact accLt x hx rfl
    refine List.pairwise_append.2 ⟨h1,?_,fun x hx y hy=>?_⟩
    ·by_cases hne:f.nm=new.nm <;> simp[hne]
    ·by_cases hne:f.nm=new.nm
     ·rw[if_pos hne]at hy;simp at hy
     ·rw[if_neg hne]at hy;simp at hy;subst hy;rcases List.mem_append.1 hx with h2|h2
      ·exact accF x h2 hne
      ·cases b with
       |true=>simp at h2
       |false=>
        simp at h2;subst h2;rcases hge with e|e
        ·exact absurd e hne
        ·exact e
   ·have h2:=hg f (by simp);rcases hge with e|e
    ·rw[<-e];exact h2
    ·exact ltN_trans e h2
theorem putR_mem(new:z0u)(L:List z0u)(h:Rising L):(∀f,f∈putR new L ↔ f=new∨(f∈L/\f.nm≠new.nm))/\Rising (putR new L):=by
 have G:=going new L h;unfold putR;by_cases hb:(z2y new L).2=true
 ·rw[if_pos hb];exact⟨fun f=>by rw[G.mem f];simp[hb],G.rise⟩
 ·rw[if_neg hb];have hb':(z2y new L).2=false:=by simpa using hb
  refine⟨fun f=>?_,List.pairwise_append.2 ⟨G.rise,by simp,fun x hx y hy=>?_⟩⟩
  ·rw[List.mem_append,G.mem f,hb'];simp;constructor
   ·rintro(h1|h1)
    ·exact .inr h1
    ·exact .inl h1
   ·rintro(h1|h1)
    ·exact .inr h1
    ·exact .inl h1
  ·simp at hy;subst hy;rcases(G.mem x).1 hx with⟨h1,_⟩|⟨h1,_⟩
   ·rw[hb']at h1;cases h1
   ·exact G.low hb' x h1
end
section
open Go.RowKit
def fileC(f:z0u):List Value:=[.string f.nm,.string f.tx,.int .i64 f.st]
def rowC(L:List z0u):List Value:=L.flatMap fileC
theorem rowC_snoc(L:List z0u)(f:z0u):rowC (L++[f])=rowC L++fileC f:=by simp[rowC]
theorem rowC_at{L:List z0u}{i:Nat}{f:z0u}(h:L[i]?=some f){j:Nat}{u:Value}(hj:(fileC f)[j]?=some u):(rowC L)[i*3+j]?=some u:=by
 have hj3:j<3:=by have:=(List.getElem?_eq_some_iff.1 hj).1;simpa[fileC]using this
 induction L generalizing i with
 |nil=>simp at h
 |cons g L ih=>
  show(fileC g++rowC L)[i*3+j]?=some u;cases i with
  |zero=>
   simp at h;subst h;rw[List.getElem?_append_left (by simp[fileC];omega)];simpa using hj
  |succ i=>
   have h':L[i]?=some f:=by simpa using h
   rw[List.getElem?_append_right (by simp[fileC];omega)];have e:(i+1)*3+j-(fileC g).length=i*3+j:=by simp[fileC];omega
   rw[e];exact ih h'
theorem rowC_one{L:List z0u}{u:Value}(h:u∈rowC L):u.oneCell'=true:=by
 obtain⟨f,_,hu⟩:=List.mem_flatMap.1 h;simp[fileC]at hu;rcases hu with rfl|rfl|rfl <;> rfl
structure RAt(B:Nat)(w:World)(q:Nat)(L:List z0u)(k:Nat):Prop where
 lo:B<=q
 blk:∃v,w.heap[q]?=some (.cells #[v,.int .i64 (k:Int)] 33 (0,0))/\w.ownsRow B 92 3 v L.length (rowC L)
theorem RAt.later{B q k:Nat}{w w':World}{L:List z0u}(h:RAt B w q L k)(hb:Below w.heap.size w w'):RAt B w' q L k:=by
 obtain⟨v,h1,h2⟩:=h.blk;exact⟨h.lo,v,(hb.block q (Array.getElem?_eq_some_iff.1 h1).1).trans h1,z0e h2 hb⟩
theorem RAt.open{B q k:Nat}{w:World}{L:List z0u}(h:RAt B w q L k):∃a c,L.length<=c/\w.cell? ⟨q,0,none⟩=some (.slice a L.length c)/\w.cell? ⟨q,1,none⟩=some (.int .i64 (k:Int)) /\
 (L.length=0∨∃g,a=some ⟨g,0,none⟩/\∀i f,L[i]?=some f->w.cell? ⟨g,i*3,none⟩=some (.string f.nm)/\w.cell? ⟨g,i*3+1,none⟩=some (.string f.tx)/\w.cell? ⟨g,i*3+2,none⟩=some (.int .i64 f.st)):=by
 obtain⟨v,h1,h2⟩:=h.blk;obtain⟨a,c,rfl,hc⟩:=z0c h2;refine⟨a,c,hc,by simp[World.cell?,h1],by simp[World.cell?,h1],?_⟩;by_cases h0:L.length=0
 ·exact .inl h0
 ·obtain⟨f0,hf0⟩:∃f,L[0]?=some f:=⟨L[0]'(by omega),List.getElem?_eq_getElem (by omega)⟩;obtain⟨g,ha,_,_⟩:=z0K h2 (rowC_at hf0 (j:=0) rfl);refine .inr ⟨g,ha,fun i f hf=>?_⟩;have get:∀j u,(fileC f)[j]?=some u->w.cell? ⟨g,i*3+j,none⟩=some u:=fun j u hj=>by
   obtain⟨g',ha',_,hc'⟩:=z0K h2 (rowC_at hf hj);rw[ha]at ha';injection ha' with ha';injection ha' with ha';subst ha';exact hc'
  exact⟨by simpa using get 0 _ rfl,by simpa using get 1 _ rfl,by simpa using get 2 _ rfl⟩
def ReadREnd(L:List z0u)(s:ByteArray)(e:Ending):Prop:=∃(t:ByteArray) (n:Int) (f:Nat),e=.returned (.tuple #[.string t,.int .i64 n,.int .i64 (f:Int)])/\((∃x∈L,x.nm=s/\t=x.tx/\n=x.st/\f=0)∨((∀x∈L,x.nm≠s)/\t=⟨#[]⟩/\n=0/\f=5))
theorem readR_any(B:Nat)(w:World)(q:Nat)(L:List z0u)(k:Nat)(s:ByteArray)(h:RAt B w q L k)(hL:L.length<=1000) :
 Calls Tryz.prog 21 #[.pointer (some ⟨q,0,none⟩),.string s] w fun e w'=>ReadREnd L s e/\Below w.heap.size w w':=by
 obtain⟨a,c,hc,c0,c1,hcell⟩:=h.open;go_enter Tryz.func21,Tryz.ntmps21;go_wp2;go_loopw [7] (fun x wr=>∃i:Nat,i<=L.length/\x=.int .i64 i/\wr=w/\Hid (∀j f,j<i->L[j]?=some f->f.nm≠s)) (fun x _=>L.length-(intOf x).toNat)
 case atStart=>exact⟨0,Nat.zero_le _,rfl,rfl,fun j f hj=>by omega⟩
 case round=>
  obtain⟨i,hi,rfl,hw,HK⟩:=hrel;replace hw:=hw.symm;subst hw;by_cases hlt:i<L.length
  ·obtain⟨f,hf⟩:∃f,L[i]?=some f:=⟨L[i],List.getElem?_eq_getElem hlt⟩;have hfm:f∈L:=List.mem_of_getElem? hf;rcases hcell with h0|⟨g,rfl,hcc⟩
   ·omega
   obtain⟨d0,d1,d2⟩:=hcc i f hf;clear hcc;by_cases he:f.nm=s
   ·have hq:(f.nm.toList==s.toList)=true:=by rw[z0z];exact decide_eq_true he
    go_wp2;go_quiet (fail);go_wp2;go_ret3;exact⟨⟨f.tx,f.st,0,rfl,.inl ⟨f,hfm,he,rfl,rfl,rfl⟩⟩,below_drewN (Below.refl _ _) _⟩
   ·have hq:(f.nm.toList==s.toList)=false:=by rw[z0z];exact decide_eq_false he
    have HK2:Hid (∀j f,j<i+1->L[j]?=some f->f.nm≠s):=fun j f' hj hf'=>by
     by_cases e:j=i
     ·subst e;rw[hf]at hf';injection hf' with hf';subst hf';exact he
     ·exact HK.out j f' (by omega) hf'
    clear hf;go_wp2;go_roundw
    case rel=>exact⟨i+1,by omega,by go_num,trivial,HK2⟩
    case measure=>simp[intOf];omega
  ·go_wp2;go_ret3;refine⟨⟨⟨#[]⟩,0,5,rfl,.inr ⟨fun x hx=>?_,rfl,rfl,rfl⟩⟩,Below.refl _ _⟩;obtain⟨j,hj⟩:=List.getElem?_of_mem hx;exact HK.out j x (by have:=(List.getElem?_eq_some_iff.1 hj).1;omega) hj
end
end Go.Proofs.YtbcpcbonlhlhpaaGreatDoor
namespace Go.Proofs.YtbcpcbonlhlhpaaGreatDoor
open Go.RowKit Go.Maps
def fileList:List Value->Option (DataW Unit×List MemPlace)
 | [.string t,.int .i64 n]=>some (.agg [.lit (.string t.data.toList),.lit (.int .i64 n)],[])
 |_=>none
def z2t:Value->Option (DataW Unit×List MemPlace)
 | .agg c=>fileList c.toList
 |_=>none
def z1s (t:List UInt8)(n:Int):DataW Unit:=.agg [.lit (.string t),.lit (.int .i64 n)]
theorem fileElem_mk(t:ByteArray)(n:Int):z2t (.agg #[.string t,.int .i64 n])=some (z1s t.data.toList n,[]):=rfl
theorem fileElem_inv{v:Value}{z:DataW Unit×List MemPlace}(h:z2t v=some z):∃t n,v=.agg #[.string t,.int .i64 n]/\z=(z1s t.data.toList n,[]):=by
 unfold z2t at h;split at h
 ·rename_i c;generalize hl:c.toList=l at h;unfold fileList at h;split at h
  ·injection h with h;refine⟨_,_,?_,h.symm⟩;rw[<-Array.toArray_toList (xs:=c),hl]
  ·cases h
 ·cases h
theorem keysStr:Keyed Tryz.prog 9:=string_keyed Tryz.underlying9
theorem zeroFile(w:World):(zeroValue 190).run Tryz.prog w=.ok (.agg #[.string ⟨#[]⟩,.int .i64 0]) w:=by kernel_rfl
def keyB(s:ByteArray):Lit:=.string s.data.toList
theorem keyB_of(s:ByteArray)(hs:s.size<=maxLen):keyOf Tryz.prog 9 (.string s)=some (keyB s):=Go.WideMaps.keyOf_string_mk Tryz.underlying9 hs
structure z0q (w:World)(p bm:Nat)(D:DataW Unit)(k:Nat):Prop where
 blk:w.heap[p]?=some (.cells #[.map (some bm),.int .i64 (k:Int)] 125 (0,0))
 own:w.ownsMap Tryz.prog 9 z2t bm (Maps.size D) D
theorem own_exact{w:World}{bm n:Nat}{D:DataW Unit}(h:w.ownsMap Tryz.prog 9 z2t bm n D):w.ownsMap Tryz.prog 9 z2t bm (Maps.size D) D:=by
 obtain⟨es,clock,hb,F,_,rfl⟩:=h;exact⟨es,clock,hb,F,by simp[Maps.size,length_sorted],rfl⟩
structure Turned(p bm:Nat)(w w':World):Prop where
 os:w'.os=w.os
 tape:w'.tape=w.tape
 output:w'.output=w.output
 size:w.heap.size<=w'.heap.size
 block:∀k,k<w.heap.size->k≠p->k≠bm->w'.heap[k]?=w.heap[k]?
theorem Turned.refl(p bm:Nat)(w:World):Turned p bm w w:=⟨rfl,rfl,rfl,Nat.le_refl _,fun _ _ _ _=>rfl⟩
theorem Turned.of{p bm:Nat}{w w':World}(h:Below w.heap.size w w'):Turned p bm w w':=⟨h.os,h.tape,h.output,h.size,fun k hk _ _=>h.block k hk⟩
theorem Turned.trans{p bm:Nat}{a b c:World}(h:Turned p bm a b)(g:Turned p bm b c):Turned p bm a c:=
 ⟨g.os.trans h.os,g.tape.trans h.tape,g.output.trans h.output,Nat.le_trans h.size g.size,fun k hk h1 h2=>(g.block k (Nat.lt_of_lt_of_le hk h.size) h1 h2).trans (h.block k hk h1 h2)⟩
theorem Turned.below{p bm B:Nat}{w w':World}(h:Turned p bm w w')(hB:B<=w.heap.size)(h1:B<=p)(h2:B<=bm):Below B w w':=
 ⟨h.os,h.tape,h.output,h.size,fun k hk=>h.block k (by omega) (by omega) (by omega)⟩
theorem z0q.c0{w:World}{p bm:Nat}{D:DataW Unit}{k:Nat}(h:z0q w p bm D k):w.cell? ⟨p,0,none⟩=some (.map (some bm)):=by simp[World.cell?,h.blk]
theorem z0q.c1{w:World}{p bm:Nat}{D:DataW Unit}{k:Nat}(h:z0q w p bm D k):w.cell? ⟨p,1,none⟩=some (.int .i64 (k:Int)):=by simp[World.cell?,h.blk]
theorem z0q.fz{w:World}{p bm:Nat}{D:DataW Unit}{k:Nat}(h:z0q w p bm D k)(i:Nat):w.frozen? ⟨p,i,none⟩=false:=by simp[World.frozen?,h.blk]
theorem z0q.lt{w:World}{p bm:Nat}{D:DataW Unit}{k:Nat}(h:z0q w p bm D k):p<w.heap.size:=(Array.getElem?_eq_some_iff.1 h.blk).1
theorem z0q.ne{w:World}{p bm:Nat}{D:DataW Unit}{k:Nat}(h:z0q w p bm D k):p≠bm:=by
 intro e;obtain⟨es,clock,hb,_⟩:=h.own;have:=h.blk;rw[e,hb]at this;cases this
theorem z0q.later{w w':World}{p bm:Nat}{D:DataW Unit}{k:Nat}(h:z0q w p bm D k)(hb:Below w.heap.size w w'):z0q w' p bm D k:=
 ⟨(hb.block p h.lt).trans h.blk,h.own.kept (row:=none) ⟨hb.os,hb.tape,hb.output,hb.size,fun j hj _=>hb.block j hj⟩ (by simp)⟩
theorem z0q.look{w:World}{p bm:Nat}{D:DataW Unit}{k:Nat}(h:z0q w p bm D k)(s:ByteArray)(hs:s.size<=maxLen) :
 ∃t n,(Instr.lookup 123 (.map (some bm)) (.string s) true).run Tryz.prog w=.ok (.tuple #[.agg #[.string t,.int .i64 n],.bool (Maps.has D (keyB s))]) w/\D.atKey (keyB s) (z1s [] 0)=z1s t.data.toList n:=by
 obtain⟨v,ps,hrun,hR⟩:=h.own.look_ok keysStr Tryz.underlying123 (zeroFile w) (fileElem_mk ⟨#[]⟩ 0) (keyB_of s hs);obtain⟨t,n,rfl,hz⟩:=fileElem_inv hR;exact⟨t,n,hrun,congrArg Prod.fst hz⟩
end Go.Proofs.YtbcpcbonlhlhpaaGreatDoor
namespace Go.Proofs.YtbcpcbonlhlhpaaGreatDoor
open Go.RowKit Go.Maps
theorem new_any(w:World) :
 Calls Tryz.prog 32 #[] w fun e w'=>∃p bm,e=.returned (.pointer (some ⟨p,0,none⟩))/\w.heap.size<=p/\w.heap.size<=bm/\z0q w' p bm (.map []) 0/\Below w.heap.size w w':=by
 have hmm:=@run_makeMap Tryz.prog;go_enter Tryz.func32,Tryz.ntmps32;go_wp2;go_ret;refine⟨w.heap.size+1,w.heap.size,rfl,by omega,Nat.le_refl _,⟨?_,?_⟩,((Below.refl _ _).alloc (Nat.le_refl _) _).alloc (by simp) _⟩
 ·have e:(w.alloc (.map #[] 0)).heap.size=w.heap.size+1:=by simp
  rw[<-e];show((w.alloc (.map #[] 0)).heap.push _)[(w.alloc (.map #[] 0)).heap.size]?=_;rw[Array.getElem?_push_size];rfl
 ·exact(World.ownsMap_made w _ _ _).alloc _
structure ReadIs(D:DataW Unit)(s t:ByteArray)(n:Int)(f:Nat):Prop where
 yes:Maps.has D (keyB s)=true->f=0/\D.atKey (keyB s) (z1s [] 0)=z1s t.data.toList n
 no:Maps.has D (keyB s)=false->f=5/\t=⟨#[]⟩/\n=0
def ReadEnd(D:DataW Unit)(s:ByteArray)(e:Ending):Prop:=∃t n f,e=.returned (.tuple #[.string t,.int .i64 n,errV f])/\ReadIs D s t n f
theorem z4b (w:World)(p bm:Nat)(D:DataW Unit)(k:Nat)(s:ByteArray)(h:z0q w p bm D k)(hs:s.size<=maxLen) :
 Calls Tryz.prog 75 #[.pointer (some ⟨p,0,none⟩),.string s] w fun e w'=>ReadEnd D s e/\Below w.heap.size w w':=by
 obtain⟨t,n,hrun,hat⟩:=h.look s hs;have c0:=h.c0;have HT:Hid (D.atKey (keyB s) (z1s [] 0)=z1s t.data.toList n):=hat;clear hat;cases hh:Maps.has D (keyB s)with
 |true=>
  rw[hh]at hrun;have HH:Hid (Maps.has D (keyB s)=true):=hh;clear hh;go_enter Tryz.func75,Tryz.ntmps75;go_wp2;go_quiet (fail);go_wp2;go_ret3;exact⟨⟨t,n,0,rfl,fun _=>⟨rfl,HT.out⟩,fun h=>absurd (h.symm.trans HH.out) (by decide)⟩,below_drewN ((Below.refl _ _).alloc (Nat.le_refl _) _) _⟩
 |false=>
  rw[hh]at hrun;have HH:Hid (Maps.has D (keyB s)=false):=hh;clear hh;go_enter Tryz.func75,Tryz.ntmps75;go_wp2;go_ret3;exact⟨⟨⟨#[]⟩,0,5,rfl,fun h=>absurd (h.symm.trans HH.out) (by decide),fun _=>⟨rfl,rfl,rfl⟩⟩,(Below.refl _ _).alloc (Nat.le_refl _) _⟩
def z2L (D:DataW Unit)(s:ByteArray):Int:=if Maps.has D (keyB s)=true then(Maps.size D:Int)-1 else Maps.size D
theorem others_any(w:World)(p bm:Nat)(D:DataW Unit)(k:Nat)(s:ByteArray)(h:z0q w p bm D k)(hs:s.size<=maxLen)(hz:Maps.size D<=1000) :
 Calls Tryz.prog 101 #[.pointer (some ⟨p,0,none⟩),.string s] w fun e w'=>e=.returned (.int .i64 (z2L D s))/\Below w.heap.size w w':=by
 obtain⟨t,n,hrun,hat⟩:=h.look s hs;have hlen:=fun(ob:Obj) (ty:TypeId)=>(h.own.alloc ob).len Tryz.underlying123 ty
 have c0:=h.c0;have c0':∀ob:Obj,(w.alloc ob).cell? ⟨p,0,none⟩=some (.map (some bm)):=fun ob=>by rw[World.cell?_alloc_lt _ _ _ h.lt];exact c0
 clear hat;cases hh:Maps.has D (keyB s)with
 |true=>
  have HO:Hid (z2L D s=(Maps.size D:Int)-1):=if_pos hh;rw[hh]at hrun;clear hh;go_enter Tryz.func101,Tryz.ntmps101;go_wp2;go_ret;rw[HO.out];exact⟨rfl,(Below.refl _ _).alloc (Nat.le_refl _) _⟩
 |false=>
  have HO:Hid (z2L D s=(Maps.size D:Int)):=if_neg (by simp[hh]);rw[hh]at hrun;clear hh;go_enter Tryz.func101,Tryz.ntmps101;go_wp2;go_ret;rw[HO.out];exact⟨rfl,(Below.refl _ _).alloc (Nat.le_refl _) _⟩
theorem z0q.map_turned{w w':World}{p bm:Nat}{D D':DataW Unit}{k n:Nat}(h:z0q w p bm D k)(ho:w'.ownsMap Tryz.prog 9 z2t bm n D')(ht:w.mapTurned w' bm):z0q w' p bm D' k/\Turned p bm w w':=by
 have hg:=ht.grown;refine⟨⟨(hg.block p h.lt (fun e=>h.ne (Option.some.inj e))).trans h.blk,own_exact ho⟩,hg.os,hg.tape,hg.output,hg.size,fun j hj _ h2=>hg.block j hj (fun e=>h2 (Option.some.inj e))⟩
theorem remove_any(w:World)(p bm:Nat)(D:DataW Unit)(k:Nat)(s:ByteArray)(h:z0q w p bm D k)(hs:s.size<=maxLen)(F:Nat)(hF:F=if Maps.has D (keyB s)=true then 0 else 5) :
 Calls Tryz.prog 74 #[.pointer (some ⟨p,0,none⟩),.string s] w fun e w'=>e=.returned (errV F)/\z0q w' p bm (D.del (keyB s)) k/\Turned p bm w w':=by
 obtain⟨t,n,hrun,hat⟩:=h.look s hs;have c0:=h.c0;clear hat;have hb:Below w.heap.size w (w.alloc (.cells #[.string t,.int .i64 n] 190)):=(Below.refl _ _).alloc (Nat.le_refl _) _;have h2:=h.later hb;cases hh:Maps.has D (keyB s)with
 |true=>
  rw[hh]at hrun;rw[hh,if_pos rfl]at hF;subst hF;have c0':=h2.c0;clear hh;go_enter Tryz.func74,Tryz.ntmps74;go_wp2_with (first
   |(at_delete;refine wpList_delete_own _ rfl _ _ 123 9 rfl 190 keysStr Tryz.underlying123 z2t bm _ D rfl h2.own _ _ rfl (keyB_of s hs) ?_;intro w1 hown1 hturn1)
   |go_in)
  go_ret;obtain⟨g1,g2⟩:=h2.map_turned hown1 hturn1;exact⟨rfl,g1,(Turned.of hb).trans g2⟩
 |false=>
  rw[hh]at hrun;rw[hh,if_neg (by decide)]at hF;subst hF;have HD:D.del (keyB s)=D:=del_of_not_has hh;rw[HD];clear hh HD;go_enter Tryz.func74,Tryz.ntmps74;go_wp2;go_ret;exact⟨rfl,h2,Turned.of hb⟩
end Go.Proofs.YtbcpcbonlhlhpaaGreatDoor
namespace Go.Proofs.YtbcpcbonlhlhpaaGreatDoor
open Go.RowKit Go.Maps
theorem cloneB(s:ByteArray)(w:World)(hs:s.size<=1000000) :
 Calls Tryz.prog 102 #[.string s] w fun e w'=>e=.returned (.string s)/\Below w.heap.size w w':=by
 have HA:=Tryz.stringslite_Clone s w (by omega);go_enter Tryz.func102,Tryz.ntmps102;go_wp2_with fail;refine HA.mono ?_;rintro e w' ⟨rfl,hb⟩;clear HA;go_wp2;go_ret;exact⟨rfl,hb⟩
def writeF(D:DataW Unit)(k:Nat)(s text:ByteArray):Nat:=
 seqF (z0r s.data.toList) (if 1200<text.size then 2 else if 6<=z2L D s∨1000000<=k then 8 else 0)
structure WriteEnd(w:World)(p bm:Nat)(D:DataW Unit)(k:Nat)(s text:ByteArray)(F:Nat)(e:Ending)(w':World):Prop where
 e:e=.returned (errV F)
 yes:F=0->z0q w' p bm (D.put (keyB s) (z1s text.data.toList ((k:Int)+1))) (k+1)
 no:F≠0->z0q w' p bm D k
 turned:Turned p bm w w'
theorem write_err(w:World)(p bm:Nat)(D:DataW Unit)(k:Nat)(s text:ByteArray)(h:z0q w p bm D k)(hs:s.size<=maxLen)(hz:Maps.size D<=1000)(F:Nat)(hF:F=writeF D k s text)(h0:F≠0) :
 Calls Tryz.prog 73 #[.pointer (some ⟨p,0,none⟩),.string s,.string text] w fun e w'=>WriteEnd w p bm D k s text F e w':=by
 have HN:=z4U s w hs;by_cases hn:z0r s.data.toList=0
 ·rw[hn]at HN;have hF2:F=if 1200<text.size then 2 else if 6<=z2L D s∨1000000<=k then 8 else 0:=by rw[hF];unfold writeF;rw[hn];rfl
  clear hF hn;by_cases ht:1200<text.size
  ·rw[if_pos ht]at hF2;subst hF2;have ht':(1200:Int)<(text.size:Int):=by omega
   clear ht;go_enter Tryz.func73,Tryz.ntmps73;go_wp2_with fail;refine HN.mono ?_;rintro e w' ⟨rfl,rfl⟩;simp only[errV];go_wp2;go_ret;exact⟨rfl,(fun h=>by cases h),fun _=>h,Turned.refl _ _ _⟩
  ·rw[if_neg ht]at hF2;have ht':¬(1200:Int)<(text.size:Int):=by omega
   by_cases ho:6<=z2L D s∨1000000<=k
   ·rw[if_pos ho]at hF2;subst hF2;have HO:=others_any w p bm D k s h hs hz;clear ht;go_enter Tryz.func73,Tryz.ntmps73;go_wp2_with fail;refine HN.mono ?_;rintro e w' ⟨rfl,rfl⟩;simp only[errV];go_wp2_with fail;refine HO.mono ?_;rintro e w2 ⟨rfl,hb⟩;have h2:=h.later hb;have c1:=h2.c1;clear HO HN;generalize z2L D s=G at *;by_cases hg:6<=G
    ·go_wp2;go_ret;exact⟨rfl,(fun h=>by cases h),fun _=>h2,Turned.of hb⟩
    ·have hk:(1000000:Int)<=(k:Int):=by omega
     go_wp2;go_ret;exact⟨rfl,(fun h=>by cases h),fun _=>h2,Turned.of hb⟩
   ·rw[if_neg ho]at hF2;exact absurd hF2 h0
 ·have hF2:F=z0r s.data.toList:=by rw[hF];exact z1q _ hn
  rw[<-hF2]at HN;clear hF hn hF2;obtain⟨f,rfl⟩:∃f,F=f+1:=⟨F-1,by omega⟩;go_enter Tryz.func73,Tryz.ntmps73;go_wp2_with fail;refine HN.mono ?_;rintro e w' ⟨rfl,rfl⟩;simp only[errV];go_wp2;go_ret;exact⟨rfl,(fun h=>by cases h),fun _=>h,Turned.refl _ _ _⟩
theorem undrew2{w w':World}(h:Below w.drew.heap.size w.drew w'):Below w.heap.size w w':=⟨h.os,h.tape,h.output,h.size,h.block⟩
theorem heap_set2(w:World)(b i:Nat)(c:Array Value)(t:TypeId)(v:Value)(h:w.heap[b]?=some (.cells c t (0,0))):(w.setCell ⟨b,i,none⟩ v).heap[b]?=some (.cells (c.set! i v) t (0,0)):=by
 show(w.heap.modify b _)[b]?=_;rw[Array.getElem?_modify,if_pos rfl,h];rfl
theorem heap_set_other(w:World)(b i j:Nat)(v:Value)(h:j≠b):(w.setCell ⟨b,i,none⟩ v).heap[j]?=w.heap[j]?:=by
 show(w.heap.modify b _)[j]?=_;rw[Array.getElem?_modify,if_neg (fun e=>h e.symm)]
theorem z0q.count{w:World}{p bm:Nat}{D:DataW Unit}{k:Nat}(h:z0q w p bm D k)(k':Nat):z0q (w.setCell ⟨p,1,none⟩ (.int .i64 (k':Int))) p bm D k'/\Turned p bm w (w.setCell ⟨p,1,none⟩ (.int .i64 (k':Int))):=by
 refine⟨⟨?_,h.own.setCell (fun e=>h.ne e.symm) _⟩,rfl,rfl,rfl,by simp[World.setCell],fun j _ h1 _=>heap_set_other _ _ _ _ _ h1⟩;rw[heap_set2 _ _ _ _ _ _ h.blk];rfl
theorem write_ok(w:World)(p bm:Nat)(D:DataW Unit)(k:Nat)(s text:ByteArray)(h:z0q w p bm D k)(hs:s.size<=maxLen)(hz:Maps.size D<=1000)(hF:writeF D k s text=0) :
 Calls Tryz.prog 73 #[.pointer (some ⟨p,0,none⟩),.string s,.string text] w fun e w'=>WriteEnd w p bm D k s text 0 e w':=by
 have HN:=z4U s w hs;have hn:z0r s.data.toList=0:=by
  by_cases hn:z0r s.data.toList=0
  ·exact hn
  ·unfold writeF at hF;rw[z1q _ hn]at hF;exact hF
 rw[hn]at HN;have hF2:(if 1200<text.size then 2 else if 6<=z2L D s∨1000000<=k then 8 else 0)=0:=by unfold writeF at hF;rw[hn]at hF;exact hF
 have ht:¬1200<text.size:=fun ht=>by rw[if_pos ht]at hF2;cases hF2
 have ho:¬(6<=z2L D s∨1000000<=k):=fun ho=>by rw[if_neg ht,if_pos ho]at hF2;cases hF2
 have ht':¬(1200:Int)<(text.size:Int):=by omega
 have hs8:s.size<=8:=by
  have:=z4I s.data.toList;by_cases h8:8<s.data.toList.length
  ·rw[this (.inr h8)]at hn;cases hn
  ·simp at h8;omega
 have HO:=others_any w p bm D k s h hs hz;have HC1:=fun W=>cloneB s W (by omega)
 have HC2:=fun W=>cloneB text W (by omega)
 clear hF hF2 hn;go_enter Tryz.func73,Tryz.ntmps73;go_wp2_with fail;refine HN.mono ?_;rintro e w' ⟨rfl,rfl⟩;simp only[errV];go_wp2_with fail;refine HO.mono ?_;rintro e w2 ⟨rfl,hb⟩;have h2:=h.later hb;have c1:=h2.c1;have f1:=h2.fz 1;clear HO HN;generalize z2L D s=G at *;have hg:¬(6:Int)<=G:=fun x=>ho (.inl x)
 obtain⟨K,hK⟩:∃K:Int,(k:Int)=K:=⟨_,rfl⟩;have hk:¬(1000000:Int)<=K:=fun x=>ho (.inr (by omega))
 have hk0:0<=K:=by omega
 have HK:Hid ((k:Int)=K):=hK;rw[hK]at c1;clear ho ht hK;have hcnt:=h2.count (k+1);have hcast:((k+1:Nat):Int)=K+1:=by rw[<-HK.out];omega
 rw[hcast]at hcnt;have hzz:Maps.size D<maxLen:=by simp only[maxLen];omega
 go_upto_region 9 with fail;obtain⟨hX,hT⟩:=hcnt;replace hT:=(Turned.of hb).trans hT;have c0X:=hX.c0;have c1X:(w2.setCell ⟨p,1,none⟩ (.int .i64 (K+1))).cell? ⟨p,1,none⟩=some (.int .i64 (K+1)):=by rw[hX.c1,hcast]
 clear c1 f1 h2 hb hcast;generalize w2.setCell ⟨p,1,none⟩ (.int .i64 (K+1))=Y at *;have HST:=fun(W:World) (hW:z0q W p bm D (k+1))=>hW.own.store keysStr Tryz.underlying123 hzz (keyB_of s hs) (fileElem_mk text (K+1))
 go_region_law
  (go_simp
   first
    |(go_at_call_of 102 (Value.string s)
      refine(HC1 _).mono ?_;rintro e w3 ⟨rfl,hb3⟩
      repeat (replace hb3:=undrew2 hb3)
      replace hT:=hT.trans (Turned.of hb3);replace hX:=hX.later hb3;replace c0X:=hX.c0;replace c1X:=cell_later hb3 c1X;clear hb3)
    |(go_at_call_of 102 (Value.string text)
      refine(HC2 _).mono ?_;rintro e w4 ⟨rfl,hb3⟩
      repeat (replace hb3:=undrew2 hb3)
      replace hT:=hT.trans (Turned.of hb3);replace hX:=hX.later hb3;replace c0X:=hX.c0;replace c1X:=cell_later hb3 c1X;clear hb3;obtain⟨w5,hrun5,hown5,hturn5⟩:=HST _ hX;obtain⟨w6,hrun6,hown6,hturn6⟩:=HST w4.drew (hX.later (Below.refl _ _).drew)))
 all_goals
  go_wp2;go_ret
  first
   |(obtain⟨g1,g2⟩:=hX.map_turned hown5 hturn5
     refine⟨rfl,fun _=>?_,fun h=>absurd rfl h,hT.trans g2⟩;rw[HK.out];exact g1)
   |(obtain⟨g1,g2⟩:=(hX.later (Below.refl _ _).drew).map_turned hown6 hturn6
     refine⟨rfl,fun _=>?_,fun h=>absurd rfl h,(hT.trans (Turned.of (Below.refl _ _).drew)).trans g2⟩;rw[HK.out];exact g1)
theorem write_any(w:World)(p bm:Nat)(D:DataW Unit)(k:Nat)(s text:ByteArray)(h:z0q w p bm D k)(hs:s.size<=maxLen)(hz:Maps.size D<=1000) :
 Calls Tryz.prog 73 #[.pointer (some ⟨p,0,none⟩),.string s,.string text] w fun e w'=>WriteEnd w p bm D k s text (writeF D k s text) e w':=by
 by_cases h0:writeF D k s text=0
 ·rw[h0];exact write_ok w p bm D k s text h hs hz h0
 ·exact write_err w p bm D k s text h hs hz _ rfl h0
end Go.Proofs.YtbcpcbonlhlhpaaGreatDoor
namespace Go.Proofs.YtbcpcbonlhlhpaaGreatDoor
open Go.RowKit
theorem z6T {B:Nat}{w:World}{v:Value}{L:List z0u}(f:z0u)(hB:B<=w.heap.size)(h:w.ownsRow B 92 3 v L.length (rowC L))(hn:L.length+1<=1000000) :
 ∃v' W,(Builtin.append_ #[31,31] 31 #[v,.slice (some ⟨w.heap.size,0,none⟩) 1 1]).run Tryz.prog (w.alloc (.cells #[.string f.nm,.string f.tx,.int .i64 f.st] 92))=.ok v' W /\
  W.ownsRow B 92 3 v' (L++[f]).length (rowC (L++[f]))/\Below B (w.alloc (.cells #[.string f.nm,.string f.tx,.int .i64 f.st] 92)) W:=by
 obtain⟨v',W,h1,hG⟩:=z0J 31 92 3 40 (.agg #[.string ⟨#[]⟩,.string ⟨#[]⟩,.int .i64 0]) (by kernel_rfl) (by kernel_rfl) (by rfl) (by decide) B (w.alloc (.cells #[.string f.nm,.string f.tx,.int .i64 f.st] 92)) v L.length (rowC L) (h.alloc _) (some ⟨w.heap.size,0,none⟩) 1 1 (fileC f) rfl
  (.inr ⟨_,_,rfl,fun j x hj=>by
    have:j=0∨j=1∨j=2:=by have:=(List.getElem?_eq_some_iff.1 hj).1;simp[fileC]at this;omega
    rcases this with rfl|rfl|rfl
    all_goals
     simp[fileC]at hj;subst hj;simp[go_sem]⟩) (fun x hx=>rowC_one (L:=[f]) (by simpa[rowC]using hx)) (by simp;omega) hn (by decide)
 refine⟨v',W,h1,?_,hG.below⟩;have:=hG.own;rw[List.length_append,rowC_snoc];exact this
structure ListREnd(w:World)(L:List z0u)(e:Ending)(w':World):Prop where
 v:∃v,e=.returned v/\w'.ownsRow w.heap.size 9 1 v L.length (L.map fun f=>.string f.nm)
 below:Below w.heap.size w w'
theorem strGrow3{B:Nat}{w:World}{v:Value}{n:Nat}{cs:List Value}(u:ByteArray)(hB:B<=w.heap.size)(h:w.ownsRow B 9 1 v n cs)(hn:n+1<=1000000) :
 ∃v' W,(Builtin.append_ #[22,22] 22 #[v,.slice (some ⟨w.heap.size,0,none⟩) 1 1]).run Tryz.prog (w.alloc (.cells #[.string u] 9))=.ok v' W/\Grown B 9 1 (w.alloc (.cells #[.string u] 9)) v (n+1) (cs++[.string u]) v' W:=
 z0J 22 9 1 16 (.string ⟨#[]⟩) (by kernel_rfl) (by kernel_rfl) (by rfl) (by decide) B _ v n cs (h.alloc _) (some ⟨w.heap.size,0,none⟩) 1 1 [.string u] rfl
  (.inr ⟨_,_,rfl,fun j x hj=>by
    cases j with
    |zero=>simp at hj;subst hj;simp[go_sem]
    |succ j=>simp at hj⟩) (fun x hx=>by simp at hx;subst hx;rfl) (by simp;omega) hn (by decide)
theorem listR_any(B:Nat)(w:World)(q:Nat)(L:List z0u)(k:Nat)(h:RAt B w q L k)(hL:L.length<=1000) :
 Calls Tryz.prog 14 #[.pointer (some ⟨q,0,none⟩)] w fun e w'=>ListREnd w L e w':=by
 obtain⟨a,c,hc,c0,c1,hcell⟩:=h.open;go_enter Tryz.func14,Tryz.ntmps14;go_wp2;go_loopw [3,4] (fun v x wr=>∃i:Nat,i<=L.length/\x=.int .i64 i/\wr.ownsRow w.heap.size 9 1 v i ((L.take i).map fun f=>.string f.nm)/\Below w.heap.size w wr) (fun _ x _=>L.length-(intOf x).toNat)
 case atStart=>exact⟨0,Nat.zero_le _,rfl,World.ownsRow_nil _ _ _ _,Below.refl _ _⟩
 case round=>
  obtain⟨i,hi,rfl,hown,hb⟩:=hrel;have b0:=cell_later hb c0;by_cases hlt:i<L.length
  ·obtain⟨f,hf⟩:∃f,L[i]?=some f:=⟨L[i],List.getElem?_eq_getElem hlt⟩;rcases hcell with h0|⟨g,rfl,hcc⟩
   ·omega
   have d0:=cell_later hb (hcc i f hf).1;obtain⟨v',W,happ,hG⟩:=strGrow3 f.nm hb.size hown (by omega);have hown2:W.ownsRow w.heap.size 9 1 v' (i+1) ((L.take (i+1)).map fun f=>.string f.nm):=by
    have:=hG.own;rw[List.take_add_one,hf];simpa using this
   have hb2:=(hb.alloc hb.size _).trans hG.below;clear hcc hown hG hf c0 c1;go_wp2_with (at_builtin;refine z0b rfl _ _ 22 rfl u3 _ _ rfl rfl happ ?_);go_roundw
   case rel=>exact⟨i+1,by omega,by go_num,hown2,hb2⟩
   case measure=>simp[intOf];omega
  ·have e:i=L.length:=by omega
   subst e;rw[List.take_length]at hown;clear c0 c1;go_wp2;go_ret;exact⟨⟨u3,rfl,hown⟩,hb⟩
theorem RAt.set{B q k:Nat}{w wr:World}{L L':List z0u}{v:Value}(h:RAt B w q L k)(hb:Below w.heap.size w wr)(hown:wr.ownsRow w.heap.size 92 3 v L'.length (rowC L'))(hB:B<=w.heap.size) :
 wr.frozen? ⟨q,0,none⟩=false/\RAt B (wr.setCell ⟨q,0,none⟩ v) q L' k/\Turned q q w (wr.setCell ⟨q,0,none⟩ v):=by
 obtain⟨v0,h1,h2⟩:=h.blk;have hq:q<w.heap.size:=(Array.getElem?_eq_some_iff.1 h1).1;have h1':=(hb.block q hq).trans h1;refine⟨by simp[World.frozen?,h1'],⟨h.lo,v,?_,?_⟩,hb.os,hb.tape,hb.output,by simp[World.setCell];exact hb.size,fun j hj h3 _=>?_⟩
 ·show(wr.heap.modify q _)[q]?=_;rw[Array.getElem?_modify,if_pos rfl,h1'];rfl
 ·refine⟨hown.1,?_⟩;rcases hown.2 with hn|⟨g,cap,cur,e1,e2,e3,e4⟩
  ·exact .inl hn
  ·refine .inr ⟨g,cap,cur,e1,Nat.le_trans hB e2,?_,e4⟩;show(wr.heap.modify q _)[g]?=_;rw[Array.getElem?_modify,if_neg (by omega)];exact e3
 ·show(wr.heap.modify q _)[j]?=_;rw[Array.getElem?_modify,if_neg (fun e=>h3 e.symm)];exact hb.block j hj
structure RemoveREnd(B:Nat)(w:World)(q:Nat)(L:List z0u)(k:Nat)(s:ByteArray)(e:Ending)(w':World):Prop where
 e:e=.returned (.int .i64 (if (delR s L).length=L.length then 5 else 0))
 at':RAt B w' q (delR s L) k
 turned:Turned q q w w'
theorem delR_take(s:ByteArray)(L:List z0u)(i:Nat)(f:z0u)(h:L[i]?=some f):delR s (L.take (i+1))=delR s (L.take i)++(if f.nm=s then []else [f]):=by
 rw[List.take_add_one,h];unfold delR;rw[List.filter_append];congr 1;by_cases e:f.nm=s <;> simp[e]
theorem delR_le(s:ByteArray)(L:List z0u):(delR s L).length<=L.length:=List.length_filter_le _ _
theorem delR_same{s:ByteArray}{L:List z0u}(h:(delR s L).length=L.length):delR s L=L:=List.filter_eq_self.2 (by
 intro a ha;by_cases e:(!decide (a.nm=s))=true
 ·exact e
 ·exfalso;have:=(List.length_filter_lt_length_iff_exists (p:=fun f:z0u=>!decide (f.nm=s))).2 ⟨a,ha,e⟩;unfold delR at h;omega)
theorem removeR_any(B:Nat)(w:World)(q:Nat)(L:List z0u)(k:Nat)(s:ByteArray)(h:RAt B w q L k)(hL:L.length<=1000)(hB:B<=w.heap.size) :
 Calls Tryz.prog 20 #[.pointer (some ⟨q,0,none⟩),.string s] w fun e w'=>RemoveREnd B w q L k s e w':=by
 obtain⟨a,c,hc,c0,c1,hcell⟩:=h.open;have hq:q<w.heap.size:=World.block_lt_of_cell? _ _ c0;go_enter Tryz.func20,Tryz.ntmps20;go_wp2;go_loopw [5,6] (fun v x wr=>∃i:Nat,i<=L.length/\x=.int .i64 i/\wr.ownsRow w.heap.size 92 3 v (delR s (L.take i)).length (rowC (delR s (L.take i)))/\Below w.heap.size w wr) (fun _ x _=>L.length-(intOf x).toNat)
 case atStart=>exact⟨0,Nat.zero_le _,rfl,World.ownsRow_nil _ _ _ _,Below.refl _ _⟩
 case round=>
  obtain⟨i,hi,rfl,hown,hb⟩:=hrel;have b0:=cell_later hb c0;by_cases hlt:i<L.length
  ·obtain⟨f,hf⟩:∃f,L[i]?=some f:=⟨L[i],List.getElem?_eq_getElem hlt⟩;rcases hcell with h0|⟨g,rfl,hcc⟩
   ·omega
   have d0:=cell_later hb (hcc i f hf).1;have d1:=cell_later hb (hcc i f hf).2.1;have d2:=cell_later hb (hcc i f hf).2.2;have hst:=delR_take s L i f hf;have hle:(delR s (L.take i)).length<=i:=by have:=delR_le s (L.take i);simp at this;omega
   by_cases he:f.nm=s
   ·have hqq:(f.nm.toList==s.toList)=true:=by rw[z0z];exact decide_eq_true he
    rw[if_pos he,List.append_nil]at hst;clear hcc hf c0 c1 he;go_wp2;go_roundw
    case rel=>exact⟨i+1,by omega,by go_num,by rw[hst];exact hown,hb⟩
    case measure=>simp[intOf];omega
   ·have hqq:(f.nm.toList==s.toList)=false:=by rw[z0z];exact decide_eq_false he
    rw[if_neg he]at hst;obtain⟨v',W,happ,hown2,hbG⟩:=z6T f hb.size hown (by omega);rw[<-hst]at hown2;have hb2:=(hb.alloc hb.size _).trans hbG;clear hcc hown hbG hf c0 c1 hst he;go_wp2_with (at_builtin;refine z0b rfl _ _ 31 rfl u5 _ _ rfl rfl happ ?_);go_roundw
    case rel=>exact⟨i+1,by omega,by go_num,hown2,hb2⟩
    case measure=>simp[intOf];omega
  ·have e:i=L.length:=by omega
   subst e;rw[List.take_length]at hown;obtain⟨a5,c5,rfl,_⟩:=z0c hown;obtain⟨hfz,hset,hTs⟩:=h.set hb hown hB;by_cases hs:(delR s L).length=L.length
   ·have hsi:(((delR s L).length:Int)==(L.length:Int))=true:=by rw[beq_iff_eq];omega
    have HS:Hid (delR s L=L):=delR_same hs;have HV:Hid ((if (delR s L).length=L.length then(5:Int)else 0)=5):=if_pos hs;clear c0 c1 hs;go_wp2;go_ret;exact⟨by rw[HV.out];rfl,by rw[HS.out];exact h.later hb,Turned.of hb⟩
   ·have hsi:(((delR s L).length:Int)==(L.length:Int))=false:=by rw[beq_eq_false_iff_ne];omega
    have HV:Hid ((if (delR s L).length=L.length then(5:Int)else 0)=0):=if_neg hs;clear c0 c1 hs;go_wp2;go_ret;exact⟨by rw[HV.out];rfl,hset,hTs⟩
end Go.Proofs.YtbcpcbonlhlhpaaGreatDoor
