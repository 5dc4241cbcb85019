/- Plain words on the lines of a shelf's entries: how long -/
import Derived.Test.YtbcpcbonlhlhpaaGreatDoorShelfSmall
import Derived.Deep.MidRow
import Derived.Lib.LazyBuf
import Derived.Maps.AppendAt
namespace Go.Proofs.YtbcpcbonlhlhpaaGreatDoor
section
theorem z6E (l:List UInt8):(⟨l.toArray⟩:ByteArray).size=l.length:=by show l.toArray.size=_;simp
theorem z6R {n:Int}(k:Nat)(h0:0<=n)(h1:n.toNat<10 ^ (k+1)):(Lib.itoa n).length<=k+1:=by
 unfold Lib.itoa;rw[if_neg (by omega)];exact z1N k n.toNat h1
theorem itoa_abs{n:Int}(k:Nat)(h1:n.natAbs<10 ^ (k+1)):(Lib.itoa n).length<=k+2:=by
 unfold Lib.itoa;split
 ·have:=z1N k n.natAbs h1;simp;omega
 ·have:=z1N k n.toNat (by have:n.toNat<=n.natAbs:=by omega
                          omega)
  omega
def lenW:List (List UInt8)->Nat
 | []=>0
 |x :: r=>x.length+1+lenW r
theorem z6c:∀a b:List (List UInt8),lenW (a++b)=lenW a+lenW b
 | [],b=>by simp[lenW]
 |x :: a,b=>by
  have:=z6c a b;simp only[List.cons_append,lenW];omega
theorem lenW_cat{g:Nat->List (List UInt8)}{m n:Nat}(h:∀i,i<n->lenW (g i)<=m):∀k,k<=n->lenW (catW g k)<=k*m
 |0,_=>by simp[catW,lenW]
 |k+1,hk=>by
  have h1:=lenW_cat h k (by omega);have h2:=h k (by omega);simp only[catW,z6c,Nat.add_mul];omega
theorem join_lenW(ws:List (List UInt8)):(Lib.join ws [32]).length<=lenW ws-1:=by
 cases ws with
 |nil=>simp[Lib.join_nil,lenW]
 |cons x r=>
  rw[Lib.join_cons];have key:∀r:List (List UInt8),(Lib.joinTail [32] r).length=lenW r:=by
   intro r
   induction r with
   |nil=>simp[Lib.joinTail,lenW]
   |cons y r ih=>
    have e:Lib.joinTail [32] (y :: r)=[32]++y++Lib.joinTail [32] r:=by simp[Lib.joinTail]
    rw[e];simp only[List.length_append,List.length_cons,List.length_nil,lenW];omega
  have:=key r;simp only[List.length_append,lenW];omega
theorem lineE_len{e:EntF}(h:z7q e):(z0D e).length<=752:=by
 have hP:=h.nP;have hQ:=h.nQ;have h1:lenW (z2c e)<=14:=by
  have a:=z1k h.root;have b:=z6R (n:=(e.nP:Int)) 0 (by omega) (by simp;omega);have c:=z6R (n:=(e.nQ:Int)) 1 (by omega) (by simp;omega);simp only[z2c,lenW];omega
 have h2:lenW (catW (z2s e) e.nP)<=e.nP*21:=lenW_cat (n:=e.nP) (fun i hi=>by
  have hp:=h.parts i hi;have a:=z1k hp.1
  have b:=z6R (n:=e.pStamp i) 6 (by omega) (by have:(10:Nat) ^ (6+1)=10000000:=by decide
                                               omega)
  have c:=z6R (n:=e.pBase i) 2 (by omega) (by have:(10:Nat) ^ (2+1)=1000:=by decide
                                              omega)
  simp only[z2s,lenW];omega) _ (Nat.le_refl _)
 have h3:lenW (catW (patW e) e.nQ)<=e.nQ*17:=lenW_cat (n:=e.nQ) (fun i hi=>by
  have hp:=h.pats i hi;have a:=z6R (n:=e.qPart i) 0 (by omega) (by simp;omega);have b:=z6R (n:=e.qAt i) 1 (by omega) (by simp;omega)
  have c:=itoa_abs (n:=e.qWord i) 9 (by have:(10:Nat) ^ (9+1)=10000000000:=by decide
                                        omega)
  simp only[patW,lenW];omega) _ (Nat.le_refl _)
 have h4:=join_lenW (entW e);unfold entW at h4;rw[z6c,z6c]at h4;have h5:1<=lenW (z2c e):=by simp only[z2c,lenW];omega
 unfold z0D entW;simp only[List.length_append,List.length_cons,List.length_nil]at h4 ⊢;omega
def z0o (E:Nat->EntF):Nat->List UInt8:=z2z fun i=>z0D (E i)
theorem catTo_at(g:Nat->List UInt8){i:Nat}:∀ {n:Nat},i<n->∃r,z2z g n=z2z g i++(g i++r)
 |0,h=>by omega
 |n+1,h=>by
  by_cases e:i=n
  ·subst e;exact⟨[],by simp[z2z]⟩
  ·obtain⟨r,hr⟩:=catTo_at g (i:=i) (n:=n) (by omega);exact⟨r++g n,by simp only[z2z];rw[hr];simp⟩
theorem catTo_same{g h:Nat->List UInt8}:∀ {n:Nat},(∀i,i<n->g i=h i)->z2z g n=z2z h n
 |0,_=>rfl
 |n+1,e=>by
  simp only[z2z];rw[catTo_same (n:=n) (fun i hi=>e i (by omega)),e n (by omega)]
theorem z5Q {E:Nat->EntF}{k:Nat}(hk:k<=3)(h:∀i,i<k->z7q (E i)):(z0o E k).length<=2256:=by
 have:=z6U (fun i=>z0D (E i)) 752 k k (Nat.le_refl _) (fun i hi=>lineE_len (h i hi));unfold z0o;omega
theorem linesE_end(E:Nat->EntF)(k:Nat):z0o E k=[]∨(z0o E k).getLast? = some 10:=by
 cases k with
 |zero=>exact .inl rfl
 |succ k=>exact .inr (by show(z2z (fun i=>z0D (E i)) k++z0D (E k)).getLast? = some 10;unfold z0D;rw[<-List.append_assoc];simp)
theorem linesE_congr{E E':Nat->EntF}{k:Nat}(h:∀i,i<k->z0D (E i)=z0D (E' i)):z0o E k=z0o E' k:=by
 induction k with
 |zero=>rfl
 |succ k ih=>
  have h1:=ih fun i hi=>h i (by omega)
  show z2z (fun i=>z0D (E i)) k++z0D (E k)=z2z (fun i=>z0D (E' i)) k++z0D (E' k);rw[h k (by omega)];congr 1
theorem linesE_cut{E:Nat->EntF}{k i:Nat}(hi:i<k)(h:z7q (E i)):∃r,(z0o E k).drop (z0o E i).length=z0D (E i)++r/\Lib.indexByte (z0D (E i)++r) 10=((z0D (E i)).length:Int)-1/\z0o E k=z0o E i++(z0D (E i)++r):=by
 obtain⟨r,hr⟩:=catTo_at (fun i=>z0D (E i)) hi;refine⟨r,?_,?_,hr⟩
 ·unfold z0o;rw[hr];simp
 ·obtain⟨l,hl,hn⟩:=lineE_end h;rw[hl];have:=z7D 10 r l hn;rw[List.append_assoc,List.singleton_append,this];simp
theorem lineE_pos(e:EntF):0<(z0D e).length:=by simp[z0D]
theorem linesE_succ(E:Nat->EntF)(k:Nat):z0o E (k+1)=z0o E k++z0D (E k):=rfl
theorem z2H.line{a b:EntF}(h:z2H a b)(h0:entF a=0):entF b=0/\z0D a=z0D b:=by
 have:=textE_congr h;unfold z5m at this;rw[if_pos h0]at this;split at this
 ·exact⟨by assumption,by simpa using this⟩
 ·rename_i hb;exact absurd (congrArg Prod.fst this) (fun e=>hb e.symm)
theorem z2H.refl(a:EntF):z2H a a:=⟨rfl,rfl,rfl,fun _ _=>⟨rfl,rfl,rfl⟩,fun _ _=>⟨rfl,rfl,rfl⟩⟩
end
section
open Go.RowKit
theorem z3C {w:World}{B:Nat}{e:TypeId}{s n:Nat}{v:Value}{xs:List Value}(h:w.ownsRow B e s v n xs){k:Nat}(hk:v.ownBlock=some k):∃c,w.heap[k]?=some (.cells c e (0,0)):=by
 rcases h.2 with⟨rfl,_⟩|⟨g,cap,cur,rfl,_,hg,_⟩
 ·simp[Value.ownBlock]at hk
 ·simp[Value.ownBlock]at hk;subst hk;exact⟨cur,hg⟩
theorem z5X {w w':World}{B:Nat}{e:TypeId}{s n:Nat}{v:Value}{xs:List Value}(h:w.ownsRow B e s v n xs)(hk:∀k,v.ownBlock=some k->w'.heap[k]?=w.heap[k]?):w'.ownsRow B e s v n xs:=by
 refine⟨h.1,?_⟩;rcases h.2 with⟨rfl,h0⟩|⟨g,cap,cur,rfl,h1,hg,h2⟩
 ·exact .inl ⟨rfl,h0⟩
 ·exact .inr ⟨g,cap,cur,rfl,h1,(hk g rfl).trans hg,h2⟩
def z0B (l:List UInt8):List Value:=l.map fun x=>Value.int .u8 (x.toNat:Int)
@[simp] theorem bytesV_length (l:List UInt8):(z0B l).length=l.length:=by simp[z0B]
theorem z5C (l:List UInt8):∀v∈z0B l,v.oneCell'=true:=fun v hv=>by
 obtain⟨x,_,rfl⟩:=List.mem_map.1 hv;rfl
abbrev Late:=Nat×List UInt8
def z0t (x:Late):List Value:=.int .u64 (x.1:Int) :: z0B x.2
theorem z4W (x:Late):∀v∈z0t x,v.oneCell'=true:=fun v hv=>by
 rcases List.mem_cons.1 hv with rfl|h
 ·rfl
 ·exact z5C _ v h
def z1j (l:List Late):List Value:=l.flatMap z0t
structure Sec where
 kept:List UInt8
 late:List Late
structure SecOk(S:Sec):Prop where
 kept:S.kept.length=64
 late:∀x∈S.late,x.1<64/\x.2.length=64
 once:(S.late.map (·.1)).Nodup
theorem nodup_few:∀(n:Nat) (l:List Nat),l.Nodup->(∀x∈l,x<n)->l.length<=n
 |0,l,_,h=>by
  cases l with
  |nil=>simp
  |cons a l=>exact absurd (h a (by simp)) (by omega)
 |n+1,l,hd,h=>by
  by_cases hn:n∈l
  ·have h1:=nodup_few n (l.erase n) (hd.erase n) (fun x hx=>by
    have:=(hd.mem_erase_iff).1 hx;have:=h x this.2;omega)
   rw[List.length_erase_of_mem hn]at h1;omega
  ·have h1:=nodup_few n l hd (fun x hx=>by
    have:=h x hx;have:x≠n:=fun e=>hn (e ▸ hx)
    omega)
   omega
theorem SecOk.few{S:Sec}(h:SecOk S):S.late.length<=64:=by
 have:=nodup_few 64 (S.late.map (·.1)) h.once (fun x hx=>by
  obtain⟨y,hy,rfl⟩:=List.mem_map.1 hx;exact(h.late y hy).1)
 simpa using this
theorem z4x {l:List Late}(h:∀x∈l,x.1<64/\x.2.length=64):(z1j l).length=l.length*65:=by
 induction l with
 |nil=>rfl
 |cons a l ih=>
  have h1:=ih (fun x hx=>h x (by simp[hx]));have h2:=(h a (by simp)).2;simp only[z1j,List.flatMap_cons,List.length_append]at h1 ⊢;simp only[z0t,List.length_cons,bytesV_length,h2];omega
theorem latesC_at:∀ {l:List Late},(∀x∈l,x.1<64/\x.2.length=64)->∀ {i:Nat} {x:Late},l[i]?=some x->∀ {j:Nat} {u:Value},(z0t x)[j]?=some u->(z1j l)[i*65+j]?=some u
 | [],_,i,x,hi,j,u,_=>by simp at hi
 |a :: l,h,0,x,hi,j,u,hj=>by
  simp at hi;subst hi;have:j<(z0t a).length:=(List.getElem?_eq_some_iff.1 hj).1;simp only[z1j,List.flatMap_cons,Nat.zero_mul,Nat.zero_add];rw[List.getElem?_append_left this];exact hj
 |a :: l,h,i+1,x,hi,j,u,hj=>by
  have h2:=(h a (by simp)).2;have hl:(z0t a).length=65:=by simp[z0t,h2]
  simp only[z1j,List.flatMap_cons];rw[List.getElem?_append_right (by omega),hl,show(i+1)*65+j-65=i*65+j by omega];exact latesC_at (fun x hx=>h x (by simp[hx])) (by simpa using hi) hj
structure DSt where
 next:Nat
 left:Int
 down:Bool
 K:Nat->Sec
structure z0m (w:World)(B p bs n:Nat)(s:DSt)(v:Nat->Value):Prop where
 blk:w.heap[p]?=some (.cells #[.slice (some ⟨bs,0,none⟩) n n,.int .u64 (s.next:Int),.int .i64 s.left,.bool s.down] 118 (0,0))
 sec:∃C,w.heap[bs]?=some (.cells C 177 (0,0))
 cells:∀i,i<n->w.rangeAt bs (i*65) (z0B (s.K i).kept++[v i])
 ok:∀i,i<n->SecOk (s.K i)
 rows:∀i,i<n->w.ownsRow B 174 65 (v i) (s.K i).late.length (z1j (s.K i).late)
 apart:∀i j,i<n->j<n->i≠j->(v i).ownBlock=none∨(v i).ownBlock≠(v j).ownBlock
 bp:B<=p
 bb:B<=bs
 nx:s.next<64
 lo:-1<=s.left
 few:n<=120
def DiskTy(o:Obj):Prop:=∃c t f,o=.cells c t f/\(t=118∨t=177∨t=174)
structure Spun(B:Nat)(w w':World):Prop where
 below:Below B w w'
 block:∀(k:Nat) (o:Obj),w.heap[k]?=some o->¬DiskTy o->w'.heap[k]?=some o
theorem Spun.refl(B:Nat)(w:World):Spun B w w:=⟨Below.refl _ _,fun _ _ h _=>h⟩
theorem Spun.trans{B:Nat}{a b c:World}(h:Spun B a b)(g:Spun B b c):Spun B a c:=
 ⟨h.below.trans g.below,fun k o hk ho=>g.block k o (h.block k o hk ho) ho⟩
theorem Spun.of{B:Nat}{w w':World}(hB:B<=w.heap.size)(h:Below w.heap.size w w'):Spun B w w':=
 ⟨h.mono hB,fun k _ hk _=>(h.block k (Array.getElem?_eq_some_iff.1 hk).1).trans hk⟩
theorem Spun.size{B:Nat}{w w':World}(h:Spun B w w'):w.heap.size<=w'.heap.size:=h.below.size
theorem Spun.set{B g i:Nat}{w:World}{c:Array Value}{t:TypeId}{f:Nat×Nat}(hg:w.heap[g]?=some (.cells c t f))(hB:B<=g)(ht:t=118∨t=177∨t=174)(u:Value):Spun B w (w.setCell ⟨g,i,none⟩ u):=
 ⟨⟨rfl,rfl,rfl,by simp[World.setCell],fun k hk=>Below.heap_setCell _ _ _ _ (by show k≠g;omega)⟩,fun k o hk ho=>by
  by_cases e:k=g
  ·subst e;rw[hg]at hk;injection hk with hk;exact absurd ⟨c,t,f,hk.symm,ht⟩ ho
  ·rw[Below.heap_setCell _ _ _ _ e];exact hk⟩
theorem heap_setC(w:World)(b i:Nat)(c:Array Value)(t:TypeId)(f:Nat×Nat)(v:Value)(h:w.heap[b]?=some (.cells c t f)):(w.setCell ⟨b,i,none⟩ v).heap[b]?=some (.cells (c.set! i v) t f):=by
 show(w.heap.modify b _)[b]?=_;rw[Array.getElem?_modify,if_pos rfl,h];rfl
theorem heap_setCs(b:Nat)(t:TypeId)(f:Nat×Nat):∀(vs:List Value) (o:Nat) (w:World) (c:Array Value),w.heap[b]?=some (.cells c t f)->∃c',(w.setCells b o vs).heap[b]?=some (.cells c' t f)/\c'.size=c.size
 | [],_,_,c,h=>⟨c,h,rfl⟩
 |v :: r,o,w,c,h=>by
  obtain⟨c',h1,h2⟩:=heap_setCs b t f r (o+1) _ _ (heap_setC w b o c t f v h);exact⟨c',h1,by rw[h2];simp⟩
theorem z1Z (b:Nat):∀(vs:List Value) (o:Nat) (w:World) (k:Nat),k≠b->(w.setCells b o vs).heap[k]?=w.heap[k]?
 | [],_,_,_,_=>rfl
 |_ :: r,o,_,k,hk=>(z1Z b r (o+1) _ k hk).trans (Below.heap_setCell _ _ _ _ hk)
theorem z6W (b:Nat):∀(vs:List Value) (o:Nat) (w:World),(w.setCells b o vs).heap.size=w.heap.size
 | [],_,_=>rfl
 |v :: r,o,w=>by rw[World.setCells,z6W b r];simp[World.setCell]
theorem z2e (b:Nat):∀(vs:List Value) (o:Nat) (w:World),(w.setCells b o vs).os=w.os/\(w.setCells b o vs).tape=w.tape/\(w.setCells b o vs).output=w.output
 | [],_,_=>⟨rfl,rfl,rfl⟩
 |_ :: r,o,_=>z2e b r (o+1) _
theorem Spun.sets{B g o:Nat}{w:World}{c:Array Value}{t:TypeId}{f:Nat×Nat}(hg:w.heap[g]?=some (.cells c t f))(hB:B<=g)(ht:t=118∨t=177∨t=174)(vs:List Value):Spun B w (w.setCells g o vs):=
 ⟨⟨(z2e g vs o w).1,(z2e g vs o w).2.1,(z2e g vs o w).2.2,by rw[z6W];exact Nat.le_refl _,fun k hk=>z1Z _ _ _ _ _ (by omega)⟩,fun k q hk ho=>by
  by_cases e:k=g
  ·subst e;rw[hg]at hk;injection hk with hk;exact absurd ⟨c,t,f,hk.symm,ht⟩ ho
  ·rw[z1Z _ _ _ _ _ e];exact hk⟩
theorem z0m.lt{w:World}{B p bs n:Nat}{s:DSt}{v:Nat->Value}(h:z0m w B p bs n s v):p<w.heap.size:=(Array.getElem?_eq_some_iff.1 h.blk).1
theorem z0m.ltb{w:World}{B p bs n:Nat}{s:DSt}{v:Nat->Value}(h:z0m w B p bs n s v):bs<w.heap.size:=by
 obtain⟨C,hC⟩:=h.sec;exact(Array.getElem?_eq_some_iff.1 hC).1
theorem z0m.ne{w:World}{B p bs n:Nat}{s:DSt}{v:Nat->Value}(h:z0m w B p bs n s v):p≠bs:=fun e=>by
 obtain⟨C,hC⟩:=h.sec;have:=h.blk;rw[e,hC]at this;simp at this
theorem z0m.later{w w':World}{B p bs n:Nat}{s:DSt}{v:Nat->Value}(h:z0m w B p bs n s v)(hb:Below w.heap.size w w'):z0m w' B p bs n s v:=by
 refine⟨(hb.block _ h.lt).trans h.blk,?_,?_,h.ok,fun i hi=>z0e (h.rows i hi) hb,h.apart,h.bp,h.bb,h.nx,h.lo,h.few⟩
 ·obtain⟨C,hC⟩:=h.sec;exact⟨C,(hb.block _ h.ltb).trans hC⟩
 ·intro i hi j u hj;exact(hb.cell (p:=⟨bs,i*65+j,none⟩) h.ltb).trans (h.cells i hi j u hj)
theorem z0m.c0{w:World}{B p bs n:Nat}{s:DSt}{v:Nat->Value}(h:z0m w B p bs n s v):w.cell? ⟨p,0,none⟩=some (.slice (some ⟨bs,0,none⟩) n n):=by simp[World.cell?,h.blk]
theorem z0m.c1{w:World}{B p bs n:Nat}{s:DSt}{v:Nat->Value}(h:z0m w B p bs n s v):w.cell? ⟨p,1,none⟩=some (.int .u64 (s.next:Int)):=by simp[World.cell?,h.blk]
theorem z0m.c2{w:World}{B p bs n:Nat}{s:DSt}{v:Nat->Value}(h:z0m w B p bs n s v):w.cell? ⟨p,2,none⟩=some (.int .i64 s.left):=by simp[World.cell?,h.blk]
theorem z0m.c3{w:World}{B p bs n:Nat}{s:DSt}{v:Nat->Value}(h:z0m w B p bs n s v):w.cell? ⟨p,3,none⟩=some (.bool s.down):=by simp[World.cell?,h.blk]
theorem z0m.fz{w:World}{B p bs n:Nat}{s:DSt}{v:Nat->Value}(h:z0m w B p bs n s v)(i:Nat):w.frozen? ⟨p,i,none⟩=false:=by simp[World.frozen?,h.blk]
theorem z0m.put{w w':World}{B p bs n:Nat}{s s':DSt}{v:Nat->Value}(h:z0m w B p bs n s v)(ho:∀k,k≠p->w'.heap[k]?=w.heap[k]?)
 (hb:w'.heap[p]?=some (.cells #[.slice (some ⟨bs,0,none⟩) n n,.int .u64 (s'.next:Int),.int .i64 s'.left,.bool s'.down] 118 (0,0))) (hK:s'.K=s.K) (hn:s'.next<64) (hl:-1<=s'.left):z0m w' B p bs n s' v:=by
 have hne:=h.ne;refine⟨hb,?_,?_,?_,?_,h.apart,h.bp,h.bb,hn,hl,h.few⟩
 ·obtain⟨C,hC⟩:=h.sec;exact⟨C,(ho bs (Ne.symm hne)).trans hC⟩
 ·rw[hK];intro i hi j u hj;exact(World.cell?_of_block (a:=⟨bs,i*65+j,none⟩) (ho bs (Ne.symm hne))).trans (h.cells i hi j u hj)
 ·rw[hK];exact h.ok
 ·rw[hK];exact fun i hi=>z5X (h.rows i hi) (fun k hk=>ho k (fun e=>by
   obtain⟨c,hc⟩:=z3C (h.rows i hi) hk;subst e;rw[h.blk]at hc;simp at hc))
theorem has_any(w:World)(B p bs n:Nat)(s:DSt)(v:Nat->Value)(at':Int)(h:z0m w B p bs n s v) :
 Calls Tryz.prog 84 #[.pointer (some ⟨p,0,none⟩),.int .i64 at'] w fun e w'=>e=.returned (.bool (decide (0<=at')&&decide (at'<n)))/\w'=w:=by
 have c0:=h.c0;clear h;by_cases h0:0<=at'
 ·go_enter Tryz.func84,Tryz.ntmps84;go_wp2;go_ret;exact⟨z0w (by simp[h0]),rfl⟩
 ·go_enter Tryz.func84,Tryz.ntmps84;go_wp2;go_ret;exact⟨z0w (by simp;omega),rfl⟩
def DSt.falls(s:DSt):Bool:=s.down||decide (s.left=0)
def DSt.fell(s:DSt):DSt:={s with down:=true}
def DSt.stepped(s:DSt):DSt:={s with left:=if 0<s.left then s.left-1 else s.left}
theorem z1i {w:World}{p i:Nat}{c:Array Value}{t:TypeId}(u:Value)(h:w.heap[p]?=some (.cells c t (0,0))):(w.setCell ⟨p,i,none⟩ u).heap[p]?=some (.cells (c.set! i u) t (0,0)):=heap_setC w p i c t (0,0) u h
theorem step_falls(w:World)(B p bs n:Nat)(s:DSt)(v:Nat->Value)(h:z0m w B p bs n s v)(hf:s.falls=true) :
 Calls Tryz.prog 85 #[.pointer (some ⟨p,0,none⟩)] w fun e w'=>e=.returned (errV 9)/\z0m w' B p bs n s.fell v/\Spun B w w':=by
 have c2:=h.c2;have c3:=h.c3;have fz:=h.fz 3;by_cases h0:s.left=0
 ·have hD:z0m (w.setCell ⟨p,3,none⟩ (.bool true)) B p bs n s.fell v:=h.put (fun k hk=>Below.heap_setCell _ _ _ _ hk) (z1i _ h.blk) rfl h.nx h.lo;have hS:Spun B w (w.setCell ⟨p,3,none⟩ (.bool true)):=Spun.set h.blk h.bp (.inl rfl) _;have e0:(s.left==0)=true:=by simp[h0]
  clear h hf;generalize s.left=l at *;go_enter Tryz.func85,Tryz.ntmps85;go_wp2;go_ret;exact⟨rfl,hD,hS⟩
 ·have hd:s.down=true:=by simpa[DSt.falls,h0]using hf
  have hD:z0m w B p bs n s.fell v:=h.put (fun _ _=>rfl) (by rw[h.blk,hd];rfl) rfl h.nx h.lo;have e0:(s.left==0)=false:=by simp[h0]
  rw[hd]at c3;clear h hf;generalize s.left=l at *;go_enter Tryz.func85,Tryz.ntmps85;go_wp2;go_ret;exact⟨rfl,hD,Spun.refl _ _⟩
theorem step_goes(w:World)(B p bs n:Nat)(s:DSt)(v:Nat->Value)(h:z0m w B p bs n s v)(hf:s.falls=false)(hl:s.left<=9223372036854775807) :
 Calls Tryz.prog 85 #[.pointer (some ⟨p,0,none⟩)] w fun e w'=>e=.returned .nilIface/\z0m w' B p bs n s.stepped v/\Spun B w w':=by
 have c2:=h.c2;have c3:=h.c3;have fz:=h.fz 2;obtain⟨hd,h0⟩:s.down=false/\s.left≠0:=by simpa[DSt.falls]using hf
 have e0:(s.left==0)=false:=by simp[h0]
 rw[hd]at c3;by_cases hp:0<s.left
 ·have hD:z0m (w.setCell ⟨p,2,none⟩ (.int .i64 (s.left-1))) B p bs n s.stepped v:=h.put (fun k hk=>Below.heap_setCell _ _ _ _ hk) (by
   rw[z1i _ h.blk];simp[DSt.stepped,hp]) rfl h.nx (by simp[DSt.stepped,hp];omega)
  have hS:Spun B w (w.setCell ⟨p,2,none⟩ (.int .i64 (s.left-1))):=Spun.set h.blk h.bp (.inl rfl) _;clear h hf;generalize s.left=l at *;go_enter Tryz.func85,Tryz.ntmps85;go_wp2;go_ret;exact⟨rfl,hD,hS⟩
 ·have hD:z0m w B p bs n s.stepped v:=h.put (fun _ _=>rfl) (by rw[h.blk];simp[DSt.stepped,hp]) rfl h.nx (by simp[DSt.stepped,hp];exact h.lo);clear h hf;generalize s.left=l at *;go_enter Tryz.func85,Tryz.ntmps85;go_wp2;go_ret;exact⟨rfl,hD,Spun.refl _ _⟩
theorem sectors_any(w:World)(B p bs n:Nat)(s:DSt)(v:Nat->Value)(h:z0m w B p bs n s v) :
 Calls Tryz.prog 44 #[.pointer (some ⟨p,0,none⟩)] w fun e w'=>e=.returned (.int .i64 n)/\w'=w:=by
 have c0:=h.c0;clear h;go_enter Tryz.func44,Tryz.ntmps44;go_wp2;go_ret;exact⟨rfl,rfl⟩
theorem setCell_new(w:World)(c:Array Value)(t:TypeId)(f:Nat×Nat)(i:Nat)(v:Value):(w.alloc (.cells c t f)).setCell ⟨w.heap.size,i,none⟩ v=w.alloc (.cells (c.set! i v) t f):=by
 show({w.alloc (.cells c t f)with heap:=_}:World)=_;simp only[World.alloc];congr 1;apply Array.ext_getElem?;intro k;rw[Array.getElem?_modify];by_cases h:w.heap.size=k
 ·subst h;rw[if_pos rfl,Array.getElem?_push_size,Array.getElem?_push_size];rfl
 ·rw[if_neg h,Array.getElem?_push,Array.getElem?_push,if_neg (Ne.symm h),if_neg (Ne.symm h)]
theorem z6t (w:World)(t:TypeId)(f:Nat×Nat):∀(vs:List Value) (o:Nat) (c:Array Value),o+vs.length<=c.size->(w.alloc (.cells c t f)).setCells w.heap.size o vs=w.alloc (.cells (c.toList.take o++vs++c.toList.drop (o+vs.length)).toArray t f)
 | [],o,c,_=>by simp[World.setCells]
 |v :: r,o,c,h=>by
  rw[World.setCells,setCell_new,z6t w t f r (o+1) (c.set! o v) (by simp at h ⊢;omega)];congr 2;apply Array.ext';simp only[List.length_cons]at h;have h1:(c.set! o v).toList=c.toList.set o v:=by simp
  rw[h1];have h2:(c.toList.set o v).take (o+1)=c.toList.take o++[v]:=by
   rw[List.take_set,List.take_succ_eq_append_getElem (by simp;omega),List.set_append_right _ _ (by simp;omega)];simp[Nat.min_eq_left (show o<=c.size by omega)]
  rw[h2,List.drop_set_of_lt (by omega)];simp[Nat.add_comm,Nat.add_left_comm]
theorem fill_new(w:World)(t:TypeId)(f:Nat×Nat)(vs:List Value)(c:Array Value)(h:c.size=vs.length):(w.alloc (.cells c t f)).setCells w.heap.size 0 vs=w.alloc (.cells vs.toArray t f):=by
 rw[z6t w t f vs 0 c (by omega),List.drop_of_length_le (by simp;omega)];simp
theorem there_new(w:World)(t:TypeId)(c:Array Value):(w.alloc (.cells c t)).there w.heap.size 0 c.size:=fun j hj=>by
 refine⟨?_,?_⟩
 ·rw[Nat.zero_add,World.cell?_alloc_mark];simp[hj]
 ·simp[go_sem]
theorem z3k {P:Program}{ops:Array Oper}{rest:List Oper}{op:Oper}{a:Go.Act}{W:World}{Q:Exit->Go.Act->World->Prop}(hgd:op.guard=none)(ty:TypeId)(x y:Operand)(ho:op.op=.store ty x y)
 (w:World) (Z:Array Value) (hW:W=w.alloc (.cells Z ty)) (cs:List Value) (hx:a.eval x=.pointer (some ⟨w.heap.size,0,none⟩)) (hy:a.eval y=.agg cs.toArray) (hz:Z.size=cs.length) (hi:(P.info? ty).map (·.size)=some cs.length) (h1:∀v∈cs,v.oneCell'=true)
 (h:wpList P ops Q rest (a.put op.dst undef) (w.alloc (.cells cs.toArray ty))):wpList P ops Q (op :: rest) a W:=by
 subst hW;exact wpList_store_mid hgd ty x y ho w.heap.size 0 cs.toArray hx hy (by have:=there_new w ty Z;rw[hz]at this;simpa using this) (by simpa using hi) (all_oneCell_toArray h1) (by
  rw[fill_new w ty (0,0) _ Z (by simpa using hz)];exact h)
theorem z4O (w:World)(t:TypeId)(cs:List Value)(o:Nat)(l:List Value)(h:∀j u,l[j]?=some u->cs[o+j]?=some u):(w.alloc (.cells cs.toArray t)).rangeAt w.heap.size o l:=fun j u hj=>by
 rw[World.cell?_alloc_mark];simpa using h j u hj
theorem results_cell{P:Program}{fn:Func}{tmps:Array Value}{w:World}{d:Nat}{ty:TypeId}{b o:Nat}{v:Value}(hr:fn.results=#[.cell d ty])(hd:tmps[d]?=some (.pointer (some ⟨b,o,none⟩)))(hl:(loadVar ty ⟨b,o,none⟩).run P w=.ok v w):(results fn tmps).run P w=.ok v w:=by
 simp[results,hr,hd,asAddr,hl]
end
end Go.Proofs.YtbcpcbonlhlhpaaGreatDoor
