/- Plain words on an entry and its line, with nothing of the -/
import Derived.Test.YtbcpcbonlhlhpaaGreatDoorPlainNumb
import Derived.Deep.QuietTactic
import Derived.BigQuiet
import Derived.Deep.DrawnRows
namespace Go.Proofs.YtbcpcbonlhlhpaaGreatDoor
section
structure EntF where
 root:ByteArray
 nP:Nat
 pName:Nat->ByteArray
 pStamp:Nat->Int
 pBase:Nat->Int
 nQ:Nat
 qPart:Nat->Int
 qAt:Nat->Int
 qWord:Nat->Int
def z3f (p q:Int):Bool:=decide (1<=p/\p<=6/\0<=q/\q<=36)
def z0P (s:ByteArray)(k b:Int):Nat:=seqF (z0r s.data.toList) (if k<1∨1000000<k then 1 else if b<0∨256<=b∨b % 16≠0 then 1 else 0)
def z1d (n p a x:Int):Nat:=if z0j p n=true/\z0j a 40=true/\z0y x=true then 0 else 1
def z4H (e:EntF):Nat->Nat:=z0a fun i=>z0P (e.pName i) (e.pStamp i) (e.pBase i)
def z2w (e:EntF):Nat->Nat:=z0a fun i=>z1d e.nP (e.qPart i) (e.qAt i) (e.qWord i)
def entF(e:EntF):Nat:=seqF (z0r e.root.data.toList) (seqF (if z3f e.nP e.nQ=true then 0 else 2) (seqF (z4H e e.nP) (z2w e e.nQ)))
def catW(g:Nat->List (List UInt8)):Nat->List (List UInt8)
 |0=>[]
 |k+1=>catW g k++g k
def z2c (e:EntF):List (List UInt8):=[e.root.data.toList,Lib.itoa e.nP,Lib.itoa e.nQ]
def z2s (e:EntF)(i:Nat):List (List UInt8):=[(e.pName i).data.toList,Lib.itoa (e.pStamp i),Lib.itoa (e.pBase i)]
def patW(e:EntF)(i:Nat):List (List UInt8):=[Lib.itoa (e.qPart i),Lib.itoa (e.qAt i),Lib.itoa (e.qWord i)]
def entW(e:EntF):List (List UInt8):=z2c e++catW (z2s e) e.nP++catW (patW e) e.nQ
def z0D (e:EntF):List UInt8:=Lib.join (entW e) [32]++[10]
def z5m (e:EntF):Nat×List UInt8:=if entF e=0 then(0,z0D e)else(entF e,[])
theorem z3E {g:Nat->List (List UInt8)}(h:∀i,(g i).length=3):∀k,(catW g k).length=3*k
 |0=>rfl
 |k+1=>by simp only[catW,List.length_append,z3E h k,h];omega
theorem catW_at{g:Nat->List (List UInt8)}(h:∀i,(g i).length=3){i j:Nat}(hj:j<3):∀k,i<k->(catW g k)[3*i+j]?=(g i)[j]?
 |0,hk=>by omega
 |k+1,hk=>by
  by_cases e:i=k
  ·subst e;simp only[catW];rw[List.getElem?_append_right (by rw[z3E h];omega),z3E h];congr 1;omega
  ·simp only[catW];rw[List.getElem?_append_left (by rw[z3E h];omega)];exact catW_at h hj k (by omega)
theorem catW_mem{g:Nat->List (List UInt8)}{x:List UInt8}:∀ {k:Nat},x∈catW g k->∃i,i<k/\x∈g i
 |0,h=>by cases h
 |k+1,h=>by
  rcases List.mem_append.1 h with h|h
  ·obtain⟨i,hi,hx⟩:=catW_mem h;exact⟨i,by omega,hx⟩
  ·exact⟨k,by omega,h⟩
theorem z6P (e:EntF):(entW e).length=3+3*(e.nP+e.nQ):=by
 simp only[entW,List.length_append,z3E (g:=z2s e) (fun _=>rfl),z3E (g:=patW e) (fun _=>rfl)];simp[z2c];omega
theorem entW_head(e:EntF){j:Nat}(hj:j<3):(entW e)[j]?=(z2c e)[j]?:=by
 unfold entW;rw[List.append_assoc,List.getElem?_append_left (by simpa[z2c]using hj)]
theorem z7y (e:EntF){i j:Nat}(hi:i<e.nP)(hj:j<3):(entW e)[3+3*i+j]?=(z2s e i)[j]?:=by
 unfold entW;rw[List.append_assoc,List.getElem?_append_right (by simp[z2c];omega),List.getElem?_append_left (by rw[z3E (fun _=>rfl)];simp[z2c];omega)];rw[<-catW_at (g:=z2s e) (fun _=>rfl) hj e.nP hi];congr 1;simp[z2c];omega
theorem entW_pat(e:EntF){i j:Nat}(hi:i<e.nQ)(hj:j<3):(entW e)[3+3*e.nP+3*i+j]?=(patW e i)[j]?:=by
 unfold entW;rw[List.getElem?_append_right (by simp[z2c,z3E (g:=z2s e) (fun _=>rfl)];omega)];rw[<-catW_at (g:=patW e) (fun _=>rfl) hj e.nQ hi];congr 1;simp[z2c,z3E (g:=z2s e) (fun _=>rfl)];omega
structure z7q (e:EntF):Prop where
 root:z0r e.root.data.toList=0
 nP0:1<=e.nP
 nP:e.nP<=6
 nQ:e.nQ<=36
 parts:∀i,i<e.nP->z0r (e.pName i).data.toList=0/\1<=e.pStamp i/\e.pStamp i<=1000000/\0<=e.pBase i/\e.pBase i<256
 pats:∀i,i<e.nQ->0<=e.qPart i/\e.qPart i<e.nP/\0<=e.qAt i/\e.qAt i<40 /\ -2147483648<=e.qWord i/\e.qWord i<=2147483647
theorem fault_zero{g:Nat->Nat}{n:Nat}(h:z0a g n=0):∀i,i<n->g i=0:=by
 induction n with
 |zero=>intro i hi;omega
 |succ n ih=>
  intro i hi;simp only[z0a,seqF]at h;split at h
  ·by_cases e:i=n
   ·subst e;exact h
   ·exact ih (by assumption) i (by omega)
  ·contradiction
theorem seq_zero{a b:Nat}(h:seqF a b=0):a=0/\b=0:=by
 unfold seqF at h;split at h
 ·exact⟨by assumption,h⟩
 ·contradiction
theorem z5t {e:EntF}(h:entF e=0):z7q e:=by
 unfold entF at h;obtain⟨h1,h⟩:=seq_zero h;obtain⟨h2,h⟩:=seq_zero h;obtain⟨h3,h4⟩:=seq_zero h;have hm:1<=(e.nP:Int)/\(e.nP:Int)<=6/\0<=(e.nQ:Int)/\(e.nQ:Int)<=36:=by
  split at h2
  ·rename_i hb;unfold z3f at hb;exact of_decide_eq_true hb
  ·contradiction
 refine⟨h1,by omega,by omega,by omega,fun i hi=>?_,fun i hi=>?_⟩
 ·obtain⟨g1,g2⟩:=seq_zero (fault_zero h3 i hi);refine⟨g1,?_⟩;split at g2
  ·contradiction
  ·split at g2
   ·contradiction
   ·omega
 ·have:=fault_zero h4 i hi;unfold z1d at this;split at this
  ·rename_i hp;simp only[z0j,z0y,Bool.and_eq_true,decide_eq_true_eq]at hp;omega
  ·contradiction
theorem entW_no{e:EntF}(h:z7q e)(c:UInt8)(hc:c=32∨c=10):∀x∈entW e,c ∉ x:=by
 intro x hx;unfold entW at hx;rcases List.mem_append.1 hx with hx|hx
 ·rcases List.mem_append.1 hx with hx|hx
  ·simp only[z2c,List.mem_cons,List.not_mem_nil,or_false]at hx;rcases hx with rfl|rfl|rfl
   ·exact z1b h.root c hc
   ·exact z0M _ c hc
   ·exact z0M _ c hc
  ·obtain⟨i,hi,hx⟩:=catW_mem hx;simp only[z2s,List.mem_cons,List.not_mem_nil,or_false]at hx;rcases hx with rfl|rfl|rfl
   ·exact z1b (h.parts i hi).1 c hc
   ·exact z0M _ c hc
   ·exact z0M _ c hc
 ·obtain⟨i,hi,hx⟩:=catW_mem hx;simp only[patW,List.mem_cons,List.not_mem_nil,or_false]at hx;rcases hx with rfl|rfl|rfl <;> exact z0M _ c hc
theorem z5K (n:Int)(h0:-9223372036854775808<=n)(h1:n<=9223372036854775807):(Lib.itoa n).length<=20:=z1v n h0 h1
theorem z3X {e:EntF}(h:z7q e):∀x∈entW e,x.length<=20:=by
 intro x hx;have h1:=h.nP;have h2:=h.nQ;unfold entW at hx;rcases List.mem_append.1 hx with hx|hx
 ·rcases List.mem_append.1 hx with hx|hx
  ·simp only[z2c,List.mem_cons,List.not_mem_nil,or_false]at hx;rcases hx with rfl|rfl|rfl
   ·exact Nat.le_trans (z1k h.root) (by decide)
   ·exact z5K _ (by omega) (by omega)
   ·exact z5K _ (by omega) (by omega)
  ·obtain⟨i,hi,hx⟩:=catW_mem hx;have hp:=h.parts i hi;simp only[z2s,List.mem_cons,List.not_mem_nil,or_false]at hx;rcases hx with rfl|rfl|rfl
   ·exact Nat.le_trans (z1k hp.1) (by decide)
   ·exact z5K _ (by omega) (by omega)
   ·exact z5K _ (by omega) (by omega)
 ·obtain⟨i,hi,hx⟩:=catW_mem hx;have hp:=h.pats i hi;simp only[patW,List.mem_cons,List.not_mem_nil,or_false]at hx;rcases hx with rfl|rfl|rfl <;> exact z5K _ (by omega) (by omega)
theorem z3P (ws:List (List UInt8))(h:∀x∈ws,x.length<=20):(Lib.join ws [32]).length<=21*ws.length/\ws.length<=(Lib.join ws [32]).length+1:=by
 cases ws with
 |nil=>simp[Lib.join_nil]
 |cons x r=>
  rw[Lib.join_cons];have key:∀r:List (List UInt8),(∀x∈r,x.length<=20)->(Lib.joinTail [32] r).length<=21*r.length/\r.length<=(Lib.joinTail [32] r).length:=by
   intro r
   induction r with
   |nil=>intro _;simp[Lib.joinTail]
   |cons y r ih=>
    intro hr;have:=ih fun x hx=>hr x (List.mem_cons_of_mem _ hx)
    have hy:=hr y (List.mem_cons_self ..);have e:Lib.joinTail [32] (y :: r)=[32]++y++Lib.joinTail [32] r:=by simp[Lib.joinTail]
    rw[e];simp only[List.length_append,List.length_cons,List.length_nil];omega
  have:=key r fun x hx=>h x (List.mem_cons_of_mem _ hx)
  have hx:=h x (List.mem_cons_self ..);simp only[List.length_append,List.length_cons];omega
theorem split_join(c:UInt8):∀(ws:List (List UInt8)) (k:Nat),(∀x∈ws,c ∉ x)->ws ≠ []->ws.length<=k+1->Lib.splitK [c] 0 k (Lib.join ws [c])=ws
 | [],_,_,h,_=>absurd rfl h
 | [x],k,h,_,_=>by
  rw[Lib.join_one];have hx:=h x (List.mem_cons_self ..);cases k with
  |zero=>rfl
  |succ k=>
   rw[Lib.splitK,if_pos];rw[Lib.index_one,index_no c x hx];rfl
 |x :: y :: r,k,h,_,hk=>by
  have hx:=h x (List.mem_cons_self ..);have e:Lib.join (x :: y :: r) [c]=x++c :: Lib.join (y :: r) [c]:=by
   rw[Lib.join_cons,Lib.join_cons];simp[Lib.joinTail]
  cases k with
  |zero=>simp at hk
  |succ k=>
   have hi:Lib.index (x++c :: Lib.join (y :: r) [c]) [c]=x.length:=by rw[Lib.index_one,z7D c _ x hx]
   rw[e,Lib.splitK,if_neg (by rw[hi];simp),hi];have ih:=split_join c (y :: r) k (fun z hz=>h z (List.mem_cons_of_mem _ hz)) (by simp) (by simp at hk ⊢;omega);have hd:List.drop (x.length+1) (x++c :: Lib.join (y :: r) [c])=Lib.join (y :: r) [c]:=by simp
   simp only[Int.toNat_natCast,Nat.add_zero,List.take_left',List.length_cons,List.length_nil,Nat.zero_add];rw[hd,ih]
theorem trim_end(l:List UInt8):Lib.trimSuffix (l++[10]) [10]=l:=by
 unfold Lib.trimSuffix Lib.hasSuffix;rw[if_pos (by simp)];simp
theorem join_no(c:UInt8)(hc:c≠32)(ws:List (List UInt8))(h:∀x∈ws,c ∉ x):c ∉ Lib.join ws [32]:=by
 cases ws with
 |nil=>simp[Lib.join_nil]
 |cons x r=>
  rw[Lib.join_cons];intro hm;rcases List.mem_append.1 hm with hm|hm
  ·exact h x (List.mem_cons_self ..) hm
  ·simp only[Lib.joinTail,List.mem_flatten,List.mem_map]at hm;obtain⟨l,⟨y,hy,rfl⟩,hm⟩:=hm;rcases List.mem_append.1 hm with hm|hm
   ·simp at hm;exact hc hm
   ·exact h y (List.mem_cons_of_mem _ hy) hm
def z1g:EntF:=⟨⟨#[]⟩,0,fun _=>⟨#[]⟩,fun _=>0,fun _=>0,0,fun _=>0,fun _=>0,fun _=>0⟩
def wd(ws:List ByteArray)(i:Nat):ByteArray:=ws.getD i ⟨#[]⟩
def nu(ws:List ByteArray)(i:Nat):Int:=numF (wd ws i).data.toList
def readW(ws:List ByteArray):EntF:=
 if 3<=ws.length/\z3f (nu ws 1) (nu ws 2)=true/\(ws.length:Int)=3+3*(nu ws 1+nu ws 2)then
  ⟨wd ws 0,(nu ws 1).toNat,fun i=>wd ws (3+3*i),fun i=>nu ws (3+3*i+1),fun i=>nu ws (3+3*i+2),(nu ws 2).toNat,fun i=>nu ws (3+3*(nu ws 1).toNat+3*i),fun i=>nu ws (3+3*(nu ws 1).toNat+3*i+1),fun i=>nu ws (3+3*(nu ws 1).toNat+3*i+2)⟩
 else z1g
def z3b (s:ByteArray):List ByteArray:=Lib.splitB ⟨#[32]⟩ 0 (min 129 ((⟨(Lib.trimSuffix s.data.toList [10]).toArray⟩:ByteArray).size+1)-1) ⟨(Lib.trimSuffix s.data.toList [10]).toArray⟩
def z7J (s:ByteArray):EntF:=readW (z3b s)
def z3A (s:ByteArray):Nat×EntF:=if (z5m (z7J s)).1=0/\(z5m (z7J s)).2=s.data.toList then(0,z7J s)else(4,z1g)
structure z2H (a b:EntF):Prop where
 root:a.root=b.root
 nP:a.nP=b.nP
 nQ:a.nQ=b.nQ
 parts:∀i,i<b.nP->a.pName i=b.pName i/\a.pStamp i=b.pStamp i/\a.pBase i=b.pBase i
 pats:∀i,i<b.nQ->a.qPart i=b.qPart i/\a.qAt i=b.qAt i/\a.qWord i=b.qWord i
theorem wordsE_line{e:EntF}(h:z7q e){s:ByteArray}(hs:s.data.toList=z0D e):z3b s=(entW e).map fun l=>(⟨l.toArray⟩:ByteArray):=by
 unfold z3b;rw[hs];unfold z0D;rw[trim_end];apply bytes_map;rw[Lib.splitB_data];have hl:=z6P e;have h1:=h.nP;have h2:=h.nQ;have h3:=(z3P (entW e) (z3X h)).2;refine split_join 32 (entW e) _ (entW_no h 32 (.inl rfl)) (fun e0=>by rw[e0]at hl;simp at hl;omega) ?_;have:(⟨(Lib.join (entW e) [32]).toArray⟩:ByteArray).size=(Lib.join (entW e) [32]).length:=by rw[Lib.size_eq]
 rw[this];omega
theorem wd_map{e:EntF}{i:Nat}{x:List UInt8}(h:(entW e)[i]?=some x):wd ((entW e).map fun l=>(⟨l.toArray⟩:ByteArray)) i=⟨x.toArray⟩:=by
 unfold wd;rw[List.getD_eq_getElem?_getD,List.getElem?_map,h];rfl
theorem nu_map{e:EntF}{i:Nat}{n:Int}(h:(entW e)[i]?=some (Lib.itoa n))(h0:-1000000000000<=n)(h1:n<=1000000000000):nu ((entW e).map fun l=>(⟨l.toArray⟩:ByteArray)) i=n:=by
 unfold nu;rw[wd_map h];exact z3D n h0 h1
theorem read_line{e:EntF}(h:z7q e){s:ByteArray}(hs:s.data.toList=z0D e):z2H (z7J s) e:=by
 unfold z7J;rw[wordsE_line h hs];have hp:=h.nP;have hp0:=h.nP0;have hq:=h.nQ;have n1:nu ((entW e).map fun l=>(⟨l.toArray⟩:ByteArray)) 1=e.nP:=nu_map (entW_head e (by decide)) (by omega) (by omega);have n2:nu ((entW e).map fun l=>(⟨l.toArray⟩:ByteArray)) 2=e.nQ:=nu_map (entW_head e (by decide)) (by omega) (by omega);have hl:=z6P e;unfold readW;rw[if_pos ⟨by rw[List.length_map];omega,by rw[n1,n2];exact decide_eq_true (by omega),by rw[n1,n2,List.length_map];omega⟩];rw[n1,n2];simp only[Int.toNat_natCast];refine⟨?_,rfl,rfl,fun i hi=>⟨?_,?_,?_⟩,fun i hi=>⟨?_,?_,?_⟩⟩
 ·exact(wd_map (i:=0) (x:=e.root.data.toList) (entW_head e (by decide))).trans (by simp)
 ·exact(wd_map (i:=3+3*i) (x:=(e.pName i).data.toList) (z7y e (j:=0) hi (by decide))).trans (by simp)
 ·have:=h.parts i hi;exact nu_map (z7y e (j:=1) hi (by decide)) (by omega) (by omega)
 ·have:=h.parts i hi;exact nu_map (z7y e (j:=2) hi (by decide)) (by omega) (by omega)
 ·have:=h.pats i hi;exact nu_map (entW_pat e (j:=0) hi (by decide)) (by omega) (by omega)
 ·have:=h.pats i hi;exact nu_map (entW_pat e (j:=1) hi (by decide)) (by omega) (by omega)
 ·have:=h.pats i hi;exact nu_map (entW_pat e (j:=2) hi (by decide)) (by omega) (by omega)
theorem fault_congr{g h:Nat->Nat}{n:Nat}(e:∀i,i<n->g i=h i):z0a g n=z0a h n:=by
 induction n with
 |zero=>rfl
 |succ n ih=>simp only[z0a];rw[ih fun i hi=>e i (by omega),e n (by omega)]
theorem catW_congr{g h:Nat->List (List UInt8)}{n:Nat}(e:∀i,i<n->g i=h i):catW g n=catW h n:=by
 induction n with
 |zero=>rfl
 |succ n ih=>simp only[catW];rw[ih fun i hi=>e i (by omega),e n (by omega)]
theorem textE_congr{a b:EntF}(h:z2H a b):z5m a=z5m b:=by
 have e1:z4H a a.nP=z4H b b.nP:=by rw[h.nP];exact fault_congr fun i hi=>by rw[(h.parts i hi).1,(h.parts i hi).2.1,(h.parts i hi).2.2]
 have e2:z2w a a.nQ=z2w b b.nQ:=by rw[h.nQ];exact fault_congr fun i hi=>by rw[h.nP,(h.pats i hi).1,(h.pats i hi).2.1,(h.pats i hi).2.2]
 have e3:entF a=entF b:=by unfold entF;rw[e1,e2,h.root,h.nP,h.nQ]
 have e4:catW (z2s a) a.nP=catW (z2s b) b.nP:=by rw[h.nP];exact catW_congr fun i hi=>by unfold z2s;rw[(h.parts i hi).1,(h.parts i hi).2.1,(h.parts i hi).2.2]
 have e5:catW (patW a) a.nQ=catW (patW b) b.nQ:=by rw[h.nQ];exact catW_congr fun i hi=>by unfold patW;rw[(h.pats i hi).1,(h.pats i hi).2.1,(h.pats i hi).2.2]
 unfold z5m z0D entW z2c;rw[e3,e4,e5,h.root,h.nP,h.nQ]
theorem parse_line{e:EntF}{s:ByteArray}(h:(z5m e).1=0)(hs:s.data.toList=(z5m e).2):(z3A s).1=0/\z2H (z3A s).2 e:=by
 have h0:entF e=0:=by
  unfold z5m at h;split at h
  ·assumption
  ·exact h
 have ht:z5m e=(0,z0D e):=by unfold z5m;rw[if_pos h0]
 rw[ht]at hs;have hr:=read_line (z5t h0) hs;have ht2:=textE_congr hr;unfold z3A;rw[if_pos ⟨by rw[ht2];exact h,by rw[ht2,ht];exact hs.symm⟩];exact⟨rfl,hr⟩
theorem lineE_end{e:EntF}(h:z7q e):∃l:List UInt8,z0D e=l++[10]/\(10:UInt8) ∉ l:=⟨_,rfl,join_no 10 (by decide) _ (entW_no h 10 (.inr rfl))⟩
end
section
open Go.RowKit
set_option maxHeartbeats 2000000
set_option maxRecDepth 100000
def RowE(w:World)(a:Option Addr)(n:Nat)(s:Nat->ByteArray)(k b:Nat->Int):Prop:=
 n=0∨∃bk o,a=some ⟨bk,o,none⟩/\∀i,i<n->w.cell? ⟨bk,o+i*3,none⟩=some (.string (s i))/\w.cell? ⟨bk,o+i*3+1,none⟩=some (.int .i64 (k i))/\w.cell? ⟨bk,o+i*3+2,none⟩=some (.int .i64 (b i))
theorem RowE.later{w w':World}{a:Option Addr}{n:Nat}{s:Nat->ByteArray}{k b:Nat->Int}(h:RowE w a n s k b)(hb:Below w.heap.size w w'):RowE w' a n s k b:=by
 rcases h with h|⟨bk,o,ha,hc⟩
 ·exact .inl h
 ·exact .inr ⟨bk,o,ha,fun i hi=>⟨cell_later hb (hc i hi).1,cell_later hb (hc i hi).2.1,cell_later hb (hc i hi).2.2⟩⟩
structure EntV where
 aP:Option Addr
 cP:Nat
 aQ:Option Addr
 cQ:Nat
abbrev z1r (v:EntV)(e:EntF):Array Value:=#[.string e.root,.slice v.aP e.nP v.cP,.slice v.aQ e.nQ v.cQ]
structure z5k (w:World)(v:EntV)(e:EntF):Prop where
 parts:RowE w v.aP e.nP e.pName e.pStamp e.pBase
 pats:z6m w v.aQ e.nQ e.qPart e.qAt e.qWord
theorem z5k.later{w w':World}{v:EntV}{e:EntF}(h:z5k w v e)(hb:Below w.heap.size w w'):z5k w' v e:=⟨h.parts.later hb,h.pats.later hb⟩
structure EntFit(e:EntF):Prop where
 root:e.root.size<=maxLen
 nP:e.nP<=maxLen
 nQ:e.nQ<=maxLen
 names:∀i,i<e.nP->(e.pName i).size<=maxLen
theorem z6F (a n:Int)(w:World):Calls Tryz.prog 247 #[.int .i64 a,.int .i64 n] w fun e w'=>e=.returned (.bool (z0j a n))/\w=w':=by
 by_cases h1:0<=a
 all_goals by_cases h2:a<n
 all_goals
  go_enter Tryz.func247,Tryz.ntmps247;go_wp2;go_ret;exact⟨z0w (by simp[z0j] <;> omega),rfl⟩
theorem entWord_any(n:Int)(w:World):Calls Tryz.prog 226 #[.int .i64 n] w fun e w'=>e=.returned (.bool (z0y n))/\w=w':=by
 by_cases h1:-2147483648<=n
 all_goals by_cases h2:n<=2147483647
 all_goals
  go_enter Tryz.func226,Tryz.ntmps226;go_wp2;go_ret;exact⟨z0w (by simp[z0y] <;> omega),rfl⟩
theorem mayBe_any(p q:Int)(w:World):Calls Tryz.prog 203 #[.int .i64 p,.int .i64 q] w fun e w'=>e=.returned (.bool (z3f p q))/\w=w':=by
 by_cases h1:1<=p
 all_goals by_cases h2:p<=6
 all_goals by_cases h3:0<=q
 all_goals by_cases h4:q<=36
 all_goals
  go_enter Tryz.func203,Tryz.ntmps203;go_wp2;go_ret;exact⟨z0w (by simp[z3f] <;> omega),rfl⟩
theorem checkPart_any(s:ByteArray)(k b:Int)(w:World)(hs:s.size<=maxLen) :
 Calls Tryz.prog 204 #[.agg #[.string s,.int .i64 k,.int .i64 b]] w fun e w'=>e=.returned (errV (z0P s k b))/\Below w.heap.size w w':=by
 have hb:Below w.heap.size w (w.alloc (.cells #[.string s,.int .i64 k,.int .i64 b] 112)):=(Below.refl _ _).alloc (Nat.le_refl _) _;have HC:=z4U s (w.alloc (.cells #[.string s,.int .i64 k,.int .i64 b] 112)) hs;have HP:=fun W=>z6F b 256 W
 generalize hN:z0r s.data.toList=F at *;have HN:Hid (z0r s.data.toList=F):=hN;clear hN;by_cases hF:F=0
 ·subst hF;by_cases h1:k<1∨1000000<k
  ·have HE:Hid (z0P s k b=1):=by show z0P s k b=1;unfold z0P;rw[HN.out,z0p,if_pos h1]
   by_cases h2:k<1
   ·go_enter Tryz.func204,Tryz.ntmps204;go_wp2_with fail;refine HC.mono ?_;rintro e w1 ⟨rfl,rfl⟩;clear HC;rw[show errV 0=.nilIface from rfl];go_wp2;go_ret;exact⟨by rw[HE.out];rfl,hb⟩
   ·have h3:1000000<k:=by omega
    go_enter Tryz.func204,Tryz.ntmps204;go_wp2_with fail;refine HC.mono ?_;rintro e w1 ⟨rfl,rfl⟩;clear HC;rw[show errV 0=.nilIface from rfl];go_wp2;go_ret;exact⟨by rw[HE.out];rfl,hb⟩
  ·have h2:¬k<1:=by omega
   have h3:¬1000000<k:=by omega
   have HE0:Hid (z0P s k b=if b<0∨256<=b∨b % 16≠0 then 1 else 0):=by show z0P s k b=_;unfold z0P;rw[HN.out,z0p,if_neg h1]
   clear h1;by_cases h4:0<=b/\b<256
   ·have hp:z0j b 256=true:=by simp[z0j];exact h4
    rw[hp]at HP;have h40:=h4.1;by_cases h5:b % 16=0
    ·have HE:Hid (z0P s k b=0):=by show z0P s k b=0;rw[HE0.out,if_neg (by omega)]
     have e5:(b % 16 != 0)=false:=by simp[h5]
     clear HE0 hp h5;go_enter Tryz.func204,Tryz.ntmps204;go_wp2_with fail;refine HC.mono ?_;rintro e w1 ⟨rfl,rfl⟩;clear HC;rw[show errV 0=.nilIface from rfl];go_wp2_with (go_at_call 247;refine(HP _).mono ?_;rintro e w2 ⟨rfl,rfl⟩);go_ret;exact⟨by rw[HE.out];rfl,hb⟩
    ·have HE:Hid (z0P s k b=1):=by show z0P s k b=1;rw[HE0.out,if_pos (by omega)]
     have e5:(b % 16 != 0)=true:=by rw[bne_iff_ne];exact h5
     clear HE0 hp h5;go_enter Tryz.func204,Tryz.ntmps204;go_wp2_with fail;refine HC.mono ?_;rintro e w1 ⟨rfl,rfl⟩;clear HC;rw[show errV 0=.nilIface from rfl];go_wp2_with (go_at_call 247;refine(HP _).mono ?_;rintro e w2 ⟨rfl,rfl⟩);go_ret;exact⟨by rw[HE.out];rfl,hb⟩
   ·have hp:z0j b 256=false:=by simp[z0j];omega
    rw[hp]at HP;have HE:Hid (z0P s k b=1):=by show z0P s k b=1;rw[HE0.out,if_pos (by omega)]
    clear HE0 hp h4;go_enter Tryz.func204,Tryz.ntmps204;go_wp2_with fail;refine HC.mono ?_;rintro e w1 ⟨rfl,rfl⟩;clear HC;rw[show errV 0=.nilIface from rfl];go_wp2_with (go_at_call 247;refine(HP _).mono ?_;rintro e w2 ⟨rfl,rfl⟩);go_ret;exact⟨by rw[HE.out];rfl,hb⟩
 ·obtain⟨f,rfl⟩:∃f,F=f+1:=⟨F-1,by omega⟩;have HE:Hid (z0P s k b=f+1):=by show z0P s k b=f+1;unfold z0P;rw[HN.out,z1q _ (by omega)]
  rw[show errV (f+1)=.iface 43 (.int .i64 ((f+1:Nat):Int))from rfl]at HC;clear HP;generalize hff:(((f+1:Nat):Int))=ff at HC;have HFF:Hid (errV (f+1)=.iface 43 (.int .i64 ff)):=by rw[<-hff];rfl
  clear hff;go_enter Tryz.func204,Tryz.ntmps204;go_wp2_with fail;refine HC.mono ?_;rintro e w1 ⟨rfl,rfl⟩;clear HC;go_wp2;go_ret;exact⟨by rw[HE.out,HFF.out];rfl,hb⟩
theorem checkPatch_any(n p a x:Int)(w:World) :
 Calls Tryz.prog 205 #[.agg #[.int .i64 p,.int .i64 a,.int .i64 x],.int .i64 n] w fun e w'=>e=.returned (errV (z1d n p a x))/\Below w.heap.size w w':=by
 have hb:Below w.heap.size w (w.alloc (.cells #[.int .i64 p,.int .i64 a,.int .i64 x] 114)):=(Below.refl _ _).alloc (Nat.le_refl _) _;have HP1:=fun W=>z6F p n W
 have HP2:=fun W=>z6F a 40 W
 have HW:=fun W=>entWord_any x W
 cases h1:z0j p n with
 |false=>
  have HE:Hid (z1d n p a x=1):=by show z1d n p a x=1;unfold z1d;rw[if_neg (by simp[h1])]
  rw[h1]at HP1;clear HP2 HW h1;go_enter Tryz.func205,Tryz.ntmps205;go_wp2_with fail;refine(HP1 _).mono ?_;rintro e w1 ⟨rfl,rfl⟩;go_wp2;go_ret;exact⟨by rw[HE.out];rfl,hb⟩
 |true=>
  rw[h1]at HP1;cases h2:z0j a 40 with
  |false=>
   have HE:Hid (z1d n p a x=1):=by show z1d n p a x=1;unfold z1d;rw[if_neg (by simp[h2])]
   rw[h2]at HP2;clear HW h1 h2;go_enter Tryz.func205,Tryz.ntmps205;go_wp2_with fail;refine(HP1 _).mono ?_;rintro e w1 ⟨rfl,rfl⟩;clear HP1;go_wp2_with fail;refine(HP2 _).mono ?_;rintro e w1 ⟨rfl,rfl⟩;go_wp2;go_ret;exact⟨by rw[HE.out];rfl,hb⟩
  |true=>
   rw[h2]at HP2;cases h3:z0y x with
   |false=>
    have HE:Hid (z1d n p a x=1):=by show z1d n p a x=1;unfold z1d;rw[if_neg (by simp[h3])]
    rw[h3]at HW;clear h1 h2 h3;go_enter Tryz.func205,Tryz.ntmps205;go_wp2_with fail;refine(HP1 _).mono ?_;rintro e w1 ⟨rfl,rfl⟩;clear HP1;go_wp2_with fail;refine(HP2 _).mono ?_;rintro e w1 ⟨rfl,rfl⟩;clear HP2;go_wp2_with fail;refine(HW _).mono ?_;rintro e w1 ⟨rfl,rfl⟩;go_wp2;go_ret;exact⟨by rw[HE.out];rfl,hb⟩
   |true=>
    have HE:Hid (z1d n p a x=0):=by show z1d n p a x=0;unfold z1d;rw[if_pos ⟨h1,h2,h3⟩]
    rw[h3]at HW;clear h1 h2 h3;go_enter Tryz.func205,Tryz.ntmps205;go_wp2_with fail;refine(HP1 _).mono ?_;rintro e w1 ⟨rfl,rfl⟩;clear HP1;go_wp2_with fail;refine(HP2 _).mono ?_;rintro e w1 ⟨rfl,rfl⟩;clear HP2;go_wp2_with fail;refine(HW _).mono ?_;rintro e w1 ⟨rfl,rfl⟩;go_wp2;go_ret;exact⟨by rw[HE.out];rfl,hb⟩
theorem errV_is{F:Nat}(h:F≠0):∃ff:Int,errV F=.iface 43 (.int .i64 ff):=by
 obtain⟨f,rfl⟩:∃f,F=f+1:=⟨F-1,by omega⟩;exact⟨_,rfl⟩
attribute [local go_sem ↓] Go.wp_at_zero Go.wp_at_succ
theorem entCheck_any(v:EntV)(en:EntF)(w:World)(h:z5k w v en)(hf:EntFit en) :
 Calls Tryz.prog 144 #[.agg (z1r v en)] w fun e w'=>e=.returned (errV (entF en))/\Below w.heap.size w w':=by
 obtain⟨aP,cP,aQ,cQ⟩:=v;have hb0:Below w.heap.size w (w.alloc (.cells (z1r ⟨aP,cP,aQ,cQ⟩ en) 71)):=(Below.refl _ _).alloc (Nat.le_refl _) _;have c0:(w.alloc (.cells (z1r ⟨aP,cP,aQ,cQ⟩ en) 71)).cell? ⟨w.heap.size,0,none⟩=some (.string en.root):=by rw[World.cell?_alloc_mark];rfl
 have c1:(w.alloc (.cells (z1r ⟨aP,cP,aQ,cQ⟩ en) 71)).cell? ⟨w.heap.size,1,none⟩=some (.slice aP en.nP cP):=by rw[World.cell?_alloc_mark];rfl
 have c2:(w.alloc (.cells (z1r ⟨aP,cP,aQ,cQ⟩ en) 71)).cell? ⟨w.heap.size,2,none⟩=some (.slice aQ en.nQ cQ):=by rw[World.cell?_alloc_mark];rfl
 have h1:=h.later hb0;have HC:=z4U en.root (w.alloc (.cells (z1r ⟨aP,cP,aQ,cQ⟩ en) 71)) hf.root;have HM:=fun W=>mayBe_any en.nP en.nQ W
 have hnm:=hf.names;have hnP:=hf.nP;have hnQ:=hf.nQ;unfold maxLen at hnP hnQ;obtain⟨F,hF⟩:∃F,entF en=F:=⟨_,rfl⟩;rw[hF];have HF:Hid (entF en=F):=hF;unfold entF at hF;clear h hf;by_cases hn:z0r en.root.data.toList=0
 ·rw[hn]at HC hF;rw[z0p]at hF;by_cases hm:z3f en.nP en.nQ=true
  ·rw[hm]at HM hF;rw[if_pos rfl,z0p]at hF;have hm2:en.nP<=6/\en.nQ<=36:=by unfold z3f at hm;simp at hm;omega
   obtain⟨hm6,hm36⟩:=hm2;have HFF:Hid (seqF (z4H en en.nP) (z2w en en.nQ)=F):=hF;clear hF hn hm;generalize hW:w.alloc (.cells (z1r ⟨aP,cP,aQ,cQ⟩ en) 71)=W at *;go_enter Tryz.func144,Tryz.ntmps144;go_wp2_with fail;refine HC.mono ?_;rintro e w1 ⟨rfl,rfl⟩;clear HC;rw[show errV 0=.nilIface from rfl];go_wp2_with fail;refine(HM _).mono ?_;rintro e w1 ⟨rfl,rfl⟩;clear HM;go_wp2;go_loopw [26] (fun y wr=>∃i:Nat,i<=en.nP/\y=.int .i64 i/\Hid (z4H en i=0)/\Below W.heap.size W wr) (fun y _=>en.nP-(intOf y).toNat)
   case atStart=>exact⟨0,Nat.zero_le _,rfl,rfl,Below.refl _ _⟩
   case round=>
    obtain⟨i,hi,rfl,HK,hbr⟩:=hrel;have c1r:=cell_later hbr c1;have hbw:Below w.heap.size w wr:=hb0.trans (hbr.mono hb0.size);by_cases hlt:i<en.nP
    ·have hprt:RowE wr aP en.nP en.pName en.pStamp en.pBase:=(h1.later hbr).parts;rcases hprt with h0|⟨bk,o,rfl,hc⟩
     ·omega
     obtain⟨x0,x1,x2⟩:=hc i hlt;have HCP:=checkPart_any (en.pName i) (en.pStamp i) (en.pBase i) wr (hnm i hlt);by_cases hs:z0P (en.pName i) (en.pStamp i) (en.pBase i)=0
     ·rw[hs]at HCP;have HK2:Hid (z4H en (i+1)=0):=z0L HK.out hs;clear hs HK hc;go_wp2_with fail;refine HCP.mono ?_;rintro e w2 ⟨rfl,hb2⟩;clear HCP;rw[show errV 0=.nilIface from rfl];have hb3:=hbr.trans (hb2.mono hbr.size);go_wp2;go_roundw
      case rel=>exact⟨i+1,by omega,by go_num,HK2,hb3⟩
      case measure=>simp[intOf];omega
     ·have HE:Hid (F=z0P (en.pName i) (en.pStamp i) (en.pBase i)):=by
       show F=_;rw[<-HFF.out,show z4H en en.nP=z0P (en.pName i) (en.pStamp i) (en.pBase i)from z0E hlt HK.out hs,z1q _ hs]
      obtain⟨ff,hff⟩:=errV_is hs;have HX:Hid (errV (z0P (en.pName i) (en.pStamp i) (en.pBase i))=.iface 43 (.int .i64 ff)):=hff;rw[hff]at HCP;clear hs HK hc hff;go_wp2_with fail;refine HCP.mono ?_;rintro e w2 ⟨rfl,hb2⟩;clear HCP;have hb3:=hbw.trans (hb2.mono hbw.size);go_wp2;go_ret;exact⟨by rw[HE.out,HX.out];rfl,hb3⟩
    ·have HP0:Hid (z4H en en.nP=0):=by
      have e:i=en.nP:=by omega
      rw[<-e];exact HK.out
     have HQ:Hid (z2w en en.nQ=F):=by
      have:=HFF.out;rw[HP0.out,z0p]at this;exact this
     have c2r:=cell_later hbr c2;clear HK HP0;go_wp2;go_loopw [42] (fun y wq=>∃i:Nat,i<=en.nQ/\y=.int .i64 i/\Hid (z2w en i=0)/\Below W.heap.size W wq) (fun y _=>en.nQ-(intOf y).toNat)
     case atStart=>exact⟨0,Nat.zero_le _,rfl,rfl,hbr⟩
     case round=>
      obtain⟨i,hi,rfl,HK,hbq⟩:=hrel;have c1q:=cell_later hbq c1;have c2q:=cell_later hbq c2;have hbw:Below w.heap.size w wr:=hb0.trans (hbq.mono hb0.size);by_cases hlt:i<en.nQ
      ·have hpat:z6m wr aQ en.nQ en.qPart en.qAt en.qWord:=(h1.later hbq).pats;rcases hpat with h0|⟨bk,o,rfl,hc⟩
       ·omega
       obtain⟨x0,x1,x2⟩:=hc i hlt;have HCP:=fun X=>checkPatch_any en.nP (en.qPart i) (en.qAt i) (en.qWord i) X
       by_cases hs:z1d en.nP (en.qPart i) (en.qAt i) (en.qWord i)=0
       ·rw[hs]at HCP;have HK2:Hid (z2w en (i+1)=0):=z0L HK.out hs;clear hs HK hc;generalize en.qPart i=z0 at *;generalize en.qAt i=z1 at *;generalize en.qWord i=z2 at *;go_wp2;go_region_law (first
         |(go_simp;go_at_call 205;refine(HCP _).mono ?_;rintro e w2 ⟨rfl,hb2⟩))
        all_goals
         rw[show errV 0=.nilIface from rfl];have hb3:Below W.heap.size W w2:=(hbq.trans (Below.refl _ _).drew).trans (hb2.mono hbq.size);go_wp2;go_roundw
         case rel=>exact⟨i+1,by omega,by go_num,HK2,hb3⟩
         case measure=>simp[intOf];omega
       ·have HE:Hid (F=z1d en.nP (en.qPart i) (en.qAt i) (en.qWord i)):=by
         show F=_;rw[<-HQ.out];exact z0E hlt HK.out hs
        obtain⟨ff,hff⟩:=errV_is hs;have HX:Hid (errV (z1d en.nP (en.qPart i) (en.qAt i) (en.qWord i))=.iface 43 (.int .i64 ff)):=hff;rw[hff]at HCP;clear hs HK hc hff;generalize en.qPart i=z0 at *;generalize en.qAt i=z1 at *;generalize en.qWord i=z2 at *;go_wp2;go_region_law (first
         |(go_simp;go_at_call 205;refine(HCP _).mono ?_;rintro e w2 ⟨rfl,hb2⟩))
        all_goals
         have hb3:Below w.heap.size w w2:=(hbw.trans (Below.refl _ _).drew).trans (hb2.mono hbw.size);go_wp2;go_ret;exact⟨by rw[HE.out,HX.out];rfl,hb3⟩
      ·have HE:Hid (F=0):=by
        show F=0;rw[<-HQ.out];have e:i=en.nQ:=by omega
        rw[<-e];exact HK.out
       clear HK;go_wp2;go_ret;exact⟨by rw[HE.out];rfl,hbw⟩
  ·have HE:Hid (F=2):=by
    show F=2;rw[<-hF,if_neg hm];rfl
   rw[show z3f en.nP en.nQ=false by simpa using hm]at HM;clear hF hn hm;go_enter Tryz.func144,Tryz.ntmps144;go_wp2_with fail;refine HC.mono ?_;rintro e w1 ⟨rfl,rfl⟩;clear HC;rw[show errV 0=.nilIface from rfl];go_wp2_with fail;refine(HM _).mono ?_;rintro e w1 ⟨rfl,rfl⟩;clear HM;go_wp2;go_ret;exact⟨by rw[HE.out];rfl,hb0⟩
 ·have HE:Hid (F=z0r en.root.data.toList):=by
   show F=_;rw[<-hF,z1q _ hn]
  obtain⟨ff,hff⟩:=errV_is hn;have HX:Hid (errV (z0r en.root.data.toList)=.iface 43 (.int .i64 ff)):=hff;rw[hff]at HC;clear hF hn hff HM;go_enter Tryz.func144,Tryz.ntmps144;go_wp2_with fail;refine HC.mono ?_;rintro e w1 ⟨rfl,rfl⟩;clear HC;go_wp2;go_ret;exact⟨by rw[HE.out,HX.out];rfl,hb0⟩
end
section
open Go.RowKit
set_option maxHeartbeats 2000000
set_option maxRecDepth 100000
structure EntHere(w:World)(bk o:Nat)(v:EntV)(x:EntF):Prop where
 c0:w.cell? ⟨bk,o,none⟩=some (.string x.root)
 c1:w.cell? ⟨bk,o+1,none⟩=some (.slice v.aP x.nP v.cP)
 c2:w.cell? ⟨bk,o+2,none⟩=some (.slice v.aQ x.nQ v.cQ)
 here:z5k w v x
theorem EntHere.later{w w':World}{bk o:Nat}{v:EntV}{x:EntF}(h:EntHere w bk o v x)(hb:Below w.heap.size w w'):EntHere w' bk o v x:=
 ⟨cell_later hb h.c0,cell_later hb h.c1,cell_later hb h.c2,h.here.later hb⟩
def z6J (w:World)(a:Option Addr)(n:Nat)(V:Nat->EntV)(E:Nat->EntF):Prop:=
 n=0∨∃bk o,a=some ⟨bk,o,none⟩/\∀i,i<n->EntHere w bk (o+i*3) (V i) (E i)
theorem z6J.later{w w':World}{a:Option Addr}{n:Nat}{V:Nat->EntV}{E:Nat->EntF}(h:z6J w a n V E)(hb:Below w.heap.size w w'):z6J w' a n V E:=
 h.imp id fun⟨bk,o,ha,hc⟩=>⟨bk,o,ha,fun i hi=>(hc i hi).later hb⟩
def findF(E:Nat->EntF)(root:ByteArray)(n i:Nat):Int:=if h:i<n then(if (E i).root=root then(i:Int)else findF E root n (i+1))else -1
termination_by n-i
theorem z5A {E:Nat->EntF}{root:ByteArray}{n i:Nat}(hi:i<n)(h:(E i).root=root):findF E root n i=i:=by
 rw[findF,dif_pos hi,if_pos h]
theorem z3N {E:Nat->EntF}{root:ByteArray}{n i:Nat}(hi:i<n)(h:(E i).root≠root):findF E root n i=findF E root n (i+1):=by
 rw[findF,dif_pos hi,if_neg h]
theorem z4g {E:Nat->EntF}{root:ByteArray}{n i:Nat}(hi:¬i<n):findF E root n i=-1:=by
 rw[findF,dif_neg hi]
theorem start_any(b:Int)(w:World)(h0:0<=b)(h1:b<=1):Calls Tryz.prog 122 #[.int .i64 b] w fun e w'=>e=.returned (.int .i64 (1+b*55))/\w=w':=by
 go_enter Tryz.func122,Tryz.ntmps122;go_wp2;go_ret;exact⟨rfl,rfl⟩
theorem other_any(b s:Int)(w:World)(h0:0<=b)(h1:b<=1):Calls Tryz.prog 208 #[.agg #[.int .i64 b,.int .i64 s]] w fun e w'=>e=.returned (.int .i64 (1-b))/\Below w.heap.size w w':=by
 go_enter Tryz.func208,Tryz.ntmps208;go_wp2;go_ret;exact⟨rfl,(Below.refl _ _).alloc (Nat.le_refl _) _⟩
theorem finds1_any(v:EntV)(x:EntF)(root:ByteArray)(g:Nat)(w:World)(hg:w.cell? ⟨g,0,none⟩=some (.string root)) :
 Calls Tryz.prog 171 #[.agg (z1r v x),.pointer (some ⟨g,0,none⟩)] w fun e w'=>e=.returned (.bool (decide (x.root=root)))/\Below w.heap.size w w':=by
 have hb0:Below w.heap.size w (w.alloc (.cells (z1r v x) 71)):=(Below.refl _ _).alloc (Nat.le_refl _) _;have hg2:=cell_later hb0 hg;have c0:(w.alloc (.cells (z1r v x) 71)).cell? ⟨w.heap.size,0,none⟩=some (.string x.root):=by simp[go_sem]
 have hd:(x.root.toList==root.toList)=decide (x.root=root):=z0z _ _;generalize hW:w.alloc (.cells (z1r v x) 71)=W at *;go_enter Tryz.func171,Tryz.ntmps171;go_wp2;go_ret;exact⟨z0w rfl,hb0⟩
theorem indexFunc_any(a:Option Addr)(n c:Nat)(V:Nat->EntV)(E:Nat->EntF)(root:ByteArray)(g:Nat)(w:World)(hn:n<=1000)(hr:z6J w a n V E)(hg:w.cell? ⟨g,0,none⟩=some (.string root)) :
 Calls Tryz.prog 170 #[.slice a n c,.func (.func 171) #[] #[.pointer (some ⟨g,0,none⟩)]] w fun e w'=>e=.returned (.int .i64 (findF E root n 0))/\Below w.heap.size w w':=by
 go_enter Tryz.func170,Tryz.ntmps170;go_wp2;go_loopw [8] (fun y wr=>∃i:Nat,i<=n/\y=.int .i64 i/\Hid (findF E root n 0=findF E root n i)/\Below w.heap.size w wr) (fun y _=>n-(intOf y).toNat)
 case atStart=>exact⟨0,Nat.zero_le _,rfl,rfl,Below.refl _ _⟩
 case round=>
  obtain⟨i,hi,rfl,HF,hb⟩:=hrel;by_cases hlt:i<n
  ·rcases hr with h0|⟨bk,o,rfl,hc⟩
   ·omega
   have H:=(hc i hlt).later hb;obtain⟨c0,c1,c2,_⟩:=H;have HC:=finds1_any (V i) (E i) root g wr (cell_later hb hg);unfold z1r at HC;have hi0:(0:Int)<=(i:Int):=by omega
   have hi1:(i:Int)<(n:Int):=by omega
   clear hc;by_cases he:(E i).root=root
   ·rw[decide_eq_true he]at HC;have HE:Hid (findF E root n 0=i):=HF.out.trans (z5A hlt he);clear he;go_wp2_with fail;refine(show Calls _ _ _ _ _ from HC).mono ?_;rintro e w2 ⟨rfl,hb2⟩;clear HC c0 c1 c2 HF;go_wp2;go_ret;exact⟨z3l HE.out.symm,hb.trans (hb2.mono hb.size)⟩
   ·rw[decide_eq_false he]at HC;have HE:Hid (findF E root n 0=findF E root n (i+1)):=HF.out.trans (z3N hlt he);go_wp2_with fail;refine(show Calls _ _ _ _ _ from HC).mono ?_;rintro e w2 ⟨rfl,hb2⟩;clear HC c0 c1 c2 HF;go_wp2;go_roundw
    case rel=>exact⟨i+1,by omega,by go_num,HE,hb.trans (hb2.mono hb.size)⟩
    case measure=>simp[intOf];omega
  ·have HE:Hid (findF E root n 0=-1):=HF.out.trans (z4g hlt);go_wp2;go_ret;exact⟨z3l HE.out.symm,hb⟩
theorem z4n (a:Option Addr)(n c:Nat)(V:Nat->EntV)(E:Nat->EntF)(root:ByteArray)(w:World)(hn:n<=1000)(hr:z6J w a n V E) :
 Calls Tryz.prog 126 #[.slice a n c,.string root] w fun e w'=>e=.returned (.int .i64 (findF E root n 0))/\Below w.heap.size w w':=by
 have hb0:Below w.heap.size w (w.alloc (.cells #[.string root] 9)):=(Below.refl _ _).alloc (Nat.le_refl _) _;have HI:=indexFunc_any a n c V E root w.heap.size _ hn (hr.later hb0) (by simp[go_sem]);go_enter Tryz.func126,Tryz.ntmps126;go_wp2_with fail;refine(show Calls _ _ _ _ _ from HI).mono ?_;rintro e w2 ⟨rfl,hb2⟩;clear HI;go_wp2;go_ret;exact⟨rfl,hb0.trans (hb2.mono hb0.size)⟩
end
end Go.Proofs.YtbcpcbonlhlhpaaGreatDoor
