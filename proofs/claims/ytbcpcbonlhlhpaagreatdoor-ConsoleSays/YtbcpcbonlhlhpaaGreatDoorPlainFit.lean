/- Plain words, with nothing of the program: what the -/
import Derived.Test.YtbcpcbonlhlhpaaGreatDoorPlainTop
namespace Go.Proofs.YtbcpcbonlhlhpaaGreatDoor
theorem val_dec:∀(k u:Nat),u<=k->val (Lib.decDigits u)=u:=by
 intro k
 induction k with
 |zero=>
  intro u hu;obtain rfl:u=0:=by omega
  rw[Lib.decDigits_one (by omega)];rfl
 |succ k ih=>
  intro u hu;rw[Lib.decDigits];by_cases h:u<10
  ·rw[dif_pos h];show 10*0+((UInt8.ofNat (48+u)).toNat-48)=u;rw[z3y u h];omega
  ·rw[dif_neg h,val_snoc,ih (u / 10) (by omega),z3y (u % 10) (by omega)];omega
theorem dec_all(u:Nat):(Lib.decDigits u).all z2n=true:=by
 rw[List.all_eq_true];intro x hx;have:=z5F u u (Nat.le_refl _) x hx;simp only[z2n,Bool.and_eq_true,decide_eq_true_eq];exact this
theorem dec_head:∀(k u:Nat),u<=k->1<=u->(Lib.decDigits u).head? ≠ some 48:=by
 intro k
 induction k with
 |zero=>intro u hu h1;omega
 |succ k ih=>
  intro u hu h1;rw[Lib.decDigits];by_cases h:u<10
  ·rw[dif_pos h];intro e;have e1:UInt8.ofNat (48+u)=48:=by simpa using e
   have e2:=z3y u h;rw[e1]at e2;have e3:(48:UInt8).toNat=48:=rfl;omega
  ·rw[dif_neg h];obtain⟨c,r,hc⟩:=List.exists_cons_of_ne_nil (dec_ne (u / 10));have hq:=ih (u / 10) (by omega) (by omega);rw[hc]at hq ⊢;exact hq
theorem dec_head45(u:Nat):(Lib.decDigits u).head? ≠ some 45:=by
 intro e;have hm:=List.mem_of_mem_head? (a:=45) (l:=Lib.decDigits u) (by rw[e];rfl);have:=z5F u u (Nat.le_refl _) 45 hm;have e3:(45:UInt8).toNat=45:=rfl;omega
theorem refNum_itoa(n:Int)(h0:-1000000000000<=n)(h1:n<=1000000000000):z1I (Lib.itoa n)=some n:=by
 unfold Lib.itoa;by_cases hn:n<0
 ·rw[if_pos hn];have hm:magR (45 :: Lib.decDigits n.natAbs)=Lib.decDigits n.natAbs:=if_pos rfl
  have hl:=z1N 12 n.natAbs (by have:(10:Nat) ^ (12+1)=10000000000000:=by decide
                               omega)
  have hne:=List.length_pos_iff.2 (dec_ne n.natAbs);unfold z1I;rw[hm,if_neg,if_pos (dec_all _),if_pos (by simp),val_dec _ _ (Nat.le_refl _)]
  ·congr 1;omega
  ·rintro(h|h|⟨h,_⟩)
   ·omega
   ·omega
   ·exact dec_head _ _ (Nat.le_refl _) (by omega) h
 ·rw[if_neg hn];have hm:magR (Lib.decDigits n.toNat)=Lib.decDigits n.toNat:=if_neg (dec_head45 _)
  have hl:=z1N 12 n.toNat (by have:(10:Nat) ^ (12+1)=10000000000000:=by decide
                              omega)
  have hne:=List.length_pos_iff.2 (dec_ne n.toNat);unfold z1I;rw[hm,if_neg,if_pos (dec_all _),if_neg (by omega),val_dec _ _ (Nat.le_refl _)]
  ·congr 1;omega
  ·rintro(h|h|⟨h,h2⟩)
   ·omega
   ·omega
   ·by_cases h0:n.toNat=0
    ·rw[h0,Lib.decDigits_one (by omega)]at h2;simp at h2
    ·exact dec_head _ _ (Nat.le_refl _) (by omega) h
theorem z4e (n:Int)(h0:-1000000000000<=n)(h1:n<=1000000000000):numR (Lib.itoa n)=n:=by unfold numR;rw[refNum_itoa n h0 h1];rfl
def wWeak:List UInt8:=[119,101,97,107]
def z1l (o:ObjF)(wk:Bool):List (List UInt8)->Option ObjF
 | [k,a]=>if mkB k=kNeed then some (z2f o (mkB a))else if mkB k=kWord then some (z1L o (numR a))else none
 | [k,a,b]=>if mkB k=kSymbol then some (z2R o (mkB a) (numR b) wk)else if mkB k=kBase then some (z1G o (numR a) 1 (numR b) ⟨#[]⟩ wk)else none
 | [k,a,b,c]=>if mkB k=kWhole then some (z1G o (numR a) 2 (numR b) (mkB c) wk)else if mkB k=kNear then some (z1G o (numR a) 3 (numR b) (mkB c) wk)else none
 |_=>none
def z2O (o:ObjF)(l:List UInt8):Option ObjF:=if (z0O l).head? = some wWeak then z1l o true (z0O l).tail else z1l o false (z0O l)
def z1o (X:Option ObjF)(ls:List (List UInt8)):Option ObjF:=ls.foldl (fun o p=>o.bind fun y=>z2O y p) X
theorem refFold_none(ls:List (List UInt8)):z1o none ls=none:=by
 induction ls with
 |nil=>rfl
 |cons l ls ih=>exact ih
def refT(X:ObjF)(l:List UInt8):Option ObjF:=if (cut 10 l).2=[]then z1o (some X) (cut 10 l).1 else none
theorem refT_nil(X:ObjF):refT X []=some X:=rfl
theorem z5O (X Y:ObjF)(p r:List UInt8)(h:(10:UInt8) ∉ p)(hY:z2O X p=some Y):refT X (p++[10]++r)=refT Y r:=by
 unfold refT;rw[List.append_assoc,List.singleton_append,cut_first 10 p r h];have e:z1o (some X) (p :: (cut 10 r).1)=z1o (some Y) (cut 10 r).1:=by
  show z1o (z2O X p) _=_;rw[hY]
 simp only[e]
theorem z3s (X:ObjF)(b:Bool)(l:List UInt8)(h:(z0O l).head? ≠ some wWeak):z2O X (weakL b++l)=z1l X b (z0O l):=by
 cases b with
 |false=>
  unfold z2O;show(if (z0O l).head? = some wWeak then _ else z1l X false (z0O l))=_;rw[if_neg h]
 |true=>
  have e:z0O (weakL true++l)=wWeak :: z0O l:=z0N wWeak l (by decide);unfold z2O;rw[e];exact if_pos rfl
theorem wr2(a b:List UInt8)(ha:(32:UInt8) ∉ a)(hb:(32:UInt8) ∉ b):z0O (Lib.join [a,b] [32])=[a,b]:=by
 rw[join2,List.singleton_append,z0N a _ ha,z1H b hb]
theorem wr3(a b c:List UInt8)(ha:(32:UInt8) ∉ a)(hb:(32:UInt8) ∉ b)(hc:(32:UInt8) ∉ c):z0O (Lib.join [a,b,c] [32])=[a,b,c]:=by
 rw[join3,List.append_assoc,List.singleton_append,z0N a _ ha,List.singleton_append,z0N b _ hb,z1H c hc]
theorem wr4(a b c d:List UInt8)(ha:(32:UInt8) ∉ a)(hb:(32:UInt8) ∉ b)(hc:(32:UInt8) ∉ c)(hd:(32:UInt8) ∉ d):z0O (Lib.join [a,b,c,d] [32])=[a,b,c,d]:=by
 rw[join4,List.append_assoc,List.append_assoc,List.singleton_append,z0N a _ ha,List.singleton_append,z0N b _ hb,List.singleton_append,z0N c _ hc,z1H d hd]
theorem ref_need(X:ObjF)(s:ByteArray)(h:z0r s.data.toList=0)(r:List UInt8):refT X (z5e s++r)=refT (z2f X s) r:=by
 unfold z5e;rw[z1V];refine z5O _ _ _ _ (body2_no _ _ _ (by decide) (z1b h 10 (.inr rfl))) ?_;unfold z5B;have e:=wr2 [110,101,101,100] s.data.toList (by decide) (z1b h 32 (.inl rfl));rw[z3s _ _ _ (by rw[e];simp[wWeak]),e];simp only[z1l];rw[if_pos (by decide),z2x]
theorem ref_word(X:ObjF)(n:Int)(h0:-1000000000000<=n)(h1:n<=1000000000000)(r:List UInt8):refT X (z5d n++r)=refT (z1L X n) r:=by
 unfold z5d;rw[z1V];refine z5O _ _ _ _ (body2_no _ _ _ (by decide) (z0M n 10 (.inr rfl))) ?_;unfold z5B;have e:=wr2 [119,111,114,100] (Lib.itoa n) (by decide) (z0M n 32 (.inl rfl));rw[z3s _ _ _ (by rw[e];simp[wWeak]),e];simp only[z1l];rw[if_neg (by decide),if_pos (by decide),z4e n h0 h1]
theorem ref_sym(X:ObjF)(s:ByteArray)(a:Int)(b:Bool)(h:z0r s.data.toList=0)(h0:-1000000000000<=a)(h1:a<=1000000000000)(r:List UInt8):refT X (symLn s a b++r)=refT (z2R X s a b) r:=by
 unfold symLn;rw[z1V];refine z5O _ _ _ _ (body3_no _ _ _ _ (by decide) (z1b h 10 (.inr rfl)) (z0M a 10 (.inr rfl))) ?_;unfold z5B;have e:=wr3 [115,121,109,98,111,108] s.data.toList (Lib.itoa a) (by decide) (z1b h 32 (.inl rfl)) (z0M a 32 (.inl rfl));rw[z3s _ _ _ (by rw[e];simp[wWeak]),e];simp only[z1l];rw[if_pos (by decide),z4e a h0 h1,z2x]
theorem ref_tie(X:ObjF)(x k d:Int)(s:ByteArray)(b:Bool)(hk:k=1/\s.size=0/\b=false∨(k=2∨k=3)/\z0r s.data.toList=0)(hx0:-1000000000000<=x)(hx1:x<=1000000000000)(hd0:-1000000000000<=d)(hd1:d<=1000000000000)(r:List UInt8) :
 refT X (z3R x k d s b++r)=refT (z1G X x k d s b) r:=by
 unfold z3R;rcases hk with⟨rfl,hs,rfl⟩|⟨rfl|rfl,h⟩
 ·have es:s=⟨#[]⟩:=by
   rw[<-z2x s,List.length_eq_zero_iff.1 (show s.data.toList.length=0 by simpa using hs)];rfl
  rw[if_pos rfl,z1V];refine z5O _ _ _ _ (body3_no _ _ _ _ (by decide) (z0M x 10 (.inr rfl)) (z0M d 10 (.inr rfl))) ?_;unfold z5B;have e:=wr3 [98,97,115,101] (Lib.itoa x) (Lib.itoa d) (by decide) (z0M x 32 (.inl rfl)) (z0M d 32 (.inl rfl));rw[z3s _ _ _ (by rw[e];simp[wWeak]),e];simp only[z1l];rw[z4e x hx0 hx1,z4e d hd0 hd1,if_neg (by decide),if_pos (by decide),es]
 ·rw[if_neg (by decide),if_pos rfl,z1V];refine z5O _ _ _ _ (body4_no _ _ _ _ _ (by decide) (z0M x 10 (.inr rfl)) (z0M d 10 (.inr rfl)) (z1b h 10 (.inr rfl))) ?_;unfold z5B;have e:=wr4 [119,104,111,108,101] (Lib.itoa x) (Lib.itoa d) s.data.toList (by decide) (z0M x 32 (.inl rfl)) (z0M d 32 (.inl rfl)) (z1b h 32 (.inl rfl));rw[z3s _ _ _ (by rw[e];simp[wWeak]),e];simp only[z1l];rw[z4e x hx0 hx1,z4e d hd0 hd1,if_pos (by decide),z2x]
 ·rw[if_neg (by decide),if_neg (by decide),z1V];refine z5O _ _ _ _ (body4_no _ _ _ _ _ (by decide) (z0M x 10 (.inr rfl)) (z0M d 10 (.inr rfl)) (z1b h 10 (.inr rfl))) ?_;unfold z5B;have e:=wr4 [110,101,97,114] (Lib.itoa x) (Lib.itoa d) s.data.toList (by decide) (z0M x 32 (.inl rfl)) (z0M d 32 (.inl rfl)) (z1b h 32 (.inl rfl));rw[z3s _ _ _ (by rw[e];simp[wWeak]),e];simp only[z1l];rw[z4e x hx0 hx1,z4e d hd0 hd1,if_neg (by decide),if_pos (by decide),z2x]
theorem z7F (g:Nat->List UInt8)(X:Nat->ObjF)(n:Nat)(h:∀i,i<n->∀r,refT (X i) (g i++r)=refT (X (i+1)) r):∀k,k<=n->∀r,refT (X 0) (z2z g k++r)=refT (X k) r
 |0,_,_=>rfl
 |k+1,hk,r=>by
  show refT (X 0) (z2z g k++g k++r)=_;rw[List.append_assoc,z7F g X n h k (by omega),h k (by omega)]
theorem ref_text{o:ObjF}(h:z3J o):refT z0d (z3Q o)=some (built o):=by
 have hw:=h.nW;unfold z3Q z0G z1a z2K z4v;rw[List.append_assoc,List.append_assoc];refine(z7F (fun i=>z5e (o.needs i)) (itN o z0d) o.nN (fun i hi r=>ref_need _ _ (h.needs i hi) r) o.nN (Nat.le_refl _) _).trans ?_;refine(z7F (fun i=>z5d (o.words i)) (itW o (itN o z0d o.nN)) o.nW (fun i hi r=>ref_word _ _ (by have:=h.words i hi;omega) (by have:=h.words i hi;omega) r) o.nW (Nat.le_refl _) _).trans ?_;refine(z7F (fun i=>symLn (o.sName i) (o.sAt i) (o.sWeak i)) (itS o (itW o (itN o z0d o.nN) o.nW)) o.nS (fun i hi r=>ref_sym _ _ _ _ (h.syms i hi).1 (by have:=h.syms i hi;omega) (by have:=h.syms i hi;omega) r) o.nS (Nat.le_refl _) _).trans ?_;have:=z7F (fun i=>z3R (o.tAt i) (o.tKind i) (o.tAdd i) (o.tName i) (o.tWeak i)) (itT o (itS o (itW o (itN o z0d o.nN) o.nW) o.nS)) o.nT (fun i hi r=>ref_tie _ _ _ _ _ _ (h.ties i hi).2.2.2.2 (by have:=h.ties i hi;omega) (by have:=h.ties i hi;omega) (by have:=h.ties i hi;omega) (by have:=h.ties i hi;omega) r) o.nT (Nat.le_refl _) [];rw[List.append_nil,refT_nil]at this;exact this
def refF(s:ByteArray):Nat×ObjF:=
 if 1200<s.size then(2,z0d)else
 match refT z0d s.data.toList with
 |none=>(4,z0d)
 |some o=>if (z1X o).1=0/\(z1X o).2=s.data.toList then(0,o)else(4,z0d)
theorem z6q.refl(o:ObjF):z6q o o:=⟨rfl,rfl,rfl,rfl,fun _ _=>rfl,fun _ _=>rfl,fun _ _=>⟨rfl,rfl,rfl⟩,fun _ _=>⟨rfl,rfl,rfl,rfl,rfl⟩⟩
theorem z6q.symm{a b:ObjF}(h:z6q a b):z6q b a:=
 ⟨h.nN.symm,h.nW.symm,h.nS.symm,h.nT.symm,fun i hi=>(h.needs i (by rw[<-h.nN];exact hi)).symm,fun i hi=>(h.words i (by rw[<-h.nW];exact hi)).symm,
  fun i hi=>by obtain⟨h1,h2,h3⟩:=h.syms i (by rw[<-h.nS];exact hi);exact⟨h1.symm,h2.symm,h3.symm⟩,
  fun i hi=>by obtain⟨h1,h2,h3,h4,h5⟩:=h.ties i (by rw[<-h.nT];exact hi);exact⟨h1.symm,h2.symm,h3.symm,h4.symm,h5.symm⟩⟩
def Few(o:ObjF):Prop:=o.nN<=1000000000/\o.nW<=1000000000/\o.nS<=1000000000/\o.nT<=1000000000
theorem objOk_few{o:ObjF}(h:z3J o):Few o:=by
 have:=h.nN;have:=h.nW;have:=h.nS;have:=h.nT;unfold Few;omega
theorem ref_same(s:ByteArray):(refF s).1=(z0k s).1/\z6q (z0k s).2 (refF s).2/\Few (refF s).2:=by
 have few0:Few z0d:=by unfold Few z0d;simp
 by_cases hs:1200<s.size
 ·have h1:refF s=(2,z0d):=if_pos hs;have h2:z0k s=(2,z0d):=if_pos hs;rw[h1,h2];exact⟨rfl,z6q.refl _,few0⟩
 ·by_cases h:(z0k s).1=0
  ·obtain⟨g1,g2,_⟩:=parse_back h;obtain⟨k1,_,k3⟩:=z6Q g1;rw[k3]at g2;have hok:=objOk k1;have hT:refT z0d s.data.toList=some (built (z0k s).2):=by rw[<-g2];exact ref_text hok
   have hsame:=built_same (z0k s).2;have hF:refF s=(0,built (z0k s).2):=by
    unfold refF;rw[if_neg hs,hT];show(if _ then _ else _)=_;rw[textF_congr hsame,k3,if_pos ⟨rfl,g2⟩]
   rw[hF,h];refine⟨rfl,hsame.symm,?_⟩;have:=objOk_few hok;unfold Few at this ⊢;rw[hsame.nN,hsame.nW,hsame.nS,hsame.nT];exact this
  ·have hp:z0k s=(4,z0d):=by
    unfold z0k at h ⊢;rw[if_neg hs]at h ⊢;split at h
    ·exact absurd rfl h
    ·rename_i hn;rw[if_neg hn]
   have hF:refF s=(4,z0d):=by
    unfold refF;rw[if_neg hs];split
    ·rfl
    ·rename_i o _;split
     ·rename_i ht;exact absurd (parse_text ht.1 ht.2.symm).1 h
     ·rfl
   rw[hF,hp];exact⟨rfl,z6q.refl _,few0⟩
theorem cut_sizes(c:UInt8):∀(n:Nat) (l:List UInt8),l.length=n->(∀x∈(cut c l).1,x.length<=n)/\(cut c l).2.length<=n/\(cut c l).1.length<=n:=by
 intro n
 induction n with
 |zero=>
  intro l h;rw[List.length_eq_zero_iff.1 h];exact⟨fun x hx=>absurd hx (by simp[cut]),Nat.le_refl _,Nat.le_refl _⟩
 |succ n ih=>
  intro l h;have hne:l ≠ []:=by intro e;rw[e]at h;simp at h
  obtain⟨p,b,rfl⟩:∃p b,l=p++[b]:=⟨l.dropLast,l.getLast hne,(List.dropLast_concat_getLast hne).symm⟩;rw[List.length_append,List.length_singleton]at h;obtain⟨h1,h2,h3⟩:=ih p (by omega);have e:cut c (p++[b])=z1U c (cut c p) b:=by unfold cut;rw[List.foldl_append];rfl
  rw[e];unfold z1U;split
  ·refine⟨fun x hx=>?_,Nat.zero_le _,?_⟩
   ·simp only[List.mem_append,List.mem_singleton]at hx;rcases hx with hx|rfl
    ·have:=h1 x hx;omega
    ·omega
   ·simp only[List.length_append,List.length_singleton];omega
  ·refine⟨fun x hx=>?_,?_,?_⟩
   ·have:=h1 x hx;omega
   ·simp only[List.length_append,List.length_singleton];omega
   ·show(cut c p).1.length<=n+1;omega
theorem wordsR_size(l x:List UInt8)(h:x∈z0O l):x.length<=l.length:=by
 obtain⟨h1,h2,_⟩:=cut_sizes 32 _ l rfl;unfold z0O at h;simp only[List.mem_append,List.mem_singleton]at h;rcases h with h|rfl
 ·exact h1 x h
 ·exact h2
theorem z6G (l:List UInt8):(Lit.int .i64 (numR l)).wf=true:=by
 have h:=numR_le l;have e1:IntKind.i64.min=-9223372036854775808:=by decide
 have e2:IntKind.i64.max=9223372036854775807:=by decide
 simp only[Lit.wf,e1,e2,Bool.and_eq_true,decide_eq_true_eq];omega
theorem fit_word{o:ObjF}(h:z1F o)(n:Int)(hn:(Lit.int .i64 n).wf=true):z1F (z1L o n):=
 ⟨h.needs,fun i=>by simp only[z1L];split;exact hn;exact h.words i,h.syms,h.ties⟩
theorem fit_sym{o:ObjF}(h:z1F o)(s:ByteArray)(n:Int)(b:Bool)(hs:s.size<=maxLen)(hn:(Lit.int .i64 n).wf=true):z1F (z2R o s n b):=
 ⟨h.needs,h.words,fun i=>by simp only[z2R];split;exact⟨hs,hn⟩;exact h.syms i,h.ties⟩
theorem fit_tie{o:ObjF}(h:z1F o)(x k d:Int)(s:ByteArray)(b:Bool)(hs:s.size<=maxLen)(hx:(Lit.int .i64 x).wf=true)(hk:(Lit.int .i64 k).wf=true)(hd:(Lit.int .i64 d).wf=true):z1F (z1G o x k d s b):=
 ⟨h.needs,h.words,h.syms,fun i=>by simp only[z1G];split;exact⟨hs,hx,hk,hd⟩;exact h.ties i⟩
def UpTo(n:Nat)(o:ObjF):Prop:=o.nN<=n/\o.nW<=n/\o.nS<=n/\o.nT<=n
theorem refWords_fit{o Y:ObjF}(wk:Bool)(xs:List (List UInt8))(n:Nat)(h:z1F o)(hn:UpTo n o)(hx:∀x∈xs,x.length<=maxLen)(hY:z1l o wk xs=some Y):z1F Y/\UpTo (n+1) Y:=by
 have sz:∀x:List UInt8,x∈xs->(mkB x).size<=maxLen:=fun x hm=>by
  have e:(mkB x).size=x.length:=by simp[mkB,ByteArray.size]
  rw[e];exact hx x hm
 have w1:(Lit.int .i64 1).wf=true:=by decide
 have w2:(Lit.int .i64 2).wf=true:=by decide
 have w3:(Lit.int .i64 3).wf=true:=by decide
 unfold UpTo at hn ⊢;unfold z1l at hY;split at hY
 ·split at hY
  ·injection hY with hY;subst hY;exact⟨h.need _ (sz _ (by simp)),by simp only[z2f];omega⟩
  ·split at hY
   ·injection hY with hY;subst hY;exact⟨fit_word h _ (z6G _),by simp only[z1L];omega⟩
   ·cases hY
 ·split at hY
  ·injection hY with hY;subst hY;exact⟨fit_sym h _ _ _ (sz _ (by simp)) (z6G _),by simp only[z2R];omega⟩
  ·split at hY
   ·injection hY with hY;subst hY;exact⟨fit_tie h _ _ _ _ _ (by decide) (z6G _) w1 (z6G _),by simp only[z1G];omega⟩
   ·cases hY
 ·split at hY
  ·injection hY with hY;subst hY;exact⟨fit_tie h _ _ _ _ _ (sz _ (by simp)) (z6G _) w2 (z6G _),by simp only[z1G];omega⟩
  ·split at hY
   ·injection hY with hY;subst hY;exact⟨fit_tie h _ _ _ _ _ (sz _ (by simp)) (z6G _) w3 (z6G _),by simp only[z1G];omega⟩
   ·cases hY
 ·cases hY
theorem refLine_fit{o Y:ObjF}(l:List UInt8)(n:Nat)(h:z1F o)(hn:UpTo n o)(hl:l.length<=maxLen)(hY:z2O o l=some Y):z1F Y/\UpTo (n+1) Y:=by
 have hx:∀x∈z0O l,x.length<=maxLen:=fun x hm=>Nat.le_trans (wordsR_size l x hm) hl
 unfold z2O at hY;split at hY
 ·exact refWords_fit _ _ n h hn (fun x hm=>hx x (List.mem_of_mem_tail hm)) hY
 ·exact refWords_fit _ _ n h hn hx hY
theorem z7m:∀(ls:List (List UInt8)) (o Y:ObjF) (n:Nat),z1F o->UpTo n o->(∀l∈ls,l.length<=maxLen)->z1o (some o) ls=some Y->z1F Y/\UpTo (n+ls.length) Y
 | [],o,Y,n,h,hn,_,hY=>by
  injection hY with hY;subst hY;exact⟨h,hn⟩
 |l :: ls,o,Y,n,h,hn,hl,hY=>by
  have e:z1o (some o) (l :: ls)=z1o (z2O o l) ls:=rfl;rw[e]at hY;cases hX:z2O o l with
  |none=>rw[hX,refFold_none]at hY;cases hY
  |some X=>
   rw[hX]at hY;obtain⟨h1,h2⟩:=refLine_fit l n h hn (hl l (by simp)) hX;obtain⟨h3,h4⟩:=z7m ls X Y (n+1) h1 h2 (fun x hm=>hl x (List.mem_cons_of_mem _ hm)) hY;refine⟨h3,?_⟩;unfold UpTo at h4 ⊢;simp only[List.length_cons];omega
theorem fit_of{o:ObjF}(n:Nat)(h:z1F o)(hn:UpTo n o)(hm:n<=maxLen):z6z o:=by
 unfold UpTo at hn;exact⟨by omega,by omega,by omega,by omega,fun i _=>h.needs i,fun i _=>h.words i,fun i _=>h.syms i,fun i _=>h.ties i⟩
theorem refFold_take(X:Option ObjF)(ls:List (List UInt8))(k:Nat)(x:List UInt8)(h:ls[k]?=some x):z1o X (ls.take (k+1))=(z1o X (ls.take k)).bind fun y=>z2O y x:=by
 unfold z1o;rw[List.take_add_one,h,List.foldl_append];rfl
theorem z2S {X:Option ObjF}{ls:List (List UInt8)}{k:Nat}(h:z1o X (ls.take k)=none):z1o X ls=none:=by
 have e:z1o X ls=z1o (z1o X (ls.take k)) (ls.drop k):=by
  unfold z1o;rw[<-List.foldl_append,List.take_append_drop]
 rw[e,h,refFold_none]
end Go.Proofs.YtbcpcbonlhlhpaaGreatDoor
