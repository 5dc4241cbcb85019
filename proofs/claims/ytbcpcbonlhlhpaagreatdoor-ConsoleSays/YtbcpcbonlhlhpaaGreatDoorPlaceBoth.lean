/- What Round, Apart, inWindow and check of package place -/
import Derived.Test.YtbcpcbonlhlhpaaGreatDoorCheckSmall
import Derived.Lib.SliceRun
set_option maxRecDepth 100000
set_option maxHeartbeats 4000000
namespace Go.Proofs.YtbcpcbonlhlhpaaGreatDoor
section
open Go.RowKit
def z6I (w:World)(a:Option Addr)(n:Nat)(f m:Nat->Int):Prop:=
 n=0∨∃bk o,a=some ⟨bk,o,none⟩/\∀i,i<n->w.cell? ⟨bk,o+i*2,none⟩=some (.int .i64 (f i))/\w.cell? ⟨bk,o+i*2+1,none⟩=some (.int .i64 (m i))
theorem z6I.later{w w':World}{a:Option Addr}{n:Nat}{f m:Nat->Int}(h:z6I w a n f m)(hb:Below w.heap.size w w'):z6I w' a n f m:=by
 rcases h with h|⟨bk,o,ha,hc⟩
 ·exact .inl h
 ·exact .inr ⟨bk,o,ha,fun i hi=>⟨cell_later hb (hc i hi).1,cell_later hb (hc i hi).2⟩⟩
theorem round_any(n:Int)(w:World)(h0:0<=n)(h1:n<=1000):Calls Tryz.prog 244 #[.int .i64 n] w fun e w'=>e=.returned (.int .i64 (z0x n))/\w=w':=by
 go_enter Tryz.func244,Tryz.ntmps244;go_wp2;go_ret;exact⟨z3l (by unfold z0x;omega),rfl⟩
theorem apart_any(x m y k:Int)(w:World)(hx:-1000<=x/\x<=1000)(hm:-1000<=m/\m<=1000)(hy:-1000<=y/\y<=1000)(hk:-1000<=k/\k<=1000) :
 Calls Tryz.prog 264 #[.agg #[.int .i64 x,.int .i64 m],.agg #[.int .i64 y,.int .i64 k]] w fun e w'=>e=.returned (.bool (z2W x m y k))/\Below w.heap.size w w':=by
 obtain⟨x0,x1⟩:=hx;obtain⟨y0,y1⟩:=hy;obtain⟨m0,m1⟩:=hm;obtain⟨k0,k1⟩:=hk;have hb:∀o1 o2:Obj,Below w.heap.size w ((w.alloc o1).alloc o2):=fun o1 o2=>((Below.refl _ _).alloc (Nat.le_refl _) o1).alloc (by simp) o2
 by_cases h1:m<=0
 ·have HE:Hid (true=z2W x m y k):=by unfold Hid z2W;rw[eq_comm,decide_eq_true_eq];omega
  go_enter Tryz.func264,Tryz.ntmps264;go_wp2;go_ret;exact⟨z0w HE.out,hb _ _⟩
 ·by_cases h2:k<=0
  ·have HE:Hid (true=z2W x m y k):=by unfold Hid z2W;rw[eq_comm,decide_eq_true_eq];omega
   go_enter Tryz.func264,Tryz.ntmps264;go_wp2;go_ret;exact⟨z0w HE.out,hb _ _⟩
  ·by_cases h3:y<x
   ·have HE:Hid (decide (k<=x-y)=z2W x m y k):=by unfold Hid z2W;rw[Bool.eq_iff_iff];simp only[decide_eq_true_eq];omega
    go_enter Tryz.func264,Tryz.ntmps264;go_wp2;go_ret;exact⟨z0w HE.out,hb _ _⟩
   ·have HE:Hid (decide (m<=y-x)=z2W x m y k):=by unfold Hid z2W;rw[Bool.eq_iff_iff];simp only[decide_eq_true_eq];omega
    go_enter Tryz.func264,Tryz.ntmps264;go_wp2;go_ret;exact⟨z0w HE.out,hb _ _⟩
theorem inWindow_any(n:Int)(w:World):Calls Tryz.prog 262 #[.int .i64 n] w fun e w'=>e=.returned (.bool (decide (0<=n)&&decide (n<=256)))/\w=w':=by
 by_cases h1:0<=n
 all_goals by_cases h2:n<=256
 all_goals
  go_enter Tryz.func262,Tryz.ntmps262;go_wp2;go_ret;exact⟨z0w (by simp <;> omega),rfl⟩
theorem placeCheck_any(sz tf tm:Nat->Int)(a a':Option Addr)(ns c nt c':Nat)(w:World)(hn:ns<=maxLen)(hn':nt<=maxLen)(hr:z1z w a ns fun i=>.int .i64 (sz i))(ht:z6I w a' nt tf tm) :
 Calls Tryz.prog 241 #[.slice a ns c,.slice a' nt c'] w fun e w'=>e=.returned (errV (z1S ns sz nt tf tm))/\Below w.heap.size w w':=by
 unfold maxLen at hn hn';generalize hF:z1S ns sz nt tf tm=F;unfold z1S at hF;by_cases h1:6<ns∨20<nt
 ·rw[if_pos h1]at hF;subst hF;by_cases g1:(6:Int)<(ns:Int)
  ·clear h1;go_enter Tryz.func241,Tryz.ntmps241;go_wp2;go_ret;exact⟨rfl,Below.refl _ _⟩
  ·have g2:(20:Int)<(nt:Int):=by omega
   clear h1;go_enter Tryz.func241,Tryz.ntmps241;go_wp2;go_ret;exact⟨rfl,Below.refl _ _⟩
 ·rw[if_neg h1]at hF;have HF:Hid ((if z0H (fun i=>decide (sz i<1∨40<sz i)) ns=true then 1 else if z0H (fun i=>decide (tf i<0∨256<tf i∨tm i<0∨256<tm i)) nt=true then 1 else 0)=F):=hF;have g1:¬(6:Int)<(ns:Int):=by omega
  have g2:¬(20:Int)<(nt:Int):=by omega
  clear hF h1;go_enter Tryz.func241,Tryz.ntmps241;go_wp2;go_loopw [20] (fun x wr=>∃k:Nat,k<=ns/\x=.int .i64 k/\wr=w/\Hid (z0H (fun i=>decide (sz i<1∨40<sz i)) k=false)) (fun x _=>ns-(intOf x).toNat)
  case atStart=>exact⟨0,Nat.zero_le _,rfl,rfl,rfl⟩
  case round=>
   obtain⟨k,hk,rfl,hw,HK⟩:=hrel;replace hw:=hw.symm;subst hw;by_cases hlt:k<ns
   ·rcases hr with h0|⟨b,o,rfl,hc⟩
    ·omega
    have hck:=hc k hlt;clear hc;by_cases hz:sz k<1∨40<sz k
    ·have HE:Hid (F=1):=by
      show F=1;rw[<-HF.out,if_pos (z1D hlt (decide_eq_true hz))]
     by_cases hz1:sz k<1
     ·clear hz;go_wp2;go_ret;rw[HE.out];exact⟨rfl,Below.refl _ _⟩
     ·have hz2:40<sz k:=by omega
      clear hz;go_wp2;go_ret;rw[HE.out];exact⟨rfl,Below.refl _ _⟩
    ·have HE:Hid (z0H (fun i=>decide (sz i<1∨40<sz i)) (k+1)=false):=z2U HK.out (decide_eq_false hz);have hz1:¬sz k<1:=by omega
     have hz2:¬40<sz k:=by omega
     clear hz;go_wp2;go_roundw
     case rel=>exact⟨k+1,by omega,by go_num,trivial,HE⟩
     case measure=>simp[intOf];omega
   ·have e:k=ns:=by omega
    have HG:Hid ((if z0H (fun i=>decide (tf i<0∨256<tf i∨tm i<0∨256<tm i)) nt=true then 1 else 0)=F):=by
     have hq:¬z0H (fun i=>decide (sz i<1∨40<sz i)) ns=true:=by rw[<-e,HK.out];decide
     have:=HF.out;rw[if_neg hq]at this;exact this
    clear HF HK;subst e;go_wp2;go_loopw [34] (fun x wr=>∃k:Nat,k<=nt/\x=.int .i64 k/\Below w.heap.size w wr/\Hid (z0H (fun i=>decide (tf i<0∨256<tf i∨tm i<0∨256<tm i)) k=false)) (fun x _=>nt-(intOf x).toNat)
    case atStart=>exact⟨0,Nat.zero_le _,rfl,Below.refl _ _,rfl⟩
    case round=>
     obtain⟨j,hj,rfl,hb,HK⟩:=hrel;by_cases hlt:j<nt
     ·rcases ht with h0|⟨b,o,rfl,hc⟩
      ·omega
      have hc0:=cell_later hb (hc j hlt).1;have hc1:=cell_later hb (hc j hlt).2;have hx:∀ob:Obj,Below w.heap.size w (wr.alloc ob):=fun ob=>hb.alloc hb.size ob
      have HA:=fun(w:World)=>inWindow_any (tf j) w
      have HB:=fun(w:World)=>inWindow_any (tm j) w
      clear hc hr;by_cases hz:tf j<0∨256<tf j∨tm j<0∨256<tm j
      ·have HE:Hid (F=1):=by
        show F=1;rw[<-HG.out,if_pos (z1D hlt (decide_eq_true hz))]
       by_cases hz1:tf j<0∨256<tf j
       ·have e1:(decide (0<=tf j)&&decide (tf j<=256))=false:=by rw[Bool.and_eq_false_iff];simp;omega
        rw[e1]at HA;clear hz hz1 e1;go_wp2_with fail;refine(HA _).mono ?_;rintro e w' ⟨rfl,rfl⟩;go_wp2;go_ret;rw[HE.out];exact⟨rfl,hx _⟩
       ·have e1:(decide (0<=tf j)&&decide (tf j<=256))=true:=by simp;omega
        have e2:(decide (0<=tm j)&&decide (tm j<=256))=false:=by rw[Bool.and_eq_false_iff];simp;omega
        rw[e1]at HA;rw[e2]at HB;clear hz hz1 e1 e2;go_wp2_with fail;refine(HA _).mono ?_;rintro e w' ⟨rfl,rfl⟩;go_wp2_with fail;refine(HB _).mono ?_;rintro e w' ⟨rfl,rfl⟩;go_wp2;go_ret;rw[HE.out];exact⟨rfl,hx _⟩
      ·have HE:Hid (z0H (fun i=>decide (tf i<0∨256<tf i∨tm i<0∨256<tm i)) (j+1)=false):=z2U HK.out (decide_eq_false hz);have e1:(decide (0<=tf j)&&decide (tf j<=256))=true:=by simp;omega
       have e2:(decide (0<=tm j)&&decide (tm j<=256))=true:=by simp;omega
       rw[e1]at HA;rw[e2]at HB;clear hz e1 e2;go_wp2_with fail;refine(HA _).mono ?_;rintro e w' ⟨rfl,rfl⟩;go_wp2_with fail;refine(HB _).mono ?_;rintro e w' ⟨rfl,rfl⟩;go_wp2;go_roundw
       case rel=>exact⟨j+1,by omega,by go_num,hx _,HE⟩
       case measure=>simp[intOf];omega
     ·have e:j=nt:=by omega
      have HE:Hid (F=0):=by
       show F=0;rw[<-HG.out,if_neg];rw[<-e,HK.out];decide
      go_wp2;go_ret;rw[HE.out];exact⟨rfl,hb⟩
end
section
open Go.RowKit
theorem pages_any(n:Int)(w:World)(h0:0<=n)(h1:n<=1000):Calls Tryz.prog 82 #[.int .i64 n] w fun e w'=>e=.returned (.int .i64 (z0x n))/\w=w':=by
 by_cases h:0<n % 16
 ·go_enter Tryz.func82,Tryz.ntmps82;go_wp2;go_ret;exact⟨z3l (by unfold z0x;omega),rfl⟩
 ·go_enter Tryz.func82,Tryz.ntmps82;go_wp2;go_ret;exact⟨z3l (by unfold z0x;omega),rfl⟩
end
section
def z6o (hf hm:Nat->Int)(n:Nat)(z:Nat):Bool:=z0H (fun j=>decide (hf j<=(z:Int)/\(z:Int)<hf j+hm j)) n
def z6j (hf hm:Nat->Int)(n k:Nat)(z:Nat):Bool:=z6o hf hm n z||decide (hf n<=(z:Int)/\(z:Int)<hf n+k)
theorem usedTo_zero(hf hm:Nat->Int)(n z:Nat):z6j hf hm n 0 z=z6o hf hm n z:=by
 unfold z6j;rw[decide_eq_false (by omega),Bool.or_false]
theorem usedTo_full{hf hm:Nat->Int}{n k:Nat}(hk:hm n=k)(z:Nat):z6j hf hm n k z=z6o hf hm (n+1) z:=by
 unfold z6j z6o;simp only[z0H,hk]
theorem usedTo_succ{hf hm:Nat->Int}{n k x:Nat}(hx:hf n+k=x)(z:Nat):z6j hf hm n (k+1) z=if z=x then true else z6j hf hm n k z:=by
 unfold z6j;by_cases e:z=x
 ·rw[if_pos e];rw[decide_eq_true (show hf n<=(z:Int)/\(z:Int)<hf n+((k+1:Nat):Int) by omega),Bool.or_true]
 ·rw[if_neg e];congr 1;rw[Bool.eq_iff_iff];simp only[decide_eq_true_eq];omega
theorem usedB_congr{hf hm hf' hm':Nat->Int}{n z:Nat}(h:∀j,j<n->hf j=hf' j/\hm j=hm' j):z6o hf hm n z=z6o hf' hm' n z:=
 z3o fun i hi=>by rw[(h i hi).1,(h i hi).2]
def z5g (hf hm:Nat->Int)(n x:Nat):Nat->Bool
 |0=>true
 |k+1=>z5g hf hm n x k && !(z6o hf hm n (x+k))
theorem clearB_iff{hf hm:Nat->Int}{n x k:Nat}:z5g hf hm n x k=true ↔ ∀j,j<k->z6o hf hm n (x+j)=false:=by
 induction k with
 |zero=>simp[z5g]
 |succ k ih=>
  simp only[z5g,Bool.and_eq_true,ih,Bool.not_eq_true'];constructor
  ·rintro⟨h,h'⟩ j hj;by_cases e:j=k
   ·subst e;exact h'
   ·exact h j (by omega)
  ·intro h;exact⟨fun j hj=>h j (by omega),h k (by omega)⟩
theorem clearB_meets{hf hm:Nat->Int}{n x k:Nat}:z5g hf hm n x k = !(z2N hf hm n (x:Int) (k:Int)):=by
 rw[Bool.eq_iff_iff,clearB_iff,Bool.not_eq_true',meetsB_false];constructor
 ·intro h j hj;rw[apartB_iff];rintro z ⟨⟨a,b⟩,c,d⟩;have:=h (z-x).toNat (by omega);rw[<-Bool.not_eq_true]at this;apply this;unfold z6o;rw[z5M];exact⟨j,hj,decide_eq_true (by omega)⟩
 ·intro h j hj;rw[<-Bool.not_eq_true];intro hu;unfold z6o at hu;rw[z5M]at hu;obtain⟨i,hi,e⟩:=hu;rw[decide_eq_true_eq]at e;exact apartB_iff.1 (h i hi) ((x+j:Nat):Int) ⟨by omega,by omega⟩
theorem clearB_mono{hf hm:Nat->Int}{n x k r:Nat}(hk:k<=r)(h:z5g hf hm n x k=false):z5g hf hm n x r=false:=by
 rw[<-Bool.not_eq_true,clearB_iff]at h ⊢;exact fun h'=>h fun j hj=>h' j (by omega)
theorem usedB_far{hf hm:Nat->Int}{n z:Nat}(h:∀j,j<n->hf j+hm j<=600)(hz:600<=z):z6o hf hm n z=false:=by
 rw[<-Bool.not_eq_true];intro hu;unfold z6o at hu;rw[z5M]at hu;obtain⟨i,hi,e⟩:=hu;rw[decide_eq_true_eq]at e;have:=h i hi;omega
theorem meets_far{hf hm:Nat->Int}{n k:Nat}{many:Int}(h:∀j,j<n->hf j+hm j<=600)(hk:600<=16*k):z2N hf hm n (16*(k:Int)) many=false:=by
 rw[meetsB_false];intro j hj;have:=h j hj;unfold z2W;rw[decide_eq_true_eq];omega
end
section
open Go.RowKit
def rngC(f m:Nat->Int)(i:Nat):List Value:=[.int .i64 (f i),.int .i64 (m i)]
def intC(b:Nat->Int)(i:Nat):List Value:=[.int .i64 (b i)]
theorem rngC_len(f m:Nat->Int)(i:Nat):(rngC f m i).length=2:=rfl
theorem z6S (b:Nat->Int)(i:Nat):(intC b i).length=1:=rfl
theorem owns_apart{w:World}{B B':Nat}{e e':TypeId}{s s' n n':Nat}{v v':Value}{xs xs':List Value}(h:w.ownsRow B e s v n xs)(h':w.ownsRow B' e' s' v' n' xs')(he:e≠e'):v.ownBlock=none∨v.ownBlock≠v'.ownBlock:=by
 rcases h.2 with⟨rfl,_⟩|⟨g,cap,cur,rfl,_,hg,_⟩
 ·exact .inl rfl
 ·rcases h'.2 with⟨rfl,_⟩|⟨g',cap',cur',rfl,_,hg',_⟩
  ·exact .inr (by simp[Value.ownBlock])
  ·refine .inr fun e2=>?_
   simp[Value.ownBlock]at e2;subst e2;rw[hg]at hg';injection hg' with hg';injection hg' with _ h2 _;exact he h2
theorem rows_rng{w:World}{B:Nat}{e:TypeId}{v:Value}{n:Nat}{f m:Nat->Int}(h:w.ownsRow B e 2 v n (z0i (rngC f m) n)):∃a c,v=.slice a n c/\n<=c/\z6I w a n f m:=by
 obtain⟨a,c,rfl,hc⟩:=z0c h;refine⟨a,c,rfl,hc,?_⟩;by_cases h0:n=0
 ·exact .inl h0
 ·have key:∀i,i<n->∀j u,(rngC f m i)[j]?=some u->j<2->∃g,a=some ⟨g,0,none⟩/\B<=g/\w.cell? ⟨g,i*2+j,none⟩=some u:=fun i hi j u hu hj=>
   z0K h (by rw[z2G (fun i _=>rngC_len f m i) hi hj];exact hu)
  obtain⟨g,ha,_,_⟩:=key 0 (by omega) 0 _ rfl (by omega);refine .inr ⟨g,0,ha,fun i hi=>?_⟩;obtain⟨g1,ha1,_,h1⟩:=key i hi 0 _ rfl (by omega);obtain⟨g2,ha2,_,h2⟩:=key i hi 1 _ rfl (by omega);rw[ha]at ha1 ha2;injection ha1 with ha1;injection ha1 with ha1;injection ha2 with ha2;injection ha2 with ha2;subst ha1 ha2;exact⟨by simpa using h1,by simpa using h2⟩
theorem z5a {w:World}{B:Nat}{e:TypeId}{v:Value}{n:Nat}{b:Nat->Int}(h:w.ownsRow B e 1 v n (z0i (intC b) n)):∃a c,v=.slice a n c/\n<=c/\z1z w a n fun i=>.int .i64 (b i):=by
 obtain⟨a,c,rfl,hc⟩:=z0c h;refine⟨a,c,rfl,hc,?_⟩;by_cases h0:n=0
 ·exact .inl h0
 ·have key:∀i,i<n->∃g,a=some ⟨g,0,none⟩/\B<=g/\w.cell? ⟨g,i,none⟩=some (.int .i64 (b i)):=fun i hi=>
   z0K h (by have:=z2G (g:=intC b) (s:=1) (n:=n) (i:=i) (j:=0) (fun i _=>z6S b i) hi (by omega);simpa[intC]using this)
  obtain⟨g,ha,_,_⟩:=key 0 (by omega);refine .inr ⟨g,0,ha,fun i hi=>?_⟩;obtain⟨g1,ha1,_,h1⟩:=key i hi;rw[ha]at ha1;injection ha1 with ha1;injection ha1 with ha1;subst ha1;simpa using h1
theorem growInt{B:Nat}{w:World}{v:Value}{n:Nat}{b:Nat->Int}(x:Int)(hB:B<=w.heap.size)(h:w.ownsRow B 3 1 v n (z0i (intC b) n))(hn:n<1000000) :
 ∃v' W,(Builtin.append_ #[52,52] 52 #[v,.slice (some ⟨w.heap.size,0,none⟩) 1 1]).run Tryz.prog (w.alloc (.cells #[.int .i64 x] 3))=.ok v' W/\Grown B 3 1 (w.alloc (.cells #[.int .i64 x] 3)) v (n+1) (z0i (intC b) n++[.int .i64 x]) v' W:=
 z0J 52 3 1 8 (.int .i64 0) (by kernel_rfl) (by kernel_rfl) (by rfl) (by decide) B _ v n _ (h.alloc _) (some ⟨w.heap.size,0,none⟩) 1 1 [.int .i64 x] rfl
  (.inr ⟨_,_,rfl,fun j u hj=>by
    match j,hj with
    |0,hj=>simp at hj;subst hj;simp[go_sem]
    |j+1,hj=>simp at hj⟩) (fun u hu=>by simp at hu;subst hu;rfl) (by simp;omega) (by omega) (by decide)
theorem growRng{B:Nat}{w:World}{v:Value}{n:Nat}{f m:Nat->Int}(x y:Int)(hB:B<=w.heap.size)(h:w.ownsRow B 166 2 v n (z0i (rngC f m) n))(hn:n<1000000) :
 ∃v' W,(Builtin.append_ #[164,164] 164 #[v,.slice (some ⟨w.heap.size,0,none⟩) 1 1]).run Tryz.prog (w.alloc (.cells #[.int .i64 x,.int .i64 y] 166))=.ok v' W/\Grown B 166 2 (w.alloc (.cells #[.int .i64 x,.int .i64 y] 166)) v (n+1) (z0i (rngC f m) n++[.int .i64 x,.int .i64 y]) v' W:=
 z0J 164 166 2 16 (.agg #[.int .i64 0,.int .i64 0]) (by kernel_rfl) (by kernel_rfl) (by rfl) (by decide) B _ v n _ (h.alloc _) (some ⟨w.heap.size,0,none⟩) 1 1 [.int .i64 x,.int .i64 y] rfl
  (.inr ⟨_,_,rfl,fun j u hj=>by
    match j,hj with
    |0,hj=>simp at hj;subst hj;simp[go_sem]
    |1,hj=>simp at hj;subst hj;simp[go_sem]
    |j+2,hj=>simp at hj⟩) (fun u hu=>by simp at hu;rcases hu with rfl|rfl <;> rfl) (by simp;omega) (by omega) (by decide)
theorem joinInt{b b':Nat->Int}{n:Nat}{x:Int}(h:∀i,i<n->b i=b' i)(hx:b' n=x):z0i (intC b) n++[.int .i64 x]=z0i (intC b') (n+1):=by
 show _=z0i (intC b') n++intC b' n;rw[z1f (h:=intC b') (fun i hi=>by simp[intC,h i hi])];simp[intC,hx]
theorem joinRng{f m f' m':Nat->Int}{n:Nat}{x y:Int}(h:∀i,i<n->f i=f' i/\m i=m' i)(hx:f' n=x)(hy:m' n=y):z0i (rngC f m) n++[.int .i64 x,.int .i64 y]=z0i (rngC f' m') (n+1):=by
 show _=z0i (rngC f' m') n++rngC f' m' n;rw[z1f (h:=rngC f' m') (fun i hi=>by simp[rngC,h i hi])];simp[rngC,hx,hy]
theorem rng_cells{w:World}{a:Option Addr}{n:Nat}{f m:Nat->Int}(h:z6I w a n f m):n=0∨∃b o,a=some ⟨b,o,none⟩/\∀j u,(z0i (rngC f m) n)[j]?=some u->w.cell? ⟨b,o+j,none⟩=some u:=by
 rcases h with h|⟨b,o,ha,hc⟩
 ·exact .inl h
 ·refine .inr ⟨b,o,ha,fun j u hj=>?_⟩;have hlt:j<n*2:=by
   have:=(List.getElem?_eq_some_iff.1 hj).1;rw[z3B (fun i _=>rngC_len f m i)]at this;exact this
  have e:j=j / 2*2+j % 2:=by omega
  rw[e,z2G (fun i _=>rngC_len f m i) (by omega:j / 2<n) (by omega:j % 2<2)]at hj;have:=hc (j / 2) (by omega);have hm:j % 2=0∨j % 2=1:=by omega
  rcases hm with h2|h2
  ·rw[h2]at hj;simp[rngC]at hj;rw[e,h2];simpa[hj]using this.1
  ·rw[h2]at hj;simp[rngC]at hj;rw[e,h2,<-Nat.add_assoc];simpa[hj]using this.2
theorem rng_one{f m:Nat->Int}{n:Nat}:∀u∈z0i (rngC f m) n,u.oneCell'=true:=fun u hu=>by
 obtain⟨i,_,h⟩:=joinC_mem hu;simp[rngC]at h;rcases h with rfl|rfl <;> rfl
theorem cloneRng_any(f m:Nat->Int)(a:Option Addr)(n c:Nat)(w:World)(hn:n<=1000000)(hr:z6I w a n f m) :
 Calls Tryz.prog 242 #[.slice a n c] w fun e w'=>(∃v',e=.returned v'/\w'.ownsRow w.heap.size 166 2 v' n (z0i (rngC f m) n))/\Below w.heap.size w w':=by
 have q:∀(w:World) (a:Option Addr) (n c n' c':Nat),(binOp .eql 164 (.slice a n c) (.slice none n' c')).run Tryz.prog w=.ok (.bool a.isNone) w:=fun w a n c n' c'=>Lib.run_eql_slice_nil w _ _ a n c n' c' Tryz.underlying164
 cases a with
 |none=>
  have h0:n=0:=by
   rcases hr with h|⟨b,o,h,_⟩
   ·exact h
   ·cases h
  subst h0;go_enter Tryz.func242,Tryz.ntmps242;go_wp2;go_ret;exact⟨⟨_,rfl,World.ownsRow_nil _ _ _ _⟩,Below.refl _ _⟩
 |some ad=>
  obtain⟨v',W,happ,hG⟩:=z0J 164 166 2 16 (.agg #[.int .i64 0,.int .i64 0]) (by kernel_rfl) (by kernel_rfl) (by rfl) (by decide) w.heap.size (w.alloc (.cells #[] 166)) (.slice (some ⟨w.heap.size,0,none⟩) 0 0) 0 []
   (World.ownsRow_made w #[] 0 (Nat.le_refl _) (Nat.zero_le _) rfl) (some ad) n c (z0i (rngC f m) n) (z3B (fun i _=>rngC_len f m i)) (rng_cells (hr.later ((Below.refl _ _).alloc (Nat.le_refl _) _))) rng_one (by simp) (by omega) (by decide)
  clear hr;go_enter Tryz.func242,Tryz.ntmps242;go_wp2_with (at_builtin;refine z0b rfl _ _ 164 rfl _ _ _ rfl rfl happ ?_);go_ret;exact⟨⟨v',rfl,by simpa using hG.own⟩,((Below.refl _ _).alloc (Nat.le_refl _) _).trans hG.below⟩
end
end Go.Proofs.YtbcpcbonlhlhpaaGreatDoor
namespace Go.Proofs.YtbcpcbonlhlhpaaGreatDoor
open Go.RowKit
def RngIn(n:Nat)(f m:Nat->Int):Prop:=∀i,i<n->0<=f i/\f i<=300/\0<=m i/\m i<=300
theorem meets_any(x m y k:Int)(bs:Nat)(w:World)(hx:0<=x/\x<=300)(hm:0<=m/\m<=300)(hy:0<=y/\y<=300)(hk:0<=k/\k<=300)(h0:w.cell? ⟨bs,0,none⟩=some (.int .i64 x))(h1:w.cell? ⟨bs,1,none⟩=some (.int .i64 m)) :
 Calls Tryz.prog 263 #[.agg #[.int .i64 y,.int .i64 k],.pointer (some ⟨bs,0,none⟩)] w fun e w'=>e=.returned (.bool (!(z2W x m y k)))/\Below w.heap.size w w':=by
 have hl:=World.block_lt_of_cell? _ _ h0;have g0:∀ob:Obj,(w.alloc ob).cell? ⟨bs,0,none⟩=some (.int .i64 x):=fun ob=>by rw[World.cell?_alloc_lt _ _ _ hl];exact h0
 have g1:∀ob:Obj,(w.alloc ob).cell? ⟨bs,1,none⟩=some (.int .i64 m):=fun ob=>by rw[World.cell?_alloc_lt _ _ _ (show bs<w.heap.size from hl)];exact h1
 have HA:=fun(w:World)=>apart_any x m y k w (by omega) (by omega) (by omega) (by omega)
 clear h0 h1 hl hx hm hy hk;generalize z2W x m y k=B at *;go_enter Tryz.func263,Tryz.ntmps263;go_wp2_with fail;refine(HA _).mono ?_;rintro e w2 ⟨rfl,hb⟩;clear HA;go_wp2;go_ret;exact⟨rfl,((Below.refl _ _).alloc (Nat.le_refl _) _).trans (hb.mono (by simp))⟩
theorem containsRng_any(f m:Nat->Int)(a:Option Addr)(n c bs:Nat)(x y:Int)(w:World)(hn:n<=1000000000)(hr:z6I w a n f m)(hi:RngIn n f m)(hx:0<=x/\x<=300)(hy:0<=y/\y<=300)(h0:w.cell? ⟨bs,0,none⟩=some (.int .i64 x))(h1:w.cell? ⟨bs,1,none⟩=some (.int .i64 y)) :
 Calls Tryz.prog 265 #[.slice a n c,.func (.func 263) #[] #[.pointer (some ⟨bs,0,none⟩)]] w fun e w'=>e=.returned (.bool (z2N f m n x y))/\Below w.heap.size w w':=by
 generalize hF:z2N f m n x y=F;have HF:Hid (z0H (fun j=>!(z2W x y (f j) (m j))) n=F):=hF;clear hF;go_enter Tryz.func265,Tryz.ntmps265;go_wp2;go_loopw [8] (fun z wr=>∃k:Nat,k<=n/\z=.int .i64 k/\Hid (z0H (fun j=>!(z2W x y (f j) (m j))) k=false)/\Below w.heap.size w wr) (fun z _=>n-(intOf z).toNat)
 case atStart=>exact⟨0,Nat.zero_le _,rfl,rfl,Below.refl _ _⟩
 case round=>
  obtain⟨k,hk,rfl,HK,hb⟩:=hrel;by_cases hlt:k<n
  ·rcases hr with h0|⟨bk,o,rfl,hc⟩
   ·omega
   ·have hc0:=cell_later hb (hc k hlt).1;have hc1:=cell_later hb (hc k hlt).2;have hik:=hi k hlt;have HC:=meets_any x y (f k) (m k) bs wr hx hy (by omega) (by omega) (cell_later hb h0) (cell_later hb h1);clear hc h0 h1 hi hik hx hy;cases he:(!(z2W x y (f k) (m k)))with
    |true=>
     have HE:Hid (F=true):=HF.out.symm.trans (z1D hlt he);rw[he]at HC;clear he;go_wp2_with fail;refine HC.mono ?_;rintro e w2 ⟨rfl,hb2⟩;clear HC;go_wp2;go_ret;exact⟨z0w HE.out.symm,hb.trans (hb2.mono hb.size)⟩
    |false=>
     have HE:Hid (z0H (fun j=>!(z2W x y (f j) (m j))) (k+1)=false):=z2U HK.out he;rw[he]at HC;clear he;go_wp2_with fail;refine HC.mono ?_;rintro e w2 ⟨rfl,hb2⟩;clear HC;go_wp2;go_roundw
     case rel=>exact⟨k+1,by omega,by go_num,HE,hb.trans (hb2.mono hb.size)⟩
     case measure=>simp[intOf];omega
  ·have HE:Hid (F=false):=by
    have e:k=n:=by omega
    rw[<-HF.out,<-e];exact HK.out
   go_wp2;go_ret;exact⟨z0w HE.out.symm,hb⟩
inductive FreeEnd (f m:Nat->Int) (n:Nat) (many:Int):Ending->Prop
 |yes (k:Nat) (h:z6i f m n many k):FreeEnd f m n many (.returned (.tuple #[.agg #[.int .i64 (16*(k:Int)),.int .i64 many],.bool true]))
 |no (h:NoBase f m n many):FreeEnd f m n many (.returned (.tuple #[.agg #[.int .i64 0,.int .i64 0],.bool false]))
theorem free_any(f m:Nat->Int)(a:Option Addr)(n c:Nat)(many:Int)(w:World)(hn:n<=1000000000)(hr:z6I w a n f m)(hi:RngIn n f m)(hm0:1<=many)(hm1:many<=256) :
 Calls Tryz.prog 243 #[.int .i64 many,.slice a n c] w fun e w'=>FreeEnd f m n many e/\Below w.heap.size w w':=by
 have hx0:∀ob:Obj,Below w.heap.size w (w.alloc ob):=fun ob=>(Below.refl _ _).alloc (Nat.le_refl _) ob
 go_enter Tryz.func243,Tryz.ntmps243;go_wp2;go_loopw [6] (fun z wr=>∃k:Nat,z=.int .i64 (16*(k:Int))/\k<=17/\Hid (∀j:Nat,j<k->z2N f m n (16*(j:Int)) many=true)/\Below (w.heap.size+1) (w.alloc (.cells #[.int .i64 0,.int .i64 0] 166)) wr) (fun z _=>300-(intOf z).toNat)
 case atStart=>exact⟨0,rfl,by omega,fun j hj=>by omega,Below.refl _ _⟩
 case round=>
  obtain⟨k,rfl,hk,HK,hb⟩:=hrel;have hz:w.heap.size<wr.heap.size:=by have:=hb.size;simp at this;omega
  have c0:wr.cell? ⟨w.heap.size,0,none⟩=some (.int .i64 0):=by rw[hb.cell (p:=⟨w.heap.size,0,none⟩) (Nat.lt_succ_self _)];simp[go_sem]
  have c1:wr.cell? ⟨w.heap.size,1,none⟩=some (.int .i64 0):=by rw[hb.cell (p:=⟨w.heap.size,1,none⟩) (Nat.lt_succ_self _)];simp[go_sem]
  have z0:∀o,wr.frozen? ⟨w.heap.size,o,none⟩=false:=fun o=>by rw[hb.frozen (p:=⟨w.heap.size,o,none⟩) (Nat.lt_succ_self _)];simp[go_sem]
  have hbw:Below w.heap.size w wr:=(hx0 _).trans (hb.mono (Nat.le_succ _));by_cases hin:16*(k:Int)+many<=256
  ·have HC:=fun(w':World) (hw:Below w.heap.size w w') (bs:Nat) (h0:w'.cell? ⟨bs,0,none⟩=some (.int .i64 (16*(k:Int)))) (h1:w'.cell? ⟨bs,1,none⟩=some (.int .i64 many))=>
    containsRng_any f m a n c bs (16*(k:Int)) many w' hn (hr.later hw) hi (by omega) (by omega) h0 h1
   have hq:∀ob:Obj,Below wr.heap.size wr (wr.alloc ob):=fun ob=>(Below.refl _ _).alloc (Nat.le_refl _) ob
   clear hr hi;cases he:z2N f m n (16*(k:Int)) many with
   |true=>
    have HE:Hid (∀j:Nat,j<k+1->z2N f m n (16*(j:Int)) many=true):=fun j hj=>by
     by_cases e:j=k
     ·subst e;exact he
     ·exact HK.out j (by omega)
    rw[he]at HC;clear he;go_wp2_with fail;refine(HC _ (hbw.trans ((hq _).mono hbw.size)) _ (by simp[go_sem]) (by simp[go_sem])).mono ?_;rintro e w2 ⟨rfl,hb2⟩;clear HC;go_wp2;go_roundw
    case rel=>exact⟨k+1,by go_num,by omega,HE,(hb.trans ((hq _).mono (by omega))).trans (hb2.mono (by simp;omega))⟩
    case measure=>simp[intOf];omega
   |false=>
    have HE:Hid (z6i f m n many k):=⟨hin,he,HK.out⟩;rw[he]at HC;clear he;go_wp2_with fail;refine(HC _ (hbw.trans ((hq _).mono hbw.size)) _ (by simp[go_sem]) (by simp[go_sem])).mono ?_;rintro e w2 ⟨rfl,hb2⟩;have d0:w2.cell? ⟨wr.heap.size,0,none⟩=some (.int .i64 (16*(k:Int))):=cell_later hb2 (by simp[go_sem]);have d1:w2.cell? ⟨wr.heap.size,1,none⟩=some (.int .i64 many):=cell_later hb2 (by simp[go_sem]);have e0:=cell_later ((hq _).trans (hb2.mono (by simp))) c0;have e1:=cell_later ((hq _).trans (hb2.mono (by simp))) c1;have e2:∀o,w2.frozen? ⟨w.heap.size,o,none⟩=false:=fun o=>by
     rw[((hq _).trans (hb2.mono (by simp))).frozen (p:=⟨w.heap.size,o,none⟩) hz];exact z0 o
    have hbe:=hbw.trans ((hq _).trans (hb2.mono (by simp)) |>.mono hbw.size);clear HC c0 c1 z0 hb2;go_wp2;exact bodyPost_ret (v:=.tuple #[.agg #[.int .i64 (16*(k:Int)),.int .i64 many],.bool true]) (by simp[results,Tryz.results243,go_sem,e0,e1]) rfl ⟨.yes k HE.out,(hbe.setCell (Nat.le_refl _) _).setCell (Nat.le_refl _) _⟩
  ·have HE:Hid (NoBase f m n many):=fun j hj=>HK.out j (by omega)
   have hin':256<16*(k:Int)+many:=by omega
   clear hr hi;go_wp2;exact bodyPost_ret (v:=.tuple #[.agg #[.int .i64 0,.int .i64 0],.bool false]) (by simp[results,Tryz.results243,go_sem,c0,c1]) rfl ⟨.no HE.out,(hbw.setCell (Nat.le_refl _) _).setCell (Nat.le_refl _) _⟩
end Go.Proofs.YtbcpcbonlhlhpaaGreatDoor
namespace Go.Proofs.YtbcpcbonlhlhpaaGreatDoor
open Go.RowKit
inductive BasesEnd (w:World) (B ns:Nat) (sz:Nat->Int) (nt:Nat) (tf tm:Nat->Int):Ending->Prop
 |bad (f:Nat) (b:Nat->Int) (hf:f≠0) (h:BasesAre ns sz nt tf tm f b):BasesEnd w B ns sz nt tf tm (.returned (.tuple #[.slice none 0 0,errV f]))
 |ok (b:Nat->Int) (v:Value) (h:BasesAre ns sz nt tf tm 0 b) (hv:w.ownsRow B 3 1 v ns (z0i (intC b) ns)):BasesEnd w B ns sz nt tf tm (.returned (.tuple #[v,.nilIface]))
def setAt(b:Nat->Int)(k:Nat)(x:Int):Nat->Int:=fun j=>if j=k then x else b j
theorem z2Z {b:Nat->Int}{k:Nat}{x:Int}{j:Nat}(h:j<k):b j=setAt b k x j:=by unfold setAt;rw[if_neg (by omega)]
theorem z4d {b:Nat->Int}{k:Nat}{x:Int}:setAt b k x k=x:=if_pos rfl
theorem z5V {f:Nat}(h:f≠0):∃n:Int,errV f=.iface 43 (.int .i64 n):=by
 cases f with
 |zero=>exact absurd rfl h
 |succ f=>exact⟨_,rfl⟩
theorem bases_any(sz tf tm:Nat->Int)(a a':Option Addr)(ns c nt c':Nat)(w:World)(hn:ns<=maxLen)(hn':nt<=maxLen)(hr:z1z w a ns fun i=>.int .i64 (sz i))(ht:z6I w a' nt tf tm) :
 Calls Tryz.prog 200 #[.slice a ns c,.slice a' nt c'] w fun e w'=>BasesEnd w' w.heap.size ns sz nt tf tm e/\Below w.heap.size w w':=by
 have HC:=placeCheck_any sz tf tm a a' ns c nt c' w hn hn' hr ht;by_cases h0:z1S ns sz nt tf tm=0
 ·obtain⟨g1,g2,g3,g4⟩:=placeF_zero h0;rw[h0]at HC;have HP:Hid (z1S ns sz nt tf tm=0):=h0;clear h0 hn hn';go_enter Tryz.func200,Tryz.ntmps200;go_wp2_with fail;refine HC.mono ?_;rintro e w1 ⟨rfl,hb⟩;clear HC;have HD:=cloneRng_any tf tm a' nt c' w1 (by omega) (ht.later hb);simp only[errV];go_wp2_with fail;refine HD.mono ?_;rintro e w2 ⟨⟨vh,rfl,hown⟩,hb2⟩;clear HD;have hown':w2.ownsRow w.heap.size 166 2 vh nt (z0i (rngC tf tm) nt):=⟨hown.1,by
   rcases hown.2 with h|⟨g,cap,cur,h1,h2,h3⟩
   ·exact .inl h
   ·exact .inr ⟨g,cap,cur,h1,Nat.le_trans hb.size h2,h3⟩⟩
  replace hb:=hb.trans (hb2.mono hb.size);clear hb2 hown;go_wp2;go_loopw [7,8,23] (fun x y z wr=>∃(k:Nat) (vh vb:Value) (b:Nat->Int),k<=ns/\z=.int .i64 k/\x=vh/\y=vb/\wr.ownsRow w.heap.size 166 2 vh (nt+k) (z0i (rngC (z0W tf nt b) (z0W tm nt fun j=>z0x (sz j))) (nt+k)) /\
   wr.ownsRow w.heap.size 3 1 vb k (z0i (intC b) k)/\(∀j,j<k->0<=b j/\b j<=256)/\Hid (∀j,j<k->Laid tf tm nt sz b j)/\Below w.heap.size w wr) (fun _ _ z _=>ns-(intOf z).toNat)
  case atStart=>exact⟨0,vh,.slice none 0 0,fun _=>0,Nat.zero_le _,rfl,rfl,rfl,by
   rw[Nat.add_zero,z1f (h:=rngC tf tm) (fun i hi=>by simp[rngC,z4M hi])];exact hown',World.ownsRow_nil _ _ _ _,fun j hj=>by omega,fun j hj=>by omega,hb⟩
  case round=>
   clear hb hown';obtain⟨k,vh,vb,b,hk,rfl,rfl,rfl,ho,hi,hbb,HL,hb⟩:=hrel;by_cases hlt:k<ns
   ·obtain⟨ah,ch,rfl,hch,hrow⟩:=rows_rng ho;have hs:=g3 k hlt;have hrk:=z3W hs.1 hs.2;rcases hr with h0|⟨bk,o,rfl,hc⟩
    ·omega
    have hck:=cell_later hb (hc k hlt);have HR:=fun(w:World)=>round_any (sz k) w (by omega) (by omega)
    have HF:=free_any (z0W tf nt b) (z0W tm nt fun j=>z0x (sz j)) ah (nt+k) ch (z0x (sz k)) wr (by omega) hrow (fun j hj=>by
     by_cases e:j<nt
     ·rw[z4M e,z4M e];have:=g4 j e;omega
     ·obtain⟨i,rfl⟩:∃i,j=nt+i:=⟨j-nt,by omega⟩;rw[z4c,z4c];have h1:=hbb i (by omega);have h2:=g3 i (by omega);have h3:=z3W h2.1 h2.2;omega) (by omega) (by omega)
    clear hc hrow;go_wp2_with fail;refine(HR _).mono ?_;rintro e w' ⟨rfl,rfl⟩;go_wp2_with fail;refine HF.mono ?_;rintro e w2 ⟨hend,hb2⟩;clear HR HF;have ho2:=z0e ho hb2;have hi2:=z0e hi hb2;replace hb:=hb.trans (hb2.mono hb.size);clear hb2 ho hi hck;cases hend with
    |no hno=>
     have HE:Hid (BasesAre ns sz nt tf tm 8 b):=.full b k HP.out hlt HL.out hno;clear hno HL HP;go_wp2;go_ret2;exact⟨.bad 8 b (by decide) HE.out,hb.alloc hb.size _⟩
    |yes q hq=>
     have hq0:=hq.inside;have HQ:Hid (∀j,j<k+1->Laid tf tm nt sz (setAt b k (16*(q:Int))) j):=fun j hj=>by
      by_cases e:j=k
      ·subst e;exact⟨q,z4d,hq.congr fun x hx=>⟨z3n (fun y hy=>z2Z hy) x hx,rfl⟩⟩
      ·exact(HL.out j (by omega)).congr fun y hy=>z2Z (by omega)
     clear hq HL;have hB2:=hb.size;obtain⟨v1,W1,happ1,hG1⟩:=growRng (w:=w2.alloc (.cells #[.int .i64 (16*(q:Int)),.int .i64 (z0x (sz k))] 166)) (16*(q:Int)) (z0x (sz k)) (by simp;omega) (ho2.alloc _) (by omega);have e1:(w2.alloc (.cells #[.int .i64 (16*(q:Int)),.int .i64 (z0x (sz k))] 166)).heap.size=w2.heap.size+1:=by simp
     rw[e1]at happ1;clear e1;have hi3:=((hi2.alloc (.cells #[.int .i64 (16*(q:Int)),.int .i64 (z0x (sz k))] 166)).alloc (.cells #[.int .i64 (16*(q:Int)),.int .i64 (z0x (sz k))] 166)).kept hG1.grown (owns_apart hi2 ho2 (by decide));have hne:some w2.heap.size≠(Value.slice ah (nt+k) ch).ownBlock:=fun e=>by have:=(ho2.lt _ e.symm).2;omega
     have c0:W1.cell? ⟨w2.heap.size,0,none⟩=some (.int .i64 (16*(q:Int))):=hG1.grown.cell (by simp[go_sem]) hne;have c1:W1.cell? ⟨w2.heap.size,1,none⟩=some (.int .i64 (z0x (sz k))):=hG1.grown.cell (by simp[go_sem]) hne;have hb1:Below w.heap.size w W1:=((hb.alloc hB2 _).alloc (by simp;omega) _).trans hG1.below;obtain⟨v2,W2,happ2,hG2⟩:=growInt (16*(q:Int)) hb1.size hi3 (by omega);have ho3:=(hG1.own.alloc (.cells #[.int .i64 (16*(q:Int))] 3)).kept hG2.grown (owns_apart hG1.own hi3 (by decide));have hb3:Below w.heap.size w W2:=(hb1.alloc hb1.size _).trans hG2.below;have hi4:=hG2.own;rw[joinInt (b':=setAt b k (16*(q:Int))) (fun i hi=>z2Z hi) z4d]at hi4;rw[joinRng (f':=z0W tf nt (setAt b k (16*(q:Int)))) (m':=z0W tm nt fun j=>z0x (sz j)) (fun i hi=>⟨z3n (fun y hy=>z2Z hy) i hi,rfl⟩) (by rw[z4c,z4d]) z4c]at ho3;have hbn:∀j,j<k+1->0<=setAt b k (16*(q:Int)) j/\setAt b k (16*(q:Int)) j<=256:=fun j hj=>by
      by_cases e:j=k
      ·subst e;rw[z4d];omega
      ·rw[<-z2Z (by omega)];exact hbb j (by omega)
     clear hG1 hG2 hi3 ho2 hi2 hb1 hne hbb;go_wp2_with (at_builtin;first|refine z0b rfl (.tmp 37) (.tmp 39) 164 rfl (.slice ah (nt+k) ch) (.slice (some ⟨w2.heap.size+1,0,none⟩) 1 1) _ rfl rfl happ1 ?_|refine z0b rfl (.tmp 41) (.tmp 44) 52 rfl u8 (.slice (some ⟨W1.heap.size,0,none⟩) 1 1) _ rfl rfl happ2 ?_);go_roundw
     case rel=>exact⟨k+1,v1,v2,setAt b k (16*(q:Int)),by omega,by go_num,rfl,rfl,ho3,hi4,hbn,HQ,hb3⟩
     case measure=>simp[intOf];omega
   ·have e:k=ns:=by omega
    subst e;go_wp2;go_ret2;exact⟨.ok b _ (.ok b HP.out HL.out) hi,hb⟩
 ·obtain⟨f,hf⟩:=z5V h0;have HE:Hid (BasesAre ns sz nt tf tm (z1S ns sz nt tf tm) (fun _=>0)):=.bad _ h0;have HV:Hid (errV (z1S ns sz nt tf tm)=.iface 43 (.int .i64 f)):=hf;have H0:Hid (z1S ns sz nt tf tm≠0):=h0;rw[hf]at HC;clear hr ht hf h0;go_enter Tryz.func200,Tryz.ntmps200;go_wp2_with fail;refine HC.mono ?_;rintro e w1 ⟨rfl,hb⟩;clear HC;go_wp2;go_ret2;exact⟨by rw[<-HV.out];exact .bad _ _ H0.out HE.out,hb⟩
end Go.Proofs.YtbcpcbonlhlhpaaGreatDoor
