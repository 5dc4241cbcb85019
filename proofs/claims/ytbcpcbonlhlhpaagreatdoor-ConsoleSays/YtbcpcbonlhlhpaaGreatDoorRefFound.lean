/- What checkBases, where and word of package patch return, -/
import Derived.Test.YtbcpcbonlhlhpaaGreatDoorScopeFind
import Derived.Deep.QuietTactic
import Derived.BigQuiet
set_option maxRecDepth 100000
set_option maxHeartbeats 4000000
namespace Go.Proofs.YtbcpcbonlhlhpaaGreatDoor
open Go.RowKit
structure PatIn(w:World)(al:Option Addr)(n:Nat)(V:Nat->ObjV)(O:Nat->ObjF)(ab:Option Addr)(B:Nat->Int):Prop where
 objs:z3U w al n V O
 bases:z1z w ab n fun i=>.int .i64 (B i)
 good:∀i,i<n->z3J (O i)
 inW:∀i,i<n->0<=B i/\B i<=256
 few:n<=1000
theorem PatIn.later{w w':World}{al:Option Addr}{n:Nat}{V:Nat->ObjV}{O:Nat->ObjF}{ab:Option Addr}{B:Nat->Int}(h:PatIn w al n V O ab B)(hb:Below w.heap.size w w'):PatIn w' al n V O ab B:=
 ⟨h.objs.later hb,h.bases.later hb,h.good,h.inW,h.few⟩
def z2V (O:Nat->ObjF)(P Q:ByteArray->Int)(B:Nat->Int)(bi kind:Int)(s:ByteArray)(wk:Bool):Option Int:=
 if kind=1 then some bi else
 if 0<=P s then some (B (P s).toNat+(O (P s).toNat).sAt (Q s).toNat)else
 if wk=true then some 0 else none
def whE:Option Int->Value
 |some p=>.tuple #[.int .i64 p,.nilIface]
 |none=>.tuple #[.int .i64 0,errV 6]
theorem where_any(al ab:Option Addr)(n cl cb:Nat)(V:Nat->ObjV)(O:Nat->ObjF)(B:Nat->Int)(P Q:ByteArray->Int)(i:Nat)(x k d:Int)(s:ByteArray)(b:Bool)(w:World)(h:PatIn w al n V O ab B)(hP:z5p (z1T n O) P Q)(hi:i<n) :
 Calls Tryz.prog 266 #[.slice al n cl,.slice ab n cb,.int .i64 (i:Int),.agg #[.int .i64 x,.int .i64 k,.int .i64 d,.string s,.bool b]] w fun e w'=>e=.returned (whE (z2V O P Q B (B i) k s b))/\Below w.heap.size w w':=by
 have hfew:=h.few;have hx:∀ob:Obj,Below w.heap.size w (w.alloc ob):=fun ob=>(Below.refl _ _).alloc (Nat.le_refl _) ob
 by_cases hk:k=1
 ·have HE:Hid (z2V O P Q B (B i) k s b=some (B i)):=if_pos hk;have hk':(k==1)=true:=by simp[hk]
  rcases h.bases with h0|⟨bb,ob,rfl,hc⟩
  ·omega
  have hci:∀o:Obj,(w.alloc o).cell? ⟨bb,ob+i,none⟩=some (.int .i64 (B i)):=fun o=>cell_later (hx o) (hc i hi)
  clear hc hk h;go_enter Tryz.func266,Tryz.ntmps266;go_wp2;go_ret2;rw[HE.out];exact⟨rfl,hx _⟩
 ·have hk':(k==1)=false:=by rw[beq_eq_false_iff_ne];exact hk
  have HF:=fun(w':World) (hb:Below w.heap.size w w')=>find_any al n cl V O s w' (by omega) (fun j hj=>by have:=(h.good j hj).nS;omega) (h.objs.later hb)
  rcases hP.shape s with⟨e1,e2⟩|⟨p,q,e1,e2,hp,hq,_⟩
  ·have e3:¬0<=P s:=by omega
   cases b with
   |true=>
    have HE:Hid (z2V O P Q B (B i) k s true=some 0):=by
     show z2V O P Q B (B i) k s true=some 0;unfold z2V;rw[if_neg hk,if_neg e3,if_pos rfl]
    clear hk e3 h;go_enter Tryz.func266,Tryz.ntmps266;go_wp2_with fail;refine(HF _ (hx _)).mono ?_;rintro e w2 ⟨⟨p,q,rfl,hF⟩,hb⟩;obtain⟨rfl,rfl⟩:=hP.eq hF;have c4:w2.cell? ⟨w.heap.size,4,none⟩=some (.bool true):=cell_later hb (by simp[go_sem]);clear hF HF;rw[e1,e2];go_wp2;go_ret2;rw[HE.out];exact⟨rfl,(hx _).trans (hb.mono (by simp))⟩
   |false=>
    have HE:Hid (z2V O P Q B (B i) k s false=none):=by
     show z2V O P Q B (B i) k s false=none;unfold z2V;rw[if_neg hk,if_neg e3,if_neg (by decide)]
    clear hk e3 h;go_enter Tryz.func266,Tryz.ntmps266;go_wp2_with fail;refine(HF _ (hx _)).mono ?_;rintro e w2 ⟨⟨p,q,rfl,hF⟩,hb⟩;obtain⟨rfl,rfl⟩:=hP.eq hF;have c4:w2.cell? ⟨w.heap.size,4,none⟩=some (.bool false):=cell_later hb (by simp[go_sem]);clear hF HF;rw[e1,e2];go_wp2;go_ret2;rw[HE.out];exact⟨rfl,(hx _).trans (hb.mono (by simp))⟩
  ·have hp':p<n:=hp;have hq':q<(O p).nS:=hq;have HE:Hid (z2V O P Q B (B i) k s b=some (B p+(O p).sAt q)):=by
    show z2V O P Q B (B i) k s b=some (B p+(O p).sAt q);unfold z2V;rw[if_neg hk,if_pos (by omega),e1,e2];rfl
   have hBp:=h.inW p hp';have hSq:=((h.good p hp').syms q hq').2;have hWp:=(h.good p hp').nW;have hSp:=(h.good p hp').nS;rcases h.bases with h0|⟨bb,ob,rfl,hc⟩
   ·omega
   have h1:=h.objs;rcases h1 with h0|⟨bl,ol,rfl,hc1⟩
   ·omega
   have hH:=hc1 p hp';have hcp:=hc p hp';rcases hH.here.syms with h0|⟨bs,os,ha,hs⟩
   ·omega
   have hc2:=hH.c2;rw[ha]at hc2;have hsq:=(hs q hq').2.1;clear hk hc hc1 h hs hH;go_enter Tryz.func266,Tryz.ntmps266;go_wp2_with fail;refine(HF _ (hx _)).mono ?_;rintro e w2 ⟨⟨p2,q2,rfl,hF⟩,hb⟩;obtain⟨rfl,rfl⟩:=hP.eq hF;have hbw:=(hx (.cells #[.int .i64 x,.int .i64 k,.int .i64 d,.string s,.bool b] 98)).trans (hb.mono (by simp));replace hcp:=cell_later hbw hcp;replace hc2:=cell_later hbw hc2;replace hsq:=cell_later hbw hsq;clear hF HF hb;rw[e1,e2];clear e1 e2;go_wp2;go_quiet (fail);go_wp2;go_ret2;rw[HE.out];exact⟨rfl,below_drewN hbw _⟩
theorem whereG_in{w:World}{al ab:Option Addr}{n:Nat}{V:Nat->ObjV}{O:Nat->ObjF}{B:Nat->Int}{P Q:ByteArray->Int}{i:Nat}{k:Int}{s:ByteArray}{b:Bool}{p:Int}(h:PatIn w al n V O ab B)(hP:z5p (z1T n O) P Q)(hi:i<n)(e:z2V O P Q B (B i) k s b=some p):0<=p/\p<=300:=by
 unfold z2V at e;split at e
 ·injection e with e;have:=h.inW i hi;omega
 split at e
 ·injection e with e;rcases hP.shape s with⟨e1,e2⟩|⟨x,y,e1,e2,hx,hy,_⟩
  ·omega
  ·have hx':x<n:=hx;have hy':y<(O x).nS:=hy;have h1:=h.inW x hx';have h2:=((h.good x hx').syms y hy').2;have h3:=(h.good x hx').nW;rw[e1,e2]at e;simp only[Int.toNat_natCast]at e;omega
 split at e
 ·injection e with e;omega
 ·cases e
theorem isWordQ_any(n:Int)(w:World):Calls Tryz.prog 226 #[.int .i64 n] w fun e w'=>e=.returned (.bool (z0y n))/\w=w':=by
 by_cases h1:-2147483648<=n
 all_goals by_cases h2:n<=2147483647
 all_goals
  go_enter Tryz.func226,Tryz.ntmps226;go_wp2;go_ret;exact⟨z0w (by simp[z0y] <;> omega),rfl⟩
def hangE(r:Nat×Int):Value:=.tuple #[.int .i64 r.2,errV r.1]
theorem word_any(al ab:Option Addr)(n cl cb:Nat)(V:Nat->ObjV)(O:Nat->ObjF)(B:Nat->Int)(P Q:ByteArray->Int)(i:Nat)(x k d:Int)(s:ByteArray)(b:Bool)(w:World)(h:PatIn w al n V O ab B)(hP:z5p (z1T n O) P Q)(hi:i<n)(hx0:0<=x/\x<=40)(hd:-2147483648<=d/\d<=2147483647) :
 Calls Tryz.prog 246 #[.slice al n cl,.slice ab n cb,.int .i64 (i:Int),.agg #[.int .i64 x,.int .i64 k,.int .i64 d,.string s,.bool b]] w fun e w'=>e=.returned (hangE (z3a k (B i) x d (z2V O P Q B (B i) k s b)))/\Below w.heap.size w w':=by
 have hfew:=h.few;have hBi:=h.inW i hi;have hx:∀ob:Obj,Below w.heap.size w (w.alloc ob):=fun ob=>(Below.refl _ _).alloc (Nat.le_refl _) ob
 have HW:=fun(w':World) (hb:Below w.heap.size w w')=>where_any al ab n cl cb V O B P Q i x k d s b w' (h.later hb) hP hi
 have hin:=fun p=>whereG_in (k:=k) (s:=s) (b:=b) (p:=p) h hP hi
 rcases h.bases with h0|⟨bb,ob,rfl,hc⟩
 ·omega
 have hci:=hc i hi;clear h hP hc;cases hw:z2V O P Q B (B i) k s b with
 |none=>
  simp only[hw,whE,errV]at HW;clear hw hin;go_enter Tryz.func246,Tryz.ntmps246;go_wp2_with fail;refine(HW _ (hx _)).mono ?_;rintro e w2 ⟨rfl,hb⟩;clear HW;go_wp2;go_ret2;exact⟨rfl,(hx _).trans (hb.mono (by simp))⟩
 |some p=>
  have hp:=hin p hw;simp only[hw,whE]at HW;have HI:=isWordQ_any;clear hw hin;by_cases h3:k=3
  ·have h3':(k==3)=true:=by simp[h3]
   by_cases z:p+d-(B i+x) < -500∨500<p+d-(B i+x)
   ·have HE:Hid (z3a k (B i) x d (some p)=(7,0)):=by
     show z3a k (B i) x d (some p)=(7,0);simp only[z3a];rw[if_pos h3,if_pos z]
    clear h3;by_cases z1:p+d-(B i+x) < -500
    ·clear z;go_enter Tryz.func246,Tryz.ntmps246;go_wp2_with fail;refine(HW _ (hx _)).mono ?_;rintro e w2 ⟨rfl,hb⟩;have hbw:=(hx (.cells #[.int .i64 x,.int .i64 k,.int .i64 d,.string s,.bool b] 98)).trans (hb.mono (by simp));have c0:w2.cell? ⟨w.heap.size,0,none⟩=some (.int .i64 x):=cell_later hb (by simp[go_sem]);have c1:w2.cell? ⟨w.heap.size,1,none⟩=some (.int .i64 k):=cell_later hb (by simp[go_sem]);have c2:w2.cell? ⟨w.heap.size,2,none⟩=some (.int .i64 d):=cell_later hb (by simp[go_sem]);replace hci:=cell_later hbw hci;clear HW hb;go_wp2;go_quiet (fail);go_wp2;go_ret2;rw[HE.out];exact⟨rfl,below_drewN hbw _⟩
    ·have z2:500<p+d-(B i+x):=by omega
     clear z;go_enter Tryz.func246,Tryz.ntmps246;go_wp2_with fail;refine(HW _ (hx _)).mono ?_;rintro e w2 ⟨rfl,hb⟩;have hbw:=(hx (.cells #[.int .i64 x,.int .i64 k,.int .i64 d,.string s,.bool b] 98)).trans (hb.mono (by simp));have c0:w2.cell? ⟨w.heap.size,0,none⟩=some (.int .i64 x):=cell_later hb (by simp[go_sem]);have c1:w2.cell? ⟨w.heap.size,1,none⟩=some (.int .i64 k):=cell_later hb (by simp[go_sem]);have c2:w2.cell? ⟨w.heap.size,2,none⟩=some (.int .i64 d):=cell_later hb (by simp[go_sem]);replace hci:=cell_later hbw hci;clear HW hb;go_wp2;go_quiet (fail);go_wp2;go_ret2;rw[HE.out];exact⟨rfl,below_drewN hbw _⟩
   ·have HE:Hid (z3a k (B i) x d (some p)=(0,p+d-(B i+x))):=by
     show z3a k (B i) x d (some p)=(0,p+d-(B i+x));simp only[z3a];rw[if_pos h3,if_neg z]
    have HI2:=fun(w:World)=>HI (p+d-(B i+x)) w
    have hwd:z0y (p+d-(B i+x))=true:=by simp[z0y];omega
    rw[hwd]at HI2;have z1:¬p+d-(B i+x) < -500:=by omega
    have z2:¬500<p+d-(B i+x):=by omega
    clear h3 z HI hwd;go_enter Tryz.func246,Tryz.ntmps246;go_wp2_with fail;refine(HW _ (hx _)).mono ?_;rintro e w2 ⟨rfl,hb⟩;have hbw:=(hx (.cells #[.int .i64 x,.int .i64 k,.int .i64 d,.string s,.bool b] 98)).trans (hb.mono (by simp));have c0:w2.cell? ⟨w.heap.size,0,none⟩=some (.int .i64 x):=cell_later hb (by simp[go_sem]);have c1:w2.cell? ⟨w.heap.size,1,none⟩=some (.int .i64 k):=cell_later hb (by simp[go_sem]);have c2:w2.cell? ⟨w.heap.size,2,none⟩=some (.int .i64 d):=cell_later hb (by simp[go_sem]);replace hci:=cell_later hbw hci;clear HW hb;go_wp2;go_quiet (fail);go_wp2_with fail;refine(HI2 _).mono ?_;rintro e w3 ⟨rfl,rfl⟩;go_wp2;go_ret2;rw[HE.out];exact⟨rfl,below_drewN hbw _⟩
  ·have h3':(k==3)=false:=by rw[beq_eq_false_iff_ne];exact h3
   have HI2:=fun(w:World)=>HI (p+d) w
   cases hwd:z0y (p+d)with
   |true=>
    have HE:Hid (z3a k (B i) x d (some p)=(0,p+d)):=by
     show z3a k (B i) x d (some p)=(0,p+d);simp only[z3a];rw[if_neg h3,if_pos hwd]
    rw[hwd]at HI2;clear h3 HI hwd;go_enter Tryz.func246,Tryz.ntmps246;go_wp2_with fail;refine(HW _ (hx _)).mono ?_;rintro e w2 ⟨rfl,hb⟩;have hbw:=(hx (.cells #[.int .i64 x,.int .i64 k,.int .i64 d,.string s,.bool b] 98)).trans (hb.mono (by simp));have c1:w2.cell? ⟨w.heap.size,1,none⟩=some (.int .i64 k):=cell_later hb (by simp[go_sem]);have c2:w2.cell? ⟨w.heap.size,2,none⟩=some (.int .i64 d):=cell_later hb (by simp[go_sem]);clear HW hb hci;go_wp2_with fail;refine(HI2 _).mono ?_;rintro e w3 ⟨rfl,rfl⟩;go_wp2;go_ret2;rw[HE.out];exact⟨rfl,hbw⟩
   |false=>
    have HE:Hid (z3a k (B i) x d (some p)=(7,0)):=by
     show z3a k (B i) x d (some p)=(7,0);simp only[z3a];rw[if_neg h3,if_neg (by simp[hwd])]
    rw[hwd]at HI2;clear h3 HI hwd;go_enter Tryz.func246,Tryz.ntmps246;go_wp2_with fail;refine(HW _ (hx _)).mono ?_;rintro e w2 ⟨rfl,hb⟩;have hbw:=(hx (.cells #[.int .i64 x,.int .i64 k,.int .i64 d,.string s,.bool b] 98)).trans (hb.mono (by simp));have c1:w2.cell? ⟨w.heap.size,1,none⟩=some (.int .i64 k):=cell_later hb (by simp[go_sem]);have c2:w2.cell? ⟨w.heap.size,2,none⟩=some (.int .i64 d):=cell_later hb (by simp[go_sem]);clear HW hb hci;go_wp2_with fail;refine(HI2 _).mono ?_;rintro e w3 ⟨rfl,rfl⟩;go_wp2;go_ret2;rw[HE.out];exact⟨rfl,hbw⟩
theorem checkBases_any(B:Nat->Int)(a:Option Addr)(nb c n:Nat)(w:World)(hn:nb<=maxLen)(hr:z1z w a nb fun i=>.int .i64 (B i)) :
 Calls Tryz.prog 245 #[.slice a nb c,.int .i64 (n:Int)] w fun e w'=>e=.returned (errV (if nb≠n then 3 else if outB B nb=true then 1 else 0))/\w'=w:=by
 unfold maxLen at hn;generalize hF:(if nb≠n then 3 else if outB B nb=true then 1 else 0)=F;by_cases hne:nb=n
 ·rw[if_neg (by simp[hne])]at hF;have HF:Hid ((if z0H (fun i=>decide (B i<0∨256<B i)) nb=true then 1 else 0)=F):=hF;have h1:((nb:Int) != (n:Int))=false:=by rw[bne_eq_false_iff_eq];omega
  clear hF hne;go_enter Tryz.func245,Tryz.ntmps245;go_wp2;go_loop [14] (fun x=>∃k:Nat,k<=nb/\x=.int .i64 k/\Hid (z0H (fun i=>decide (B i<0∨256<B i)) k=false)) (fun x=>nb-(intOf x).toNat)
  case atStart=>exact⟨0,Nat.zero_le _,rfl,rfl⟩
  case round=>
   obtain⟨k,hk,rfl,HK⟩:=hrel;by_cases hlt:k<nb
   ·rcases hr with h0|⟨b,o,rfl,hc⟩
    ·omega
    have hck:=hc k hlt;clear hc;by_cases hz:B k<0∨256<B k
    ·have HE:Hid (F=1):=by
      show F=1;rw[<-HF.out,if_pos (z1D hlt (decide_eq_true hz))]
     by_cases hz1:B k<0
     ·clear hz;go_wp2;go_ret;rw[HE.out];exact⟨rfl,rfl⟩
     ·have hz2:256<B k:=by omega
      clear hz;go_wp2;go_ret;rw[HE.out];exact⟨rfl,rfl⟩
    ·have HE:Hid (z0H (fun i=>decide (B i<0∨256<B i)) (k+1)=false):=z2U HK.out (decide_eq_false hz);have hz1:¬B k<0:=by omega
     have hz2:¬256<B k:=by omega
     clear hz;go_wp2;go_round
     case rel=>exact⟨k+1,by omega,by go_num,HE⟩
     case measure=>simp[intOf];omega
   ·have e:k=nb:=by omega
    have HE:Hid (F=0):=by
     show F=0;rw[<-HF.out,if_neg];rw[<-e,HK.out];decide
    go_wp2;go_ret;rw[HE.out];exact⟨rfl,rfl⟩
 ·rw[if_pos hne]at hF;subst hF;have h1:((nb:Int) != (n:Int))=true:=by rw[bne_iff_ne];omega
  clear hne;go_enter Tryz.func245,Tryz.ntmps245;go_wp2;go_ret;exact⟨rfl,rfl⟩
end Go.Proofs.YtbcpcbonlhlhpaaGreatDoor
namespace Go.Proofs.YtbcpcbonlhlhpaaGreatDoor
open Go.RowKit
def patC(x:Nat×Int×Int):List Value:=[.int .i64 (x.1:Int),.int .i64 x.2.1,.int .i64 x.2.2]
def z3x (l:List (Nat×Int×Int)):List Value:=l.flatMap patC
theorem patsC_snoc(l:List (Nat×Int×Int))(x:Nat×Int×Int):z3x l++[.int .i64 (x.1:Int),.int .i64 x.2.1,.int .i64 x.2.2]=z3x (l++[x]):=by simp[z3x,patC]
theorem growPat{B:Nat}{w:World}{v:Value}{l:List (Nat×Int×Int)}(x y z:Int)(hB:B<=w.heap.size)(h:w.ownsRow B 114 3 v l.length (z3x l))(hn:l.length<1000000) :
 ∃v' W,(Builtin.append_ #[69,69] 69 #[v,.slice (some ⟨w.heap.size,0,none⟩) 1 1]).run Tryz.prog (w.alloc (.cells #[.int .i64 x,.int .i64 y,.int .i64 z] 114))=.ok v' W/\Grown B 114 3 (w.alloc (.cells #[.int .i64 x,.int .i64 y,.int .i64 z] 114)) v (l.length+1) (z3x l++[.int .i64 x,.int .i64 y,.int .i64 z]) v' W:=
 z0J 69 114 3 24 (.agg #[.int .i64 0,.int .i64 0,.int .i64 0]) (by kernel_rfl) (by kernel_rfl) (by rfl) (by decide) B _ v l.length _ (h.alloc _) (some ⟨w.heap.size,0,none⟩) 1 1 [.int .i64 x,.int .i64 y,.int .i64 z] rfl
  (.inr ⟨_,_,rfl,fun j u hj=>by
    match j,hj with
    |0,hj=>simp at hj;subst hj;simp[go_sem]
    |1,hj=>simp at hj;subst hj;simp[go_sem]
    |2,hj=>simp at hj;subst hj;simp[go_sem]
    |j+3,hj=>simp at hj⟩) (fun u hu=>by simp at hu;rcases hu with rfl|rfl|rfl <;> rfl) (by simp;omega) (by omega) (by decide)
theorem errV_pos'{f:Nat}(h:f≠0):∃n:Int,errV f=.iface 43 (.int .i64 n):=by
 cases f with
 |zero=>exact absurd rfl h
 |succ f=>exact⟨_,rfl⟩
inductive AllEnd (w:World) (B:Nat) (l:List (Nat×Int×Int)) (F:Nat):Ending->Prop
 |bad (hf:F≠0):AllEnd w B l F (.returned (.tuple #[.slice none 0 0,errV F]))
 |ok (hf:F=0) (v:Value) (hv:w.ownsRow B 114 3 v l.length (z3x l)):AllEnd w B l F (.returned (.tuple #[v,.nilIface]))
theorem outB_no{B:Nat->Int}{n:Nat}(h:¬outB B n=true):∀i,i<n->0<=B i/\B i<=256:=fun i hi=>by
 by_cases e:B i<0∨256<B i
 ·exact absurd (z1D hi (decide_eq_true e)) h
 ·omega
theorem all_any(al ab:Option Addr)(n cl nb cb:Nat)(V:Nat->ObjV)(O:Nat->ObjF)(B:Nat->Int)(P Q:ByteArray->Int)(w:World)(hn:n<=1000)(hnb:nb<=maxLen)(hr:z3U w al n V O)(hrb:z1z w ab nb fun i=>.int .i64 (B i))(hg:∀i,i<n->z3J (O i))(hP:z5p (z1T n O) P Q) :
 Calls Tryz.prog 202 #[.slice al n cl,.slice ab nb cb] w fun e w'=>AllEnd w' w.heap.size (z0A O P Q B n) (allF n O P Q nb B) e/\Below w.heap.size w w':=by
 have HC:=checkBases_any B ab nb cb n w hnb hrb;generalize hF:allF n O P Q nb B=F;unfold allF at hF;by_cases h1:nb=n
 ·subst h1;rw[if_neg (by simp)]at hF;rw[if_neg (by simp)]at HC;by_cases h2:outB B nb=true
  ·rw[if_pos h2]at hF;subst hF;rw[if_pos h2]at HC;simp only[errV]at HC;clear h2 hr hrb hP hg;go_enter Tryz.func202,Tryz.ntmps202;go_wp2_with fail;refine HC.mono ?_;rintro e w1 ⟨rfl,rfl⟩;clear HC;go_wp2;go_ret2;exact⟨.bad (by decide),Below.refl _ _⟩
  ·rw[if_neg h2]at hF;rw[if_neg h2]at HC;simp only[errV]at HC;have hin:PatIn w al nb V O ab B:=⟨hr,hrb,hg,outB_no h2,hn⟩;have HF:Hid (tiesF O P Q B nb=F):=hF;clear hF h2 hr hrb hnb;go_enter Tryz.func202,Tryz.ntmps202;go_wp2_with fail;refine HC.mono ?_;rintro e w1 ⟨rfl,hw1⟩;replace hw1:=hw1.symm;subst hw1;clear HC;go_wp2;go_loopw [7,23] (fun x z wr=>∃(i:Nat) (v:Value),i<=nb/\z=.int .i64 i/\x=v/\wr.ownsRow w.heap.size 114 3 v (z0A O P Q B i).length (z3x (z0A O P Q B i))/\Hid (tiesF O P Q B i=0)/\Below w.heap.size w wr) (fun _ z _=>nb-(intOf z).toNat)
   case atStart=>exact⟨0,.slice none 0 0,Nat.zero_le _,rfl,rfl,World.ownsRow_nil _ _ _ _,rfl,Below.refl _ _⟩
   case round=>
    obtain⟨i,v,hi,rfl,rfl,ho,HT,hb⟩:=hrel;by_cases hlt:i<nb
    ·have hgi:=hg i hlt;have hnT:=hgi.nT;have hlen:=z6H P Q B (i:=i) (fun j hj=>(hg j (by omega)).nT);have hin1:=hin.objs;rcases hin1 with h0|⟨bk,o,rfl,hc⟩
     ·omega
     have H:=(hc i hlt).later hb;have c0:=H.c0;have c1:=H.c1;have c2:=H.c2;have c3:=H.c3;have hti:=(hc i hlt).here.ties;have hx:∀ob:Obj,Below w.heap.size w (wr.alloc ob):=fun ob=>hb.alloc hb.size ob
     clear H hc;go_wp2;go_loopw [7,31] (fun x z wr=>∃(k:Nat) (v:Value),k<=(O i).nT/\z=.int .i64 k/\x=v/\wr.ownsRow w.heap.size 114 3 v (z0A O P Q B i++z1E O P Q B i k).length (z3x (z0A O P Q B i++z1E O P Q B i k))/\Hid (z0a (fun k=>(tieW O P Q B i k).1) k=0)/\Below w.heap.size w wr) (fun _ z _=>(O i).nT-(intOf z).toNat)
     case atStart=>exact⟨0,_,Nat.zero_le _,rfl,rfl,by simpa[z1E]using ho.alloc _,rfl,hx _⟩
     case round=>
      clear ho c0 c1 c2 c3 hx hb;obtain⟨k,v,hk,rfl,rfl,ho,HK,hb⟩:=hrel;by_cases hlk:k<(O i).nT
      ·have htk:=hgi.ties k hlk;rcases hti with h0|⟨b2,o2,ha2,hs2⟩
       ·omega
       obtain⟨d0,d1,d2,d3,d4⟩:=hs2 k hlk;replace d0:=cell_later hb d0;replace d1:=cell_later hb d1;replace d2:=cell_later hb d2;replace d3:=cell_later hb d3;replace d4:=cell_later hb d4;rw[ha2];clear hs2;have hx:∀ob:Obj,Below w.heap.size w (wr.alloc ob):=fun ob=>hb.alloc hb.size ob
       have HW:=fun(w':World) (hb:Below w.heap.size w w')=>word_any (some ⟨bk,o,none⟩) ab nb cl cb V O B P Q i ((O i).tAt k) ((O i).tKind k) ((O i).tAdd k) ((O i).tName k) ((O i).tWeak k) w' (hin.later hb) hP hlt (by have:=hgi.nW;omega) (by omega)
       have hTW:z3a ((O i).tKind k) (B i) ((O i).tAt k) ((O i).tAdd k) (z2V O P Q B (B i) ((O i).tKind k) ((O i).tName k) ((O i).tWeak k))=tieW O P Q B i k:=rfl;rw[hTW]at HW;clear hTW htk;have hln:=patsOf_len O P Q B i k;by_cases hf:(tieW O P Q B i k).1=0
       ·have HE:Hid (z0a (fun k=>(tieW O P Q B i k).1) (k+1)=0):=z0L HK.out hf;have hrun:∀v,hangE (tieW O P Q B i k)=v->v=.tuple #[.int .i64 (tieW O P Q B i k).2,.nilIface]:=fun v e=>by rw[<-e];simp[hangE,hf,errV]
        simp only[hrun _ rfl]at HW;clear hrun hf;have hb2':=fun ob=>(hx ob).size
        go_wp2_with fail;refine(HW _ (hx _)).mono ?_;rintro e w2 ⟨rfl,hb2⟩;have e0:w2.cell? ⟨wr.heap.size,0,none⟩=some (.int .i64 ((O i).tAt k)):=cell_later hb2 (by simp[go_sem]);have ho2:=z0e (ho.alloc (.cells #[.int .i64 ((O i).tAt k),.int .i64 ((O i).tKind k),.int .i64 ((O i).tAdd k),.string ((O i).tName k),.bool ((O i).tWeak k)] 98)) hb2;have hb3:=(hx (.cells #[.int .i64 ((O i).tAt k),.int .i64 ((O i).tKind k),.int .i64 ((O i).tAdd k),.string ((O i).tName k),.bool ((O i).tWeak k)] 98)).trans (hb2.mono (by simp;have:=hb.size;omega));obtain⟨v1,W1,happ1,hG1⟩:=growPat (i:Int) ((O i).tAt k) (tieW O P Q B i k).2 hb3.size ho2 (by simp only[List.length_append];omega);have ho3:=hG1.own;rw[patsC_snoc (z0A O P Q B i++z1E O P Q B i k) (i,(O i).tAt k,(tieW O P Q B i k).2)]at ho3;have ho4:W1.ownsRow w.heap.size 114 3 v1 (z0A O P Q B i++z1E O P Q B i (k+1)).length (z3x (z0A O P Q B i++z1E O P Q B i (k+1))):=by
         have e:z0A O P Q B i++z1E O P Q B i (k+1)=z0A O P Q B i++z1E O P Q B i k++[(i,(O i).tAt k,(tieW O P Q B i k).2)]:=by simp[z1E]
         rw[e,List.length_append (bs:=[_]),List.length_singleton];exact ho3
        have hb4:Below w.heap.size w W1:=(hb3.alloc hb3.size _).trans hG1.below;clear HW hb2 ho2 hb3 hG1 ho ho3 hx hb2';go_wp2_with (at_builtin;refine z0b rfl (.tmp 46) (.tmp 52) 69 rfl u7 (.slice (some ⟨w2.heap.size,0,none⟩) 1 1) _ rfl rfl happ1 ?_);go_roundw
        case rel=>exact⟨k+1,v1,by omega,by go_num,rfl,ho4,HE,hb4⟩
        case measure=>simp[intOf];omega
       ·have HE:Hid (F=(tieW O P Q B i k).1):=by
         show F=_;rw[<-HF.out];have e1:z0a (fun k=>(tieW O P Q B i k).1) (O i).nT=(tieW O P Q B i k).1:=z0E hlk HK.out hf;have e2:=z0E (g:=fun i=>z0a (fun k=>(tieW O P Q B i k).1) (O i).nT) hlt HT.out (by rw[e1];exact hf);exact e2.trans e1
        have H0:Hid ((tieW O P Q B i k).1≠0):=hf;obtain⟨z,hz⟩:=errV_pos' hf;have hrun:hangE (tieW O P Q B i k)=.tuple #[.int .i64 (tieW O P Q B i k).2,.iface 43 (.int .i64 z)]:=by simp[hangE,hz]
        rw[hrun]at HW;have HZ:Hid (errV F=.iface 43 (.int .i64 z)):=by
         show errV F=_;rw[HE.out];exact hz
        clear hrun hf hz;go_wp2_with fail;refine(HW _ (hx _)).mono ?_;rintro e w2 ⟨rfl,hb2⟩;have hb3:=(hx (.cells #[.int .i64 ((O i).tAt k),.int .i64 ((O i).tKind k),.int .i64 ((O i).tAdd k),.string ((O i).tName k),.bool ((O i).tWeak k)] 98)).trans (hb2.mono (by simp;have:=hb.size;omega));clear HW hb2 hx hb;go_wp2;go_ret2;rw[<-HZ.out];exact⟨.bad (by rw[HE.out];exact H0.out),hb3⟩
      ·have e:k=(O i).nT:=by omega
       subst e;have HE:Hid (tiesF O P Q B (i+1)=0):=z0L HT.out HK.out;have ho2:wr.ownsRow w.heap.size 114 3 u7 (z0A O P Q B (i+1)).length (z3x (z0A O P Q B (i+1))):=ho;clear ho;go_wp2;go_roundw
       case rel=>exact⟨i+1,_,by omega,by go_num,rfl,ho2,HE,hb⟩
       case measure=>simp[intOf];omega
    ·have e:i=nb:=by omega
     subst e;go_wp2;go_ret2;exact⟨.ok (HF.out.symm.trans HT.out) _ ho,hb⟩
 ·rw[if_pos h1]at hF;subst hF;rw[if_pos h1]at HC;simp only[errV]at HC;clear h1 hr hrb hP hg;go_enter Tryz.func202,Tryz.ntmps202;go_wp2_with fail;refine HC.mono ?_;rintro e w1 ⟨rfl,rfl⟩;clear HC;go_wp2;go_ret2;exact⟨.bad (by decide),Below.refl _ _⟩
end Go.Proofs.YtbcpcbonlhlhpaaGreatDoor
namespace Go.Proofs.YtbcpcbonlhlhpaaGreatDoor
open Go.RowKit
def z2P (L:z3S)(s:ByteArray)(p i k:Nat):Prop:=
 (p=0/\∀a b,Hit L s a b->Bef a b i k->L.wk a b=true)∨(p=1/\(∀a b,Hit L s a b->L.wk a b=true)/\∀a b,Hit L s a b->¬Bef a b i k)
theorem z2P.next{L:z3S}{s:ByteArray}{p i:Nat}(h:z2P L s p i (L.m i)):z2P L s p (i+1) 0:=by
 have key:∀a b,Hit L s a b->Bef a b (i+1) 0->Bef a b i (L.m i):=fun a b hh e=>by
  have:=hh.lk;by_cases z:a=i
  ·subst z;unfold Bef at *;omega
  ·unfold Bef at *;omega
 rcases h with⟨h0,h⟩|⟨h0,h1,h⟩
 ·exact .inl ⟨h0,fun a b hh e=>h a b hh (key a b hh e)⟩
 ·exact .inr ⟨h0,h1,fun a b hh e=>h a b hh (key a b hh e)⟩
theorem z2P.step{L:z3S}{s:ByteArray}{p i k:Nat}(h:z2P L s p i k)(hn:Hit L s i k->p=0/\L.wk i k=true):z2P L s p i (k+1):=by
 have key:∀a b,Hit L s a b->Bef a b i (k+1)->Bef a b i k∨(a=i/\b=k):=fun a b hh e=>by unfold Bef at *;omega
 rcases h with⟨h0,h⟩|⟨h0,h1,h⟩
 ·refine .inl ⟨h0,fun a b hh e=>?_⟩;rcases key a b hh e with e|⟨rfl,rfl⟩
  ·exact h a b hh e
  ·exact(hn hh).2
 ·refine .inr ⟨h0,h1,fun a b hh e=>?_⟩;rcases key a b hh e with e|⟨rfl,rfl⟩
  ·exact h a b hh e
  ·have:=(hn hh).1;omega
theorem z2P.found{L:z3S}{s:ByteArray}{p i k:Nat}(h:z2P L s p i k)(hh:Hit L s i k)(hw:L.wk i k=decide (p=1)):IsFound L s i k:=by
 rcases h with⟨rfl,h⟩|⟨rfl,h1,h⟩
 ·exact .strong i k hh (by simpa using hw) h
 ·exact .weak i k hh h h1
theorem z2P.again{L:z3S}{s:ByteArray}(h:z2P L s 0 L.n 0):z2P L s 1 0 0:=by
 rcases h with⟨_,h⟩|⟨h0,_⟩
 ·exact .inr ⟨rfl,fun a b hh=>h a b hh (.inl hh.li),fun a b _ e=>by unfold Bef at e;omega⟩
 ·cases h0
theorem z2P.none{L:z3S}{s:ByteArray}(h:z2P L s 1 L.n 0):IsFound L s (-1) (-1):=by
 rcases h with⟨h0,_⟩|⟨_,_,h⟩
 ·cases h0
 ·exact .none fun a b hh=>h a b hh (.inl hh.li)
theorem refFound_any(a:Option Addr)(n c:Nat)(V:Nat->ObjV)(O:Nat->ObjF)(s:ByteArray)(w:World)(hn:n<=1000000000)(hm:∀i,i<n->(O i).nS<=1000000000)(hr:z3U w a n V O) :
 Calls Tryz.prog 83 #[.slice a n c,.string s] w fun e w'=>FoundEnd (z1T n O) s e/\Below w.heap.size w w':=by
 go_enter Tryz.func83,Tryz.ntmps83;go_wp2;go_loopw [6] (fun z wr=>∃p:Nat,z=.int .i64 p/\p<=2/\Hid (p<2->z2P (z1T n O) s p 0 0)/\Hid (p=2->IsFound (z1T n O) s (-1) (-1))/\Below w.heap.size w wr) (fun z _=>2-(intOf z).toNat)
 case atStart=>exact⟨0,rfl,by omega,fun _=>.inl ⟨rfl,fun a b _ e=>by unfold Bef at e;omega⟩,fun e=>(by cases e),Below.refl _ _⟩
 case round=>
  obtain⟨p,rfl,hp,H1,H2,hb⟩:=hrel;by_cases hlp:p<2
  ·have HP:Hid (z2P (z1T n O) s p 0 0):=H1.out hlp;clear H1 H2;go_wp2;go_loopw [7] (fun z wr=>∃i:Nat,z=.int .i64 i/\i<=n/\Hid (z2P (z1T n O) s p i 0)/\Below w.heap.size w wr) (fun z _=>n-(intOf z).toNat)
   case atStart=>exact⟨0,rfl,Nat.zero_le _,HP,hb⟩
   case round=>
    clear HP hb;obtain⟨i,rfl,hi,HP,hb⟩:=hrel;by_cases hlt:i<n
    ·have hr':=hr;rcases hr' with h0|⟨bk,o,rfl,hc⟩
     ·omega
     have hmi:=hm i hlt;go_wp2;go_loopw [8] (fun z wr=>∃k:Nat,z=.int .i64 k/\k<=(O i).nS/\Hid (z2P (z1T n O) s p i k)/\Below w.heap.size w wr) (fun z _=>(O i).nS-(intOf z).toNat)
     case atStart=>exact⟨0,rfl,Nat.zero_le _,HP,hb⟩
     case round=>
      clear HP hb;obtain⟨k,rfl,hk,HP,hb⟩:=hrel;have H:=(hc i hlt).later hb;have c2:=H.c2;by_cases hlk:k<(O i).nS
      ·rcases H.here.syms with h0|⟨b2,o2,ha2,hs2⟩
       ·omega
       rw[ha2]at c2;obtain⟨d0,d1,d2⟩:=hs2 k hlk;have hx:∀ob:Obj,Below w.heap.size w (wr.alloc ob):=fun ob=>hb.alloc hb.size ob
       clear hs2 H hc;by_cases hnm:(O i).sName k=s
       ·have hh:Hit (z1T n O) s i k:=⟨hlt,hlk,hnm⟩;have ht:(((O i).sName k).toList==s.toList)=true:=by rw[z0z,decide_eq_true hnm]
        by_cases hwk:(O i).sWeak k=decide (p=1)
        ·have HF:Hid (IsFound (z1T n O) s i k):=HP.out.found hh hwk;have hw2:((O i).sWeak k==((p:Int)==1))=true:=by
          rw[hwk,beq_iff_eq,Bool.eq_iff_iff];simp;omega
         clear hnm hh hwk HP;go_wp2;go_ret2;exact⟨⟨i,k,rfl,HF.out⟩,hx _⟩
        ·have HS:Hid (z2P (z1T n O) s p i (k+1)):=HP.out.step fun _=>by
          rcases HP.out with⟨h0,_⟩|⟨h0,h1,_⟩
          ·refine⟨h0,?_⟩;subst h0;show(O i).sWeak k=true;simpa using hwk
          ·exfalso;subst h0;exact hwk (by have:=h1 i k hh;simpa using(show(O i).sWeak k=true from this))
         have hw2:((O i).sWeak k==((p:Int)==1))=false:=by
          rw[beq_eq_false_iff_ne];intro e;apply hwk;rw[e,Bool.eq_iff_iff];simp;omega
         clear hnm hh hwk HP;go_wp2;go_roundw
         case rel=>exact⟨k+1,by go_num,by omega,HS,hx _⟩
         case measure=>simp[intOf];omega
       ·have ht:(((O i).sName k).toList==s.toList)=false:=by rw[z0z,decide_eq_false hnm]
        have HS:Hid (z2P (z1T n O) s p i (k+1)):=HP.out.step fun hh=>absurd hh.eq hnm
        clear hnm HP;go_wp2;go_roundw
        case rel=>exact⟨k+1,by go_num,by omega,HS,hx _⟩
        case measure=>simp[intOf];omega
      ·have e:k=(O i).nS:=by omega
       subst e;have HN:Hid (z2P (z1T n O) s p (i+1) 0):=HP.out.next
       clear H hc;go_wp2;go_roundw
       case rel=>exact⟨i+1,by go_num,by omega,HN,hb⟩
       case measure=>simp[intOf];omega
    ·have e:i=n:=by omega
     subst e;have E1:Hid (p+1<2->z2P (z1T i O) s (p+1) 0 0):=fun h=>by
      have:p=0:=by omega
      subst this;exact z2P.again HP.out
     have E2:Hid (p+1=2->IsFound (z1T i O) s (-1) (-1)):=fun h=>by
      have:p=1:=by omega
      subst this;exact z2P.none HP.out
     clear HP;go_wp2;go_roundw
     case rel=>exact⟨p+1,by go_num,by omega,E1,E2,hb⟩
     case measure=>simp[intOf];omega
  ·have HF:=H2.out (by omega);clear H1 H2;go_wp2;go_ret2;exact⟨⟨_,_,rfl,HF⟩,hb⟩
end Go.Proofs.YtbcpcbonlhlhpaaGreatDoor
