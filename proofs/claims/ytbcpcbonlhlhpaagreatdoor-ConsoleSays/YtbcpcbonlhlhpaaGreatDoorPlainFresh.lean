/- What fault, done, joined and partsText of the document -/
import Derived.Test.YtbcpcbonlhlhpaaGreatDoorConsTell
import Derived.Lib.ItoaMem
import Derived.BigCall
import Derived.BigGuard
set_option maxRecDepth 100000
set_option maxHeartbeats 8000000
namespace Go.Proofs.YtbcpcbonlhlhpaaGreatDoor
section
open Go.RowKit Go.Maps
theorem z1p (F:Nat)(w:World)(h:F<=1000) :
 Calls Tryz.prog 11 #[.int .i64 (F:Int)] w fun e w'=>(∃t:ByteArray,e=.returned (.string t)/\t.data.toList=z1h F)/\Below w.heap.size w w':=by
 have HD:=z0U (F:Int) (by omega) (by omega) w;go_enter Tryz.func11,Tryz.ntmps11;go_wp2_with fail;refine(show Calls _ _ _ _ _ from HD).mono ?_;rintro e w1 ⟨⟨t,rfl,ht⟩,hb⟩;clear HD;have hsz:t.size<=20:=by rw[z1W ht];exact z4J (by omega)
 have HT:Hid (((⟨#[101,114,114,111,114,32]⟩:ByteArray)++t).data.toList=z1h F):=by
  show((⟨#[101,114,114,111,114,32]⟩:ByteArray)++t).data.toList=[101,114,114,111,114,32]++Lib.itoa (F:Int);rw[<-ht];simp
 clear ht;go_wp2;go_ret;exact⟨⟨_,rfl,HT.out⟩,hb⟩
theorem z5f (F:Nat)(w:World)(h:F<=1000) :
 Calls Tryz.prog 18 #[.int .i64 (F:Int)] w fun e w'=>(∃t:ByteArray,e=.returned (.string t)/\t.data.toList=z5z F)/\Below w.heap.size w w':=by
 by_cases h0:F=0
 ·subst h0;go_enter Tryz.func18,Tryz.ntmps18;go_wp2;go_ret;exact⟨⟨_,rfl,rfl⟩,Below.refl _ _⟩
 ·have HF:=z1p F w h;have hp:(0:Int)<(F:Int):=by omega
  have e:z5z F=z1h F:=by unfold z5z;rw[if_neg h0]
  rw[e];go_enter Tryz.func18,Tryz.ntmps18;go_wp2_with fail;refine(show Calls _ _ _ _ _ from HF).mono ?_;rintro e w1 ⟨⟨t,rfl,ht⟩,hb⟩;clear HF;go_wp2;go_ret;exact⟨⟨_,rfl,ht⟩,hb⟩
def z5q (l:List (List UInt8))(sep:List UInt8):List UInt8:=if l=[]then [45]else Lib.join l sep
theorem joined_any(B:Nat)(a:Option Addr)(n c:Nat)(l:List (List UInt8))(sep:ByteArray)(w:World)(h:w.ownsRow B 9 1 (.slice a n c) n (z1A l))(hn:n<=60)(hl:∀x∈l,x.length<=1000)(hs:sep.size<=2) :
 Calls Tryz.prog 13 #[.slice a n c,.string sep] w fun e w'=>(∃t:ByteArray,e=.returned (.string t)/\t.data.toList=z5q l sep.data.toList)/\w'=w:=by
 have hlen:l.length=n:=by have:=h.1;simpa[z1A]using this
 have hsl:sep.data.toList.length<=2:=by simpa using hs
 have HSM:Hid (∀i,(Lib.join (l.take i) sep.data.toList).length<=61000):=fun i=>by
  have h1:=join_most sep.data.toList 1000 (l.take i) fun x hx=>hl x (List.mem_of_mem_take hx)
  have h2:(l.take i).length*(1000+sep.data.toList.length)<=60*1002:=Nat.mul_le_mul (by rw[List.length_take];omega) (by omega);show(Lib.join (l.take i) sep.data.toList).length<=61000;omega
 have HAT:Hid (∀i (hi:i<n),∃s:ByteArray,s.size<=1000/\(∃g,a=some ⟨g,0,none⟩/\w.cell? ⟨g,i,none⟩=some (.string s))/\l.take (i+1)=l.take i++[s.data.toList]):=fun i hi=>by
  have hi':i<l.length:=by omega
  obtain⟨g,hg,_,hcl⟩:=z0K h (j:=i) (u:=.string ⟨(l[i]).toArray⟩) (by simp[z1A,hi']);refine⟨⟨(l[i]).toArray⟩,?_,⟨g,hg,hcl⟩,?_⟩
  ·have:=hl l[i] (List.getElem_mem hi');show(l[i]).toArray.size<=1000;simpa using this
  ·rw[List.take_add_one,List.getElem?_eq_getElem hi'];simp
 have HEND:Hid (l.take n=l):=by
  show l.take n=l;rw[<-hlen,List.take_length]
 have HNE:Hid (n≠0->l ≠ []):=fun h0 e=>h0 (by rw[<-hlen,e];rfl)
 have HE0:Hid (n=0->l=[]):=fun h0=>List.eq_nil_of_length_eq_zero (by omega)
 clear h hl hlen;go_enter Tryz.func13,Tryz.ntmps13;go_wp2;go_loopw [5,6] (fun y5 y6 wr=>∃(i:Nat) (t:ByteArray),i<=n/\y6=.int .i64 i/\y5=.string t/\Hid (t.data.toList=Lib.join (l.take i) sep.data.toList)/\wr=w) (fun _ y6 _=>n-(intOf y6).toNat)
 case atStart=>exact⟨0,⟨#[]⟩,Nat.zero_le _,rfl,rfl,rfl,rfl⟩
 case round=>
  obtain⟨i,t,hi,rfl,rfl,HT,hw⟩:=hrel;replace hw:=hw.symm;subst hw;have zt:t.size<=61000:=by rw[z1W HT.out];exact HSM.out i
  by_cases hlt:i<n
  ·obtain⟨s,zs,⟨g,ha,x0⟩,htk⟩:=HAT.out i hlt;subst ha;have hi0:(0:Int)<=(i:Int):=by omega
   have hi1:(i:Int)<(n:Int):=by omega
   by_cases hz:i=0
   ·subst hz;have HN:Hid ((t++s).data.toList=Lib.join (l.take (0+1)) sep.data.toList):=by
     have e:t.data.toList=[]:=HT.out;show(t++s).data.toList=_;rw[htk];simp[e,Lib.join_one]
    clear HT htk;go_wp2;go_roundw
    case rel=>exact⟨0+1,_,by omega,by go_num,rfl,HN,trivial⟩
    case measure=>simp[intOf];omega
   ·have hpos:(0:Int)<(i:Int):=by omega
    have HN:Hid ((t++sep++s).data.toList=Lib.join (l.take (i+1)) sep.data.toList):=by
     show(t++sep++s).data.toList=_;rw[htk,join_snoc _ _ _ (fun e=>by
      have:=congrArg List.length htk;rw[e]at this;have h3:(l.take i).length=0:=by rw[e];rfl
      have h4:(l.take (i+1)).length=1:=by simpa using this
      rw[List.length_take]at h3 h4;omega),<-HT.out]
     simp
    clear HT htk;go_wp2;go_roundw
    case rel=>exact⟨i+1,_,by omega,by go_num,rfl,HN,trivial⟩
    case measure=>simp[intOf];omega
  ·obtain rfl:i=n:=by omega
   have e:=HT.out;rw[HEND.out]at e;by_cases hz:i=0
   ·have HEL:Hid (([45]:List UInt8)=z5q l sep.data.toList):=by
     show([45]:List UInt8)=z5q l sep.data.toList;unfold z5q;rw[if_pos (HE0.out hz)]
    subst hz;clear HT HAT HSM e HE0;go_wp2;go_ret;exact⟨⟨_,rfl,HEL.out⟩,rfl⟩
   ·have hz':((i:Int)==0)=false:=by rw[beq_eq_false_iff_ne];omega
    have HL:Hid (t.data.toList=z5q l sep.data.toList):=by
     show t.data.toList=z5q l sep.data.toList;unfold z5q;rw[if_neg (HNE.out hz),e]
    clear HT HAT HSM e;go_wp2;go_ret;exact⟨⟨_,rfl,HL.out⟩,rfl⟩
theorem partsText_any(a:Option Addr)(n c:Nat)(nm:Nat->ByteArray)(B:Nat->Int)(A:Nat->Option Addr)(M C:Nat->Nat)(X:Nat->Nat->Int)(w:World)(h:z7s w a n nm B A M C X)(hok:TellOk n nm B M X)(h0:0<n) :
 Calls Tryz.prog 25 #[.slice a n c] w fun e w'=>(∃t:ByteArray,e=.returned (.string t)/\t.data.toList=Lib.join (z1P nm B X M n) [59,32])/\Below w.heap.size w w':=by
 rcases h with h|⟨bk,o,rfl,hc⟩
 ·omega
 have hn6:=hok.few;go_enter Tryz.func25,Tryz.ntmps25;go_upto_block 0 with fail;go_wp2;go_loopw [3,4] (fun y3 y4 wr=>∃i:Nat,i<=n/\y4=.int .i64 i/\wr.ownsRow w.heap.size 9 1 y3 i (z1A (z1P nm B X M i))/\Below w.heap.size w wr) (fun _ y4 _=>n-(intOf y4).toNat)
 case atStart=>exact⟨0,Nat.zero_le _,rfl,World.ownsRow_nil _ _ _ _,Below.refl _ _⟩
 case round=>
  obtain⟨i,hi,rfl,hrow,hb⟩:=hrel;by_cases hlt:i<n
  ·obtain⟨z0,z1,z2,hw0⟩:=hc i hlt;have d0:=cell_later hb z0;have d1:=cell_later hb z1;have d2:=cell_later hb z2;have hrw:z1z wr (A i) (M i) fun j=>.int .i64 (X i j):=hw0.later hb
   have zn:=hok.names i hlt;have zm:=hok.many i hlt;have zb:=hok.bases i hlt;have zx:=hok.words i hlt;have hi0:(0:Int)<=(i:Int):=by omega
   have hi1:(i:Int)<(n:Int):=by omega
   have hP:z1P nm B X M (i+1)=z1P nm B X M i++[(nm i).data.toList++[32]++Lib.itoa (B i)++[58]++z3c (X i) (M i)]:=rfl;obtain⟨a3,c3,rfl,_⟩:=z0c hrow;have HC:Hid (∀i,i<n->w.cell? ⟨bk,o+i*3,none⟩=some (.string (nm i))/\w.cell? ⟨bk,o+i*3+1,none⟩=some (.int .i64 (B i))/\w.cell? ⟨bk,o+i*3+2,none⟩=some (.slice (A i) (M i) (C i))/\z1z w (A i) (M i) fun j=>.int .i64 (X i j)):=hc;clear hc z0 z1 z2 hw0;generalize hPP:z1P nm B X M (i+1)=PS at *;have HPS:Hid (z1P nm B X M (i+1)=PS):=hPP;clear hPP;generalize nm i=s at *;generalize B i=b at *;generalize M i=m at *;generalize A i=aw at *;generalize C i=cw at *;generalize X i=Y at *;go_upto_region 5 with fail;have mkS:∀V:World,Below wr.heap.size wr V->(fun w':World=>w'.cell? ⟨bk,o+i*3,none⟩=some (.string s)/\w'.cell? ⟨bk,o+i*3+1,none⟩=some (.int .i64 b)/\w'.cell? ⟨bk,o+i*3+2,none⟩=some (.slice aw m cw)) V:=fun V hV=>⟨cell_later hV d0,cell_later hV d1,cell_later hV d2⟩
   have hbd:=(Below.refl wr.heap.size wr).drew;have hSS:=mkS _ hbd;have HCT:=z0U b (by omega) (by omega) wr.drew;have y1:¬9223372036854775807<s.size+1:=by omega
   clear d0 d1 d2;refine z0f (fun w':World=>w'.cell? ⟨bk,o+i*3,none⟩=some (.string s)/\w'.cell? ⟨bk,o+i*3+1,none⟩=some (.int .i64 b)/\w'.cell? ⟨bk,o+i*3+2,none⟩=some (.slice aw m cw)) 14 15 (by kernel_rfl) rfl ?_;generalize wr.drew=W1 at *;refine tW 0 hSS ?_;refine tW 1 hSS ?_;refine tW 2 hSS ?_;refine tW 3 hSS ?_;refine tW 6 hSS ?_;refine tW 7 hSS ?_;refine tW 8 hSS ?_;refine tW 9 hSS ?_;refine tR 4 [] hSS ?_;refine tW 5 hSS ?_;refine tR 10 [] hSS ?_;refine oG 11 fun K hK=>?_
   go_wp2_with fail;refine(show Calls _ _ _ _ _ from HCT).mono ?_;rintro e W2 ⟨⟨r1,rfl,hr1⟩,hb2⟩;clear HCT;have q1:r1.size<=20:=by rw[z1W hr1];exact z4J zb
   have hbd2:=hbd.trans (hb2.mono hbd.size);have hSS2:=mkS _ hbd2;clear hSS hb2;go_wp2;refine hK _ _ hSS2 ?_;clear hK;have hSS:=hSS2;clear hSS2;have y2:¬9223372036854775807<s.size+1+r1.size:=by omega
   have y3:¬9223372036854775807<s.size+1+r1.size+1:=by omega
   refine tW 12 hSS ?_;refine tW 13 hSS ?_;clear hSS;refine lG 14 fun K hK=>?_
   go_wp2;refine hK _ _ ?_;clear hK;refine z1c (by kernel_rfl) ?_ _;have HT0:Hid ((s++⟨#[32]⟩++r1++⟨#[58]⟩).data.toList=(s.data.toList++[32]++Lib.itoa b++[58])++z3c Y 0):=by
    have:=part_head (s:=s) hr1;exact this
   have hPL:(s.data.toList++[32]++Lib.itoa b++[58]).length<=150:=by
    have h1:=z4J zb;have h2:s.data.toList.length=s.size:=by simp
    simp only[List.length_append,List.length_singleton];omega
   have c2:=(mkS _ hbd2).2.2;have hrowB:=z0e hrow hbd2;have hbB:=hb.trans (hbd2.mono hb.size);have hrwB:=hrw.later hbd2;clear y1 y2 y3 hr1 q1 hrow hb hrw mkS hbd hbd2;generalize s++⟨#[32]⟩++r1++⟨#[58]⟩=t0 at *;generalize s.data.toList++[32]++Lib.itoa b++[58]=PL at *;obtain⟨wq,rfl⟩:∃V,V=wr:=⟨_,rfl⟩;go_upto_block 2 with fail;go_wp2;go_loopw [5,6] (fun y5 y6 wz=>∃(j:Nat) (t:ByteArray),j<=m/\y6=.int .i64 j/\y5=.string t/\Hid (t.data.toList=PL++z3c Y j)/\Below W2.heap.size W2 wz) (fun _ y6 _=>m-(intOf y6).toNat)
   case atStart=>exact⟨0,t0,Nat.zero_le _,rfl,rfl,HT0,Below.refl _ _⟩
   case round=>
    clear HT0;obtain⟨j,t,hj,rfl,rfl,HT,hbz⟩:=hrel;have hts:t.size<=1000:=by
     rw[z1W HT.out,List.length_append];have:=wordsT_len (X:=Y) (M:=j) fun k hk=>zx k (by omega)
     omega
    have c2z:=cell_later hbz c2;by_cases hlj:j<m
    ·rcases hrwB.later hbz with h|⟨bw,ow,rfl,hcw⟩
     ·omega
     have x0:wr.cell? ⟨bw,ow+j,none⟩=some (.int .i64 (Y j)):=hcw j hlj;have zj:=zx j hlj;have HCT:=z0U (Y j) (by omega) (by omega) wr;have hj0:(0:Int)<=(j:Int):=by omega
     have hj1:(j:Int)<(m:Int):=by omega
     have HPW:=fun(r:ByteArray)=>part_word' (t:=t) (r:=r) (X:=Y) (j:=j) HT.out
     clear hcw HT;generalize hyj:Y j=yj at *;clear hyj;go_wp2_with fail;refine(show Calls _ _ _ _ _ from HCT).mono ?_;rintro e W3 ⟨⟨r1,rfl,hr1⟩,hb3⟩;clear HCT x0;have q1:r1.size<=20:=by rw[z1W hr1];exact z4J zj
     have HN:Hid ((t++⟨#[32]⟩++r1).data.toList=PL++z3c Y (j+1)):=HPW r1 hr1;clear HPW hr1 c2z;go_wp2;go_roundw
     case rel=>exact⟨j+1,_,by omega,by go_num,rfl,HN,hbz.trans (hb3.mono hbz.size)⟩
     case measure=>simp[intOf];omega
    ·obtain rfl:j=m:=by omega
     have hrowC:=z0e hrowB hbz;have hbC:=hbB.trans (hbz.mono hbB.size);obtain⟨v9,W9,happ,hown,hbg,_⟩:=growStrs t (PL++z3c Y j) HT.out hbC.size hrowC (by omega);rw[<-hP]at hown;have hb9:=hbC.trans hbg;obtain⟨a9,c9,rfl,_⟩:=z0c hown;rw[<-HPS.out]at hown;clear hrowC hbC hrowB hbB HT hbg hP HPS;go_wp2_with (at_builtin;refine z0b rfl (.tmp 49) (.tmp 51) 22 rfl _ _ _ rfl rfl happ ?_);go_wp2;go_roundw
     case rel=>exact⟨i+1,by omega,by go_num,hown,hb9⟩
     case measure=>simp[intOf];omega
  ·obtain rfl:i=n:=by omega
   obtain⟨a3,c3,rfl,_⟩:=z0c hrow;have HJ:=joined_any w.heap.size a3 i c3 (z1P nm B X M i) ⟨#[59,32]⟩ wr hrow (by omega) (fun x hx=>by
    obtain⟨j,hj,rfl⟩:=partsT_mem hx;exact partT_len hok hj) (by decide)
   have HE:Hid (z5q (z1P nm B X M i) [59,32]=Lib.join (z1P nm B X M i) [59,32]):=by
    show z5q (z1P nm B X M i) [59,32]=_;unfold z5q;rw[if_neg];intro e;have:=z6b nm B X M i;rw[e]at this;simp at this;omega
   clear hrow hc hok;go_wp2_with fail;refine(show Calls _ _ _ _ _ from HJ).mono ?_;rintro e W2 ⟨⟨t,rfl,ht⟩,hw2⟩;subst hw2;clear HJ;go_wp2;go_ret;exact⟨⟨_,rfl,ht.trans HE.out⟩,hb⟩
end
section
open Go.RowKit Go.Maps
theorem seqF_le{a b N:Nat}(h:a<=N)(h':b<=N):seqF a b<=N:=by unfold seqF;split <;> assumption
theorem z5H {g:Nat->Nat}{N:Nat}(h:∀i,g i<=N):∀k,z0a g k<=N
 |0=>Nat.zero_le _
 |k+1=>seqF_le (z5H h k) (h k)
theorem nameF_le(l:List UInt8):z0r l<=10:=by unfold z0r;split;decide;split <;> decide
theorem parseF_le(s:ByteArray):(z0k s).1<=10:=by unfold z0k;split;exact(by decide:2<=10);split;exact(by decide:0<=10);exact(by decide:4<=10)
theorem rdD_le(D:DataW Unit)(T:ByteArray->ByteArray)(s:ByteArray):(rdD D T s).1<=10:=by
 unfold rdD;split
 ·exact parseF_le _
 ·exact(by decide:5<=10)
theorem writeF_le(D:DataW Unit)(k:Nat)(s t:ByteArray):writeF D k s t<=10:=by
 unfold writeF;refine seqF_le (nameF_le _) ?_;split
 ·decide
 ·split <;> decide
theorem dropE_le(E:Nat->EntF)(k:Nat)(n:ByteArray):(z2F E k n).1<=10:=by
 unfold z2F;split
 ·exact(by decide:5<=10)
 ·exact(by decide:0<=10)
theorem entF_le(e:EntF):entF e<=10:=by
 unfold entF;refine seqF_le (nameF_le _) (seqF_le (by split <;> decide) (seqF_le (z5H (fun i=>?_) _) (z5H (fun i=>?_) _)))
 ·unfold z0P;refine seqF_le (nameF_le _) ?_;split
  ·decide
  ·split <;> decide
 ·unfold z1d;split <;> decide
theorem putE_le(E:Nat->EntF)(k:Nat)(e:EntF):(putE E k e).1<=10:=by
 unfold putE;split
 ·exact entF_le e
 ·split
  ·exact(by decide:0<=10)
  ·split
   ·exact(by decide:2<=10)
   ·exact(by decide:0<=10)
theorem placeF_le(ns:Nat)(sz:Nat->Int)(nt:Nat)(tf tm:Nat->Int):z1S ns sz nt tf tm<=10:=by
 unfold z1S;split
 ·decide
 ·split
  ·decide
  ·split <;> decide
theorem allF_le(n:Nat)(O:Nat->ObjF)(P Q:ByteArray->Int)(nb:Nat)(B:Nat->Int):allF n O P Q nb B<=10:=by
 unfold allF;split
 ·decide
 ·split
  ·decide
  ·exact z5H (fun i=>z5H (fun k=>by
    unfold tieW;rcases hangF_le ((O i).tKind k) (B i) ((O i).tAt k) ((O i).tAdd k) (whereF O P Q B i k)with h|h|h <;> rw[h] <;> decide) _) _
theorem reckIs_le{D:DataW Unit}{T:ByteArray->ByteArray}{root:ByteArray}{F:Nat}(h:ReckIs (rdD D T) root F):F<=10:=by
 cases h with
 |of i h hf=>
  cases h with
  |bad=>exact rdD_le _ _ _
  |ok=>decide
 |bases m B h hb hf=>
  cases hb with
  |bad=>exact placeF_le _ _ _ _ _
  |full=>decide
  |ok=>decide
 |all m B P Q h hb hz hP he hf=>rw[<-he];exact allF_le _ _ _ _ _ _
theorem rBuilt_le{E:Nat->EntF}{k:Nat}{D:DataW Unit}{T:ByteArray->ByteArray}{S:ByteArray->Int}{root:ByteArray}{F:Nat}{r:(Nat->EntF)×Nat}(h:RBuilt E k (rdD D T) S root F r):F<=10:=by
 cases h with
 |bad F h hf=>exact reckIs_le h
 |put m Bs P Q h=>exact putE_le _ _ _
theorem dec_more{n d:Nat}(hd:d<10)(hn:0<n):Lib.decDigits (10*n+d)=Lib.decDigits n++[UInt8.ofNat (48+d)]:=by
 rw[Lib.decDigits,dif_neg (by omega),show(10*n+d) / 10=n by omega,show(10*n+d) % 10=d by omega]
theorem dig_of{x:UInt8}(h:z2n x=true):∃d:Fin 10,x=UInt8.ofNat (48+d.val)/\x.toNat-48=d.val:=by
 simp only[z2n,Bool.and_eq_true,decide_eq_true_eq]at h;refine⟨⟨x.toNat-48,by omega⟩,?_,rfl⟩;show x=UInt8.ofNat (48+(x.toNat-48));rw[show 48+(x.toNat-48)=x.toNat by omega];simp
theorem ofNat_zero(d:Fin 10):UInt8.ofNat (48+d.val)=48 ↔ d.val=0:=by
 revert d;decide
theorem val_itoa{l:List UInt8}(hd:l.all z2n=true)(h1:1<=l.length)(hz:¬(l.head? = some 48/\1<l.length))(h3:l.length<=3):l=Lib.decDigits (val l)/\val l<=999:=by
 match l,h1,h3,hd,hz with
 | [x],_,_,hd,hz=>
  have hx:z2n x=true:=by simpa using hd
  obtain⟨d,e,ev⟩:=dig_of hx;have hv:val [x]=d.val:=by simp[val,ev]
  have hd10:=d.isLt;rw[hv];exact⟨by rw[Lib.decDigits_one hd10,e],by omega⟩
 | [x,y],_,_,hd,hz=>
  have hx:z2n x=true/\z2n y=true:=by simpa using hd
  obtain⟨d,e,ev⟩:=dig_of hx.1;obtain⟨d',e',ev'⟩:=dig_of hx.2;have hv:val [x,y]=10*d.val+d'.val:=by simp[val,ev,ev']
  have hne:d.val≠0:=fun h0=>hz ⟨by rw[e,(ofNat_zero d).2 h0];rfl,by simp⟩
  have hd10:=d.isLt;have hd11:=d'.isLt;rw[hv];exact⟨by rw[dec_more hd11 (by omega),Lib.decDigits_one hd10,e,e'];rfl,by omega⟩
 | [x,y,z],_,_,hd,hz=>
  have hx:z2n x=true/\z2n y=true/\z2n z=true:=by simpa using hd
  obtain⟨d,e,ev⟩:=dig_of hx.1;obtain⟨d',e',ev'⟩:=dig_of hx.2.1;obtain⟨d2,e2,ev2⟩:=dig_of hx.2.2;have hv:val [x,y,z]=10*(10*d.val+d'.val)+d2.val:=by simp[val,ev,ev',ev2]
  have hne:d.val≠0:=fun h0=>hz ⟨by rw[e,(ofNat_zero d).2 h0];rfl,by simp⟩
  have hd10:=d.isLt;have hd11:=d'.isLt;have hd12:=d2.isLt;rw[hv];exact⟨by rw[dec_more hd12 (by omega),dec_more hd11 (by omega),Lib.decDigits_one hd10,e,e',e2];rfl,by omega⟩
theorem val_ge{l:List UInt8}(hz:∃x r,l=x :: r/\z2n x=true/\x≠48)(h4:4<=l.length)(hd:l.all z2n=true):1000<=val l:=by
 have key:∀(r:List UInt8) (a:Nat),a*10 ^ r.length<=r.foldl (fun n b=>10*n+(b.toNat-48)) a:=fun r=>by
  induction r with
  |nil=>intro a;simp
  |cons b r ih=>
   intro a;rw[List.foldl_cons,List.length_cons,Nat.pow_succ];refine Nat.le_trans ?_ (ih (10*a+(b.toNat-48)));have:a*(10 ^ r.length*10)=(10*a)*10 ^ r.length:=by rw[Nat.mul_comm (10 ^ r.length) 10,<-Nat.mul_assoc,Nat.mul_comm a 10]
   rw[this];exact Nat.mul_le_mul_right _ (by omega)
 obtain⟨x,r,rfl,hx,hne⟩:=hz;have h1:1<=x.toNat-48:=by
  simp only[z2n,Bool.and_eq_true,decide_eq_true_eq]at hx;have:x.toNat≠48:=fun e=>hne (UInt8.toNat_inj.1 (e.trans rfl))
  omega
 have h2:=key r (x.toNat-48);have h3:10 ^ 3<=10 ^ r.length:=Nat.pow_le_pow_right (by omega) (by simp at h4;omega);have h5:10 ^ r.length<=(x.toNat-48)*10 ^ r.length:=Nat.le_mul_of_pos_left _ (by omega);unfold val;rw[List.foldl_cons];have e:10*0+(x.toNat-48)=x.toNat-48:=by omega
 rw[e];have:(10:Nat) ^ 3=1000:=by decide
 omega
theorem numK_iff(l:List UInt8):numK l=true ↔ ∃n:Nat,n<=999/\l=Lib.itoa (n:Int):=by
 constructor
 ·intro h;unfold numK at h;cases hr:z1I l with
  |none=>rw[hr]at h;cases h
  |some m=>
   rw[hr]at h;simp only[Bool.and_eq_true,decide_eq_true_eq]at h;unfold z1I at hr;split at hr
   ·cases hr
   ·rename_i hc;split at hr
    ·rename_i hd;injection hr with hr;by_cases hneg:(magR l).length<l.length
     ·rw[if_pos hneg]at hr;exfalso;have hv0:val (magR l)=0:=by omega
      have hne:magR l ≠ []:=fun e=>hc (.inl (by rw[e];decide))
      obtain⟨x,r,er⟩:=List.exists_cons_of_ne_nil hne;have hx:z2n x=true:=by rw[er]at hd;simp at hd;exact hd.1
      by_cases hx0:x=48
      ·have h1:1<=(magR l).length:=by rw[er];simp
       exact hc (.inr (.inr ⟨by rw[er,hx0];rfl,by omega⟩))
      ·have h1:1<=x.toNat-48:=by
        simp only[z2n,Bool.and_eq_true,decide_eq_true_eq]at hx;have:x.toNat≠48:=fun e=>hx0 (UInt8.toNat_inj.1 (e.trans rfl))
        omega
       by_cases h4:4<=(magR l).length
       ·have:=val_ge ⟨x,r,er,hx,hx0⟩ h4 hd;omega
       ·obtain⟨e1,e2⟩:=val_itoa hd (by rw[er];simp) (fun h=>hx0 (by rw[er]at h;simpa using h.1)) (by omega);rw[hv0]at e1;have:magR l=[48]:=by rw[e1,Lib.decDigits_one (by decide)];rfl
        rw[this]at er;injection er with er _;exact hx0 er.symm
     ·rw[if_neg hneg]at hr;have hm:magR l=l:=by
       unfold magR at hneg ⊢;split
       ·rename_i hh;rw[if_pos hh]at hneg;exfalso;cases l with
        |nil=>cases hh
        |cons x r=>simp at hneg
       ·rfl
      rw[hm]at hr hc hd;have hne:l ≠ []:=fun e=>hc (.inl (by rw[e];decide))
      obtain⟨x,r,er⟩:=List.exists_cons_of_ne_nil hne;have hx:z2n x=true:=by rw[er]at hd;simp at hd;exact hd.1
      have h3:l.length<=3:=by
       by_cases h4:4<=l.length
       ·exfalso;have hx0:x≠48:=fun e=>hc (.inr (.inr ⟨by rw[er,e];rfl,by omega⟩))
        have:=val_ge ⟨x,r,er,hx,hx0⟩ h4 hd;omega
       ·omega
      obtain⟨e1,e2⟩:=val_itoa hd (by rw[er];simp) (fun h=>hc (.inr (.inr h))) h3;refine⟨val l,e2,?_⟩;rw[Lib.itoa_nonneg];exact e1
    ·cases hr
 ·rintro⟨n,hn,rfl⟩;unfold numK;rw[refNum_itoa (n:Int) (by omega) (by omega)];simp only[Bool.and_eq_true,decide_eq_true_eq];omega
theorem itoa_threeK{n:Int}(h0:0<=n)(hl:(Lib.itoa n).length<=3):n<=999:=by
 obtain⟨u,rfl⟩:∃u:Nat,n=u:=⟨n.toNat,by omega⟩;rw[Lib.itoa_nonneg,Lib.decDigits_length]at hl;by_cases h:u<1000
 ·omega
 ·exfalso;have k:∀u:Nat,10<=u->Lib.nDigits u=Lib.nDigits (u / 10)+1:=fun u hu=>by rw[Lib.nDigits,dif_neg (by omega)]
  have p:∀u:Nat,1<=Lib.nDigits u:=fun u=>by rw[Lib.nDigits];split <;> omega
  rw[k u (by omega),k (u / 10) (by omega),k (u / 10 / 10) (by omega)]at hl;have:=p (u / 10 / 10 / 10);omega
end
section
open Go.RowKit Go.Maps
theorem atoi_itoa(n:Nat)(h1:n<=1000000000000):Lib.atoiAll (Lib.itoa (n:Int))=.ok (n:Int):=by
 rw[Lib.itoa_nonneg];obtain⟨c,r,hc⟩:=List.exists_cons_of_ne_nil (dec_ne n);have hb:=z5F n n (Nat.le_refl _) c (by rw[hc];simp);have hm:=mag_dec n (by omega);rw[hc]at hm ⊢;unfold Lib.atoiAll;have e1:¬(c.toNat=43∨c.toNat=45):=by omega
 have e2:¬c.toNat=45:=by omega
 simp only[];rw[if_neg e1,hm];simp only[e2,not_false_eq_true,true_and,false_and,if_false];rw[if_neg (by omega)]
theorem atoi_in{l:List UInt8}{v:Int}(h:Lib.atoiAll l=.ok v):-9223372036854775808<=v/\v<=9223372036854775807:=by
 have:=numF_wf l;unfold numF at this;rw[h]at this;exact this
theorem itoa_fit{n:Nat}(h:n<=999):(Lib.itoa (n:Int)).length<=3:=by
 rw[Lib.itoa_nonneg,Lib.decDigits_length];have k:∀u:Nat,10<=u->Lib.nDigits u=Lib.nDigits (u / 10)+1:=fun u hu=>by rw[Lib.nDigits,dif_neg (by omega)]
 by_cases h1:n<10
 ·rw[Lib.nDigits_small h1];omega
 ·rw[k n (by omega)];by_cases h2:n / 10<10
  ·rw[Lib.nDigits_small h2];omega
  ·rw[k (n / 10) (by omega),Lib.nDigits_small (by omega)];omega
theorem cnumber_any(s:ByteArray)(w:World)(hE:Env w)(hs:s.size<=1000) :
 Calls Tryz.prog 70 #[.string s] w fun e w'=>(∃n:Int,e=.returned (.tuple #[.int .i64 n,.bool (numK s.data.toList)])/\0<=n/\n<=999)/\Below w.heap.size w w':=by
 have hsl:s.data.toList.length=s.size:=by simp
 cases hk:numK s.data.toList with
 |true=>
  obtain⟨n,hn,e⟩:=(numK_iff _).1 hk;have HA:=Tryz.strconv_Atoi_ok s (by omega) (n:Int) (by rw[e];exact atoi_itoa n (by omega)) w;have h3:¬(3:Int)<(s.size:Int):=by have:=itoa_fit hn;rw[<-e,hsl]at this;omega
  have hse:(⟨(Lib.itoa (n:Int)).toArray⟩:ByteArray)=s:=by rw[<-e]
  have hq:(s.toList==s.toList)=true:=by simp
  have HI:=fun(W:World) (hW:Env W)=>z4u (n:Int) W hW (by omega) (by omega)
  rw[hse]at HI;clear e hse hk hsl;go_enter Tryz.func70,Tryz.ntmps70;go_wp2_with fail;refine(show Calls _ _ _ _ _ from HA).mono ?_;rintro e w' ⟨rfl,hw⟩;have hb:Below w.heap.size w w':=by
   rcases hw with rfl|⟨t,rfl⟩
   ·exact Below.refl _ _
   ·exact Lib.bytesWorld_below _ _ _
  clear hw HA;have HI':=HI w' (hE.later hb);clear HI;go_wp2_with fail;refine(show Calls _ _ _ _ _ from HI').mono ?_;rintro e w2 ⟨rfl,hb2⟩;clear HI';go_wp2;go_ret2;exact⟨⟨(n:Int),rfl,by omega,by omega⟩,hb.trans (hb2.mono hb.size)⟩
 |false=>
  cases hq:Lib.atoiAll s.data.toList with
  |ok v=>
   have HA:=Tryz.strconv_Atoi_ok s (by omega) v hq w;have hv:=atoi_in hq;have HI:=fun(W:World) (hW:Env W)=>z4u v W hW (by omega) (by omega)
   have hne:0<=v->s.size<=3->((⟨(Lib.itoa v).toArray⟩:ByteArray).toList==s.toList)=false:=fun h0 h3=>by
    rw[beq_eq_false_iff_ne,ByteArray.toList_eq,ByteArray.toList_eq];intro e;have e':Lib.itoa v=s.data.toList:=by simpa using e
    have h9:=itoa_threeK h0 (by rw[e',hsl];exact h3);obtain⟨n,rfl⟩:∃n:Nat,v=(n:Int):=⟨v.toNat,by omega⟩;have:=(numK_iff s.data.toList).2 ⟨n,by omega,e'.symm⟩;rw[hk]at this;cases this
   generalize (⟨(Lib.itoa v).toArray⟩:ByteArray)=t at *;clear hk hq hsl;go_enter Tryz.func70,Tryz.ntmps70;go_wp2_with fail;refine(show Calls _ _ _ _ _ from HA).mono ?_;rintro e w' ⟨rfl,hw⟩;have hb:Below w.heap.size w w':=by
    rcases hw with rfl|⟨t,rfl⟩
    ·exact Below.refl _ _
    ·exact Lib.bytesWorld_below _ _ _
   clear hw HA;have HI':=HI w' (hE.later hb);clear HI;by_cases h0:v<0
   ·clear hne HI';go_wp2;go_ret2;exact⟨⟨0,rfl,by omega,by omega⟩,hb⟩
   ·by_cases h3:(3:Int)<(s.size:Int)
    ·clear hne HI';go_wp2;go_ret2;exact⟨⟨0,rfl,by omega,by omega⟩,hb⟩
    ·have hx:=hne (by omega) (by omega);clear hne;go_wp2_with fail;refine(show Calls _ _ _ _ _ from HI').mono ?_;rintro e w2 ⟨rfl,hb2⟩;clear HI';go_wp2;go_ret2;exact⟨⟨0,rfl,by omega,by omega⟩,hb.trans (hb2.mono hb.size)⟩
  |range=>
   obtain⟨ev,hv,hev⟩:=hE.errR;have HA:=Tryz.strconv_Atoi_range s (by omega) hq ev w hv hev;generalize Lib.atoiSat s.data.toList=v at *;clear hq hv hev hsl hk;go_enter Tryz.func70,Tryz.ntmps70;go_wp2_with fail;refine(show Calls _ _ _ _ _ from HA).mono ?_;rintro e w' ⟨N,rfl,_,_,hb⟩;clear HA;go_wp2;go_ret2;exact⟨⟨0,rfl,by omega,by omega⟩,hb⟩
  | «syntax» =>
   obtain⟨ev,hv,hev⟩:=hE.errS;have HA:=Tryz.strconv_Atoi_syntax s (by omega) hq ev w hv hev;clear hq hv hev hsl hk;go_enter Tryz.func70,Tryz.ntmps70;go_wp2_with fail;refine(show Calls _ _ _ _ _ from HA).mono ?_;rintro e w' ⟨N,rfl,_,_,hb⟩;clear HA;go_wp2;go_ret2;exact⟨⟨0,rfl,by omega,by omega⟩,hb⟩
open Go.Sort Go.Lib in
theorem holds_zero0(w:World)(T:TypeId)(nd:Nat)(hs:nd<=24):Holds (fun(b:UInt8)=>Value.int .u8 (b.toNat:Int)) (w.alloc (.cells zeros24 T)) w.heap.size 0 (Array.replicate nd (0:UInt8)):=fun j hj=>by
 have hj':j<nd:=by simpa using hj
 refine⟨?_,World.frozen?_alloc_new _ _ _ _⟩;rw[World.cell?_alloc_new,zeros24_at _ (by omega),getElem!_pos _ j hj];simp
open Go.Sort Go.Lib in
theorem fin_pos0(w:World)(o:Obj)(dk:Array UInt8)(k:Nat):∃os,(putRow (fun(b:UInt8)=>Value.int .u8 (b.toNat:Int)) (w.alloc o) w.heap.size 0 dk).drewN k=grow (w.drewN k) os:=by
 rw[alloc_eq_grow];obtain⟨os',_,e⟩:=putRow_grow_new (fun(b:UInt8)=>Value.int .u8 (b.toNat:Int)) w #[o] w.heap.size 0 dk (Nat.le_refl _);exact⟨os',by rw[e];rfl⟩
open Go.Sort Go.Lib in
theorem iformatUint_any(u:Nat)(hu:u<18446744073709551616)(w:World)(hE:Env w) :
 Calls Tryz.prog 111 #[.int .u64 u,.int .i64 10] w fun e w'=>e=.returned (.string ⟨(Lib.itoa (u:Int)).toArray⟩)/\Below w.heap.size w w':=by
 rw[Lib.itoa_nonneg];by_cases hs:u<100
 ·have HS:=Tryz.internal_strconv_small u hs w;go_enter Tryz.func111,Tryz.ntmps111;go_wp2_with fail;refine(show Calls _ _ _ _ _ from HS).mono ?_;rintro e w' ⟨rfl,rfl⟩;clear HS;go_wp2;go_ret;exact⟨rfl,Below.refl _ _⟩
 ·have hu1:1<=u:=by omega
  have hnd20:Lib.nDigits u<=20:=by have:=Lib.numDigits_eq u hu1 hu;split at this <;> omega
  have hnd1:Lib.nDigits u<=24:=by omega
  have hal:Tryz.prog.arrayLen 232=24:=by kernel_rfl
  have hsl1:∀W,(Instr.sliceAt 232 (.pointer (some ⟨w.heap.size,0,none⟩)) none (some (.int .i64 (Lib.nDigits u:Int))) none).run Tryz.prog W=.ok (.slice (some ⟨w.heap.size,0,none⟩) (Lib.nDigits u) 24) W:=fun W=>by
   rw[run_sliceAt_array_h W 232 ⟨w.heap.size,0,none⟩ (by kernel_rfl) .i64 (Lib.nDigits u:Int) (by omega) (by rw[hal];omega)];go_simp
   try omega
  have hH0:=holds_zero0 w 232 (Lib.nDigits u) (by omega);have hfmt:=Tryz.internal_strconv_formatBase10 w.heap.size 0 24 u (Array.replicate (Lib.nDigits u) 0) (w.alloc (.cells Lib.zeros24 232)) hH0 (by rw[Array.size_replicate];exact Lib.lt_pow_nDigits u) hu (by rw[Array.size_replicate];omega);rw[Array.size_replicate]at hfmt;have HH0:=Lib.hid hH0;have HND:=Tryz.internal_strconv_numDigits u hu1 hu (w.alloc (.cells Lib.zeros24 232)) (Lib.tabIs_alloc hE.pow _);clear hH0 hal;go_enter Tryz.func111,Tryz.ntmps111;go_wp2_with fail;refine(show Calls _ _ _ _ _ from HND).mono ?_;rintro e w' ⟨rfl,rfl⟩;clear HND;go_wp2_with fail;refine(show Calls _ _ _ _ _ from hfmt).mono ?_;rintro e w' ⟨rfl,k,v',dk,rfl,hF⟩;clear hfmt;have hcv:(convert 102 9 (.slice (some ⟨w.heap.size,0,none⟩) (Lib.nDigits u) 24)).run Tryz.prog ((putRow (fun(b:UInt8)=>Value.int .u8 (b.toNat:Int)) (w.alloc (.cells Lib.zeros24 232)) w.heap.size 0 dk).drewN k)=.ok (.string ⟨(Lib.decDigits u).toArray⟩) ((putRow (fun(b:UInt8)=>Value.int .u8 (b.toNat:Int)) (w.alloc (.cells Lib.zeros24 232)) w.heap.size 0 dk).drewN k):=by
   have h:=run_convert_bytes_back (P:=Tryz.prog) ((putRow (fun(b:UInt8)=>Value.int .u8 (b.toNat:Int)) (w.alloc (.cells Lib.zeros24 232)) w.heap.size 0 dk).drewN k) 102 9 5 ⟨w.heap.size,0,none⟩ 24 (Lib.decDigits u) Tryz.underlying102 Tryz.underlying5 Tryz.underlying9 (fun j hj=>by
    rw[Lib.row_is_numeral hF j hj,Lib.add_plain,World.cell?_drewN];exact cell?_putRow (fun(b:UInt8)=>Value.int .u8 (b.toNat:Int)) _ w.heap.size 0 _ dk HH0.out (by rw[hF.size,Array.size_replicate]) j (by rw[hF.size];rw[Lib.decDigits_length]at hj;exact hj))
   rw[Lib.decDigits_length]at h;exact h
  obtain⟨os,eo⟩:=fin_pos0 w (.cells Lib.zeros24 232) dk k;have hbl:Below w.heap.size w ((putRow (fun(b:UInt8)=>Value.int .u8 (b.toNat:Int)) (w.alloc (.cells Lib.zeros24 232)) w.heap.size 0 dk).drewN k):=by
   rw[eo];exact Lib.below_grow _ _ (Nat.le_refl _) _ _
  clear eo;go_wp2;go_ret;exact⟨rfl,hbl⟩
theorem formatUint_any(u:Nat)(hu:u<18446744073709551616)(w:World)(hE:Env w) :
 Calls Tryz.prog 80 #[.int .u64 u,.int .i64 10] w fun e w'=>e=.returned (.string ⟨(Lib.itoa (u:Int)).toArray⟩)/\Below w.heap.size w w':=by
 have HI:=iformatUint_any u hu w hE;go_enter Tryz.func80,Tryz.ntmps80;go_wp2_with fail;refine(show Calls _ _ _ _ _ from HI).mono ?_;rintro e w1 ⟨rfl,hb⟩;clear HI;go_wp2;go_ret;exact⟨rfl,hb⟩
end
section
open Go.RowKit Go.Maps
def z5l:Obj->Option TypeId
 | .cells _ t _=>some t
 |_=>none
structure Only(ts:List (Option TypeId))(w w':World):Prop where
 block:∀(k:Nat) (o:Obj),w.heap[k]?=some o->z5l o ∉ ts->w'.heap[k]?=some o
abbrev tsFiles:List (Option TypeId):=[some 125,none]
abbrev tsRF:List (Option TypeId):=[some 33]
theorem Only.of_turned{p bm:Nat}{w w':World}{D:DataW Unit}{k:Nat}(h:Turned p bm w w')(hF:z0q w p bm D k):Only tsFiles w w':=⟨fun q o hq ho=>(h.block q (Array.getElem?_eq_some_iff.1 hq).1
 (fun e=>ho (by
   subst e;rw[hF.blk]at hq;injection hq with hq;subst hq;simp[z5l,tsFiles]))
 (fun e=>ho (by
   subst e;obtain⟨es,clock,hb,_⟩:=hF.own;rw[hb]at hq;injection hq with hq;subst hq;simp[z5l,tsFiles]))).trans hq⟩
theorem Only.of_turnedQ{B q:Nat}{w w':World}{L:List z0u}{k:Nat}(h:Turned q q w w')(hR:RAt B w q L k):Only tsRF w w':=by
 obtain⟨v,hv,_⟩:=hR.blk;have key:∀(j:Nat) (o:Obj),w.heap[j]?=some o->z5l o ∉ tsRF->j≠q:=fun j o hj ho e=>ho (by
  subst e;rw[hv]at hj;injection hj with hj;subst hj;simp[z5l,tsRF])
 exact⟨fun j o hj ho=>(h.block j (Array.getElem?_eq_some_iff.1 hj).1 (key j o hj ho) (key j o hj ho)).trans hj⟩
theorem Only.of_below{w w':World}(h:Below w.heap.size w w'):Only [] w w':=⟨fun j _ hj _=>(h.block j (Array.getElem?_eq_some_iff.1 hj).1).trans hj⟩
theorem z0q.only{w w':World}{p bm:Nat}{D:DataW Unit}{k:Nat}{ts:List (Option TypeId)}(h:z0q w p bm D k)(hs:Only ts w w')(h1:some 125 ∉ ts)(h2:none ∉ ts):z0q w' p bm D k:=by
 refine⟨hs.block _ _ h.blk h1,?_⟩;obtain⟨es,clock,hb,F,hn,hD⟩:=h.own;exact⟨es,clock,hs.block _ _ hb h2,F,hn,hD⟩
theorem z7G {w w':World}{B s n:Nat}{e:TypeId}{v:Value}{xs:List Value}{ts:List (Option TypeId)}(h:w.ownsRow B e s v n xs)(hs:Only ts w w')(h1:some e ∉ ts):w'.ownsRow B e s v n xs:=z5X h fun k hk=>by
 obtain⟨c,hc⟩:=z3C h hk;rw[hc];exact hs.block k _ hc h1
theorem RAt.only{B q:Nat}{w w':World}{L:List z0u}{k:Nat}{ts:List (Option TypeId)}(h:RAt B w q L k)(hs:Only ts w w')(h1:some 33 ∉ ts)(h2:some 92 ∉ ts):RAt B w' q L k:=by
 obtain⟨v,hv,hr⟩:=h.blk;exact⟨h.lo,v,hs.block _ _ hv h1,z7G hr hs h2⟩
theorem Only.trans{ts:List (Option TypeId)}{w w' w2:World}(h:Only ts w w')(h2:Only ts w' w2):Only ts w w2:=⟨fun k o hk ho=>h2.block k o (h.block k o hk ho) ho⟩
theorem Only.set{w:World}{g:Nat}{c:Array Value}{t:TypeId}{f:Nat×Nat}(h:w.heap[g]?=some (.cells c t f))(i:Nat)(v:Value):Only [some t] w (w.setCell ⟨g,i,none⟩ v):=⟨fun k o hk ho=>by
 have hne:k≠g:=fun e=>ho (by
  subst e;rw[h]at hk;injection hk with hk;subst hk;simp[z5l])
 exact(Below.heap_setCell _ _ _ _ hne).trans hk⟩
end
section
open Go.RowKit Go.Maps
abbrev tsDisk:List (Option TypeId):=[some 118,some 177,some 174]
abbrev tsRS:List (Option TypeId):=[some 37]
theorem Only.of_spun{B:Nat}{w w':World}(h:Spun B w w'):Only tsDisk w w':=⟨fun k o hk ho=>h.block k o hk (fun⟨c,t,f,e,ht⟩=>ho (by
 subst e;rcases ht with rfl|rfl|rfl <;> simp[z5l,tsDisk]))⟩
theorem Only.of_grown{B0 B m:Nat}{w w':World}{vl:Value}{k:Nat}{V:Nat->EntV}{E:Nat->EntF}(h:w.grownBy w' (some m))(hR:z1R w B0 B m vl k V E):Only tsRS w w':=⟨fun j o hj ho=>(h.block j (Array.getElem?_eq_some_iff.1 hj).1 (fun e=>ho (by
 injection e with e;subst e;rw[hR.blk]at hj;injection hj with hj;subst hj;simp[z5l,tsRS]))).trans hj⟩
theorem Disk.only{w w':World}{B p n:Nat}{s:DSt}{ts:List (Option TypeId)}(h:Disk w B p n s)(hs:Only ts w w')(h1:some 118 ∉ ts)(h2:some 177 ∉ ts)(h3:some 174 ∉ ts):Disk w' B p n s:=
 h.other fun q o hq ⟨c,t,f,e,ht⟩=>hs.block q o hq (by
  subst e;rcases ht with rfl|rfl|rfl
  ·exact h1
  ·exact h2
  ·exact h3)
theorem z1u.only{w w':World}{l f g:Nat}{ts:List (Option TypeId)}(h:z1u w l f g)(hs:Only ts w w')(h1:some 130 ∉ ts):z1u w' l f g:=hs.block _ _ h h1
theorem z0T.only{w w':World}{g p:Nat}{ts:List (Option TypeId)}(h:z0T w g p)(hs:Only ts w w')(h1:some 148 ∉ ts):z0T w' g p:=hs.block _ _ h h1
theorem z1R.only{w w':World}{B0 B m:Nat}{v:Value}{k:Nat}{V:Nat->EntV}{E:Nat->EntF}{ts:List (Option TypeId)}(h:z1R w B0 B m v k V E)(hs:Only ts w w')(hb:Below B0 w w')(h1:some 37 ∉ ts)(h2:some 71 ∉ ts)(h3:some 112 ∉ ts)(h4:some 114 ∉ ts):z1R w' B0 B m v k V E:=
 ⟨hs.block _ _ h.blk h1,⟨z7G h.own.row hs h2,fun i hi=>(h.own.ins i hi).keeps ⟨fun j hj=>hb.block j hj,fun j C t ht hj=>by
  rw[hj];refine hs.block j _ hj ?_;rcases ht with rfl|rfl
  ·exact h3
  ·exact h4⟩⟩,h.few,h.once⟩
end
section
open Go.RowKit
theorem getE_some{E:Nat->EntF}{root:ByteArray}{k j:Nat}(ho:∀i j,i<k->j<k->(E i).root=(E j).root->i=j)(hj:j<k)(hr:(E j).root=root):getE E k root=(true,E j):=by
 have h0:¬findF E root k 0<0:=fun h=>by
  have:=findF_none _ 0 rfl h;exact this j (Nat.zero_le _) hj hr
 obtain⟨i,_,hi,hir,hf⟩:=z2i _ 0 rfl (show 0<=findF E root k 0 by omega);obtain rfl:=ho i j hi hj (hir.trans hr.symm);unfold getE;rw[if_neg h0,hf];rfl
end
section
open Go.RowKit Go.Maps
theorem ShPut.calm{s:DSt}{n:Nat}{E:Nat->EntF}{k:Nat}{r:Nat×(Nat->EntF)×Nat}{s':DSt}{e:Ending}(h:ShPut s n E k r s' e)(hS:z0X s n E k)(hl:s.left=-1)(hk:r.1≠0->r.2=(E,k)):e=.returned (errV r.1)/\s'.left=-1/\z0X s' n r.2.1 r.2.2:=by
 cases h with
 |bad h hs=>subst hs;rw[hk h];exact⟨rfl,hl,hS⟩
 |keep _ h hk'=>
  cases hk' with
  |fell hl' _=>exact absurd hl hl'
  |ok hSt hl2=>exact⟨by rw[h];rfl,hl2 hl,hSt⟩
theorem putE_in{E:Nat->EntF}{k:Nat}{en:EntF}(h:(putE E k en).1=0):∃j,j<(putE E k en).2.2/\(putE E k en).2.1 j=en:=by
 have hs:∀j:Nat,addV E j en j=en:=fun j=>if_pos rfl
 unfold putE at h ⊢;split at h
 ·rename_i h1;exact absurd h h1
 ·rename_i h1;rw[if_neg h1];split at h
  ·rename_i h2;rw[if_pos h2];obtain⟨j,_,hj,_,hf⟩:=z2i _ 0 rfl h2;rw[hf];exact⟨j,hj,hs j⟩
  ·rename_i h2;rw[if_neg h2];split at h
   ·cases h
   ·rename_i h3;rw[if_neg h3];exact⟨k,Nat.lt_succ_self k,hs k⟩
theorem getE_put{E:Nat->EntF}{k:Nat}{en:EntF}{r:Nat×(Nat->EntF)×Nat}(hr:putE E k en=r)(h:r.1=0)(ho:∀i j,i<r.2.2->j<r.2.2->(r.2.1 i).root=(r.2.1 j).root->i=j):getE r.2.1 r.2.2 en.root=(true,en):=by
 subst hr;obtain⟨j,hj,he⟩:=putE_in h;rw[getE_some ho hj (by rw[he]),he]
theorem any_none{f:Nat->Bool}{n:Nat}(h:∀i,i<n->f i=false):z0H f n=false:=by
 induction n with
 |zero=>rfl
 |succ n ih=>simp only[z0H,ih fun i hi=>h i (by omega),h n (by omega),Bool.or_false]
theorem made_fresh{D:DataW Unit}{k:Nat}{T:ByteArray->ByteArray}{S:ByteArray->Int}{root:ByteArray}{m:Nat}{B:Nat->Int}{P Q:ByteArray->Int}(hI:Inv D k)(h:z0Z (rdD D T) root m B P Q):z5c D S (z4t (rdD D T) S root m B (z0l (rdD D T) root m B P Q))=true:=by
 obtain⟨hSc,_,_⟩:=z4s h.of (z6y (T:=T) hI);have hhas:=made_has hI h.of;have e:z0R D S (nmAt (rdD D T) root) (fun j=>S (nmAt (rdD D T) root j)) m=false:=any_none fun i hi=>by
  rw[hhas i hi];simp
 show(!z0R D S (nmAt (rdD D T) root) (fun j=>S (nmAt (rdD D T) root j)) m&&decide (0<m))=true;rw[e,decide_eq_true hSc.pos];rfl
end
end Go.Proofs.YtbcpcbonlhlhpaaGreatDoor
