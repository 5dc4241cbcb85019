/- What Number of the document's answer returns, for every -/
import Derived.Test.YtbcpcbonlhlhpaaGreatDoorPlainCut
namespace Go.Proofs.YtbcpcbonlhlhpaaGreatDoor
section
open Go.RowKit
set_option maxHeartbeats 2000000
set_option maxRecDepth 100000
theorem take_more(t:ByteArray)(k:Nat)(hk:k<t.size):t.data.toList.take (k+1)=t.data.toList.take k++[t[k]]:=by
 rw[List.take_add_one,List.getElem?_eq_getElem (by simpa using hk)];simp[ByteArray.getElem_eq_getElem_data]
theorem val_more(t:ByteArray)(k:Nat)(hk:k<t.size):val (t.data.toList.take (k+1))=10*val (t.data.toList.take k)+(t[k].toNat-48):=by rw[take_more t k hk,val_snoc]
theorem dig_more(t:ByteArray)(k:Nat)(hk:k<t.size):(t.data.toList.take (k+1)).all z2n=((t.data.toList.take k).all z2n&&z2n t[k]):=by rw[take_more t k hk];simp
theorem dig_never{l:List UInt8}{k:Nat}(h:(l.take k).all z2n=false):l.all z2n=false:=by
 rw[<-Bool.not_eq_true]at h ⊢;intro h2;apply h;rw[List.all_eq_true]at h2 ⊢;exact fun x hx=>h2 x (List.mem_of_mem_take hx)
theorem val_small(t:ByteArray)(k:Nat)(hk:k<=17)(h:(t.data.toList.take k).all z2n=true):val (t.data.toList.take k)<100000000000000000:=by
 have h1:=val_lt _ _ rfl h;have h2:(10:Nat) ^ (t.data.toList.take k).length<=10 ^ 17:=Nat.pow_le_pow_right (by omega) (by rw[List.length_take];omega);have h3:(10:Nat) ^ 17=100000000000000000:=by decide
 omega
theorem number_plus(s:ByteArray)(w:World)(h0:0<s.size)(h1:s.size<=18)(hc:((s[0].toNat:Int)==45)=false)(hd:((s[0].toNat:Int)==48)=false∨s.size=1)
 (hA:s.data.toList.all z2n=true->z1I s.data.toList=some (val s.data.toList:Int)) (hN:s.data.toList.all z2n=false->z1I s.data.toList=none) :
 Calls Tryz.prog 29 #[.string s] w fun e w'=>e=.returned (.tuple #[.int .i64 ((z1I s.data.toList).getD 0),.bool (z1I s.data.toList).isSome])/\w=w':=by
 have g0:(0:Int)<s.size:=by omega
 have g1:¬(18:Int)<s.size:=by omega
 have g2:¬(s.size:Int)<1:=by omega
 have hl:s.data.toList.length=s.size:=by simp
 generalize z1I s.data.toList=R at *;rcases hd with hd|hd
 all_goals
  have g4:Hid True:=trivial
  try have g3:¬(1:Int)<s.size:=by omega
  go_enter Tryz.func29,Tryz.ntmps29;go_wp2
  try (by_cases hd2:((s[0].toNat:Int)==48)=true <;> try simp only[Bool.not_eq_true]at hd2)
  all_goals try go_wp2
  all_goals
   go_loop [5,6] (fun n i=>∃k:Nat,k<=s.size/\i=.int .i64 k/\n=.int .i64 (val (s.data.toList.take k):Int)/\Hid ((s.data.toList.take k).all z2n=true)) (fun _ i=>s.size-(intOf i).toNat)
   case atStart=>exact⟨0,Nat.zero_le _,rfl,rfl,rfl⟩
   case round=>
    obtain⟨k,hk,rfl,rfl,HK⟩:=hrel;by_cases hlt:k<s.size
    ·have HV:=val_more s k hlt;have HD:=dig_more s k hlt;rw[HK.out,Bool.true_and]at HD;have HS:=val_small s k (by omega) HK.out;generalize val (s.data.toList.take k)=V at *;have hb:(s[k].toNat:Int)<256:=by have:=s[k].toNat_lt;omega
     by_cases a1:(s[k].toNat:Int)<48
     ·have HX:Hid (R=none):=hN (dig_never (k:=k+1) (HD.trans (by unfold z2n;rw[Bool.and_eq_false_iff];left;rw[decide_eq_false_iff_not];omega)));clear HV HD HS hA hN HK;go_wp2;go_ret2;rw[HX.out];exact⟨rfl,rfl⟩
     ·by_cases a2:(57:Int)<s[k].toNat
      ·have HX:Hid (R=none):=hN (dig_never (k:=k+1) (HD.trans (by unfold z2n;rw[Bool.and_eq_false_iff];right;rw[decide_eq_false_iff_not];omega)));clear HV HD HS hA hN HK;go_wp2;go_ret2;rw[HX.out];exact⟨rfl,rfl⟩
      ·have HX:Hid ((s.data.toList.take (k+1)).all z2n=true):=HD.trans (by unfold z2n;rw[Bool.and_eq_true,decide_eq_true_eq,decide_eq_true_eq];omega);have hw1:IntKind.u8.wrap ((s[k].toNat:Int)-48)=(s[k].toNat:Int)-48:=wr8 _ (by omega) (by omega);have hw2:IntKind.i64.wrap (10*(V:Int))=10*(V:Int):=wr64 _ (by omega) (by omega);have hw3:IntKind.i64.wrap (10*(V:Int)+((s[k].toNat:Int)-48))=10*(V:Int)+((s[k].toNat:Int)-48):=wr64 _ (by omega) (by omega);have hw4:IntKind.i64.wrap ((s[k].toNat:Int)-48)=(s[k].toNat:Int)-48:=wr64 _ (by omega) (by omega);have HW:Hid (((val (s.data.toList.take (k+1)):Nat):Int)=10*(V:Int)+((s[k].toNat:Int)-48)):=by
        show((val (s.data.toList.take (k+1)):Nat):Int)=_;omega
       clear HV HD HS hA hN HK hl;go_wp2;go_round
       case rel=>exact⟨k+1,by omega,by go_num,by rw[HW.out],HX⟩
       case measure=>simp[intOf];omega
    ·have e:k=s.size:=by omega
     subst e;have et:s.data.toList.take s.size=s.data.toList:=List.take_of_length_le (by omega);rw[et]at HK ⊢;have HX:Hid (R=some (val s.data.toList:Int)):=hA HK.out;generalize val s.data.toList=V at *;clear hA hN HK et;go_wp2;go_ret2;rw[HX.out];exact⟨rfl,rfl⟩
theorem number_minus(s t:ByteArray)(w:World)(R:Option Int)(h0:0<s.size)(hT:s.extract 1 s.size=t)(h1:t.size<=18)(h2:0<t.size)(hc:((s[0].toNat:Int)==45)=true)(hd:((t[0].toNat:Int)==48)=false)
 (hA:t.data.toList.all z2n=true->R=some (-(val t.data.toList:Int))) (hN:t.data.toList.all z2n=false->R=none) :
 Calls Tryz.prog 29 #[.string s] w fun e w'=>e=.returned (.tuple #[.int .i64 (R.getD 0),.bool R.isSome])/\w=w':=by
 have g0:(0:Int)<s.size:=by omega
 have g1:¬(18:Int)<t.size:=by omega
 have g2:¬(t.size:Int)<1:=by omega
 have hts:(t.size:Int)<s.size:=by rw[<-hT];simp;omega
 have hl:t.data.toList.length=t.size:=by simp
 go_enter Tryz.func29,Tryz.ntmps29;go_wp2;go_loop [5,6] (fun n i=>∃k:Nat,k<=t.size/\i=.int .i64 k/\n=.int .i64 (val (t.data.toList.take k):Int)/\Hid ((t.data.toList.take k).all z2n=true)) (fun _ i=>t.size-(intOf i).toNat)
 case atStart=>exact⟨0,Nat.zero_le _,rfl,rfl,rfl⟩
 case round=>
  obtain⟨k,hk,rfl,rfl,HK⟩:=hrel;by_cases hlt:k<t.size
  ·have HV:=val_more t k hlt;have HD:=dig_more t k hlt;rw[HK.out,Bool.true_and]at HD;have HS:=val_small t k (by omega) HK.out;generalize val (t.data.toList.take k)=V at *;have hb:(t[k].toNat:Int)<256:=by have:=t[k].toNat_lt;omega
   by_cases a1:(t[k].toNat:Int)<48
   ·have HX:Hid (R=none):=hN (dig_never (k:=k+1) (HD.trans (by unfold z2n;rw[Bool.and_eq_false_iff];left;rw[decide_eq_false_iff_not];omega)));clear HV HD HS hA hN HK;go_wp2;go_ret2;rw[HX.out];exact⟨rfl,rfl⟩
   ·by_cases a2:(57:Int)<t[k].toNat
    ·have HX:Hid (R=none):=hN (dig_never (k:=k+1) (HD.trans (by unfold z2n;rw[Bool.and_eq_false_iff];right;rw[decide_eq_false_iff_not];omega)));clear HV HD HS hA hN HK;go_wp2;go_ret2;rw[HX.out];exact⟨rfl,rfl⟩
    ·have HX:Hid ((t.data.toList.take (k+1)).all z2n=true):=HD.trans (by unfold z2n;rw[Bool.and_eq_true,decide_eq_true_eq,decide_eq_true_eq];omega);have hw1:IntKind.u8.wrap ((t[k].toNat:Int)-48)=(t[k].toNat:Int)-48:=wr8 _ (by omega) (by omega);have hw2:IntKind.i64.wrap (10*(V:Int))=10*(V:Int):=wr64 _ (by omega) (by omega);have hw3:IntKind.i64.wrap (10*(V:Int)+((t[k].toNat:Int)-48))=10*(V:Int)+((t[k].toNat:Int)-48):=wr64 _ (by omega) (by omega);have hw4:IntKind.i64.wrap ((t[k].toNat:Int)-48)=(t[k].toNat:Int)-48:=wr64 _ (by omega) (by omega);have HW:Hid (((val (t.data.toList.take (k+1)):Nat):Int)=10*(V:Int)+((t[k].toNat:Int)-48)):=by
      show((val (t.data.toList.take (k+1)):Nat):Int)=_;omega
     clear HV HD HS hA hN HK hl;go_wp2;go_round
     case rel=>exact⟨k+1,by omega,by go_num,by rw[HW.out],HX⟩
     case measure=>simp[intOf];omega
  ·have e:k=t.size:=by omega
   subst e;have et:t.data.toList.take t.size=t.data.toList:=List.take_of_length_le (by omega);rw[et]at HK ⊢;have HX:Hid (R=some (-(val t.data.toList:Int))):=hA HK.out;have HV:=val_lt _ _ rfl HK.out;have h3:(10:Nat) ^ t.data.toList.length<=10 ^ 18:=Nat.pow_le_pow_right (by omega) (by omega);have h4:(10:Nat) ^ 18=1000000000000000000:=by decide
   have hw:IntKind.i64.wrap (-(val t.data.toList:Int))=-(val t.data.toList:Int):=wr64 _ (by omega) (by omega);generalize val t.data.toList=V at *;clear hA hN HK et HV h3 h4;go_wp2;go_ret2;rw[HX.out];exact⟨rfl,rfl⟩
theorem z7p (s:ByteArray)(w:World)(h:s.size=0∨(∃h:0<s.size,((s[0].toNat:Int)==45)=false/\(18<s.size∨(((s[0].toNat:Int)==48)=true/\1<s.size)))) :
 Calls Tryz.prog 29 #[.string s] w fun e w'=>e=.returned (.tuple #[.int .i64 0,.bool false])/\w=w':=by
 rcases h with h|⟨h,hc,h1|⟨h1,h2⟩⟩
 ·have g0:¬(0:Int)<s.size:=by omega
  have g2:(s.size:Int)<1:=by omega
  clear h;go_enter Tryz.func29,Tryz.ntmps29;go_wp2;go_ret2;exact⟨rfl,rfl⟩
 ·have g0:(0:Int)<s.size:=by omega
  have g1:(18:Int)<s.size:=by omega
  have g2:¬(s.size:Int)<1:=by omega
  go_enter Tryz.func29,Tryz.ntmps29;go_wp2;go_ret2;exact⟨rfl,rfl⟩
 ·have g0:(0:Int)<s.size:=by omega
  have g1:(1:Int)<s.size:=by omega
  have g2:¬(s.size:Int)<1:=by omega
  by_cases g3:(18:Int)<s.size
  all_goals
   go_enter Tryz.func29,Tryz.ntmps29;go_wp2;go_ret2;exact⟨rfl,rfl⟩
theorem z3M (s t:ByteArray)(w:World)(h0:0<s.size)(hT:s.extract 1 s.size=t)(hc:((s[0].toNat:Int)==45)=true)(h:t.size=0∨18<t.size∨∃h:0<t.size,((t[0].toNat:Int)==48)=true) :
 Calls Tryz.prog 29 #[.string s] w fun e w'=>e=.returned (.tuple #[.int .i64 0,.bool false])/\w=w':=by
 have g0:(0:Int)<s.size:=by omega
 have hts:t.size+1=s.size:=by rw[<-hT];simp;omega
 rcases h with h|h|⟨h,h1⟩
 ·have g2:(t.size:Int)<1:=by omega
  go_enter Tryz.func29,Tryz.ntmps29;go_wp2;go_ret2;exact⟨rfl,rfl⟩
 ·have g1:(18:Int)<t.size:=by omega
  have g2:¬(t.size:Int)<1:=by omega
  go_enter Tryz.func29,Tryz.ntmps29;go_wp2;go_ret2;exact⟨rfl,rfl⟩
 ·have g1:(1:Int)<s.size:=by omega
  have g2:¬(t.size:Int)<1:=by omega
  by_cases g3:(18:Int)<t.size
  all_goals
   go_enter Tryz.func29,Tryz.ntmps29;go_wp2;go_ret2;exact⟨rfl,rfl⟩
theorem head_of(s:ByteArray)(h:0<s.size):s.data.toList.head? = some s[0]:=by
 rw[List.head?_eq_getElem?,List.getElem?_eq_getElem (by simpa using h)];simp[ByteArray.getElem_eq_getElem_data]
theorem byte_eq(b:UInt8)(n:Nat)(hn:n<256):((b.toNat:Int)==(n:Int))=decide (b=UInt8.ofNat n):=by
 rw[Bool.eq_iff_iff,beq_iff_eq,decide_eq_true_eq];constructor
 ·intro h;have h1:b.toNat=n:=by omega
  rw[<-h1];simp
 ·intro h;rw[h,UInt8.toNat_ofNat'];omega
theorem tail_data(s:ByteArray):(s.extract 1 s.size).data.toList=s.data.toList.tail:=by
 rw[ByteArray.data_extract,Array.toList_extract,List.extract_eq_take_drop,List.take_of_length_le (by simp),List.drop_one]
theorem number_ref(s:ByteArray)(w:World) :
 Calls Tryz.prog 29 #[.string s] w fun e w'=>e=.returned (.tuple #[.int .i64 ((z1I s.data.toList).getD 0),.bool (z1I s.data.toList).isSome])/\w=w':=by
 have hl:s.data.toList.length=s.size:=by simp
 by_cases h0:0<s.size
 ·have hh:=head_of s h0;have hbe:((s[0].toNat:Int)==45)=decide (s[0]=45):=byte_eq s[0] 45 (by omega);by_cases hc:((s[0].toNat:Int)==45)=true
  ·have hc':s[0]=45:=by rw[hc]at hbe;simpa using hbe.symm
   have hm:magR s.data.toList=(s.extract 1 s.size).data.toList:=by
    unfold magR;rw[if_pos (by rw[hh,hc']),tail_data]
   obtain⟨t,hT⟩:∃t,s.extract 1 s.size=t:=⟨_,rfl⟩;rw[hT]at hm;have hts:t.size+1=s.size:=by rw[<-hT];simp;omega
   have hlt:t.data.toList.length=t.size:=by simp
   by_cases hz:t.size=0
   ·have hR:z1I s.data.toList=none:=by unfold z1I;rw[hm,if_pos (by omega)]
    rw[hR];exact z3M s t w h0 hT hc (.inl hz)
   ·by_cases h18:18<t.size
    ·have hR:z1I s.data.toList=none:=by unfold z1I;rw[hm,if_pos (by omega)]
     rw[hR];exact z3M s t w h0 hT hc (.inr (.inl h18))
    ·have htp:0<t.size:=by omega
     have hbt:((t[0].toNat:Int)==48)=decide (t[0]=48):=byte_eq t[0] 48 (by omega);have hht:=head_of t htp;by_cases hd:((t[0].toNat:Int)==48)=true
     ·have hd':t[0]=48:=by rw[hd]at hbt;simpa using hbt.symm
      have hR:z1I s.data.toList=none:=by unfold z1I;rw[hm,if_pos (.inr (.inr ⟨by rw[hht,hd'],by omega⟩))]
      rw[hR];exact z3M s t w h0 hT hc (.inr (.inr ⟨htp,hd⟩))
     ·have hd':¬t[0]=48:=by
       intro e;rw[hbt]at hd;simp[e]at hd
      have hcond:¬(t.data.toList.length<1∨18<t.data.toList.length∨(t.data.toList.head? = some 48/\1<s.data.toList.length)):=by
       rintro(h|h|⟨h,_⟩)
       ·omega
       ·omega
       ·rw[hht]at h;exact hd' (Option.some.inj h)
      refine number_minus s t w _ h0 hT (by omega) htp hc (by simpa using hd) (fun h=>?_) (fun h=>?_)
      ·unfold z1I;rw[hm,if_neg hcond,if_pos h,if_pos (by omega)]
      ·unfold z1I;rw[hm,if_neg hcond,if_neg (by rw[h];decide)]
  ·have hc2:((s[0].toNat:Int)==45)=false:=by simpa using hc
   have hc':¬s[0]=45:=by
    intro e;rw[hbe]at hc;simp[e]at hc
   have hm:magR s.data.toList=s.data.toList:=by
    unfold magR;rw[if_neg (by rw[hh];intro e;exact hc' (Option.some.inj e))]
   have hbt:((s[0].toNat:Int)==48)=decide (s[0]=48):=byte_eq s[0] 48 (by omega);by_cases h18:18<s.size
   ·have hR:z1I s.data.toList=none:=by unfold z1I;rw[hm,if_pos (by omega)]
    rw[hR];exact z7p s w (.inr ⟨h0,hc2,.inl h18⟩)
   ·by_cases hd:((s[0].toNat:Int)==48)=true/\1<s.size
    ·have hd':s[0]=48:=by rw[hd.1]at hbt;simpa using hbt.symm
     have hR:z1I s.data.toList=none:=by unfold z1I;rw[hm,if_pos (.inr (.inr ⟨by rw[hh,hd'],by omega⟩))]
     rw[hR];exact z7p s w (.inr ⟨h0,hc2,.inr hd⟩)
    ·have hcond:¬(s.data.toList.length<1∨18<s.data.toList.length∨(s.data.toList.head? = some 48/\1<s.data.toList.length)):=by
      rintro(h|h|⟨h,h2⟩)
      ·omega
      ·omega
      ·rw[hh]at h;exact hd ⟨by rw[hbt,decide_eq_true_eq];exact Option.some.inj h,by omega⟩
     refine number_plus s w h0 (by omega) hc2 ?_ (fun h=>?_) (fun h=>?_)
     ·by_cases h1:((s[0].toNat:Int)==48)=true
      ·right;have:¬1<s.size:=fun h2=>hd ⟨h1,h2⟩
       omega
      ·left;simpa using h1
     ·unfold z1I;rw[hm,if_neg hcond,if_pos h,if_neg (by omega)]
     ·unfold z1I;rw[hm,if_neg hcond,if_neg (by rw[h];decide)]
 ·have hn:s.data.toList=[]:=List.length_eq_zero_iff.1 (by omega);have hR:z1I s.data.toList=none:=by rw[hn];rfl
  rw[hR];exact z7p s w (.inl (by omega))
end
section
open Go.RowKit
set_option maxHeartbeats 1000000
set_option maxRecDepth 100000
theorem z0S {P:Program}{ops:Array Oper}{rest:List Oper}{o:Oper}{a:Act}{w W:World}{Q:Exit->Act->World->Prop}(hg:o.guard=none)(s x:Operand)(t:TypeId)
 (hop:o.op=Op.call {callee:=Callee.builtin Builtin.append,args:=#[s,x],argTypes:=#[t,t]}) (v sl v':Value)
 (hs:a.eval s=v) (hx:a.eval x=sl) (hrun:(Builtin.append_ #[t,t] o.type #[v,sl]).run P w=.ok v' W) (h:wpList P ops Q rest (a.put o.dst v') W):wpList P ops Q (o :: rest) a w:=
 wpList_plain hg fun _ hK=>by
  unfold Oper.wp;simp[execOp,hop,resolve,invoke,builtin,hs,hx,hrun,Result.andThen];exact hK _ _ h
def strC(xs:List (List UInt8)):List Value:=xs.map fun l=>.string ⟨l.toArray⟩
theorem strGrow{B:Nat}{w0 w:World}{v:Value}{n:Nat}{cs:List Value}(a:ByteArray)(hB:B<=w.heap.size)(hb:Below B w0 w)(h:w.ownsRow B 9 1 v n cs)(hn:n+1<=1000000) :
 ∃g cap W,(Builtin.append_ #[22,22] 22 #[v,.slice (some ⟨w.heap.size,0,none⟩) 1 1]).run Tryz.prog (w.alloc (.cells #[.string a] 9))=.ok (.slice (some ⟨g,0,none⟩) (n+1) cap) W/\W.ownsRow B 9 1 (.slice (some ⟨g,0,none⟩) (n+1) cap) (n+1) (cs++[.string a])/\Below B w0 W:=by
 obtain⟨g,cap,W,happ,hown,hgr⟩:=z4z 22 9 1 16 (.string ⟨#[]⟩) (by kernel_rfl) (by kernel_rfl) (by rfl) (by decide) B w v n cs [.string a] h rfl (by simp[Value.oneCell']) hB hn (by decide);exact⟨g,cap,W,happ,hown,(hb.alloc hB _).grown hgr (by simp;omega) (fun k hk=>(h.lt k hk).1)⟩
theorem strC_snoc(d:List (List UInt8))(a:ByteArray):strC d++[.string a]=strC (d++[a.data.toList]):=by simp[strC]
theorem cut_snoc(c:UInt8)(l:List UInt8)(b:UInt8):cut c (l++[b])=z1U c (cut c l) b:=by unfold cut;rw[List.foldl_append];rfl
theorem byteCh(b:UInt8)(n:Nat)(hn:n<256)(h:((b.toNat:Int)==(n:Int))=true):b=UInt8.ofNat n:=by rw[byte_eq b n hn]at h;simpa using h
theorem byteNo(b:UInt8)(n:Nat)(hn:n<256)(h:((b.toNat:Int)==(n:Int))=false):b≠UInt8.ofNat n:=by rw[byte_eq b n hn]at h;simpa using h
structure z3p (c:UInt8)(w wr:World)(v:Value)(n:Nat)(l:List UInt8)(cur:List UInt8):Prop where
 below:Below w.heap.size w wr
 is:∃d:List (List UInt8),cut c l=(d,cur)/\d.length=n/\wr.ownsRow w.heap.size 9 1 v n (strC d)
theorem z3p.grow{c:UInt8}{w wr:World}{v:Value}{n:Nat}{l:List UInt8}{cur:ByteArray}(h:z3p c w wr v n l cur.data.toList)(hn:n+1<=1000000) :
 ∃g cap W,(Builtin.append_ #[22,22] 22 #[v,.slice (some ⟨wr.heap.size,0,none⟩) 1 1]).run Tryz.prog (wr.alloc (.cells #[.string cur] 9))=.ok (.slice (some ⟨g,0,none⟩) (n+1) cap) W/\z3p c w W (.slice (some ⟨g,0,none⟩) (n+1) cap) (n+1) (l++[c]) [] /\
  W.ownsRow w.heap.size 9 1 (.slice (some ⟨g,0,none⟩) (n+1) cap) (n+1) (strC ((cut c l).1++[(cut c l).2]))/\((cut c l).1++[(cut c l).2]).length=n+1:=by
 obtain⟨d,h1,h2,h3⟩:=h.is;obtain⟨g,cap,W,happ,hown,hb⟩:=strGrow cur h.below.size h.below h3 hn;rw[strC_snoc]at hown;refine⟨g,cap,W,happ,⟨hb,d++[cur.data.toList],?_,by simp[h2],hown⟩,by rw[h1];exact hown,by rw[h1];simp[h2]⟩;rw[cut_snoc,h1];simp[z1U]
theorem z3p.more{c b:UInt8}{w wr:World}{v:Value}{n:Nat}{l:List UInt8}{cur:List UInt8}(h:z3p c w wr v n l cur)(hb:b≠c):z3p c w wr v n (l++[b]) (cur++[b]):=by
 obtain⟨d,h1,h2,h3⟩:=h.is;refine⟨h.below,d,?_,h2,h3⟩;rw[cut_snoc,h1];simp[z1U,hb]
theorem byte_piece(s:ByteArray)(k:Nat)(hk:k<s.size):(s.extract k (k+1)).data.toList=[s[k]]:=by
 rw[ByteArray.data_extract,Array.toList_extract,List.extract_eq_take_drop,show k+1-k=1 by omega,List.drop_eq_getElem_cons (by simpa using hk)];simp[ByteArray.getElem_eq_getElem_data]
theorem z2b (s:ByteArray)(w:World)(hs:s.size<=100000) :
 Calls Tryz.prog 12 #[.string s] w fun e w'=>(∃b cap,e=.returned (.slice (some ⟨b,0,none⟩) (z0O s.data.toList).length cap)/\w'.ownsRow w.heap.size 9 1 (.slice (some ⟨b,0,none⟩) (z0O s.data.toList).length cap) (z0O s.data.toList).length (strC (z0O s.data.toList)))/\Below w.heap.size w w':=by
 have hl:s.data.toList.length=s.size:=by simp
 have HW:Hid (z0O s.data.toList=(cut 32 s.data.toList).1++[(cut 32 s.data.toList).2]):=rfl;generalize z0O s.data.toList=ws at *;go_enter Tryz.func12,Tryz.ntmps12;go_wp2;go_loopw [3,4,5] (fun v c i wr=>∃(k n:Nat) (cur:ByteArray),k<=s.size/\n<=k/\cur.size<=k/\i=.int .i64 k/\c=.string cur/\z3p 32 w wr v n (s.data.toList.take k) cur.data.toList) (fun _ _ i _=>s.size-(intOf i).toNat)
 case atStart=>exact⟨0,0,⟨#[]⟩,Nat.zero_le _,Nat.le_refl _,Nat.le_refl _,rfl,rfl,Below.refl _ _,[],rfl,rfl,World.ownsRow_nil _ _ _ _⟩
 case round=>
  obtain⟨k,n,cur,hk,hn,hz,rfl,rfl,hC⟩:=hrel;by_cases hlt:k<s.size
  ·have ht:=take_more s k hlt;by_cases hc:((s[k].toNat:Int)==32)=true
   ·rw[byteCh s[k] 32 (by omega) hc]at ht;obtain⟨g,cap,W,happ,hC2,_,_⟩:=hC.grow (by omega);have HC:Hid (z3p 32 w W (.slice (some ⟨g,0,none⟩) (n+1) cap) (n+1) (s.data.toList.take (k+1)) []):=by
     show z3p 32 w W _ _ _ _;rw[ht];exact hC2
    clear ht hC2 hC;go_wp2_with (at_builtin;refine z0S rfl _ _ 22 rfl _ _ _ rfl rfl happ ?_);go_wp2;go_roundw
    case rel=>exact⟨k+1,n+1,⟨#[]⟩,by omega,by omega,Nat.zero_le _,by go_num,rfl,HC.out⟩
    case measure=>simp[intOf];omega
   ·have hc2:((s[k].toNat:Int)==32)=false:=by simpa using hc
    have hC2:=hC.more (byteNo s[k] 32 (by omega) hc2);have hp:=byte_piece s k hlt;rw[<-ht]at hC2;have HC:Hid (z3p 32 w wr u3 n (s.data.toList.take (k+1)) (cur++s.extract k (k+1)).data.toList):=by
     show z3p 32 w wr u3 n _ _;rw[ByteArray.data_append,Array.toList_append,hp];exact hC2
    clear ht hC2 hC hp hc;go_wp2;go_roundw
    case rel=>exact⟨k+1,n,_,by omega,by omega,by simp;omega,by go_num,rfl,HC.out⟩
    case measure=>simp[intOf];omega
  ·have e:k=s.size:=by omega
   subst e;have et:s.data.toList.take s.size=s.data.toList:=List.take_of_length_le (by omega);rw[et]at hC;obtain⟨g,cap,W,happ,hC2,hown,hlen⟩:=hC.grow (by omega);rw[<-HW.out]at hown hlen;have hB:=hC2.below;have HL:Hid (ws.length=n+1):=hlen;clear et hC hC2 HW hlen;go_wp2_with (at_builtin;refine z0S rfl _ _ 22 rfl _ _ _ rfl rfl happ ?_);go_wp2;go_ret;rw[HL.out];exact⟨⟨g,cap,rfl,hown⟩,hB⟩
theorem z6Y (s:ByteArray)(f k:Nat):(s.extract f k).data.toList=(s.data.toList.drop f).take (k-f):=by
 rw[ByteArray.data_extract,Array.toList_extract,List.extract_eq_take_drop]
theorem piece_more(s:ByteArray)(f k:Nat)(hf:f<=k)(hk:k<s.size):(s.extract f (k+1)).data.toList=(s.extract f k).data.toList++[s[k]]:=by
 rw[z6Y,z6Y,show k+1-f=(k-f)+1 by omega,List.take_add_one,List.getElem?_drop,show f+(k-f)=k by omega,List.getElem?_eq_getElem (by simpa using hk)];simp[ByteArray.getElem_eq_getElem_data]
theorem piece_none(s:ByteArray)(f:Nat):(s.extract f f).data.toList=[]:=by rw[z6Y];simp
theorem linesOf_ref(s:ByteArray)(w:World)(hs:s.size<=100000) :
 Calls Tryz.prog 36 #[.string s] w fun e w'=>(∃v,e=.returned (.tuple #[v,.bool (decide ((cut 10 s.data.toList).2=[]))])/\w'.ownsRow w.heap.size 9 1 v (cut 10 s.data.toList).1.length (strC (cut 10 s.data.toList).1))/\Below w.heap.size w w':=by
 have hl:s.data.toList.length=s.size:=by simp
 obtain⟨R,hR⟩:∃R,cut 10 s.data.toList=R:=⟨_,rfl⟩;rw[hR];have HR:Hid (cut 10 s.data.toList=R):=hR;clear hR;go_enter Tryz.func36,Tryz.ntmps36;go_wp2;go_loopw [4,5,6] (fun v f i wr=>∃(k n fr:Nat),k<=s.size/\n<=k/\fr<=k/\i=.int .i64 k/\f=.int .i64 fr/\z3p 10 w wr v n (s.data.toList.take k) (s.extract fr k).data.toList) (fun _ _ i _=>s.size-(intOf i).toNat)
 case atStart=>exact⟨0,0,0,Nat.zero_le _,Nat.le_refl _,Nat.le_refl _,rfl,rfl,Below.refl _ _,[],by rw[piece_none];rfl,rfl,World.ownsRow_nil _ _ _ _⟩
 case round=>
  obtain⟨k,n,fr,hk,hn,hf,rfl,rfl,hC⟩:=hrel;have hf':(fr:Int)<=k:=by omega
  by_cases hlt:k<s.size
  ·have ht:=take_more s k hlt;by_cases hc:((s[k].toNat:Int)==10)=true
   ·rw[byteCh s[k] 10 (by omega) hc]at ht;obtain⟨g,cap,W,happ,hC2,_,_⟩:=hC.grow (by omega);have HC:Hid (z3p 10 w W (.slice (some ⟨g,0,none⟩) (n+1) cap) (n+1) (s.data.toList.take (k+1)) (s.extract (k+1) (k+1)).data.toList):=by
     show z3p 10 w W _ _ _ _;rw[ht,piece_none];exact hC2
    clear ht hC2 hC;go_wp2_with (at_builtin;refine z0S rfl _ _ 22 rfl _ _ _ rfl rfl happ ?_);go_wp2;go_roundw
    case rel=>exact⟨k+1,n+1,k+1,by omega,by omega,by omega,by go_num,by go_num,HC.out⟩
    case measure=>simp[intOf];omega
   ·have hc2:((s[k].toNat:Int)==10)=false:=by simpa using hc
    have hC2:=hC.more (byteNo s[k] 10 (by omega) hc2);rw[<-ht,<-piece_more s fr k hf hlt]at hC2;have HC:Hid (z3p 10 w wr u4 n (s.data.toList.take (k+1)) (s.extract fr (k+1)).data.toList):=hC2;clear ht hC2 hC hc;go_wp2;go_roundw
    case rel=>exact⟨k+1,n,fr,by omega,by omega,by omega,by go_num,rfl,HC.out⟩
    case measure=>simp[intOf];omega
  ·have e:k=s.size:=by omega
   subst e;have et:s.data.toList.take s.size=s.data.toList:=List.take_of_length_le (by omega);rw[et]at hC;obtain⟨d,h1,h2,h3⟩:=hC.is;rw[HR.out]at h1;have HD:Hid (R=(d,(s.extract fr s.size).data.toList)):=h1;have hB:=hC.below;have HB:Hid (((fr:Int)==(s.size:Int))=decide ((s.extract fr s.size).data.toList=[])):=by
    show((fr:Int)==(s.size:Int))=_;rw[Bool.eq_iff_iff,beq_iff_eq,decide_eq_true_eq,<-List.length_eq_zero_iff,z6Y,List.length_take,List.length_drop];omega
   have HN:Hid (d.length=n):=h2;clear et hC h1 h2 HR;go_wp2;go_ret2;rw[HB.out,HD.out];exact⟨⟨_,rfl,by rw[HN.out];exact h3⟩,hB⟩
end
section
open Go.RowKit
set_option maxHeartbeats 2000000
set_option maxRecDepth 100000
def z3z (l:ByteArray):List ByteArray:=Lib.splitB ⟨#[32]⟩ 0 (Lib.countB l ⟨#[32]⟩) l
theorem readLine_need(B bo:Nat)(vN vW vS vT:Value)(o:ObjF)(l:ByteArray)(wk:Bool)(l' a:ByteArray)(w:World)(hE:Env w)(hR:z0n B w bo vN vW vS vT o)
 (hl':l'.size<=1000000) (hcut:Lib.hasPrefix l.data.toList [119,101,97,107,32]=wk) (htrim:(ByteArray.mk (Lib.trimPrefix l.data.toList [119,101,97,107,32]).toArray)=l')
 (hws:z3z l'=[⟨#[110,101,101,100]⟩,a]) (ha:a.size<=1000000) (hn:o.nN+1<=1000000) :
 Calls Tryz.prog 133 #[.pointer (some ⟨bo,0,none⟩),.string l] w fun e w'=>e=.returned (.tuple #[])/\(∃v0 v1 v2 v3,z0n B w' bo v0 v1 v2 v3 (z2f o a))/\Kept B bo w w':=by
 have HC:=Tryz.strings_CutPrefix l ⟨#[119,101,97,107,32]⟩ w;have e0:(ByteArray.mk #[119,101,97,107,32]).data.toList=[119,101,97,107,32]:=rfl;rw[e0,hcut,htrim]at HC;obtain⟨m,hm⟩:=hE.maxLen;have HS:=Tryz.strings_Split l' ⟨#[32]⟩ m w (by omega) hm (by decide);have HWS:Lib.splitB ⟨#[32]⟩ 0 (Lib.countB l' ⟨#[32]⟩) l'=[⟨#[110,101,101,100]⟩,a]:=hws;have hcnt:Lib.countB l' ⟨#[32]⟩=1:=by
  have h:=Lib.splitB_all ⟨#[32]⟩ (by decide) 0 _ l' rfl;rw[HWS]at h;simp only[List.length_cons,List.length_nil]at h;omega
 rw[HWS,hcnt]at HS;simp only[List.map_cons,List.map_nil]at HS;have hBw:B<=w.heap.size:=hR.lo;have hX:Below w.heap.size w (w.alloc (.cells #[.string ⟨#[110,101,101,100]⟩,.string a] 9)):=(Below.refl _ _).alloc (Nat.le_refl _) _;have hY:=fun nq:Nat=>below_drewN hX nq
 have x0:=fun nq:Nat=>(show((w.alloc (.cells #[.string ⟨#[110,101,101,100]⟩,.string a] 9)).drewN nq).cell? ⟨w.heap.size,1,none⟩=some (.string a) by simp[go_sem])
 clear e0 hcut htrim hcnt HWS hws hm hX;go_enter Tryz.func133,Tryz.ntmps133;go_wp2_with fail;refine HC.mono ?_;rintro e w' ⟨rfl,hw'⟩;replace hw':=hw'.symm;subst hw';go_wp2_with fail;refine HS.mono ?_;rintro e w' ⟨rfl,hw'⟩;replace hw':=hw'.symm;subst hw';clear HC HS;go_wp2;go_quiet (fail);go_wp2;replace hY:=hY nq;replace x0:=x0 nq;generalize (w.alloc (.cells #[.string ⟨#[110,101,101,100]⟩,.string a] 9)).drewN nq=Y at *;replace hR:=hR.below hY;replace hE:=hE.later hY;replace hY:Kept B bo w Y:=Kept.of hY hBw;have hC:=hR.c0;go_region_law (first|(refine z2k rfl _ _ 22 rfl _ _ _ rfl rfl happ ?_)|(go_simp;go_at_call 102;refine(clone_any _ _ (by assumption)).mono ?_;rintro e w2 ⟨rfl,hb⟩;(try replace hb:=z0v hb);replace hY:=hY.trans (Kept.of hb hR.lo);replace hR:=hR.below hb;replace hE:=hE.later hb;replace x0:=cell_later hb x0;replace hC:=hR.c0;clear hb;obtain⟨g,cap,W,happ,g0,gz,hRn,hBn⟩:=hR.needGrow hY a hn;have qs:bo<w2.heap.size:=hR.lt))
 all_goals
  go_wp2;go_end0;exact⟨rfl,hRn,hBn⟩
theorem readLine_word(B bo:Nat)(vN vW vS vT:Value)(o:ObjF)(l:ByteArray)(wk:Bool)(l' a:ByteArray)(w:World)(hE:Env w)(hR:z0n B w bo vN vW vS vT o)
 (hl':l'.size<=1000000) (hcut:Lib.hasPrefix l.data.toList [119,101,97,107,32]=wk) (htrim:(ByteArray.mk (Lib.trimPrefix l.data.toList [119,101,97,107,32]).toArray)=l')
 (hws:z3z l'=[⟨#[119,111,114,100]⟩,a]) (ha:a.size<=1000000) (hn:o.nW+1<=1000000) :
 Calls Tryz.prog 133 #[.pointer (some ⟨bo,0,none⟩),.string l] w fun e w'=>e=.returned (.tuple #[])/\(∃v0 v1 v2 v3,z0n B w' bo v0 v1 v2 v3 (z1L o (numF a.data.toList)))/\Kept B bo w w':=by
 have HC:=Tryz.strings_CutPrefix l ⟨#[119,101,97,107,32]⟩ w;have e0:(ByteArray.mk #[119,101,97,107,32]).data.toList=[119,101,97,107,32]:=rfl;rw[e0,hcut,htrim]at HC;obtain⟨m,hm⟩:=hE.maxLen;have HS:=Tryz.strings_Split l' ⟨#[32]⟩ m w (by omega) hm (by decide);have HWS:Lib.splitB ⟨#[32]⟩ 0 (Lib.countB l' ⟨#[32]⟩) l'=[⟨#[119,111,114,100]⟩,a]:=hws;have hcnt:Lib.countB l' ⟨#[32]⟩=1:=by
  have h:=Lib.splitB_all ⟨#[32]⟩ (by decide) 0 _ l' rfl;rw[HWS]at h;simp only[List.length_cons,List.length_nil]at h;omega
 rw[HWS,hcnt]at HS;simp only[List.map_cons,List.map_nil]at HS;have hBw:B<=w.heap.size:=hR.lo;have hX:Below w.heap.size w (w.alloc (.cells #[.string ⟨#[119,111,114,100]⟩,.string a] 9)):=(Below.refl _ _).alloc (Nat.le_refl _) _;have hY:=fun nq:Nat=>below_drewN hX nq
 have x0:=fun nq:Nat=>(show((w.alloc (.cells #[.string ⟨#[119,111,114,100]⟩,.string a] 9)).drewN nq).cell? ⟨w.heap.size,1,none⟩=some (.string a) by simp[go_sem])
 clear e0 hcut htrim hcnt HWS hws hm hX;go_enter Tryz.func133,Tryz.ntmps133;go_wp2_with fail;refine HC.mono ?_;rintro e w' ⟨rfl,hw'⟩;replace hw':=hw'.symm;subst hw';go_wp2_with fail;refine HS.mono ?_;rintro e w' ⟨rfl,hw'⟩;replace hw':=hw'.symm;subst hw';clear HC HS;go_wp2;go_quiet (fail);go_wp2;replace hY:=hY nq;replace x0:=x0 nq;generalize (w.alloc (.cells #[.string ⟨#[119,111,114,100]⟩,.string a] 9)).drewN nq=Y at *;replace hR:=hR.below hY;replace hE:=hE.later hY;replace hY:Kept B bo w Y:=Kept.of hY hBw;have hC:=hR.c1;go_region_law (first|(refine z2k rfl _ _ 52 rfl _ _ _ rfl rfl happ ?_)|(go_simp;go_at_call 176;refine(z5T _ _ (by first|exact hE|exact hE.drew) (by assumption)).mono ?_;rintro e w2 ⟨rfl,hb⟩;(try replace hb:=z0v hb);replace hY:=hY.trans (Kept.of hb hR.lo);replace hR:=hR.below hb;replace hE:=hE.later hb;replace x0:=cell_later hb x0;replace hC:=hR.c1;clear hb;obtain⟨g,cap,W,happ,g0,gz,hRn,hBn⟩:=hR.wordGrow hY (numF a.data.toList) hn;have qs:bo<w2.heap.size:=hR.lt))
 all_goals
  go_wp2;go_end0;exact⟨rfl,hRn,hBn⟩
end
section
open Go.RowKit
set_option maxHeartbeats 2000000
set_option maxRecDepth 100000
theorem lt_of_block{w:World}{R:Nat}{o:Obj}(h:w.heap[R]?=some o):R<w.heap.size:=(Array.getElem?_eq_some_iff.1 h).1
theorem namedTie_any(kd:Int)(wk:Bool)(bk of:Nat)(a b c:ByteArray)(w:World)(hE:Env w)(ha:a.size<=1000000)(hb:b.size<=1000000)(hc:c.size<=1000000)
 (c0:w.cell? ⟨bk,of,none⟩=some (.string a)) (c1:w.cell? ⟨bk,of+1,none⟩=some (.string b)) (c2:w.cell? ⟨bk,of+2,none⟩=some (.string c)) :
 Calls Tryz.prog 177 #[.int .i64 kd,.slice (some ⟨bk,of,none⟩) 3 3,.bool wk] w fun e w'=>e=.returned (.agg #[.int .i64 (numF a.data.toList),.int .i64 kd,.int .i64 (numF b.data.toList),.string c,.bool wk])/\Below w.heap.size w w':=by
 have hB:Below w.heap.size w (w.alloc (.cells #[.int .i64 0,.int .i64 0,.int .i64 0,.string ⟨#[]⟩,.bool false] 98)):=(Below.refl _ _).alloc (Nat.le_refl _) _;have hR:(w.alloc (.cells #[.int .i64 0,.int .i64 0,.int .i64 0,.string ⟨#[]⟩,.bool false] 98)).heap[w.heap.size]?=some (.cells #[.int .i64 0,.int .i64 0,.int .i64 0,.string ⟨#[]⟩,.bool false] 98 (0,0)):=by show(w.heap.push _)[w.heap.size]?=_;rw[Array.getElem?_push_size]
 replace hE:=hE.later hB;replace c0:=cell_later hB c0;replace c1:=cell_later hB c1;replace c2:=cell_later hB c2;go_enter Tryz.func177,Tryz.ntmps177;go_wp2;generalize w.alloc (.cells #[.int .i64 0,.int .i64 0,.int .i64 0,.string ⟨#[]⟩,.bool false] 98)=Y at *;generalize hRw:w.heap.size=R at *;have HR:Hid (w.heap.size=R):=hRw;clear hRw;have q0:Y.cell? ⟨R,0,none⟩=some (.int .i64 0):=by simp[World.cell?,hR]
 have f0:Y.frozen? ⟨R,0,none⟩=false:=by simp[World.frozen?,hR]
 have q1:Y.cell? ⟨R,1,none⟩=some (.int .i64 0):=by simp[World.cell?,hR]
 have f1:Y.frozen? ⟨R,1,none⟩=false:=by simp[World.frozen?,hR]
 have q2:Y.cell? ⟨R,2,none⟩=some (.int .i64 0):=by simp[World.cell?,hR]
 have f2:Y.frozen? ⟨R,2,none⟩=false:=by simp[World.frozen?,hR]
 have q3:Y.cell? ⟨R,3,none⟩=some (.string ⟨#[]⟩):=by simp[World.cell?,hR]
 have f3:Y.frozen? ⟨R,3,none⟩=false:=by simp[World.frozen?,hR]
 have q4:Y.cell? ⟨R,4,none⟩=some (.bool false):=by simp[World.cell?,hR]
 have f4:Y.frozen? ⟨R,4,none⟩=false:=by simp[World.frozen?,hR]
 go_region_law (first|(go_simp;go_at_call 176;refine(z5T _ _ (by first|exact hE|exact hE.drew) (by assumption)).mono ?_;rintro e w2 ⟨rfl,hx⟩;(try replace hx:=z0v hx);have hl:=lt_of_block hR;replace hE:=hE.later hx;replace c0:=cell_later hx c0;replace c1:=cell_later hx c1;replace c2:=cell_later hx c2;replace hR:=(hx.block R hl).trans hR;replace q0:=cell_later hx q0;replace q1:=cell_later hx q1;replace q2:=cell_later hx q2;replace q3:=cell_later hx q3;replace q4:=cell_later hx q4;replace f0:=(hx.frozen (p:=⟨R,0,none⟩) hl).trans f0;replace f1:=(hx.frozen (p:=⟨R,1,none⟩) hl).trans f1;replace f2:=(hx.frozen (p:=⟨R,2,none⟩) hl).trans f2;replace f3:=(hx.frozen (p:=⟨R,3,none⟩) hl).trans f3;replace f4:=(hx.frozen (p:=⟨R,4,none⟩) hl).trans f4;replace hB:=hB.trans (hx.mono (Nat.le_of_lt hl));clear hx)|(go_simp;go_at_call 102;refine(clone_any _ _ (by assumption)).mono ?_;rintro e w2 ⟨rfl,hx⟩;(try replace hx:=z0v hx);have hl:=lt_of_block hR;replace hE:=hE.later hx;replace c0:=cell_later hx c0;replace c1:=cell_later hx c1;replace c2:=cell_later hx c2;replace hR:=(hx.block R hl).trans hR;replace q0:=cell_later hx q0;replace q1:=cell_later hx q1;replace q2:=cell_later hx q2;replace q3:=cell_later hx q3;replace q4:=cell_later hx q4;replace f0:=(hx.frozen (p:=⟨R,0,none⟩) hl).trans f0;replace f1:=(hx.frozen (p:=⟨R,1,none⟩) hl).trans f1;replace f2:=(hx.frozen (p:=⟨R,2,none⟩) hl).trans f2;replace f3:=(hx.frozen (p:=⟨R,3,none⟩) hl).trans f3;replace f4:=(hx.frozen (p:=⟨R,4,none⟩) hl).trans f4;replace hB:=hB.trans (hx.mono (Nat.le_of_lt hl));clear hx))
 all_goals
  go_wp2;refine bodyPost_ret (v:=.agg #[.int .i64 (numF a.data.toList),.int .i64 kd,.int .i64 (numF b.data.toList),.string c,.bool wk]) (by simp[results,Tryz.results177,go_sem,q0,q1,q2,q3,q4]) rfl ⟨rfl,?_⟩;rw[HR.out];exact((((hB.setCell (p:=⟨R,0,none⟩) (Nat.le_refl _) _).setCell (p:=⟨R,1,none⟩) (Nat.le_refl _) _).setCell (p:=⟨R,2,none⟩) (Nat.le_refl _) _).setCell (p:=⟨R,3,none⟩) (Nat.le_refl _) _).setCell (p:=⟨R,4,none⟩) (Nat.le_refl _) _
end
end Go.Proofs.YtbcpcbonlhlhpaaGreatDoor
