/- What Write of the document's files does, for every name and -/
import Derived.Test.YtbcpcbonlhlhpaaGreatDoorRefFilesWalks
import Derived.Maps.RangeWalk
import Derived.Sort.KeysCollected
import Derived.Sort.OwnSorted
set_option maxRecDepth 100000
set_option maxHeartbeats 2000000
namespace Go.Proofs.YtbcpcbonlhlhpaaGreatDoor
section
open Go.RowKit
def z6a (L:List z0u)(k:Nat)(s text:ByteArray):Nat:=
 seqF (z0r s.data.toList) (if 1200<text.size then 2 else if ((∀x∈L,x.nm≠s)/\L.length=6)∨k=1000000 then 8 else 0)
structure WriteREnd(B:Nat)(w:World)(q:Nat)(L:List z0u)(k:Nat)(s text:ByteArray)(F:Nat)(e:Ending)(w':World):Prop where
 e:e=.returned (.int .i64 (F:Int))
 yes:F=0->RAt B w' q (putR ⟨s,text,(k:Int)+1⟩ L) (k+1)
 no:F≠0->RAt B w' q L k
 turned:Turned q q w w'
theorem less_eq:∀x y:List UInt8,Op.bytesLess x y=decide (x<y)
 |x,[]=>by cases x <;> simp[Op.bytesLess]
 | [],b :: y=>by simp[Op.bytesLess]
 |a :: x,b :: y=>by
  rw[Op.bytesLess,less_eq x y,Bool.eq_iff_iff];simp[List.cons_lt_cons_iff]
theorem leN_walk(x y:ByteArray):(Op.bytesLess x.toList y.toList||x.toList==y.toList)=leN x y:=by
 rw[less_eq,ByteArray.toList_eq,ByteArray.toList_eq,Bool.eq_iff_iff];unfold leN;simp only[Bool.or_eq_true,decide_eq_true_eq,beq_iff_eq];exact List.le_iff_lt_or_eq.symm
theorem stepR_in{new x:z0u}{acc:List z0u}(hle:leN new.nm x.nm=true)(h:x.nm=new.nm):z4R new (acc,false) x=(acc++[new],true):=by
 unfold z4R;rw[hle,if_pos h];simp
theorem stepR_two{new x:z0u}{acc:List z0u}(hle:leN new.nm x.nm=true)(h:x.nm≠new.nm):z4R new (acc,false) x=((acc++[new])++[x],true):=by
 unfold z4R;rw[hle,if_neg h];simp
theorem RAt.count{B q k:Nat}{w:World}{L:List z0u}(h:RAt B w q L k)(k':Nat):RAt B (w.setCell ⟨q,1,none⟩ (.int .i64 (k':Int))) q L k'/\Turned q q w (w.setCell ⟨q,1,none⟩ (.int .i64 (k':Int))):=by
 obtain⟨v,h1,h2⟩:=h.blk;refine⟨⟨h.lo,v,?_,?_⟩,rfl,rfl,rfl,by simp[World.setCell],fun j _ h3 _=>?_⟩
 ·show(w.heap.modify q _)[q]?=_;rw[Array.getElem?_modify,if_pos rfl,h1];rfl
 ·refine⟨h2.1,?_⟩;rcases h2.2 with hn|⟨g,cap,cur,e1,e2,e3,e4⟩
  ·exact .inl hn
  ·refine .inr ⟨g,cap,cur,e1,e2,?_,e4⟩;have hne:q≠g:=fun e=>by
    subst e;rw[h1]at e3;injection e3 with e3;injection e3 with _ e5;exact absurd e5 (by decide)
   show(w.heap.modify q _)[g]?=_;rw[Array.getElem?_modify,if_neg hne];exact e3
 ·show(w.heap.modify q _)[j]?=_;rw[Array.getElem?_modify,if_neg (fun e=>h3 e.symm)]
theorem writeR_ok(B:Nat)(w:World)(q:Nat)(L:List z0u)(k:Nat)(s text:ByteArray)(h:RAt B w q L k)(hL:L.length<=1000)(hB:B<=w.heap.size)(hs:s.size<=maxLen)(hn:z0r s.data.toList=0)(ht:¬1200<text.size)(ho:¬((∀x∈L,x.nm≠s)/\L.length=6))(hk:k<1000000) :
 Calls Tryz.prog 19 #[.pointer (some ⟨q,0,none⟩),.string s,.string text] w fun e w'=>WriteREnd B w q L k s text 0 e w':=by
 have HN:=z2d s w hs;rw[hn]at HN;have HR:=readR_any B w q L k s h hL;have ht':¬(1200:Int)<(text.size:Int):=by omega
 clear ht hn;go_enter Tryz.func19,Tryz.ntmps19;go_wp2_with fail;refine HN.mono ?_;rintro e w' ⟨rfl,rfl⟩;go_wp2_with fail;refine HR.mono ?_;rintro e w2 ⟨⟨t,nn,f,rfl,hR⟩,hb2⟩;have h2:=h.later hb2;obtain⟨a,c,hc,c0,c1,hcell⟩:=h2.open;obtain⟨K,hK⟩:∃K:Int,(k:Int)=K:=⟨_,rfl⟩;have HK:Hid ((k:Int)=K):=hK;have hk0:0<=K:=by omega
 have hk1:K<1000000:=by omega
 have hk2:(K==1000000)=false:=by rw[beq_eq_false_iff_ne];omega
 rw[hK]at c1;have hfull:f=0∨(f=5/\L.length≠6):=by
  rcases hR with⟨x,_,_,_,_,h0⟩|⟨hno,_,_,h5⟩
  ·exact .inl h0
  ·exact .inr ⟨h5,fun e=>ho ⟨hno,e⟩⟩
 clear HN HR hR ho hK hk;have hq:q<w2.heap.size:=World.block_lt_of_cell? _ _ c0;have hfz:w2.frozen? ⟨q,1,none⟩=false:=by obtain⟨v,hv,_⟩:=h2.blk;simp[World.frozen?,hv]
 have hcnt:=h2.count (k+1);have hcast:((k+1:Nat):Int)=K+1:=by rw[<-HK.out];omega
 rw[hcast]at hcnt;have hgo:(0<(f:Int)/\((L.length:Int)==6)=false)∨¬0<(f:Int):=by
  rcases hfull with rfl|⟨rfl,h6⟩
  ·exact .inr (by decide)
  ·exact .inl ⟨by decide,by rw[beq_eq_false_iff_ne];omega⟩
 clear hfull;have hB2:B<=w2.heap.size:=Nat.le_trans hB hb2.size;go_upto_region 7 with fail;go_cut [45]from 29 to 45 (fun x wc=>x=.bool false/\wc=w2)
 case first=>
  rcases hgo with⟨g1,g2⟩|g1
  ·go_wp2;go_meet;exact⟨rfl,rfl⟩
  ·go_wp2;go_meet;exact⟨rfl,rfl⟩
 case rest=>
  obtain⟨rfl,hw⟩:=hcut;replace hw:=hw.symm;subst hw;clear hgo;go_upto_region 10 with fail;obtain⟨h3,hT3⟩:=hcnt;replace hT3:=(Turned.of hb2).trans hT3;have hsz3:w2.heap.size<=(w2.setCell ⟨q,1,none⟩ (.int .i64 (K+1))).heap.size:=by simp[World.setCell]
  have hq3:q<(w2.setCell ⟨q,1,none⟩ (.int .i64 (K+1))).heap.size:=Nat.lt_of_lt_of_le hq hsz3;have hB3:B<=(w2.setCell ⟨q,1,none⟩ (.int .i64 (K+1))).heap.size:=Nat.le_trans hB2 hsz3;clear c0 c1 hcell hc hfz h2 hb2;generalize w2.setCell ⟨q,1,none⟩ (.int .i64 (K+1))=Y at *;obtain⟨a3,c3,hc3,e0,e1,hcell⟩:=h3.open;rw[hcast]at e1;clear hcast;go_wp2;go_loopw [11,12,13] (fun v b x wr=>∃i:Nat,i<=L.length/\x=.int .i64 i/\b=.bool (z2y ⟨s,text,K+1⟩ (L.take i)).2/\wr.ownsRow Y.heap.size 92 3 v (z2y ⟨s,text,K+1⟩ (L.take i)).1.length (rowC (z2y ⟨s,text,K+1⟩ (L.take i)).1)/\Below Y.heap.size Y wr/\(z2y ⟨s,text,K+1⟩ (L.take i)).1.length<=2*i) (fun _ _ x _=>L.length-(intOf x).toNat)
  case atStart=>exact⟨0,Nat.zero_le _,rfl,rfl,World.ownsRow_nil _ _ _ _,Below.refl _ _,Nat.le_refl _⟩
  case round=>
   obtain⟨i,hi,rfl,rfl,hown,hb,hlen⟩:=hrel;have b0:=cell_later hb e0;have b1:=cell_later hb e1;by_cases hlt:i<L.length
   ·obtain⟨x,hx⟩:∃x,L[i]?=some x:=⟨L[i],List.getElem?_eq_getElem hlt⟩;rcases hcell with h0|⟨g,rfl,hcc⟩
    ·omega
    have d0:=cell_later hb (hcc i x hx).1;have d1:=cell_later hb (hcc i x hx).2.1;have d2:=cell_later hb (hcc i x hx).2.2;have hst:z2y ⟨s,text,K+1⟩ (L.take (i+1))=z4R ⟨s,text,K+1⟩ (z2y ⟨s,text,K+1⟩ (L.take i)) x:=by
     rw[List.take_add_one,hx];exact stepsR_snoc _ _ _
    have HST:Hid (z2y ⟨s,text,K+1⟩ (L.take (i+1))=z4R ⟨s,text,K+1⟩ (z2y ⟨s,text,K+1⟩ (L.take i)) x):=hst;generalize z2y ⟨s,text,K+1⟩ (L.take i)=qq at *;obtain⟨acc,bb⟩:=qq;have hcc1:∀W,Below Y.heap.size Y W->W.cell? ⟨g,i*3,none⟩=some (.string x.nm)/\W.cell? ⟨g,i*3+1,none⟩=some (.string x.tx)/\W.cell? ⟨g,i*3+2,none⟩=some (.int .i64 x.st):=fun W hW=>⟨cell_later hW (hcc i x hx).1,cell_later hW (hcc i x hx).2.1,cell_later hW (hcc i x hx).2.2⟩
    clear hcc hst hx;have hlw:=leN_walk s x.nm;have hqw:(x.nm.toList==s.toList)=decide (x.nm=s):=z0z _ _;cases bb with
    |true=>
     cases hle:leN s x.nm <;> by_cases hnm:x.nm=s
     all_goals
      rw[hle]at hlw
      first
       |rw[decide_eq_true hnm]at hqw
       |rw[decide_eq_false hnm]at hqw
      first
       |(have hnm':x.nm=s:=hnm
         go_wp2;go_roundw
         case rel=>exact⟨i+1,by omega,by go_num,by rw[HST.out];simp[z4R],by rw[HST.out];simpa[z4R,hnm']using hown,hb,by rw[HST.out];simp[z4R,hnm']at hlen ⊢;omega⟩
         case measure=>simp[intOf];omega)
       |(obtain⟨v1,W1,happ1,hown2,hbG⟩:=z6T x hb.size hown (by simp at hlen ⊢;omega)
         have hb2:=(hb.alloc hb.size _).trans hbG;clear hown hbG;go_wp2_with (at_builtin;refine z0b rfl _ _ 31 rfl u11 _ _ rfl rfl happ1 ?_);go_roundw
         case rel=>exact⟨i+1,by omega,by go_num,by rw[HST.out];simp[z4R],by rw[HST.out];simpa[z4R,hnm]using hown2,hb2,by rw[HST.out];simp[z4R,hnm]at hlen ⊢;omega⟩
         case measure=>simp[intOf];omega)
    |false=>
     cases hle:leN s x.nm with
     |false=>
      rw[hle]at hlw;have hnm:x.nm≠s:=fun e=>by
       have:=leN_no hle;rw[e]at this;exact ltN_irrefl _ this
      rw[decide_eq_false hnm]at hqw;obtain⟨v1,W1,happ1,hown2,hbG⟩:=z6T x hb.size hown (by simp at hlen ⊢;omega);have hb2:=(hb.alloc hb.size _).trans hbG;clear hown hbG;go_wp2_with (at_builtin;refine z0b rfl _ _ 31 rfl u11 _ _ rfl rfl happ1 ?_);go_roundw
      case rel=>exact⟨i+1,by omega,by go_num,by rw[HST.out];simp[z4R,hle],by rw[HST.out];simpa[z4R,hle,hnm]using hown2,hb2,by rw[HST.out];simp[z4R,hle,hnm]at hlen ⊢;omega⟩
      case measure=>simp[intOf];omega
     |true=>
      rw[hle]at hlw;obtain⟨v1,W1,happ1,hown1,hbG1⟩:=z6T ⟨s,text,K+1⟩ hb.size hown (by simp at hlen ⊢;omega);have hb1:=(hb.alloc hb.size _).trans hbG1;have k0:=cell_later hb1 e0;clear hown hbG1;by_cases hnm:x.nm=s
      ·rw[decide_eq_true hnm]at hqw;have k1:W1.cell? ⟨g,i*3,none⟩=some (.string x.nm):=hcc1 _ hb1 |>.1;go_wp2_with (at_builtin;refine z0b rfl _ _ 31 rfl u11 _ _ rfl rfl happ1 ?_);go_roundw
       case rel=>exact⟨i+1,by omega,by go_num,by rw[HST.out,stepR_in hle hnm],by rw[HST.out,stepR_in hle hnm];exact hown1,hb1,by rw[HST.out,stepR_in hle hnm];simp at hlen ⊢;omega⟩
       case measure=>simp[intOf];omega
      ·rw[decide_eq_false hnm]at hqw;obtain⟨k1,k2,k3⟩:=hcc1 _ hb1;obtain⟨v2,W2,happ2,hown2,hbG2⟩:=z6T x hb1.size hown1 (by simp at hlen ⊢;omega);have hb2:=(hb1.alloc hb1.size _).trans hbG2;clear hown1 hbG2;go_wp2_with (at_builtin;first|(refine z0b rfl (.tmp 76) (.tmp 84) 31 rfl u11 _ _ rfl rfl happ1 ?_)|(refine z0b rfl (.tmp 96) (.tmp 104) 31 rfl v1 _ _ rfl rfl happ2 ?_));go_roundw
       case rel=>exact⟨i+1,by omega,by go_num,by rw[HST.out,stepR_two hle hnm],by rw[HST.out,stepR_two hle hnm];exact hown2,hb2,by rw[HST.out,stepR_two hle hnm];simp at hlen ⊢;omega⟩
       case measure=>simp[intOf];omega
   ·have e:i=L.length:=by omega
    subst e;rw[List.take_length]at hown hlen ⊢;have HP:Hid (putR ⟨s,text,(k:Int)+1⟩ L=if (z2y ⟨s,text,K+1⟩ L).2=true then(z2y ⟨s,text,K+1⟩ L).1 else(z2y ⟨s,text,K+1⟩ L).1++[⟨s,text,K+1⟩]):=by
     show putR ⟨s,text,(k:Int)+1⟩ L=_;rw[HK.out];rfl
    generalize z2y ⟨s,text,K+1⟩ L=qq at *;obtain⟨acc,bb⟩:=qq;cases bb with
    |true=>
     obtain⟨a5,c5,rfl,_⟩:=z0c hown;obtain⟨hfz,hset,hTs⟩:=h3.set hb hown hB3;clear e0 e1;go_wp2;go_ret;exact⟨rfl,fun _=>by rw[HP.out];exact hset,fun h=>absurd rfl h,hT3.trans hTs⟩
    |false=>
     obtain⟨v1,W1,happ1,hown1,hbG1⟩:=z6T ⟨s,text,K+1⟩ hb.size hown (by simp at hlen ⊢;omega);have hb1:=(hb.alloc hb.size _).trans hbG1;have k0:=cell_later hb1 e0;obtain⟨hfz,hset,hTs⟩:=h3.set hb1 hown1 hB3;obtain⟨a5,c5,hv5,_⟩:=z0c hown1;subst hv5;have hlen1:(acc++[(⟨s,text,K+1⟩:z0u)]).length=acc.length+1:=by simp
     rw[hlen1]at hset hTs happ1;clear e0 e1 hown1 hown hbG1;go_wp2_with (at_builtin;refine z0b rfl _ _ 31 rfl u11 _ _ rfl rfl happ1 ?_);go_ret;exact⟨rfl,fun _=>by rw[HP.out];exact hset,fun h=>absurd rfl h,hT3.trans hTs⟩
theorem writeR_err(B:Nat)(w:World)(q:Nat)(L:List z0u)(k:Nat)(s text:ByteArray)(h:RAt B w q L k)(hL:L.length<=1000)(hs:s.size<=maxLen)(F:Nat)(hF:F=z6a L k s text)(h0:F≠0) :
 Calls Tryz.prog 19 #[.pointer (some ⟨q,0,none⟩),.string s,.string text] w fun e w'=>WriteREnd B w q L k s text F e w':=by
 have HN:=z2d s w hs;by_cases hn:z0r s.data.toList=0
 ·rw[hn]at HN;have hF2:F=if 1200<text.size then 2 else if ((∀x∈L,x.nm≠s)/\L.length=6)∨k=1000000 then 8 else 0:=by rw[hF];unfold z6a;rw[hn];rfl
  clear hF hn;by_cases ht:1200<text.size
  ·rw[if_pos ht]at hF2;subst hF2;have ht':(1200:Int)<(text.size:Int):=by omega
   clear ht;go_enter Tryz.func19,Tryz.ntmps19;go_wp2_with fail;refine HN.mono ?_;rintro e w' ⟨rfl,rfl⟩;go_wp2;go_ret;exact⟨rfl,(fun h=>by cases h),fun _=>h,Turned.refl _ _ _⟩
  ·rw[if_neg ht]at hF2;have ht':¬(1200:Int)<(text.size:Int):=by omega
   by_cases ho:((∀x∈L,x.nm≠s)/\L.length=6)∨k=1000000
   ·rw[if_pos ho]at hF2;subst hF2;have HR:=readR_any B w q L k s h hL;clear ht;go_enter Tryz.func19,Tryz.ntmps19;go_wp2_with fail;refine HN.mono ?_;rintro e w' ⟨rfl,rfl⟩;go_wp2_with fail;refine HR.mono ?_;rintro e w2 ⟨⟨t,nn,f,rfl,hR⟩,hb2⟩;have h2:=h.later hb2;obtain⟨a,c,hc,c0,c1,hcell⟩:=h2.open;obtain⟨K,hK⟩:∃K:Int,(k:Int)=K:=⟨_,rfl⟩;rw[hK]at c1;have hgo:(0<(f:Int)/\((L.length:Int)==6)=true)∨(K==1000000)=true:=by
     rcases ho with⟨hno,h6⟩|hk
     ·rcases hR with⟨x,hx,hxs,_⟩|⟨_,_,_,h5⟩
      ·exact absurd hxs (hno x hx)
      ·exact .inl ⟨by omega,by rw[beq_iff_eq];omega⟩
     ·exact .inr (by rw[beq_iff_eq];omega)
    clear HN HR hR ho hcell hK;have fin:WriteREnd B w q L k s text 8 (.returned (.int .i64 ((8:Nat):Int))) w2:=⟨rfl,(fun h=>by cases h),fun _=>h2,Turned.of hb2⟩;rcases hgo with⟨g1,g2⟩|g1
    ·go_wp2;go_ret;exact fin
    ·by_cases g2:0<(f:Int)
     ·cases g3:((L.length:Int)==6)with
      |true=>
       go_wp2;go_ret;exact fin
      |false=>
       go_wp2;go_ret;exact fin
     ·go_wp2;go_ret;exact fin
   ·rw[if_neg ho]at hF2;exact absurd hF2 h0
 ·have hF2:F=z0r s.data.toList:=by rw[hF];exact z1q _ hn
  rw[<-hF2]at HN;have hp:(0:Int)<(F:Int):=by omega
  clear hF hn hF2;go_enter Tryz.func19,Tryz.ntmps19;go_wp2_with fail;refine HN.mono ?_;rintro e w' ⟨rfl,rfl⟩;go_wp2;go_ret;exact⟨rfl,fun h=>absurd h h0,fun _=>h,Turned.refl _ _ _⟩
theorem writeR_any(B:Nat)(w:World)(q:Nat)(L:List z0u)(k:Nat)(s text:ByteArray)(h:RAt B w q L k)(hL:L.length<=1000)(hB:B<=w.heap.size)(hs:s.size<=maxLen)(hk:k<=1000000) :
 Calls Tryz.prog 19 #[.pointer (some ⟨q,0,none⟩),.string s,.string text] w fun e w'=>WriteREnd B w q L k s text (z6a L k s text) e w':=by
 by_cases h0:z6a L k s text=0
 ·rw[h0];have hn:z0r s.data.toList=0:=by
   by_cases hn:z0r s.data.toList=0
   ·exact hn
   ·unfold z6a at h0;rw[z1q _ hn]at h0;exact h0
  unfold z6a at h0;rw[hn,z0p]at h0;have ht:¬1200<text.size:=fun ht=>by rw[if_pos ht]at h0;cases h0
  rw[if_neg ht]at h0;have ho:¬(((∀x∈L,x.nm≠s)/\L.length=6)∨k=1000000):=fun ho=>by rw[if_pos ho]at h0;cases h0
  have hk':k≠1000000:=fun x=>ho (.inr x)
  exact writeR_ok B w q L k s text h hL hB hs hn ht (fun x=>ho (.inl x)) (by omega)
 ·exact writeR_err B w q L k s text h hL hs _ rfl h0
end
section
open Go.RowKit
end
section
open Go.RowKit Go.Maps
theorem z4p (s:ByteArray):WideAt.IsKeyLit (keyB s):=by simp[keyB,WideAt.IsKeyLit]
structure Inv(D:DataW Unit)(k:Nat):Prop where
 tidy:Tidy D
 size:Maps.size D<=6
 st:∀key,Maps.has D key=true->∃t n,D.atKey key (z1s [] 0)=z1s t n/\n<=(k:Int)
theorem Inv.empty:Inv (.map []) 0:=⟨tidy_empty,by simp[Maps.size],fun key h=>by simp[Maps.has]at h⟩
theorem writeF_ok{D:DataW Unit}{k:Nat}{s text:ByteArray}(h:writeF D k s text=0):z2L D s<6/\text.size<=1200/\k<1000000:=by
 unfold writeF at h;by_cases hn:z0r s.data.toList=0
 ·rw[hn,z0p]at h;by_cases ht:1200<text.size
  ·rw[if_pos ht]at h;cases h
  ·rw[if_neg ht]at h;by_cases ho:6<=z2L D s∨1000000<=k
   ·rw[if_pos ho]at h;cases h
   ·exact⟨by omega,by omega,by omega⟩
 ·rw[z1q _ hn]at h;exact absurd h hn
theorem Inv.put{D:DataW Unit}{k:Nat}{s text:ByteArray}(h:Inv D k)(hF:writeF D k s text=0):Inv (D.put (keyB s) (z1s text.data.toList ((k:Int)+1))) (k+1):=by
 obtain⟨ho,_,_⟩:=writeF_ok hF;refine⟨h.tidy.put (z4p s) _,?_,fun key hh=>?_⟩
 ·rw[size_put h.tidy];unfold z2L at ho;have:=h.size;cases hq:Maps.has D (keyB s)with
  |true=>simp;exact this
  |false=>rw[hq]at ho;simp at ho ⊢;omega
 ·by_cases e:key=keyB s
  ·subst e;exact⟨_,_,atKey_put_same h.tidy.isMap (z4p s) _ _,by omega⟩
  ·rw[has_put_other e]at hh;obtain⟨t,n,h1,h2⟩:=h.st key hh;exact⟨t,n,by rw[atKey_put_other e];exact h1,by omega⟩
theorem Inv.del{D:DataW Unit}{k:Nat}{s:ByteArray}(h:Inv D k):Inv (D.del (keyB s)) k:=by
 refine⟨h.tidy.del _,?_,fun key hh=>?_⟩
 ·have:=size_del (k:=keyB s) h.tidy;have:=h.size;omega
 ·by_cases e:key=keyB s
  ·subst e;rw[has_del_same]at hh;cases hh
  ·rw[has_del_other e]at hh;obtain⟨t,n,h1,h2⟩:=h.st key hh;exact⟨t,n,by rw[atKey_del_other e];exact h1,h2⟩
end
section
open Go.RowKit Go.Maps Go.Sort
def z3L (D:DataW Unit):List (List UInt8):=(strKeys D).mergeSort leB
structure ListEnd(w:World)(D:DataW Unit)(e:Ending)(w':World):Prop where
 v:∃v,e=.returned v/\w'.ownsRow w.heap.size 9 1 v (z3L D).length ((z3L D).map encStr)
 below:Below w.heap.size w w'
theorem strGrow2{B:Nat}{w:World}{v:Value}{n:Nat}{cs:List Value}(u:Value)(hu:u.oneCell'=true)(hB:B<=w.heap.size)(h:w.ownsRow B 9 1 v n cs)(hn:n+1<=1000000) :
 ∃v' W,(Builtin.append_ #[22,22] 22 #[v,.slice (some ⟨w.heap.size,0,none⟩) 1 1]).run Tryz.prog (w.alloc (.cells #[u] 9))=.ok v' W/\Grown B 9 1 (w.alloc (.cells #[u] 9)) v (n+1) (cs++[u]) v' W:=
 z0J 22 9 1 16 (.string ⟨#[]⟩) (by kernel_rfl) (by kernel_rfl) (by rfl) (by decide) B _ v n cs (h.alloc _) (some ⟨w.heap.size,0,none⟩) 1 1 [u] rfl
  (.inr ⟨_,_,rfl,fun j x hj=>by
    cases j with
    |zero=>simp at hj;subst hj;simp[go_sem]
    |succ j=>simp at hj⟩) (fun x hx=>by simp at hx;subst hx;exact hu) (by simp;omega) hn (by decide)
theorem list_any(w:World)(p bm:Nat)(D:DataW Unit)(k:Nat)(h:z0q w p bm D k)(hz:Maps.size D<=1000) :
 Calls Tryz.prog 67 #[.pointer (some ⟨p,0,none⟩)] w fun e w'=>ListEnd w D e w':=by
 have hown:=h.own;have hbl:=hown.lt;have c0:=h.c0;go_enter Tryz.func67,Tryz.ntmps67;go_wp2_with (first
  |(at_range;refine wpList_range_own _ rfl _ 123 rfl 9 190 keysStr Tryz.underlying123 _ bm _ _ rfl hown ?_;intro w0 hrg0 hg0 hs0)
  |go_in)
 go_frame;go_loopw [3] (fun v wr=>∃(left:Lit->Bool) (cnt:Nat) (ss:List (List UInt8)),wr.ranges Tryz.prog 9 z2t bm w.heap.size (Maps.size D) D left cnt/\ss.length+cnt<=Maps.size D /\
  wr.ownsRow w.heap.size 9 1 v ss.length (ss.map encStr)/\Collected D left ss/\Below w.heap.size w wr)
  (fun _ wr=>wr.rangeLeft bm w.heap.size)
 case atStart=>
  exact⟨_,_,[],hrg0,by simp,World.ownsRow_nil _ _ _ _,Collected.start D,(Below.refl _ _).grown hg0 (Nat.le_refl _) (fun j hj=>by cases hj)⟩
 case round=>
  obtain⟨left,cnt,ss,hrg,hcs,hrow,hC,hnx⟩:=hrel;go_wp2_with (first
   |(at_next;refine wpList_next_ranges _ rfl _ rfl 9 keysStr z2t encStr (fun q:ByteArray×Int=>.agg #[.string q.1,.int .i64 q.2]) (fun key kl hk=>by obtain⟨x,hx,_⟩:=Maps.keyOf_str Tryz.underlying9 hk;exact⟨x,hx⟩) (fun v y hv=>by obtain⟨t,n,rfl,_⟩:=fileElem_inv hv;exact⟨(t,n),rfl⟩) bm w.heap.size _ _ _ _ rfl hrg ?_ ?_)
   |go_in)
  ·intro hc0 hl0;have hperm:=hC.perm hown keysStr Tryz.underlying9 hl0;have HN:Hid (z3L D=ss.mergeSort leB):=(mergeSort_of_perm hperm).symm;rcases hrow.2 with⟨rfl,hn0⟩|⟨g,cap,cur,rfl,hbase,hb,h1,h2,h3,h4⟩
   ·have hs0:ss=[]:=List.eq_nil_of_length_eq_zero hn0;subst hs0;have HS:=Tryz.slices_Sort_string_none none 0 wr;clear hrg hC hperm hrow;go_wp2_with fail;refine HS.mono ?_;rintro e w' ⟨rfl,hw⟩;replace hw:=hw.symm;subst hw;go_wp2;go_ret;exact⟨⟨.slice none 0 0,rfl,by rw[HN.out,List.mergeSort_nil];exact World.ownsRow_nil _ _ _ _⟩,hnx⟩
   ·have hH:Holds encStr wr g 0 ss.toArray:=holds_of_block hb (by simpa using h4);have hgl:g<wr.heap.size:=(Array.getElem?_eq_some_iff.1 hb).1;have HS:=Tryz.slices_Sort_string g 0 cap ss wr hH hgl (by omega);clear hrg hC hperm hrow hH;go_wp2_with fail;refine HS.mono ?_;rintro e w' ⟨rfl,nn,os,hw⟩;have hown':=ownsRow_sorted (n:=nn) (os:=os) (ts:=ss.mergeSort leB) (by simp) hbase hb h1 h2 h3;have hnx':=hnx.grown (grownBy_sorted (n:=nn) (os:=os) (g:=g) (ss.mergeSort leB).toArray) hnx.size (fun j hj=>by cases hj;exact hbase);rw[<-hw]at hown' hnx';clear hw HS;go_wp2;go_ret;refine⟨⟨.slice (some ⟨g,0,none⟩) ss.length cap,rfl,?_⟩,hnx'⟩;rw[HN.out,List.length_mergeSort];exact hown'
  ·intro x ct cn kl yd yp w2 cnt2 hkey hlk hv hat hrg2 hlt hg2 hs2 hen;obtain⟨x',ex,rfl,_⟩:=Maps.keyOf_str Tryz.underlying9 hkey;obtain rfl:x=x':=encStr_inj ex;have hrow2:=hrow.kept hg2 (Or.inr (row_ne_iter hrow hrg).symm);have hB2:w.heap.size<=w2.heap.size:=Nat.le_trans hnx.size hg2.size;have hnx2:=hnx.grown hg2 hnx.size (fun j hj=>by cases hj;exact Nat.le_refl _);clear hs2;obtain⟨v',w3,happ,hG⟩:=strGrow2 (encStr x) (by simp[Value.oneCell']) hB2 hrow2 (by omega);have hen':=hen;go_wp2_with (at_builtin;refine z0b rfl _ _ 22 rfl _ _ _ rfl rfl happ ?_);have hrg3:=(hrg2.alloc (.cells #[encStr x] 9)).kept hG.grown (row_ne_low hrow2 hbl) (row_ne_iter hrow2 hrg2);go_roundw
   case rel=>
    refine⟨_,cnt2,ss++[x],hrg3,by simp;omega,?_,hC.step hlk hat,?_⟩
    ·have:=hG.own;simpa using this
    ·exact(hnx2.alloc hB2 _).trans hG.below
   case measure=>rw[hrg3.left_eq,hrg.left_eq];exact hlt
end
section
open Go.RowKit Go.Maps
theorem fileD_inj{t t':List UInt8}{n n':Int}(h:z1s t n=z1s t' n'):t=t'/\n=n':=by
 unfold z1s at h;injection h with h;injection h with h1 h2;injection h1 with h1;injection h1 with h1;injection h2 with h2 _;injection h2 with h2;injection h2 with _ h2;exact⟨h1,h2⟩
theorem ba_ext{x y:ByteArray}(h:x.data.toList=y.data.toList):x=y:=WideShapes.bytes_inj h
theorem names_has{w:World}{bm n:Nat}{D:DataW Unit}(h:w.ownsMap Tryz.prog 9 z2t bm n D){x:List UInt8}(hx:x∈z3L D):Maps.has D (.string x)=true/\x.length<=maxLen:=by
 have hle:=strKeys_le h Tryz.underlying9;obtain⟨es,rfl,hko⟩:=h.keysOf;have hx':x∈strKeys (DataW.map es):=(List.mergeSort_perm _ _).mem_iff.1 hx;refine⟨?_,hle x hx'⟩;obtain⟨p,hp,rfl⟩:=List.mem_map.1 hx';obtain⟨v,hv⟩:=hko p hp;obtain⟨y,_,hy,_⟩:=Maps.keyOf_str Tryz.underlying9 hv;rw[has_eq,List.any_eq_true];exact⟨p,hp,by rw[hy];simp[Lit.sameKey,strOf]⟩
theorem names_size{D:DataW Unit}(h:IsMap D):(z3L D).length=Maps.size D:=by
 obtain⟨es,rfl⟩:=h;unfold z3L;rw[List.length_mergeSort];simp[strKeys,Maps.size]
end
section
open Go.RowKit Go.Maps
structure z3I (D:DataW Unit)(L:List z0u):Prop where
 rise:Rising L
 mem:∀f:z0u,f∈L ↔ Maps.has D (keyB f.nm)=true/\D.atKey (keyB f.nm) (z1s [] 0)=z1s f.tx.data.toList f.st
theorem keyB_inj{x y:ByteArray}(h:keyB x=keyB y):x=y:=by
 unfold keyB at h;injection h with h;exact ba_ext h
theorem z3I.empty:z3I (.map []) []:=⟨List.Pairwise.nil,fun f=>by simp[Maps.has]⟩
theorem z3I.has{D:DataW Unit}{L:List z0u}{k:Nat}(h:z3I D L)(hI:Inv D k)(s:ByteArray):Maps.has D (keyB s)=true ↔ ∃f∈L,f.nm=s:=by
 constructor
 ·intro hh;obtain⟨t,n,h1,_⟩:=hI.st _ hh;exact⟨⟨s,⟨t.toArray⟩,n⟩,(h.mem _).2 ⟨hh,by simpa using h1⟩,rfl⟩
 ·rintro⟨f,hf,rfl⟩;exact((h.mem f).1 hf).1
theorem z3I.put{D:DataW Unit}{L:List z0u}{k:Nat}(h:z3I D L)(hI:Inv D k)(s tx:ByteArray)(n:Int):z3I (D.put (keyB s) (z1s tx.data.toList n)) (putR ⟨s,tx,n⟩ L):=by
 obtain⟨hm,hr⟩:=putR_mem ⟨s,tx,n⟩ L h.rise;refine⟨hr,fun f=>?_⟩;rw[hm f];by_cases e:f.nm=s
 ·have hk:keyB f.nm=keyB s:=by rw[e]
  rw[hk,has_put_same hI.tidy.isMap (z4p s),atKey_put_same hI.tidy.isMap (z4p s)];constructor
  ·rintro(rfl|⟨_,hne⟩)
   ·exact⟨rfl,rfl⟩
   ·exact absurd e hne
  ·rintro⟨_,h2⟩;obtain⟨h3,h4⟩:=fileD_inj h2;left;obtain⟨a,b,c⟩:=f;simp only at e h3 h4;subst e h4;rw[ba_ext h3]
 ·have hk:keyB f.nm≠keyB s:=fun q=>e (keyB_inj q)
  rw[has_put_other hk,atKey_put_other hk,<-h.mem f];constructor
  ·rintro(rfl|⟨h1,_⟩)
   ·exact absurd rfl e
   ·exact h1
  ·intro h1;exact .inr ⟨h1,e⟩
theorem z3I.del{D:DataW Unit}{L:List z0u}(h:z3I D L)(s:ByteArray):z3I (D.del (keyB s)) (delR s L):=by
 refine⟨h.rise.filter _,fun f=>?_⟩;unfold delR;rw[List.mem_filter];by_cases e:f.nm=s
 ·have hk:keyB f.nm=keyB s:=by rw[e]
  rw[hk,has_del_same];simp[e]
 ·have hk:keyB f.nm≠keyB s:=fun q=>e (keyB_inj q)
  rw[has_del_other hk,atKey_del_other hk,<-h.mem f];simp[e]
theorem z3I.names{D:DataW Unit}{L:List z0u}{k:Nat}{w:World}{bm n:Nat}(h:z3I D L)(hI:Inv D k)(hw:w.ownsMap Tryz.prog 9 z2t bm n D):z3L D=L.map fun f=>f.nm.data.toList:=by
 obtain⟨es,hD,hpw⟩:=hI.tidy;have hko:=hw.keysOf;have hnd:(L.map fun f=>f.nm.data.toList).Nodup:=List.pairwise_map.2 (h.rise.imp fun {a b} hab e=>by
  unfold ltN at hab;rw[e]at hab;exact List.lt_irrefl _ hab)
 have hm:∀x,x∈(L.map fun f=>f.nm.data.toList) ↔ Maps.has D (.string x)=true:=fun x=>by
  have:=h.has hI ⟨x.toArray⟩;unfold keyB at this;simp only at this;rw[this,List.mem_map];constructor
  ·rintro⟨f,hf,e⟩;exact⟨f,hf,ba_ext (by simpa using e)⟩
  ·rintro⟨f,hf,e⟩;exact⟨f,hf,by rw[e]⟩
 obtain⟨es',hD',hk'⟩:=hko;have hee:es=es':=by rw[hD]at hD';simpa using hD'
 subst hee;subst hD;have hp:=perm_strKeys hpw (fun p hp=>by
  obtain⟨v,hv⟩:=hk' p hp;obtain⟨x,_,hx,_⟩:=Maps.keyOf_str Tryz.underlying9 hv;exact⟨x,hx⟩) hnd hm
 unfold z3L;rw[<-mergeSort_of_perm hp];refine List.mergeSort_of_pairwise (List.pairwise_map.2 (h.rise.imp fun {a b} hab=>?_));unfold ltN at hab;exact decide_eq_true (List.le_of_lt hab)
theorem z3I.length{D:DataW Unit}{L:List z0u}{k:Nat}{w:World}{bm n:Nat}(h:z3I D L)(hI:Inv D k)(hw:w.ownsMap Tryz.prog 9 z2t bm n D):L.length=Maps.size D:=by
 rw[<-names_size hI.tidy.isMap,h.names hI hw,List.length_map]
theorem z3I.fault{D:DataW Unit}{L:List z0u}{k:Nat}{w:World}{bm n:Nat}(h:z3I D L)(hI:Inv D k)(hw:w.ownsMap Tryz.prog 9 z2t bm n D)(hk:k<=1000000)(s text:ByteArray):writeF D k s text=z6a L k s text:=by
 have hl:=h.length hI hw;have h6:=hI.size;unfold writeF z6a;congr 1;have hc:(6<=z2L D s∨1000000<=k) ↔ (((∀x∈L,x.nm≠s)/\L.length=6)∨k=1000000):=by
  cases hq:Maps.has D (keyB s)with
  |true=>
   obtain⟨f,hf,e⟩:=(h.has hI s).1 hq;have ho:z2L D s=(Maps.size D:Int)-1:=if_pos hq;rw[ho];constructor
   ·rintro(h1|h1)
    ·omega
    ·exact .inr (by omega)
   ·rintro(⟨h1,_⟩|h1)
    ·exact absurd e (h1 f hf)
    ·exact .inr (by omega)
  |false=>
   have ho:z2L D s=(Maps.size D:Int):=if_neg (by simp[hq]);rw[ho];have hno:∀x∈L,x.nm≠s:=fun x hx e=>by
    rw[(h.has hI s).2 ⟨x,hx,e⟩]at hq;cases hq
   constructor
   ·rintro(h1|h1)
    ·exact .inl ⟨hno,by omega⟩
    ·exact .inr (by omega)
   ·rintro(⟨_,h1⟩|h1)
    ·exact .inl (by omega)
    ·exact .inr (by omega)
 by_cases ht:1200<text.size
 ·rw[if_pos ht,if_pos ht]
 ·rw[if_neg ht,if_neg ht];by_cases hx:6<=z2L D s∨1000000<=k
  ·rw[if_pos hx,if_pos (hc.1 hx)]
  ·rw[if_neg hx,if_neg (fun y=>hx (hc.2 y))]
theorem z3I.gone{D:DataW Unit}{L:List z0u}{k:Nat}(h:z3I D L)(hI:Inv D k)(s:ByteArray):(if Maps.has D (keyB s)=true then 0 else 5:Nat)=if (delR s L).length=L.length then 5 else 0:=by
 cases hq:Maps.has D (keyB s)with
 |true=>
  obtain⟨f,hf,e⟩:=(h.has hI s).1 hq;have:(delR s L).length≠L.length:=fun q=>by
   have:=delR_same q;have hm:f∈delR s L:=by rw[this];exact hf
   simp[delR,e]at hm
  rw[if_pos rfl,if_neg this]
 |false=>
  have hno:∀x∈L,x.nm≠s:=fun x hx e=>by
   rw[(h.has hI s).2 ⟨x,hx,e⟩]at hq;cases hq
  have:delR s L=L:=List.filter_eq_self.2 fun x hx=>by simp[hno x hx]
  rw[if_neg (by decide),if_pos (by rw[this])]
end
end Go.Proofs.YtbcpcbonlhlhpaaGreatDoor
