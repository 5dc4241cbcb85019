/- What slices.DeleteFunc does of what is late, by the bit of -/
import Derived.Test.YtbcpcbonlhlhpaaGreatDoorDiskRead
import Derived.Laws.OwnMore
import Derived.Deep.RegionHeld3
namespace Go.Proofs.YtbcpcbonlhlhpaaGreatDoor
section
open Go.RowKit
set_option maxHeartbeats 1000000
set_option maxRecDepth 100000
def z4E (l:List Late):Prop:=∀x∈l,x.1<64/\x.2.length=64
theorem z4f {x:Late}(h:x.2.length=64):(z0t x).length=65:=by simp[z0t,h]
theorem row_range{w:World}{B g m c:Nat}{l:List Late}(h:w.ownsRow B 174 65 (.slice (some ⟨g,0,none⟩) m c) m (z1j l))(hl:z4E l){k:Nat}{x:Late}(hx:l[k]?=some x):w.rangeAt g (k*65) (z0t x):=fun j u hj=>by
 obtain⟨g',ha',_,hc⟩:=z0K h (latesC_at hl hx hj);injection ha' with e;injection e with e;subst e;exact hc
theorem z3v {e:TypeId}{s B g n c:Nat}:∀(vs:List Value) (o:Nat) (w:World) (xs:List Value),w.ownsRow B e s (.slice (some ⟨g,0,none⟩) n c) n xs->o+vs.length<=xs.length ->
 (w.setCells g o vs).ownsRow B e s (.slice (some ⟨g,0,none⟩) n c) n (xs.take o++vs++xs.drop (o+vs.length))/\w.grownBy (w.setCells g o vs) (some g)
 | [],o,w,xs,h,_=>⟨by simpa[World.setCells]using h,⟨rfl,rfl,rfl,Nat.le_refl _,fun _ _ _=>rfl⟩⟩
 |v :: r,o,w,xs,h,hl=>by
  obtain⟨h1,g1⟩:=h.stored o v;have hl':o+(r.length+1)<=xs.length:=by simpa using hl
  obtain⟨h2,g2⟩:=z3v r (o+1) _ _ h1 (by simp;omega);refine⟨?_,g1.trans g2⟩;have e1:(xs.set o v).take (o+1)=xs.take o++[v]:=by
   rw[List.take_set,List.take_succ_eq_append_getElem (by omega),List.set_append_right _ _ (by simp;omega)];simp[Nat.min_eq_left (show o<=xs.length by omega)]
  rw[e1,List.drop_set_of_lt (by omega)]at h2;rw[World.setCells];have e2:xs.take o++v :: r++xs.drop (o+(v :: r).length)=xs.take o++[v]++r++xs.drop (o+1+r.length):=by
   simp[Nat.add_comm,Nat.add_left_comm]
  rw[e2];exact h2
theorem z7t:∀ {l:List Late},z4E l->∀i,(z1j l).take (i*65)=z1j (l.take i)
 | [],_,i=>by simp[z1j]
 |a :: l,h,0=>by simp[z1j]
 |a :: l,h,i+1=>by
  have h2:=z4f (h a (by simp)).2;simp only[z1j,List.flatMap_cons,List.take_succ_cons];rw[show(i+1)*65=(z0t a).length+i*65 by omega,List.take_length_add_append];congr 1;exact z7t (fun x hx=>h x (by simp[hx])) i
theorem latesC_drop:∀ {l:List Late},z4E l->∀i,(z1j l).drop (i*65)=z1j (l.drop i)
 | [],_,i=>by simp[z1j]
 |a :: l,h,0=>by simp[z1j]
 |a :: l,h,i+1=>by
  have h2:=z4f (h a (by simp)).2;simp only[z1j,List.flatMap_cons,List.drop_succ_cons];rw[show(i+1)*65=(z0t a).length+i*65 by omega,List.drop_length_add_append];exact latesC_drop (fun x hx=>h x (by simp[hx])) i
theorem latesC_append(a b:List Late):z1j (a++b)=z1j a++z1j b:=by simp[z1j]
theorem latesC_set{l:List Late}(h:z4E l){i:Nat}(hi:i<l.length)(x:Late):(z1j l).take (i*65)++z0t x++(z1j l).drop (i*65+65)=z1j (l.set i x):=by
 rw[show i*65+65=(i+1)*65 by omega,z7t h,latesC_drop h,List.set_eq_take_append_cons_drop,if_pos hi,latesC_append];simp[z1j]
theorem strikes_any(W:World)(x:Late)(b bw:Nat)(hc:W.cell? ⟨bw,0,none⟩=some (.int .u64 (b:Int))) :
 Calls Tryz.prog 113 #[.agg (z0t x).toArray,.pointer (some ⟨bw,0,none⟩)] W fun e w'=>e=.returned (.bool (decide (x.1=b)))/\Below W.heap.size W w':=by
 have hlt:bw<W.heap.size:=World.block_lt_of_cell? W ⟨bw,0,none⟩ hc;have hb:Below W.heap.size W (W.alloc (.cells (z0t x).toArray 174)):=(Below.refl _ _).alloc (Nat.le_refl _) _;have q0:(W.alloc (.cells (z0t x).toArray 174)).cell? ⟨W.heap.size,0,none⟩=some (.int .u64 (x.1:Int)):=by rw[World.cell?_alloc_mark];rfl
 have q1:=cell_later hb hc;have hbx:(Instr.box 174 (.agg (z0t x).toArray)).run Tryz.prog W=.ok (.pointer (some ⟨W.heap.size,0,none⟩)) (W.alloc (.cells (z0t x).toArray 174)):=rfl;clear hc;generalize z0t x=cs at *;go_enter Tryz.func113,Tryz.ntmps113;go_wp2;go_ret;refine⟨z0w ?_,hb⟩;by_cases e:x.1=b
 ·simp[e]
 ·simp[e];omega
def idxI(L:List Late)(b:Nat):Int:=match L.findIdx? (fun x=>decide (x.1=b))with
 |some k=>(k:Int)
 |none=>-1
theorem idxI_some{L:List Late}{b k:Nat}(h:L.findIdx? (fun x=>decide (x.1=b))=some k):idxI L b=k:=by unfold idxI;rw[h]
theorem idxI_none{L:List Late}{b:Nat}(h:L.findIdx? (fun x=>decide (x.1=b))=none):idxI L b=-1:=by unfold idxI;rw[h]
theorem index_any(w:World)(B g m c b bw:Nat)(L:List Late)(hR:w.ownsRow B 174 65 (.slice (some ⟨g,0,none⟩) m c) m (z1j L))(hL:z4E L)(hm:L.length=m)(hfew:m<=64)(hc:w.cell? ⟨bw,0,none⟩=some (.int .u64 (b:Int))) :
 Calls Tryz.prog 156 #[.slice (some ⟨g,0,none⟩) m c,.func (.func 113) #[] #[.pointer (some ⟨bw,0,none⟩)]] w fun e w'=>
  e=.returned (.int .i64 (idxI L b))/\Below w.heap.size w w':=by
 generalize hF:idxI L b=F;have HF:Hid (idxI L b=F):=hF;clear hF;go_enter Tryz.func156,Tryz.ntmps156;go_wp2;go_loopw [8] (fun y wr=>∃k:Nat,k<=m/\y=.int .i64 k/\Below w.heap.size w wr/\Hid (∀j x,j<k->L[j]?=some x->x.1≠b)) (fun y _=>m-(intOf y).toNat)
 case atStart=>exact⟨0,Nat.zero_le _,rfl,Below.refl _ _,fun j x hj=>absurd hj (by omega)⟩
 case round=>
  obtain⟨k,hk,rfl,hb,HN⟩:=hrel;by_cases hlt:k<m
  ·obtain⟨x,hx⟩:∃x,L[k]?=some x:=⟨_,List.getElem?_eq_getElem (by omega)⟩;have hxl:=hL x (List.mem_of_getElem? hx);have hra:=row_range (z0e hR hb) hL hx;have HC:=strikes_any wr x b bw (cell_later hb hc);have HL:Hid ((z0t x).length=65):=z4f hxl.2;have HX:Hid (L[k]?=some x):=hx;clear hR hL hx hxl hc;by_cases he:x.1=b
   ·rw[decide_eq_true he]at HC;have HE:Hid ((k:Int)=F):=by
     refine(idxI_some ?_).symm.trans HF.out;rw[List.findIdx?_eq_some_iff_getElem];have hk2:k<L.length:=by omega
     have hxk:L[k]=x:=by
      have:=HX.out;rw[List.getElem?_eq_getElem hk2]at this;injection this
     refine⟨hk2,by rw[hxk];exact decide_eq_true he,fun j hj=>?_⟩;have:=HN.out j L[j] hj (List.getElem?_eq_getElem (by omega));simpa using this
    clear HN he;go_wp2_with (first
     |(refine wpList_load_mid rfl 174 (.tmp 14) rfl g (k*65) rfl (z0t x) _ hra Tryz.underlying174 rfl (z2a HL.out) ?_))
    refine HC.mono ?_;rintro e w2 ⟨rfl,hb2⟩;clear HC;have hb3:=hb.trans (hb2.mono hb.size);go_wp2;go_ret;exact⟨z3l HE.out,hb3⟩
   ·rw[decide_eq_false he]at HC;have HE:Hid (∀j x,j<k+1->L[j]?=some x->x.1≠b):=fun j y hj hy=>by
     by_cases e:j=k
     ·subst e;rw[HX.out]at hy;injection hy with hy;rw[<-hy];exact he
     ·exact HN.out j y (by omega) hy
    clear HN he;go_wp2_with (first
     |(refine wpList_load_mid rfl 174 (.tmp 14) rfl g (k*65) rfl (z0t x) _ hra Tryz.underlying174 rfl (z2a HL.out) ?_))
    refine HC.mono ?_;rintro e w2 ⟨rfl,hb2⟩;clear HC;have hb3:=hb.trans (hb2.mono hb.size);go_wp2;go_roundw
    case rel=>exact⟨k+1,by omega,by go_num,hb3,HE⟩
    case measure=>simp[intOf];omega
  ·have HE:Hid (-1=F):=by
    refine(idxI_none ?_).symm.trans HF.out;refine List.findIdx?_eq_none_iff.2 (fun x hx=>?_);obtain⟨j,hj⟩:=List.getElem?_of_mem hx;have:=HN.out j x (by have:=(List.getElem?_eq_some_iff.1 hj).1;omega) hj;simpa using this
   clear HN;go_wp2;go_ret;exact⟨z3l HE.out,hb⟩
def z4N (L:List Late)(k i:Nat):List Late:=L.take k++(L.drop (k+1)).take (i-k)++L.drop i
theorem shift_get(L:List Late){k i:Nat}(hk:k<=i)(hi:i<L.length)(q:Nat):(z4N L k i)[q]?=if q<k then L[q]? else if q<i then L[q+1]? else L[q]?:=by
 unfold z4N;have l1:(L.take k).length=k:=by simp;omega
 have l2:((L.drop (k+1)).take (i-k)).length=i-k:=by simp;omega
 by_cases h1:q<k
 ·rw[if_pos h1,List.append_assoc,List.getElem?_append_left (by omega),List.getElem?_take_of_lt h1]
 ·rw[if_neg h1];by_cases h2:q<i
  ·rw[if_pos h2,List.getElem?_append_left (by rw[List.length_append,l1,l2];omega),List.getElem?_append_right (by omega),l1,List.getElem?_take_of_lt (by omega),List.getElem?_drop];congr 1;omega
  ·rw[if_neg h2,List.getElem?_append_right (by rw[List.length_append,l1,l2];omega),List.length_append,l1,l2,List.getElem?_drop];congr 1;omega
theorem z7A (L:List Late){k i:Nat}(hk:k<=i)(hi:i<L.length):(z4N L k i).length=L.length:=by
 unfold z4N;simp;omega
theorem shift_start(L:List Late){k:Nat}:z4N L k k=L:=by simp[z4N]
theorem shift_step(L:List Late){k i:Nat}(hk:k<=i)(hi:i+1<L.length){x:Late}(hx:L[i+1]?=some x):(z4N L k i).set i x=z4N L k (i+1):=by
 apply List.ext_getElem?;intro q;rw[List.getElem?_set,z7A L hk (by omega),shift_get L hk (by omega),shift_get L (by omega) hi];by_cases e:i=q
 ·subst e;rw[if_pos rfl,if_pos (by omega),if_neg (by omega),if_pos (by omega),hx]
 ·rw[if_neg e];by_cases h1:q<k
  ·rw[if_pos h1,if_pos h1]
  ·rw[if_neg h1,if_neg h1];by_cases h2:q<i
   ·rw[if_pos h2,if_pos (by omega)]
   ·rw[if_neg h2,if_neg (by omega)]
theorem shift_end(L:List Late){k:Nat}(hk:k<L.length):(z4N L k (L.length-1)).take (L.length-1)=L.eraseIdx k:=by
 unfold z4N;have l1:(L.take k).length=k:=by simp;omega
 have l2:((L.drop (k+1)).take (L.length-1-k)).length=L.length-1-k:=by simp;omega
 rw[List.take_append_of_le_length (by rw[List.length_append,l1,l2];omega),List.take_of_length_le (by rw[List.length_append,l1,l2];omega),List.take_of_length_le (l:=L.drop (k+1)) (by rw[List.length_drop];omega),List.eraseIdx_eq_take_drop_succ]
theorem z6X {L:List Late}(h:z4E L)(k i:Nat):z4E (z4N L k i):=fun x hx=>by
 unfold z4N at hx;simp only[List.mem_append]at hx;rcases hx with(hx|hx)|hx
 ·exact h x (List.mem_of_mem_take hx)
 ·exact h x (List.mem_of_mem_drop (List.mem_of_mem_take hx))
 ·exact h x (List.mem_of_mem_drop hx)
def z1Y (L:List Late)(b:Nat):List Late:=L.filter fun x=>decide (x.1≠b)
theorem struck_none{L:List Late}{b:Nat}(h:L.findIdx? (fun x=>decide (x.1=b))=none):z1Y L b=L:=by
 refine List.filter_eq_self.2 (fun x hx=>?_);have:=List.findIdx?_eq_none_iff.1 h x hx;simpa using this
theorem struck_some{L:List Late}{b k:Nat}(hd:(L.map (·.1)).Nodup)(h:L.findIdx? (fun x=>decide (x.1=b))=some k):z1Y L b=L.eraseIdx k/\∀j x,k<j->L[j]?=some x->x.1≠b:=by
 induction L generalizing k with
 |nil=>simp at h
 |cons a l ih=>
  rw[List.findIdx?_cons]at h;simp only[List.map_cons,List.nodup_cons]at hd;by_cases e:a.1=b
  ·rw[decide_eq_true e]at h;simp at h;subst h;have hno:∀x∈l,x.1≠b:=fun x hx e2=>hd.1 (by rw[e,<-e2];exact List.mem_map.2 ⟨x,hx,rfl⟩)
   refine⟨?_,?_⟩
   ·unfold z1Y;rw[List.filter_cons,if_neg (by simp[e])];simpa using hno
   ·intro j x hj hx;cases j with
    |zero=>omega
    |succ j=>exact hno x (List.mem_of_getElem? (by simpa using hx))
  ·rw[decide_eq_false e]at h;simp at h;obtain⟨k',hk',rfl⟩:=h;obtain⟨h1,h2⟩:=ih hd.2 hk';refine⟨?_,?_⟩
   ·unfold z1Y at h1 ⊢;rw[List.filter_cons,if_pos (by simp[e]),h1];rfl
   ·intro j x hj hx;cases j with
    |zero=>omega
    |succ j=>exact h2 j x (by omega) (by simpa using hx)
theorem clear_one(w:World)(ty:TypeId)(Z:Array Value)(hal:∀w,Sem.run Tryz.prog (zeroValue 174) w=.ok (.agg Z) w)(hZ:Z.size=65)(h1:∀v∈Z.toList,v.oneCell'=true)(g o c:Nat)(ht:w.there g o 65) :
 (Builtin.clear_ #[175] ty #[.slice (some ⟨g,o,none⟩) 1 c]).run Tryz.prog w=.ok (.tuple #[]) (w.setCells g o Z.toList):=by
 have hz:(Builtin.zeroCells Z 1).toList=Z.toList:=by
  unfold Builtin.zeroCells;apply List.ext_getElem
  ·simp
  ·intro i h2 h3;have:i<Z.size:=by simpa using h3
   simp[Nat.mod_eq_of_lt this,this]
 have hst:=run_storeCells_cells (P:=Tryz.prog) g o Z.toList 0 w (fun j hj=>by simpa using(ht j (by simpa[hZ]using hj)).1) (fun j hj=>by simpa using(ht j (by simpa[hZ]using hj)).2) h1;simp only[Nat.add_zero]at hst;simp[Builtin.clear_,run_underlying Tryz.underlying175,hal,Value.cells,hz,hst]
theorem there_row{w:World}{B g m c:Nat}{xs:List Value}(h:w.ownsRow B 174 65 (.slice (some ⟨g,0,none⟩) m c) m xs)(o k:Nat)(hk:o+k<=m*65):w.there g o k:=fun j hj=>by
 refine⟨?_,h.frozenAt _⟩;rw[h.cellAt (o+j) (by omega),List.getElem?_eq_getElem (by rw[h.1];omega)];rfl
end
section
open Go.RowKit
set_option maxHeartbeats 2000000
set_option maxRecDepth 100000
theorem index_nil(w:World)(f:Value) :
 Calls Tryz.prog 156 #[.slice none 0 0,f] w fun e w'=>e=.returned (.int .i64 (-1))/\w'=w:=by
 go_enter Tryz.func156,Tryz.ntmps156;go_wp2;go_loop [8] (fun y=>y=.int .i64 0) (fun _=>0)
 case atStart=>rfl
 case round=>
  subst hrel;go_wp2;go_ret;exact⟨rfl,rfl⟩
theorem z5U {w w':World}{row:Option Nat}(h:Below w.heap.size w w'):w.grownBy w' row:=⟨h.os,h.tape,h.output,h.size,fun k hk _=>h.block k hk⟩
theorem late_zeros:∃Z:Array Value,(∀w,Sem.run Tryz.prog (zeroValue 174) w=.ok (.agg Z) w)/\Z.size=65/\∀v∈Z.toList,v.oneCell'=true:=
 ⟨#[.int .u64 0]++Array.replicate 64 (.int .u8 0),fun w=>by kernel_rfl,by simp,fun v hv=>by
  simp at hv;rcases hv with rfl|rfl <;> rfl⟩
def DelEnd(w w':World)(B:Nat)(v:Value)(L:List Late)(b:Nat)(e:Ending):Prop:=∃v',e=.returned v'/\w'.ownsRow B 174 65 v' (z1Y L b).length (z1j (z1Y L b))/\v'.ownBlock=v.ownBlock/\w.grownBy w' v.ownBlock
theorem delete_any(w:World)(B m b bw:Nat)(v:Value)(L:List Late)(hR:w.ownsRow B 174 65 v m (z1j L))(hL:z4E L)(hd:(L.map (·.1)).Nodup)(hm:L.length=m)(hfew:m<=64)(hc:w.cell? ⟨bw,0,none⟩=some (.int .u64 (b:Int)))(hbw:v.ownBlock≠some bw) :
 Calls Tryz.prog 112 #[v,.func (.func 113) #[] #[.pointer (some ⟨bw,0,none⟩)]] w fun e w'=>DelEnd w w' B v L b e:=by
 rcases hR.2 with⟨rfl,h0⟩|⟨g,cap,cur,rfl,hBg,hg,hle,hcm,_,_⟩
 ·have HI:=index_nil w (.func (.func 113) #[] #[.pointer (some ⟨bw,0,none⟩)]);have hLe:L=[]:=List.eq_nil_of_length_eq_zero (by omega);subst hLe;go_enter Tryz.func112,Tryz.ntmps112;go_wp2_with fail;refine HI.mono ?_;rintro e w2 ⟨rfl,rfl⟩;clear HI;go_wp2;go_ret;exact⟨_,rfl,World.ownsRow_nil _ _ _ _,rfl,⟨rfl,rfl,rfl,Nat.le_refl _,fun _ _ _=>rfl⟩⟩
 ·have HI:=index_any w B g m cap b bw L hR hL hm hfew hc;cases hF:L.findIdx? (fun x=>decide (x.1=b))with
  |none=>
   rw[idxI_none hF]at HI;have HE:Hid (z1Y L b=L):=struck_none hF;have HR:Hid (w.ownsRow B 174 65 (.slice (some ⟨g,0,none⟩) m cap) m (z1j L)):=hR;clear hF hR hL hd hc hbw hg;go_enter Tryz.func112,Tryz.ntmps112;go_wp2_with fail;refine HI.mono ?_;rintro e w2 ⟨rfl,hb2⟩;clear HI;go_wp2;go_ret;refine⟨_,rfl,?_,rfl,z5U hb2⟩;rw[HE.out,hm];exact z0e HR.out hb2
  |some k0=>
   rw[idxI_some hF]at HI;obtain⟨hst,hno⟩:=struck_some hd hF;have hk0:k0<m:=by
    obtain⟨h1,_⟩:=List.findIdx?_eq_some_iff_getElem.1 hF;omega
   obtain⟨Z,hal,hZ,hZ1⟩:=late_zeros;have hne1:((k0:Int) == -1)=false:=beq_eq_false_iff_ne.2 (by omega);have HST:Hid (z1Y L b=L.eraseIdx k0):=hst;have HNO:Hid (∀j x,k0<j->L[j]?=some x->x.1≠b):=hno;have HSR:Hid (w.ownsRow B 174 65 (.slice (some ⟨g,0,none⟩) m cap) m (z1j (z4N L k0 k0))):=by rw[shift_start];exact hR
   have hgw:g≠bw:=fun e=>hbw (by rw[e];rfl)
   have hL0:Hid (z4E L):=hL;clear hF hst hno hR hd;go_enter Tryz.func112,Tryz.ntmps112;go_wp2_with fail;refine HI.mono ?_;rintro e w1 ⟨rfl,hb1⟩;clear HI;go_wp2;go_loopw [5,6] (fun y z wr=>∃i:Nat,k0<=i/\i<m/\y=.int .i64 i/\z=.int .i64 (i+1)/\w.grownBy wr (some g)/\Hid (wr.ownsRow B 174 65 (.slice (some ⟨g,0,none⟩) m cap) m (z1j (z4N L k0 i)))) (fun y _ _=>m-(intOf y).toNat)
   case atStart=>exact⟨k0,Nat.le_refl _,hk0,rfl,rfl,z5U hb1,z0e HSR.out hb1⟩
   case round=>
    obtain⟨i,hki,him,rfl,rfl,hgr,HO⟩:=hrel;clear HSR;have hwc:=hgr.cell hc (show some bw≠some g by simpa using Ne.symm hgw);by_cases hlt:i+1<m
    ·obtain⟨x,hx⟩:∃x,L[i+1]?=some x:=⟨_,List.getElem?_eq_getElem (by omega)⟩;have hxl:=hL x (List.mem_of_getElem? hx);have hra:=row_range HO.out (z6X hL k0 i) (k:=i+1) (x:=x) (by rw[shift_get L hki (by omega),if_neg (by omega),if_neg (by omega)];exact hx);have hbA:Below wr.heap.size wr (wr.alloc (.cells (z0t x).toArray 174)):=(Below.refl _ _).alloc (Nat.le_refl _) _;have hnr:(wr.alloc (.cells (z0t x).toArray 174)).rangeAt wr.heap.size 0 (z0t x):=z4O wr _ _ 0 _ (fun j u hj=>by rw[Nat.zero_add];exact hj);have HC:=strikes_any (wr.alloc (.cells (z0t x).toArray 174)) x b bw (cell_later hbA hwc);rw[decide_eq_false (HNO.out (i+1) x (by omega) hx)]at HC;have HL:Hid ((z0t x).length=65):=z4f hxl.2;have HX:Hid (L[i+1]?=some x):=hx;clear hx hxl hL;have hltz:(i:Int)+1<(m:Int):=by omega
     go_wp2_with (first
      |(refine wpList_load_mid rfl 174 (.tmp 24) rfl g ((i+1)*65) rfl (z0t x) _ hra Tryz.underlying174 rfl (z2a HL.out) ?_)
      |(refine z3k rfl 174 (.tmp 7) (.tmp 25) rfl wr Z rfl (z0t x) rfl rfl (hZ.trans HL.out.symm) (z2a HL.out) (z4W x) ?_)
      |(refine wpList_load_mid rfl 174 (.tmp 7) rfl wr.heap.size 0 rfl (z0t x) _ hnr Tryz.underlying174 rfl (z2a HL.out) ?_))
     refine HC.mono ?_;rintro e w2 ⟨rfl,hb2⟩;clear HC;have hb3:=hbA.trans (hb2.mono hbA.size);have hnr2:w2.rangeAt wr.heap.size 0 (z0t x):=fun j u hj=>(hb2.cell (p:=⟨wr.heap.size,0+j,none⟩) (by simp)).trans (hnr j u hj)
     have hO2:=z0e HO.out hb3;have hsl:=z7A L hki (show i<L.length by omega);have hth:w2.there g (i*65) (z0t x).toArray.size:=by
      have:=there_row hO2 (i*65) 65 (by omega);simpa[HL.out]using this
     obtain⟨hO3,hg3⟩:=z3v (z0t x) (i*65) w2 _ hO2 (by rw[HL.out,z4x (z6X hL0.out k0 i),hsl];omega);rw[HL.out,latesC_set (z6X hL0.out k0 i) (by omega) x,shift_step L hki (by omega) HX.out]at hO3;have HO3:Hid ((w2.setCells g (i*65) (z0t x)).ownsRow B 174 65 (.slice (some ⟨g,0,none⟩) m cap) m (z1j (z4N L k0 (i+1)))):=hO3;have hg4:=(hgr.trans (z5U hb3)).trans hg3;clear hO3 hO2 hg3 HO hnr hra hwc;go_wp2_with (first
      |(refine wpList_load_mid rfl 174 (.tmp 7) rfl wr.heap.size 0 rfl (z0t x) _ hnr2 Tryz.underlying174 rfl (z2a HL.out) ?_)
      |(refine wpList_store_mid rfl 174 (.tmp 33) (.tmp 32) rfl g (i*65) (z0t x).toArray rfl rfl hth (by simpa using z2a HL.out) (all_oneCell_toArray (z4W x)) ?_))
     go_roundw
     case rel=>exact⟨i+1,by omega,hlt,by go_num,by go_num,hg4,HO3⟩
     case measure=>simp[intOf];omega
    ·obtain rfl:m=i+1:=by omega
     have hth:wr.there g (i*65) 65:=there_row HO.out (i*65) 65 (by omega);have hcl:=fun ty=>clear_one wr ty Z hal hZ hZ1 g (i*65) (cap-i) hth
     obtain⟨hO3,hg3⟩:=z3v Z.toList (i*65) wr _ HO.out (by rw[z4x (z6X hL0.out k0 i),z7A L hki (by omega)];simp[hZ];omega);have hlen:(L.eraseIdx k0).length=i:=by rw[List.length_eraseIdx,if_pos (by omega)];omega
     have hO4:(wr.setCells g (i*65) Z.toList).ownsRow B 174 65 (.slice (some ⟨g,0,none⟩) i cap) i (z1j (L.eraseIdx k0)):=by
      rcases hO3.2 with⟨h',_⟩|⟨g',cap',cur',h',hb',hg',hnc',hcm',hcs',htake⟩
      ·simp at h'
      ·injection h' with e1 _ e2;injection e1 with e1;injection e1 with e1;subst e1;subst e2;refine⟨?_,.inr ⟨g,cap,cur',rfl,hb',hg',by omega,hcm',hcs',?_⟩⟩
       ·rw[z4x (fun x hx=>hL0.out x (List.mem_of_mem_eraseIdx hx)),hlen]
       ·have:cur'.toList.take (i*65)=(cur'.toList.take ((i+1)*65)).take (i*65):=by rw[List.take_take,Nat.min_eq_left (by omega)]
        have hse:=shift_end L (k:=k0) (by omega);rw[show L.length-1=i by omega]at hse;rw[this,htake,List.append_assoc,List.take_append_of_le_length (by rw[List.length_take,z4x (z6X hL0.out k0 i),z7A L hki (by omega)];omega),List.take_take,Nat.min_self,z7t (z6X hL0.out k0 i),hse]
     have HO4:Hid ((wr.setCells g (i*65) Z.toList).ownsRow B 174 65 (.slice (some ⟨g,0,none⟩) i cap) i (z1j (L.eraseIdx k0))):=hO4;have hg4:=hgr.trans hg3;have HLE:Hid ((L.eraseIdx k0).length=i):=hlen;have b1:(i:Int)<=(cap:Int):=by omega
     clear hO3 hO4 HO hth hg3 hlen;go_wp2;go_ret;refine⟨_,rfl,?_,rfl,hg4⟩;rw[HST.out,HLE.out];exact HO4.out
end
section
open Go.RowKit
set_option maxHeartbeats 4000000
set_option maxRecDepth 100000
theorem struck_ok{L:List Late}(h:z4E L)(b:Nat):z4E (z1Y L b):=fun x hx=>h x (List.mem_filter.1 hx).1
theorem struck_once{L:List Late}(h:(L.map (·.1)).Nodup)(b:Nat)(d:List UInt8):((z1Y L b++[(b,d)]).map (·.1)).Nodup:=by
 rw[List.map_append,List.nodup_append];refine⟨?_,by simp,?_⟩
 ·unfold z1Y;exact(List.filter_sublist.map _).nodup h
 ·intro x hx y hy;simp at hy;subst hy;obtain⟨z,hz,rfl⟩:=List.mem_map.1 hx;unfold z1Y at hz;have:=(List.mem_filter.1 hz).2;simpa using this
theorem Spun.grown{B:Nat}{w w':World}{row:Option Nat}(hg:w.grownBy w' row)(hr:∀k,row=some k->B<=k/\∃c,w.heap[k]?=some (.cells c 174 (0,0)))(hB:B<=w.heap.size):Spun B w w':=
 ⟨⟨hg.os,hg.tape,hg.output,hg.size,fun k hk=>hg.block k (by omega) (fun e=>by have:=(hr k e.symm).1;omega)⟩,fun k o hk ho=>by
  by_cases e:some k=row
  ·obtain⟨_,c,hc⟩:=hr k e.symm;rw[hk]at hc;injection hc with hc;exact absurd ⟨c,_,_,hc,.inr (.inr rfl)⟩ ho
  ·rw[hg.block k (Array.getElem?_eq_some_iff.1 hk).1 e];exact hk⟩
def AddEnd(w:World)(B p bs n:Nat)(s:DSt)(v:Nat->Value)(i b:Nat)(d:List UInt8)(v'':Value)(X':World):Prop:=
 (∃a m c,v''=.slice a m c)/\X'.cell? ⟨bs,i*65+64,none⟩=some (v i)/\X'.frozen? ⟨bs,i*65+64,none⟩=false /\
   z0m (X'.setCell ⟨bs,i*65+64,none⟩ v'') B p bs n (s.at i ⟨(s.K i).kept,z1Y (s.K i).late b++[(b,d)]⟩) (fun j=>if j=i then v'' else v j)/\Spun B w (X'.setCell ⟨bs,i*65+64,none⟩ v'')
theorem range_grown{w w':World}{row:Option Nat}(h:w.grownBy w' row){k o:Nat}{l:List Value}(hr:w.rangeAt k o l)(hne:some k≠row):w'.rangeAt k o l:=fun j u hj=>h.cell (hr j u hj) hne
theorem add_end{w X:World}{B p bs n:Nat}{s:DSt}{v:Nat->Value}(h:z0m w B p bs n s v){i:Nat}(hi:i<n){b:Nat}(hb:b<64){d:List UInt8}(hd:d.length=64){v':Value}(hg:w.grownBy X (v i).ownBlock)
 (hO:X.ownsRow B 174 65 v' (z1Y (s.K i).late b).length (z1j (z1Y (s.K i).late b))) (hvb:v'.ownBlock=(v i).ownBlock) {a:Nat} (hsrc:X.rangeAt a 0 (z0t (b,d))) :
 ∃v'' X',(Builtin.append_ #[175,175] 175 #[v',.slice (some ⟨a,0,none⟩) 1 1]).run Tryz.prog X=.ok v'' X'/\AddEnd w B p bs n s v i b d v'' X':=by
 obtain⟨x,hx,hp⟩:=Option.map_eq_some_iff.1 (show(Tryz.prog.info? 174).map (fun i=>(i.zero.map (·.cells.size),i.size,i.bytes))=some (some 65,65,72) by kernel_rfl);simp only[Prod.mk.injEq]at hp;obtain⟨h1,h2,h3⟩:=hp;obtain⟨z,hz,hzc⟩:=Option.map_eq_some_iff.1 h1;have hfew:=(h.ok i hi).few;have hsf:(z1Y (s.K i).late b).length<=(s.K i).late.length:=List.length_filter_le _ _;have hBs:B<=X.heap.size:=by have:=h.bp;have:=h.lt;have:=hg.size;omega
 obtain⟨v'',X',hrun,hO2,hg2,_,hbl⟩:=run_append_own_at (P:=Tryz.prog) X B 175 175 174 x z 65 72 Tryz.underlying175 hx hz h2 h3 hzc (by decide) v' _ _ hO ⟨a,0,none⟩ 1 1 (z0t (b,d)) (by rw[z4f hd])
  (fun j u hj=>by rw[Addr.add_mid];exact hsrc j u hj) (z4W _) (by simp only[maxLen];omega) (by omega) hBs
 rw[hvb]at hg2 hbl;have hgg:=hg.trans hg2;have hnb:some bs≠(v i).ownBlock:=fun e=>by
  obtain⟨c',hc'⟩:=z3C (h.rows i hi) e.symm;obtain⟨C,hC⟩:=h.sec;rw[hC]at hc';simp at hc'
 have hnp:some p≠(v i).ownBlock:=fun e=>by
  obtain⟨c',hc'⟩:=z3C (h.rows i hi) e.symm;rw[h.blk]at hc';simp at hc'
 obtain⟨C,hC⟩:=h.sec;have hk:=(h.ok i hi).kept;have hcell:w.cell? ⟨bs,i*65+64,none⟩=some (v i):=h.cells i hi 64 _ (by rw[List.getElem?_append_right (by simp[hk])];simp[hk]);have hC2:X'.heap[bs]?=some (.cells C 177 (0,0)):=(hgg.block bs h.ltb hnb).trans hC;have hcell2:X'.cell? ⟨bs,i*65+64,none⟩=some (v i):=hgg.cell hcell hnb;have hsp:Spun B w X':=Spun.grown hgg (fun k e=>⟨((h.rows i hi).lt k e).1,z3C (h.rows i hi) e⟩) (by have:=h.bp;have:=h.lt;omega);have hl:(z1Y (s.K i).late b++[(b,d)]).length=(z1Y (s.K i).late b).length+1:=by simp
 obtain⟨ax,cx,hvx,_⟩:=z0c hO2;refine⟨v'',X',hrun,⟨_,_,_,hvx⟩,hcell2,by simp[World.frozen?,hC2],?_,hsp.trans (Spun.set (i:=i*65+64) hC2 h.bb (.inr (.inl rfl)) v'')⟩;refine h.turn hi (l:=z1Y (s.K i).late b++[(b,d)]) ?_ (struck_once (h.ok i hi).once b d) ?_ ?_ ?_ ⟨_,heap_setC _ _ _ _ _ _ _ hC2⟩ ?_ (World.cell?_setCell_same _ _ _ hcell2) ?_
 ·intro y hy;rcases List.mem_append.1 hy with hy|hy
  ·exact struck_ok (h.ok i hi).late b y hy
  ·simp at hy;subst hy;exact⟨hb,hd⟩
 ·rw[hl,latesC_append,show z1j [(b,d)]=z0t (b,d) by simp[z1j]];refine z5X hO2 (fun k hk=>Below.heap_setCell _ _ _ _ (fun e=>?_));obtain⟨c',hc'⟩:=z3C hO2 hk;subst e;rw[hC2]at hc';simp at hc'
 ·rcases hbl with h0|h0
  ·exact .inr (.inl h0)
  ·exact .inr (.inr ⟨_,h0,hg.size⟩)
 ·exact(Below.heap_setCell _ _ _ _ h.ne).trans (hgg.block p h.lt hnp)
 ·intro j hj;rw[World.cell?_setCell_other _ _ _ _ (fun e=>hj (by injection e with _ e _;exact e.symm))];exact World.cell?_of_block (hgg.block bs h.ltb hnb)
 ·intro k hk hne hnr;rw[Below.heap_setCell _ _ _ _ hne];exact hgg.block k hk hnr
theorem fold_set(cs:List Value):∀(z:Array Value),z.size=cs.length->(cs.toArray.zipIdx.foldl (fun a (x:Value×Nat)=>a.setIfInBounds (0+x.2) x.1) z)=cs.toArray:=by
 intro z hz;have key:∀(l:List Value) (o:Nat) (z:Array Value),o+l.length<=z.size->((l.zipIdx o).foldl (fun a (x:Value×Nat)=>a.setIfInBounds (0+x.2) x.1) z).toList=z.toList.take o++l++z.toList.drop (o+l.length):=by
  intro l
  induction l with
  |nil=>intro o z _;simp
  |cons a l ih=>
   intro o z h;simp only[List.length_cons]at h;simp only[List.zipIdx_cons,List.foldl_cons];rw[ih (o+1) _ (by simp;omega)];have e1:(z.setIfInBounds (0+o) a).toList=z.toList.set o a:=by simp
   rw[e1];have e2:(z.toList.set o a).take (o+1)=z.toList.take o++[a]:=by
    rw[List.take_set,List.take_succ_eq_append_getElem (by simp;omega),List.set_append_right _ _ (by simp;omega)];simp[Nat.min_eq_left (show o<=z.size by omega)]
   rw[e2,List.drop_set_of_lt (by omega)];simp[Nat.add_comm,Nat.add_left_comm]
 apply Array.ext';have:=key cs 0 z (by omega);rw[List.drop_of_length_le (by simp;omega)]at this;simpa using this
theorem build_one(W:World)(y:Late)(hy:y.2.length=64):(Instr.buildSlice 175 1 #[(0,.agg (z0t y).toArray)]).run Tryz.prog W=.ok (.slice (some ⟨W.heap.size,0,none⟩) 1 1) (W.alloc (.cells (z0t y).toArray 174)):=by
 obtain⟨Z,hal,hZ,_⟩:=late_zeros;have hsz:∀w,(Go.sizeOf 174).run Tryz.prog w=.ok 65 w:=fun w=>by kernel_rfl
 have hl:=z4f hy;have hf:=fold_set (z0t y) ((Array.range (1*65)).map (Z[· % Z.size]!)) (by simp[hl]);simp[Instr.buildSlice,run_underlying Tryz.underlying175,hsz,hal,Value.cells,Instr.fill,hl,newRow]at hf ⊢;rw[hf]
structure DelIs(w X w':World)(B:Nat)(v:Value)(L:List Late)(b:Nat)(v':Value):Prop where
 own:w'.ownsRow B 174 65 v' (z1Y L b).length (z1j (z1Y L b))
 blk:v'.ownBlock=v.ownBlock
 near:X.grownBy w' v.ownBlock
 far:w.grownBy w' v.ownBlock
def ldLate(v:Value):Sem Value:=Instr.loadAt 174 v
theorem ldLate_eq(v:Value):Instr.loadAt 174 v=ldLate v:=rfl
def bsLate(l:Array (Nat×Value)):Sem Value:=Instr.buildSlice 175 1 l
theorem bsLate_eq(l:Array (Nat×Value)):Instr.buildSlice 175 1 l=bsLate l:=rfl
attribute [local go_sem ↓] ldLate_eq bsLate_eq
attribute [local go_sem ↓] Go.wp_at_zero Go.wp_at_succ
theorem add_any(w:World)(B p bs n:Nat)(s:DSt)(v:Nat->Value)(i b:Nat)(d:List UInt8)(h:z0m w B p bs n s v)(hi:i<n)(hb:b<64)(hd:d.length=64) :
 Calls Tryz.prog 86 #[.pointer (some ⟨bs,i*65,none⟩),.agg (z0t (b,d)).toArray] w fun e w'=>e=.returned (.tuple #[])/\(∃v',z0m w' B p bs n (s.at i ⟨(s.K i).kept,z1Y (s.K i).late b++[(b,d)]⟩) v')/\Spun B w w':=by
 have hk:=(h.ok i hi).kept;have hbA:Below w.heap.size w (w.alloc (.cells (z0t (b,d)).toArray 174)):=(Below.refl _ _).alloc (Nat.le_refl _) _;have hbx:(Instr.box 174 (.agg (z0t (b,d)).toArray)).run Tryz.prog w=.ok (.pointer (some ⟨w.heap.size,0,none⟩)) (w.alloc (.cells (z0t (b,d)).toArray 174)):=rfl;have hs1:(w.alloc (.cells (z0t (b,d)).toArray 174)).cell? ⟨bs,i*65+64,none⟩=some (v i):=cell_later hbA (h.cells i hi 64 _ (by rw[List.getElem?_append_right (by simp[hk])];simp[hk]));have hnr:(w.alloc (.cells (z0t (b,d)).toArray 174)).rangeAt w.heap.size 0 (z0t (b,d)):=z4O w _ _ 0 _ (fun j u hj=>by rw[Nat.zero_add];exact hj);have hbs:∀W,(bsLate #[(0,.agg (z0t (b,d)).toArray)]).run Tryz.prog W=.ok (.slice (some ⟨W.heap.size,0,none⟩) 1 1) (W.alloc (.cells (z0t (b,d)).toArray 174)):=fun W=>build_one W (b,d) hd
 have hmf:∀(fn:Fn) (first cap:Array Value) (w:World),(Instr.makeFunc fn first cap).run Tryz.prog w=.ok (.func fn first cap) w:=fun _ _ _ _=>rfl
 have HD:∀X,Below (w.alloc (.cells (z0t (b,d)).toArray 174)).heap.size (w.alloc (.cells (z0t (b,d)).toArray 174)) X->Calls Tryz.prog 112 #[v i,.func (.func 113) #[] #[.pointer (some ⟨w.heap.size,0,none⟩)]] X fun e w'=>∃v',e=.returned v'/\DelIs w X w' B (v i) (s.K i).late b v':=fun X hX=>
  (delete_any X B _ b w.heap.size (v i) (s.K i).late (z0e (h.rows i hi) (hbA.trans (hX.mono hbA.size))) (h.ok i hi).late (h.ok i hi).once rfl (h.ok i hi).few (cell_later hX (hnr 0 _ rfl)) (fun e=>by have:=((h.rows i hi).lt _ e).2;omega)).mono fun e w' ⟨v',he,h1,h2,h3⟩=>⟨v',he,h1,h2,h3,(z5U (hbA.trans (hX.mono hbA.size))).trans h3⟩
 have hrow:(v i).ownBlock≠some w.heap.size:=fun e=>by have:=((h.rows i hi).lt _ e).2;omega
 have hrow1:(v i).ownBlock≠some (w.alloc (.cells (z0t (b,d)).toArray 174)).heap.size:=fun e=>by have:=((h.rows i hi).lt _ e).2;simp at this;omega
 have hl65:(z0t (b,d)).length=65:=z4f hd;have h1c:=z4W (b,d);have hu:=Tryz.underlying174;have hi70:=z2a hl65;generalize hcs:z0t (b,d)=cs at *;have HCS:Hid (z0t (b,d)=cs):=hcs;obtain⟨a0,c0,hv,_⟩:=z0c (h.rows i hi);have HV:Hid (v i=.slice a0 (s.K i).late.length c0):=hv;rw[hv]at hs1 HD hrow hrow1;have HHD:Hid (z0m w B p bs n s v):=h;have hld:∀X,X.rangeAt w.heap.size 0 cs->(ldLate (.pointer (some ⟨w.heap.size,0,none⟩))).run Tryz.prog X=.ok (.agg cs.toArray) X:=fun X hX=>run_loadAt_mid X _ _ _ _ _ hX hu rfl hi70
 have HE:∀(X:World) (v':Value) (a:Nat),Hid (w.grownBy X (Value.slice a0 (s.K i).late.length c0).ownBlock)->Hid (X.ownsRow B 174 65 v' (z1Y (s.K i).late b).length (z1j (z1Y (s.K i).late b)))->Hid (v'.ownBlock=(Value.slice a0 (s.K i).late.length c0).ownBlock)->Hid (X.rangeAt a 0 cs) ->
  ∃v'' X',(Builtin.append_ #[175,175] 175 #[v',.slice (some ⟨a,0,none⟩) 1 1]).run Tryz.prog X=.ok v'' X'/\AddEnd w B p bs n s v i b d v'' X':=fun X v' a e1 e2 e3 e4=>by
  rw[<-hv]at e1 e3;rw[<-hcs]at e4;exact add_end h hi hb hd e1.out e2.out e3.out e4.out
 clear hcs h hv;generalize hW:w.alloc (.cells cs.toArray 174)=W at *;have hsz:w.heap.size<W.heap.size:=by rw[<-hW];simp
 have l1:=hld W.drew (by simpa using hnr);have hs2:∀ob:Obj,(W.alloc ob).cell? ⟨bs,i*65+64,none⟩=some (.slice a0 (s.K i).late.length c0):=fun ob=>cell_later ((Below.refl _ _).alloc (Nat.le_refl _) _) hs1
 clear hi70 hu h1c hd hi hb hk;go_enter Tryz.func86,Tryz.ntmps86;go_wp2;go_region_law (first
  |(refine step_own (R:=AddEnd w B p bs n s v i b d) rfl (.tmp 10) (.tmp 12) 175 rfl v' (.slice (some ⟨w2.heap.size,0,none⟩) 1 1) rfl rfl ?hrun ?_;(case hrun=>exact HE (w2.alloc (.cells cs.toArray 174)) v' w2.heap.size (hDI.far.trans (z5U ((Below.refl _ _).alloc (Nat.le_refl _) _))) (hDI.own.alloc _) hDI.blk (z4O w2 _ _ 0 _ (fun j u hj=>by rw[Nat.zero_add];exact hj)));rintro v'' X' ⟨⟨a2,m2,c2,rfl⟩,q1,q2,q3,q4⟩)
  |(refine step_own (R:=AddEnd w B p bs n s v i b d) rfl (.tmp 10) (.tmp 12) 175 rfl v' (.slice (some ⟨W.heap.size,0,none⟩) 1 1) rfl rfl ?hrun ?_;(case hrun=>exact HE w2 v' W.heap.size hDI.far hDI.own hDI.blk (range_grown hDI.near (z4O W.drew _ _ 0 _ (fun j u hj=>by rw[Nat.zero_add];exact hj)) (Ne.symm hrow1)));rintro v'' X' ⟨⟨a2,m2,c2,rfl⟩,q1,q2,q3,q4⟩)
  |(go_simp;go_at_call 112;refine(HD _ ?hb).mono ?_;(case hb=>first|exact(Below.refl _ _).drew|exact((Below.refl _ _).drew).alloc (Nat.le_refl _) _);rintro e w2 ⟨v',rfl,hDI⟩;have l2:=hld w2 (range_grown hDI.near (by first|exact hnr|exact World.rangeAt_alloc (w:=W.drew) hnr _) (Ne.symm hrow))))
 all_goals
  go_end0;exact⟨rfl,⟨_,q3⟩,q4⟩
end
end Go.Proofs.YtbcpcbonlhlhpaaGreatDoor
