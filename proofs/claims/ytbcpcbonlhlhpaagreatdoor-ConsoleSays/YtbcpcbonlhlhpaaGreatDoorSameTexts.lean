/- What stays where only blocks of certain kinds have turned: -/
import Derived.Test.YtbcpcbonlhlhpaaGreatDoorOnlyBase
import Derived.Test.YtbcpcbonlhlhpaaGreatDoorRefText
set_option maxRecDepth 100000
set_option maxHeartbeats 16000000
namespace Go.Proofs.YtbcpcbonlhlhpaaGreatDoor
section
open Go.RowKit Go.Maps
abbrev tsDisk:List (Option TypeId):=[some 118,some 177,some 174]
abbrev tsRS:List (Option TypeId):=[some 37]
theorem Only.of_spun{B:Nat}{w w':World}(h:Spun B w w'):Only tsDisk w w':=⟨fun k o hk ho=>h.block k o hk (fun⟨c,t,f,e,ht⟩=>ho (by
 subst e;rcases ht with rfl|rfl|rfl <;> simp[z5l,tsDisk]))⟩
theorem Only.of_grown{B0 B m:Nat}{w w':World}{vl:Value}{k:Nat}{V:Nat->EntV}{E:Nat->EntF}(h:w.grownBy w' (some m))(hR:z1R w B0 B m vl k V E):Only tsRS w w':=⟨fun j o hj ho=>(h.block j (Array.getElem?_eq_some_iff.1 hj).1 (fun e=>ho (by
 injection e with e;subst e;rw[hR.blk]at hj;injection hj with hj;subst hj;simp[z5l,tsRS]))).trans hj⟩
theorem Disk.only{w w':World}{B p n:Nat}{s:DSt}{ts:List (Option TypeId)}(h:Disk w B p n s)(hs:Only ts w w')(h1:some 118 ∉ ts)(h2:some 177 ∉ ts)(h3:some 174 ∉ ts):Disk w' B p n s:=
 h.other fun q o hq ⟨c,t,f,e,ht⟩=>hs.block q o hq (by
  subst e;rcases ht with rfl|rfl|rfl
  ·exact h1
  ·exact h2
  ·exact h3)
theorem z1u.only{w w':World}{l f g:Nat}{ts:List (Option TypeId)}(h:z1u w l f g)(hs:Only ts w w')(h1:some 130 ∉ ts):z1u w' l f g:=hs.block _ _ h h1
theorem z0T.only{w w':World}{g p:Nat}{ts:List (Option TypeId)}(h:z0T w g p)(hs:Only ts w w')(h1:some 148 ∉ ts):z0T w' g p:=hs.block _ _ h h1
theorem z1R.only{w w':World}{B0 B m:Nat}{v:Value}{k:Nat}{V:Nat->EntV}{E:Nat->EntF}{ts:List (Option TypeId)}(h:z1R w B0 B m v k V E)(hs:Only ts w w')(hb:Below B0 w w')(h1:some 37 ∉ ts)(h2:some 71 ∉ ts)(h3:some 112 ∉ ts)(h4:some 114 ∉ ts):z1R w' B0 B m v k V E:=
 ⟨hs.block _ _ h.blk h1,⟨z7G h.own.row hs h2,fun i hi=>(h.own.ins i hi).keeps ⟨fun j hj=>hb.block j hj,fun j C t ht hj=>by
  rw[hj];refine hs.block j _ hj ?_;rcases ht with rfl|rfl
  ·exact h3
  ·exact h4⟩⟩,h.few,h.once⟩
end
section
open Go.RowKit
theorem getE_some{E:Nat->EntF}{root:ByteArray}{k j:Nat}(ho:∀i j,i<k->j<k->(E i).root=(E j).root->i=j)(hj:j<k)(hr:(E j).root=root):getE E k root=(true,E j):=by
 have h0:¬findF E root k 0<0:=fun h=>by
  have:=findF_none _ 0 rfl h;exact this j (Nat.zero_le _) hj hr
 obtain⟨i,_,hi,hir,hf⟩:=z2i _ 0 rfl (show 0<=findF E root k 0 by omega);obtain rfl:=ho i j hi hj (hir.trans hr.symm);unfold getE;rw[if_neg h0,hf];rfl
end
section
open Go.RowKit Go.Maps
theorem ShPut.calm{s:DSt}{n:Nat}{E:Nat->EntF}{k:Nat}{r:Nat×(Nat->EntF)×Nat}{s':DSt}{e:Ending}(h:ShPut s n E k r s' e)(hS:z0X s n E k)(hl:s.left=-1)(hk:r.1≠0->r.2=(E,k)):e=.returned (errV r.1)/\s'.left=-1/\z0X s' n r.2.1 r.2.2:=by
 cases h with
 |bad h hs=>subst hs;rw[hk h];exact⟨rfl,hl,hS⟩
 |keep _ h hk'=>
  cases hk' with
  |fell hl' _=>exact absurd hl hl'
  |ok hSt hl2=>exact⟨by rw[h];rfl,hl2 hl,hSt⟩
theorem putE_in{E:Nat->EntF}{k:Nat}{en:EntF}(h:(putE E k en).1=0):∃j,j<(putE E k en).2.2/\(putE E k en).2.1 j=en:=by
 have hs:∀j:Nat,addV E j en j=en:=fun j=>if_pos rfl
 unfold putE at h ⊢;split at h
 ·rename_i h1;exact absurd h h1
 ·rename_i h1;rw[if_neg h1];split at h
  ·rename_i h2;rw[if_pos h2];obtain⟨j,_,hj,_,hf⟩:=z2i _ 0 rfl h2;rw[hf];exact⟨j,hj,hs j⟩
  ·rename_i h2;rw[if_neg h2];split at h
   ·cases h
   ·rename_i h3;rw[if_neg h3];exact⟨k,Nat.lt_succ_self k,hs k⟩
theorem getE_put{E:Nat->EntF}{k:Nat}{en:EntF}{r:Nat×(Nat->EntF)×Nat}(hr:putE E k en=r)(h:r.1=0)(ho:∀i j,i<r.2.2->j<r.2.2->(r.2.1 i).root=(r.2.1 j).root->i=j):getE r.2.1 r.2.2 en.root=(true,en):=by
 subst hr;obtain⟨j,hj,he⟩:=putE_in h;rw[getE_some ho hj (by rw[he]),he]
theorem any_none{f:Nat->Bool}{n:Nat}(h:∀i,i<n->f i=false):z0H f n=false:=by
 induction n with
 |zero=>rfl
 |succ n ih=>simp only[z0H,ih fun i hi=>h i (by omega),h n (by omega),Bool.or_false]
theorem made_fresh{D:DataW Unit}{k:Nat}{T:ByteArray->ByteArray}{S:ByteArray->Int}{root:ByteArray}{m:Nat}{B:Nat->Int}{P Q:ByteArray->Int}(hI:Inv D k)(h:z0Z (rdD D T) root m B P Q):z5c D S (z4t (rdD D T) S root m B (z0l (rdD D T) root m B P Q))=true:=by
 obtain⟨hSc,_,_⟩:=z4s h.of (z6y (T:=T) hI);have hhas:=made_has hI h.of;have e:z0R D S (nmAt (rdD D T) root) (fun j=>S (nmAt (rdD D T) root j)) m=false:=any_none fun i hi=>by
  rw[hhas i hi];simp
 show(!z0R D S (nmAt (rdD D T) root) (fun j=>S (nmAt (rdD D T) root j)) m&&decide (0<m))=true;rw[e,decide_eq_true hSc.pos];rfl
end
section
open Go.RowKit
theorem hash_any(s:ByteArray)(w:World)(hs:s.size<=maxLen) :
 Calls Tryz.prog 81 #[.string s] w fun e w'=>e=.returned (.int .u32 ((z5r s.data.toList:Nat):Int))/\w=w':=by
 unfold maxLen at hs;go_enter Tryz.func81,Tryz.ntmps81;go_wp2;go_loop [3,7] (fun h i=>∃k:Nat,k<=s.size/\i=.int .i64 k/\h=.int .u32 ((z5r (s.data.toList.take k):Nat):Int)) (fun _ i=>s.size-(intOf i).toNat)
 case atStart=>exact⟨0,Nat.zero_le _,rfl,rfl⟩
 case round=>
  obtain⟨k,hk,rfl,rfl⟩:=hrel;have hx:=hashL_lt (s.data.toList.take k);by_cases hlt:k<s.size
  ·have HS:Hid (z5r (s.data.toList.take (k+1))=z7c (z5r (s.data.toList.take k)) s[k].toNat):=by
    rw[take_snoc s k hlt];exact hashL_snoc _ _
   have hb:(s[k].toNat:Int)<256:=by have:=s[k].toNat_lt;omega
   generalize z5r (s.data.toList.take k)=x at *;go_wp2;go_round
   case rel=>exact⟨k+1,by omega,by go_num,by rw[HS.out,hstep_code]⟩
   case measure=>simp[intOf];omega
  ·go_wp2;go_ret;have e:s.data.toList.take k=s.data.toList:=List.take_of_length_le (by simp;omega);rw[e];exact⟨rfl,rfl⟩
theorem refHash_any(s:ByteArray)(w:World)(hs:s.size<=maxLen) :
 Calls Tryz.prog 28 #[.string s] w fun e w'=>e=.returned (.int .i64 ((z5r s.data.toList:Nat):Int))/\w=w':=by
 unfold maxLen at hs;go_enter Tryz.func28,Tryz.ntmps28;go_wp2;go_loop [3,4] (fun h i=>∃k:Nat,k<=s.size/\i=.int .i64 k/\h=.int .i64 ((z5r (s.data.toList.take k):Nat):Int)) (fun _ i=>s.size-(intOf i).toNat)
 case atStart=>exact⟨0,Nat.zero_le _,rfl,rfl⟩
 case round=>
  obtain⟨k,hk,rfl,rfl⟩:=hrel;have hx:=hashL_lt (s.data.toList.take k);by_cases hlt:k<s.size
  ·have HS:Hid (z5r (s.data.toList.take (k+1))=z7c (z5r (s.data.toList.take k)) s[k].toNat):=by
    rw[take_snoc s k hlt];exact hashL_snoc _ _
   have hb:(s[k].toNat:Int)<256:=by have:=s[k].toNat_lt;omega
   generalize z5r (s.data.toList.take k)=x at *;go_wp2;go_round
   case rel=>exact⟨k+1,by omega,by go_num,by rw[HS.out,<-hstep_ref]⟩
   case measure=>simp[intOf];omega
  ·go_wp2;go_ret;have e:s.data.toList.take k=s.data.toList:=List.take_of_length_le (by simp;omega);rw[e];exact⟨rfl,rfl⟩
end
section
open Go.RowKit
inductive DropIn (wr:World) (B0 B:Nat) (v:Value) (i:Nat) (V:Nat->EntV) (E:Nat->EntF) (root:ByteArray):Nat->Prop
 |none (hn:∀j,j<i->(E j).root≠root) (h:z0C wr B0 B v i V E):DropIn wr B0 B v i V E root i
 |one (j n:Nat) (hj:j<i) (hr:(E j).root=root) (hn:∀q,q<j->(E q).root≠root) (e:n+1=i) (h:z0C wr B0 B v n (cutV V j) (cutV E j)):DropIn wr B0 B v i V E root n
theorem DropIn.own{wr:World}{B0 B:Nat}{v:Value}{i n:Nat}{V:Nat->EntV}{E:Nat->EntF}{root:ByteArray}(h:DropIn wr B0 B v i V E root n):∃V' E',z0C wr B0 B v n V' E':=by
 cases h with
 |none _ h=>exact⟨_,_,h⟩
 |one _ _ _ _ _ _ h=>exact⟨_,_,h⟩
theorem DropIn.skip{wr:World}{B0 B:Nat}{v:Value}{i n:Nat}{V:Nat->EntV}{E:Nat->EntF}{root:ByteArray}(h:DropIn wr B0 B v i V E root n)(hr:(E i).root=root)(ho:∀p q,p<i+1->q<i+1->(E p).root=(E q).root->p=q):DropIn wr B0 B v (i+1) V E root n:=by
 cases h with
 |none hn h=>exact .one i i (by omega) hr hn rfl (h.congr fun q hq=>by unfold cutV;rw[if_pos hq,if_pos hq];exact⟨rfl,rfl⟩)
 |one j _ hj hrj _ _ _=>have:=ho i j (by omega) (by omega) (hr.trans hrj.symm);omega
theorem DropIn.more{wr w':World}{B0 B:Nat}{v v':Value}{i n:Nat}{V:Nat->EntV}{E:Nat->EntF}{root:ByteArray}(h:DropIn wr B0 B v i V E root n)(hr:(E i).root≠root)(hk:z1B B0 wr w')(hi:z5N w' B0 (V i) (E i))
 (hG:∀xs,wr.ownsRow B 71 3 v n xs->w'.ownsRow B 71 3 v' (n+1) (xs++[.string (E i).root,.slice (V i).aP (E i).nP (V i).cP,.slice (V i).aQ (E i).nQ (V i).cQ])):DropIn w' B0 B v' (i+1) V E root (n+1):=by
 cases h with
 |none hn h=>
  refine .none (fun j hj=>?_) ((z0C.added (fun q hq=>(h.ins q hq).keeps hk) hi (hG _ h.row)).congr fun q hq=>?_)
  ·by_cases e:j=i
   ·subst e;exact hr
   ·exact hn j (by omega)
  ·unfold addV;split
   ·rename_i e;rw[e];exact⟨rfl,rfl⟩
   ·exact⟨rfl,rfl⟩
 |one j _ hj hrj hn e h=>
  refine .one j (n+1) (by omega) hrj hn (by omega) ((z0C.added (fun q hq=>(h.ins q hq).keeps hk) hi (hG _ h.row)).congr fun q hq=>?_);unfold addV cutV;by_cases hq':q=n
  ·subst hq';rw[if_pos rfl,if_pos rfl,if_neg (by omega),if_neg (by omega),e];exact⟨rfl,rfl⟩
  ·rw[if_neg hq',if_neg hq'];exact⟨rfl,rfl⟩
theorem refDrop_any(w:World)(B0 B m k:Nat)(vl:Value)(V:Nat->EntV)(E:Nat->EntF)(root:ByteArray)(h:z1R w B0 B m vl k V E)(hB0:B0<=B)(hBm:B<=m) :
 Calls Tryz.prog 23 #[.pointer (some ⟨m,0,none⟩),.string root] w fun e w'=>e=.returned (.int .i64 (((z2F E k root).1:Nat):Int))/\(∃vl' V',z1R w' B0 B m vl' (z2F E k root).2.2 V' (z2F E k root).2.1)/\w.grownBy w' (some m):=by
 have hlt:=h.lt;have hBw:B0<=w.heap.size:=by omega
 have gb:∀w',Below w.heap.size w w'->w.grownBy w' (some m):=fun w' hb=>⟨hb.os,hb.tape,hb.output,hb.size,fun k hk _=>hb.block k hk⟩
 obtain⟨a,c,rfl,hRow⟩:=h.own.ents;have hk3:=h.few;go_enter Tryz.func23,Tryz.ntmps23;go_wp2;go_loopw [5,6] (fun y5 y6 wr=>∃(i n:Nat) (v:Value),i<=k/\y6=.int .i64 i/\y5=v/\DropIn wr B0 w.heap.size v i V E root n/\Below w.heap.size w wr) (fun _ y6 _=>k-(intOf y6).toNat)
 case atStart=>exact⟨0,0,_,Nat.zero_le _,rfl,rfl,.none (fun j hj=>absurd hj (Nat.not_lt_zero _)) ⟨World.ownsRow_nil _ _ _ _,fun i hi=>absurd hi (Nat.not_lt_zero _)⟩,Below.refl _ _⟩
 case round=>
  obtain⟨i,n,v,hi,rfl,rfl,hD,hb⟩:=hrel;have h1:=h.later hBw hb;have mc:=h1.cell;obtain⟨V1,E1,hEO1⟩:=hD.own;obtain⟨av,cv,rfl,_⟩:=hEO1.ents;by_cases hlti:i<k
  ·rcases hRow.later hb with h0|⟨bk,o,rfl,hc⟩
   ·omega
   obtain⟨y0,y1,y2,_⟩:=hc i hlti;have hi0:(0:Int)<=(i:Int):=by omega
   have hi1:(i:Int)<(k:Int):=by omega
   by_cases he:(E i).root=root
   ·have hb':((E i).root.toList==root.toList)=true:=by rw[he];simp
    have hD2:=hD.skip he (fun p q hp hq hpq=>h.once p q (by omega) (by omega) hpq);clear he hc;go_wp2;go_roundw
    case rel=>exact⟨i+1,n,_,by omega,by go_num,rfl,hD2,hb⟩
    case measure=>simp[intOf];omega
   ·have hb':((E i).root.toList==root.toList)=false:=by rw[z0z];exact decide_eq_false he
    have hn:n<=i:=by cases hD with
     |none _ _=>exact Nat.le_refl _
     |one _ _ _ _ _ e _=>omega
    obtain⟨v',W6,happ,hG6⟩:=growE (.string (E i).root) (.slice (V i).aP (E i).nP (V i).cP) (.slice (V i).aQ (E i).nQ (V i).cQ) rfl rfl rfl hb.size hEO1.row (by omega);have hbn:Below wr.heap.size wr (wr.alloc (.cells #[.string (E i).root,.slice (V i).aP (E i).nP (V i).cP,.slice (V i).aQ (E i).nQ (V i).cQ] 71)):=(Below.refl _ wr).alloc (Nat.le_refl _) _;have hkp:z1B B0 wr W6:=(z1B.of_below (w:=wr) (Nat.le_trans hBw hb.size) hbn).trans (z1B.grown (w:=wr.alloc (.cells #[.string (E i).root,.slice (V i).aP (E i).nP (V i).cP,.slice (V i).aQ (E i).nQ (V i).cQ] 71)) hBw (by have:=hb.size;simp;omega) (hEO1.row.alloc _) (by decide) hG6.grown);have hD2:=hD.more (w':=W6) (v':=v') he hkp ((h1.own.ins i hlti).keeps hkp) (fun xs hx=>by
     have:xs=z0i (entL V1 E1) n:=by
      have q1:=hx;have q2:=hEO1.row;rcases q1.2 with⟨e1,e2⟩|⟨g1,c1,cur1,e1,_,f1,_,_,_,t1⟩
      ·subst e2;exact List.length_eq_zero_iff.1 (by rw[q1.1])
      ·rcases q2.2 with⟨e3,e4⟩|⟨g2,c2,cur2,e3,_,f2,_,_,_,t2⟩
       ·rw[e3]at e1;cases e1
       ·rw[e3]at e1;cases e1;rw[f2]at f1;cases f1;rw[<-t1,<-t2]
     rw[this];exact hG6.own)
    have hb6:Below w.heap.size w W6:=(hb.trans (hbn.mono hb.size)).trans hG6.below;obtain⟨g',cap',rfl⟩:=ownsRow_succ hG6.own;clear he hc hG6 hD hEO1;go_wp2_with (at_builtin;refine z0b rfl (.tmp 26) (.tmp 34) 35 rfl (.slice av n cv) (.slice (some ⟨wr.heap.size,0,none⟩) 1 1) _ rfl rfl happ ?_);go_roundw
    case rel=>exact⟨i+1,n+1,_,by omega,by go_num,rfl,hD2,hb6⟩
    case measure=>simp[intOf];omega
  ·obtain rfl:i=k:=by omega
   have mf:wr.frozen? ⟨m,0,none⟩=false:=by simp[World.frozen?,h1.blk]
   cases hD with
   |none hn hEO=>
    have HP:Hid (z2F E i root=(5,E,i)):=dropE_none (by rw[findF_no hn];decide);clear hEO1;go_wp2;go_ret;rw[HP.out];exact⟨rfl,⟨_,_,h1⟩,gb _ hb⟩
   |one j _ hj hr hn e hEO=>
    subst e;have HP:Hid (z2F E (n+1) root=(0,cutV E j,n)):=dropE_cut (z6d hj hr hn);have hne:((n:Int)==(n:Int)+1)=false:=by simp;omega
    have hRS:=z1R.stored (B:=B) h1.blk hEO (by omega) (by omega) (Nat.le_trans hBw hb.size) (by omega) (fun p q hp hq hpq=>by
     unfold cutV at hpq;split at hpq
     ·split at hpq
      ·exact h.once p q (by omega) (by omega) hpq
      ·have:=h.once p (q+1) (by omega) (by omega) hpq;omega
     ·split at hpq
      ·have:=h.once (p+1) q (by omega) (by omega) hpq;omega
      ·have:=h.once (p+1) (q+1) (by omega) (by omega) hpq;omega)
    have hGW:=grown_set hb m (.slice av n cv);clear hEO1 hEO;go_wp2;go_ret;rw[HP.out];exact⟨rfl,⟨_,_,hRS⟩,hGW⟩
end
section
open Go.RowKit
theorem z6A (ws:List (List UInt8))(x:List UInt8)(h:ws ≠ []):Lib.join (ws++[x]) [32]=Lib.join ws [32]++([32]++x):=by
 cases ws with
 |nil=>exact absurd rfl h
 |cons a r=>
  rw[List.cons_append,Lib.join_cons,Lib.join_cons];simp[Lib.joinTail]
theorem join_three(ws:List (List UInt8))(x y z:List UInt8)(h:ws ≠ []):Lib.join (ws++[x,y,z]) [32]=Lib.join ws [32]++[32]++x++[32]++y++[32]++z:=by
 rw[show ws++[x,y,z]=((ws++[x])++[y])++[z] by simp,z6A _ _ (by simp),z6A _ _ (by simp),z6A _ _ h];simp
theorem head_text(e:EntF)(r s:ByteArray)(hr:r.data.toList=Lib.itoa (e.nP:Int))(hs:s.data.toList=Lib.itoa (e.nQ:Int)):(e.root++⟨#[32]⟩++r++⟨#[32]⟩++s).data.toList=Lib.join (z2c e++catW (z2s e) 0) [32]:=by
 show _=Lib.join ([e.root.data.toList,Lib.itoa e.nP,Lib.itoa e.nQ]++[]) [32];rw[List.append_nil,<-hr,<-hs,show [e.root.data.toList,r.data.toList,s.data.toList]=([e.root.data.toList]++[r.data.toList])++[s.data.toList] by simp,z6A _ _ (by simp),z6A _ _ (by simp),Lib.join_one];simp
theorem part_text(e:EntF)(i:Nat)(t r s:ByteArray)(h:t.data.toList=Lib.join (z2c e++catW (z2s e) i) [32])(hr:r.data.toList=Lib.itoa (e.pStamp i))(hs:s.data.toList=Lib.itoa (e.pBase i)):(t++⟨#[32]⟩++e.pName i++⟨#[32]⟩++r++⟨#[32]⟩++s).data.toList=Lib.join (z2c e++catW (z2s e) (i+1)) [32]:=by
 show _=Lib.join (z2c e++(catW (z2s e) i++[(e.pName i).data.toList,Lib.itoa (e.pStamp i),Lib.itoa (e.pBase i)])) [32];rw[<-List.append_assoc,join_three _ _ _ _ (by simp[z2c]),<-h,<-hr,<-hs];simp
theorem pat_text(e:EntF)(i:Nat)(t r s u:ByteArray)(h:t.data.toList=Lib.join (z2c e++catW (z2s e) e.nP++catW (patW e) i) [32])(hr:r.data.toList=Lib.itoa (e.qPart i))(hs:s.data.toList=Lib.itoa (e.qAt i))(hu:u.data.toList=Lib.itoa (e.qWord i)):(t++⟨#[32]⟩++r++⟨#[32]⟩++s++⟨#[32]⟩++u).data.toList=Lib.join (z2c e++catW (z2s e) e.nP++catW (patW e) (i+1)) [32]:=by
 show _=Lib.join (z2c e++catW (z2s e) e.nP++(catW (patW e) i++[Lib.itoa (e.qPart i),Lib.itoa (e.qAt i),Lib.itoa (e.qWord i)])) [32];rw[<-List.append_assoc,join_three _ _ _ _ (by simp[z2c]),<-h,<-hr,<-hs,<-hu];simp
theorem catW_sub{g:Nat->List (List UInt8)}{x:List UInt8}{i n:Nat}(hi:i<=n)(h:x∈catW g i):x∈catW g n:=by
 induction n with
 |zero=>obtain rfl:i=0:=by omega
        exact h
 |succ n ih=>
  by_cases e:i=n+1
  ·subst e;exact h
  ·exact List.mem_append_left _ (ih (by omega))
theorem text_small{e:EntF}(h:z7q e){i j:Nat}(hi:i<=e.nP)(hj:j<=e.nQ){t:ByteArray}(ht:t.data.toList=Lib.join (z2c e++catW (z2s e) i++catW (patW e) j) [32]):t.size<=3000:=by
 have hs:=z3X h;have h1:=h.nP;have h2:=h.nQ;have hl:=(z3P (z2c e++catW (z2s e) i++catW (patW e) j) (fun x hx=>hs x (by
  unfold entW;rcases List.mem_append.1 hx with hx|hx
  ·rcases List.mem_append.1 hx with hx|hx
   ·exact List.mem_append_left _ (List.mem_append_left _ hx)
   ·exact List.mem_append_left _ (List.mem_append_right _ (catW_sub hi hx))
  ·exact List.mem_append_right _ (catW_sub hj hx)))).1
 have hn:(z2c e++catW (z2s e) i++catW (patW e) j).length=3+3*i+3*j:=by
  rw[List.length_append,List.length_append,z3E (fun _=>rfl),z3E (fun _=>rfl)];rfl
 rw[hn]at hl;rw[z2l ht];omega
theorem z7i (v:EntV)(en:EntF)(w:World)(h:z5k w v en)(h0:entF en=0) :
 Calls Tryz.prog 27 #[.agg (z1r v en)] w fun e w'=>(∃t:ByteArray,e=.returned (.string t)/\t.data.toList=z0D en)/\Below w.heap.size w w':=by
 have hok:=z5t h0;have hsh:=z3X hok;obtain⟨aP,cP,aQ,cQ⟩:=v;have hb0:Below w.heap.size w (w.alloc (.cells #[.string en.root,.slice aP en.nP cP,.slice aQ en.nQ cQ] 71)):=(Below.refl _ _).alloc (Nat.le_refl _) _;have e0:(w.alloc (.cells #[.string en.root,.slice aP en.nP cP,.slice aQ en.nQ cQ] 71)).cell? ⟨w.heap.size,0,none⟩=some (.string en.root):=by simp[go_sem]
 have e1:(w.alloc (.cells #[.string en.root,.slice aP en.nP cP,.slice aQ en.nQ cQ] 71)).cell? ⟨w.heap.size,1,none⟩=some (.slice aP en.nP cP):=by simp[go_sem]
 have e2:(w.alloc (.cells #[.string en.root,.slice aP en.nP cP,.slice aQ en.nQ cQ] 71)).cell? ⟨w.heap.size,2,none⟩=some (.slice aQ en.nQ cQ):=by simp[go_sem]
 have hp:RowE (w.alloc (.cells #[.string en.root,.slice aP en.nP cP,.slice aQ en.nQ cQ] 71)) aP en.nP en.pName en.pStamp en.pBase:=h.parts.later hb0;have hq:z6m (w.alloc (.cells #[.string en.root,.slice aP en.nP cP,.slice aQ en.nQ cQ] 71)) aQ en.nQ en.qPart en.qAt en.qWord:=h.pats.later hb0;have n1:=hok.nP;have n2:=hok.nQ;have HSM:Hid (∀(i j:Nat) (t:ByteArray),i<=en.nP->j<=en.nQ->t.data.toList=Lib.join (z2c en++catW (z2s en) i++catW (patW en) j) [32]->t.size<=3000):=fun i j t hi hj ht=>text_small hok hi hj ht
 have HNM:Hid (∀i,i<en.nP->(en.pName i).size<=20):=fun i hi=>by
  have:=hsh (en.pName i).data.toList (List.mem_of_getElem? (z7y en (j:=0) hi (by decide)));simpa using this
 have HRT:Hid (en.root.size<=20):=by
  have:=hsh en.root.data.toList (List.mem_of_getElem? (entW_head en (j:=0) (by decide)));show en.root.size<=20;simpa using this
 have HW:Hid (∀i,i<en.nQ -> -9223372036854775807<=en.qWord i/\en.qWord i<=9223372036854775807 /\ -9223372036854775807<=en.qPart i/\en.qPart i<=9223372036854775807 /\ -9223372036854775807<=en.qAt i/\en.qAt i<=9223372036854775807):=fun i hi=>by
  have:=hok.pats i hi;omega
 have HST:Hid (∀i,i<en.nP -> -9223372036854775807<=en.pStamp i/\en.pStamp i<=9223372036854775807 /\ -9223372036854775807<=en.pBase i/\en.pBase i<=9223372036854775807):=fun i hi=>by
  have:=hok.parts i hi;omega
 clear h hsh hok h0;go_enter Tryz.func27,Tryz.ntmps27;unfold z1r;go_upto_region 1 with fail;generalize w.alloc (.cells #[.string en.root,.slice aP en.nP cP,.slice aQ en.nQ cQ] 71)=W at *;generalize hbw:w.heap.size=bw at *;have HBW:Hid (w.heap.size=bw):=hbw;clear hbw;have mkS:∀X:World,Below W.heap.size W X->(fun w':World=>w'.cell? ⟨bw,0,none⟩=some (.string en.root)/\w'.cell? ⟨bw,1,none⟩=some (.slice aP en.nP cP)/\w'.cell? ⟨bw,2,none⟩=some (.slice aQ en.nQ cQ)) X:=fun X hX=>⟨cell_later hX e0,cell_later hX e1,cell_later hX e2⟩
 have hbd:=(Below.refl W.heap.size W).drew;have hSS:=mkS _ hbd;refine z0f (fun w':World=>w'.cell? ⟨bw,0,none⟩=some (.string en.root)/\w'.cell? ⟨bw,1,none⟩=some (.slice aP en.nP cP)/\w'.cell? ⟨bw,2,none⟩=some (.slice aQ en.nQ cQ)) 14 15 (by kernel_rfl) rfl ?_;generalize W.drew=X1 at *;have zr:=HRT.out;have y1:¬9223372036854775807<en.root.size+1:=by omega
 refine tW 0 hSS ?_;refine tW 3 hSS ?_;refine tW 9 hSS ?_;refine tR 1 [] hSS ?_;refine tW 2 hSS ?_;refine tR 4 [] hSS ?_;refine tW 5 hSS ?_;refine tR 10 [] hSS ?_;refine tW 11 hSS ?_;refine oG 6 fun K hK=>?_
 go_wp2_with fail;refine(show Calls _ _ _ _ _ from z0U (en.nP:Int) (by omega) (by omega) X1).mono ?_;rintro e X2 ⟨⟨r1,rfl,hr1⟩,hb2⟩;have z1:r1.size<=20:=by rw[z2l hr1];exact z1v _ (by omega) (by omega)
 have hbd2:=hbd.trans (hb2.mono hbd.size);have hSS2:=mkS _ hbd2;clear hSS hb2;go_wp2;refine hK _ _ hSS2 ?_;clear hK;have hSS:=hSS2;clear hSS2;have y2:¬9223372036854775807<en.root.size+1+r1.size:=by omega
 have y3:¬9223372036854775807<en.root.size+1+r1.size+1:=by omega
 refine tW 7 hSS ?_;refine tW 8 hSS ?_;refine oG 12 fun K hK=>?_
 go_wp2_with fail;refine(show Calls _ _ _ _ _ from z0U (en.nQ:Int) (by omega) (by omega) X2).mono ?_;rintro e X3 ⟨⟨r2,rfl,hr2⟩,hb3⟩;have z2:r2.size<=20:=by rw[z2l hr2];exact z1v _ (by omega) (by omega)
 have hbd3:=hbd2.trans (hb3.mono hbd2.size);have hSS3:=mkS _ hbd3;clear hSS hb3;go_wp2;refine hK _ _ hSS3 ?_;clear hK;have hSS:=hSS3;clear hSS3;have y4:¬9223372036854775807<en.root.size+1+r1.size+1+r2.size:=by omega
 refine tW 13 hSS ?_;clear hSS;refine lG 14 fun K hK=>?_
 go_wp2;refine hK _ _ ?_;clear hK;refine z1c (by kernel_rfl) ?_ _;have HT0:Hid ((en.root++⟨#[32]⟩++r1++⟨#[32]⟩++r2).data.toList=Lib.join (z2c en++catW (z2s en) 0) [32]):=head_text en r1 r2 hr1 hr2;clear hr1 hr2 y1 y2 y3 y4 zr z1 z2 mkS hbd hbd2;generalize en.root++⟨#[32]⟩++r1++⟨#[32]⟩++r2=t0 at *;go_wp2;go_loopw [3,4] (fun y3 y4 wr=>∃(i:Nat) (t:ByteArray),i<=en.nP/\y4=.int .i64 i/\y3=.string t/\Hid (t.data.toList=Lib.join (z2c en++catW (z2s en) i) [32])/\Below W.heap.size W wr) (fun _ y4 _=>en.nP-(intOf y4).toNat)
 case atStart=>exact⟨0,t0,Nat.zero_le _,rfl,rfl,HT0,hbd3⟩
 case round=>
  clear HT0 hbd3;obtain⟨i,t,hi,rfl,rfl,HT,hb⟩:=hrel;have f1:=cell_later hb e1;by_cases hlt:i<en.nP
  ·rcases hp.later hb with h0|⟨bk,o,rfl,hc⟩
   ·omega
   obtain⟨x0,x1,x2⟩:=hc i hlt;have hi0:(0:Int)<=(i:Int):=by omega
   have hi1:(i:Int)<(en.nP:Int):=by omega
   have zt:=HSM.out i 0 t hi (Nat.zero_le _) (by show t.data.toList=Lib.join (z2c en++catW (z2s en) i++[]) [32];rw[List.append_nil];exact HT.out);have zn:=HNM.out i hlt;obtain⟨g1,g2,g3,g4⟩:=HST.out i hlt;have HPT:=fun(r s:ByteArray)=>part_text en i t r s HT.out
   clear hc hp;go_upto_region 5 with fail;have mkS:∀X:World,Below wr.heap.size wr X->(fun w':World=>w'.cell? ⟨bw,1,none⟩=some (.slice (some ⟨bk,o,none⟩) en.nP cP)/\w'.cell? ⟨bk,o+i*3,none⟩=some (.string (en.pName i))/\w'.cell? ⟨bk,o+i*3+1,none⟩=some (.int .i64 (en.pStamp i))/\w'.cell? ⟨bk,o+i*3+2,none⟩=some (.int .i64 (en.pBase i))) X:=fun X hX=>⟨cell_later hX f1,cell_later hX x0,cell_later hX x1,cell_later hX x2⟩
   have hbd:=(Below.refl wr.heap.size wr).drew;have hSS:=mkS _ hbd;refine z0f (fun w':World=>w'.cell? ⟨bw,1,none⟩=some (.slice (some ⟨bk,o,none⟩) en.nP cP)/\w'.cell? ⟨bk,o+i*3,none⟩=some (.string (en.pName i))/\w'.cell? ⟨bk,o+i*3+1,none⟩=some (.int .i64 (en.pStamp i))/\w'.cell? ⟨bk,o+i*3+2,none⟩=some (.int .i64 (en.pBase i))) 27 28 (by kernel_rfl) rfl ?_;generalize wr.drew=X1 at *;generalize hnm:en.pName i=nm at *;generalize hst:en.pStamp i=st at *;generalize hbs:en.pBase i=bs at *;clear hnm hst hbs f1 x0 x1 x2 HT;have y1:¬9223372036854775807<t.size+1:=by omega
   have y2:¬9223372036854775807<t.size+1+nm.size:=by omega
   have y3:¬9223372036854775807<t.size+1+nm.size+1:=by omega
   refine tW 0 hSS ?_;refine tW 1 hSS ?_;refine tW 2 hSS ?_;refine tW 4 hSS ?_;refine tW 10 hSS ?_;refine tW 12 hSS ?_;refine tW 19 hSS ?_;refine tW 21 hSS ?_;refine tR 3 [] hSS ?_;refine tW 5 hSS ?_;refine tW 6 hSS ?_;refine tR 7 [] hSS ?_;refine tW 8 hSS ?_;refine tW 9 hSS ?_;refine tR 11 [] hSS ?_;refine tW 13 hSS ?_;refine tW 14 hSS ?_;refine tR 15 [] hSS ?_;refine tR 20 [] hSS ?_;refine tW 22 hSS ?_;refine tW 23 hSS ?_;refine tR 24 [] hSS ?_;refine oG 16 fun K hK=>?_
   go_wp2_with fail;refine(show Calls _ _ _ _ _ from z0U st (by omega) (by omega) X1).mono ?_;rintro e X2 ⟨⟨r1,rfl,hr1⟩,hb2⟩;have z1:r1.size<=20:=by rw[z2l hr1];exact z1v _ (by omega) (by omega)
   have hbd2:=hbd.trans (hb2.mono hbd.size);have hSS2:=mkS _ hbd2;clear hSS hb2;go_wp2;refine hK _ _ hSS2 ?_;clear hK;have hSS:=hSS2;clear hSS2;have y4:¬9223372036854775807<t.size+1+nm.size+1+r1.size:=by omega
   have y5:¬9223372036854775807<t.size+1+nm.size+1+r1.size+1:=by omega
   refine tW 17 hSS ?_;refine tW 18 hSS ?_;refine oG 25 fun K hK=>?_
   go_wp2_with fail;refine(show Calls _ _ _ _ _ from z0U bs (by omega) (by omega) X2).mono ?_;rintro e X3 ⟨⟨r2,rfl,hr2⟩,hb3⟩;have z2:r2.size<=20:=by rw[z2l hr2];exact z1v _ (by omega) (by omega)
   have hbd3:=hbd2.trans (hb3.mono hbd2.size);have hSS3:=mkS _ hbd3;clear hSS hb3;go_wp2;refine hK _ _ hSS3 ?_;clear hK;have hSS:=hSS3;clear hSS3;have y6:¬9223372036854775807<t.size+1+nm.size+1+r1.size+1+r2.size:=by omega
   refine tW 26 hSS ?_;clear hSS;refine lG 27 fun K hK=>?_
   go_wp2;refine hK _ _ ?_;clear hK;refine z1c (by kernel_rfl) ?_ _;have HT1:Hid ((t++⟨#[32]⟩++nm++⟨#[32]⟩++r1++⟨#[32]⟩++r2).data.toList=Lib.join (z2c en++catW (z2s en) (i+1)) [32]):=HPT r1 r2 hr1 hr2;have hbe:=hb.trans (hbd3.mono hb.size);clear hr1 hr2 y1 y2 y3 y4 y5 y6 z1 z2 mkS hbd hbd2 hbd3 HPT;go_wp2;go_roundw
   case rel=>exact⟨i+1,_,by omega,by go_num,rfl,HT1,hbe⟩
   case measure=>simp[intOf];omega
  ·obtain rfl:i=en.nP:=by omega
   have HT2:Hid (t.data.toList=Lib.join (z2c en++catW (z2s en) en.nP++catW (patW en) 0) [32]):=by
    show t.data.toList=Lib.join (z2c en++catW (z2s en) en.nP++[]) [32];rw[List.append_nil];exact HT.out
   clear HT hp;go_wp2;go_loopw [3,5] (fun y3 y5 wx=>∃(j:Nat) (t:ByteArray),j<=en.nQ/\y5=.int .i64 j/\y3=.string t/\Hid (t.data.toList=Lib.join (z2c en++catW (z2s en) en.nP++catW (patW en) j) [32])/\Below W.heap.size W wx) (fun _ y5 _=>en.nQ-(intOf y5).toNat)
   case atStart=>exact⟨0,t,Nat.zero_le _,rfl,rfl,HT2,hb⟩
   case round=>
    clear HT2 hb f1;obtain⟨j,t,hj,rfl,rfl,HT,hb⟩:=hrel;have f2:=cell_later hb e2;by_cases hlt:j<en.nQ
    ·rcases hq.later hb with h0|⟨bk,o,rfl,hc⟩
     ·omega
     obtain⟨x0,x1,x2⟩:=hc j hlt;have hj0:(0:Int)<=(j:Int):=by omega
     have hj1:(j:Int)<(en.nQ:Int):=by omega
     have zt:=HSM.out en.nP j t (Nat.le_refl _) hj HT.out;obtain⟨g1,g2,g3,g4,g5,g6⟩:=HW.out j hlt;have HPT:=fun(r s u:ByteArray)=>pat_text en j t r s u HT.out
     clear hc hq;go_upto_region 9 with fail;have mkS:∀X:World,Below wr.heap.size wr X->(fun w':World=>w'.cell? ⟨bw,2,none⟩=some (.slice (some ⟨bk,o,none⟩) en.nQ cQ)/\w'.cell? ⟨bk,o+j*3,none⟩=some (.int .i64 (en.qPart j))/\w'.cell? ⟨bk,o+j*3+1,none⟩=some (.int .i64 (en.qAt j))/\w'.cell? ⟨bk,o+j*3+2,none⟩=some (.int .i64 (en.qWord j))) X:=fun X hX=>⟨cell_later hX f2,cell_later hX x0,cell_later hX x1,cell_later hX x2⟩
     have hbd:=(Below.refl wr.heap.size wr).drew;have hSS:=mkS _ hbd;refine z0f (fun w':World=>w'.cell? ⟨bw,2,none⟩=some (.slice (some ⟨bk,o,none⟩) en.nQ cQ)/\w'.cell? ⟨bk,o+j*3,none⟩=some (.int .i64 (en.qPart j))/\w'.cell? ⟨bk,o+j*3+1,none⟩=some (.int .i64 (en.qAt j))/\w'.cell? ⟨bk,o+j*3+2,none⟩=some (.int .i64 (en.qWord j))) 28 29 (by kernel_rfl) rfl ?_;generalize wr.drew=X1 at *;generalize hnm:en.qPart j=qa at *;generalize hst:en.qAt j=qb at *;generalize hbs:en.qWord j=qc at *;clear hnm hst hbs f2 x0 x1 x2 HT;have y1:¬9223372036854775807<t.size+1:=by omega
     refine tW 0 hSS ?_;refine tW 1 hSS ?_;refine tW 2 hSS ?_;refine tW 4 hSS ?_;refine tW 11 hSS ?_;refine tW 13 hSS ?_;refine tW 20 hSS ?_;refine tW 22 hSS ?_;refine tR 3 [] hSS ?_;refine tW 5 hSS ?_;refine tW 6 hSS ?_;refine tR 7 [] hSS ?_;refine tR 12 [] hSS ?_;refine tW 14 hSS ?_;refine tW 15 hSS ?_;refine tR 16 [] hSS ?_;refine tR 21 [] hSS ?_;refine tW 23 hSS ?_;refine tW 24 hSS ?_;refine tR 25 [] hSS ?_;refine oG 8 fun K hK=>?_
     go_wp2_with fail;refine(show Calls _ _ _ _ _ from z0U qa (by omega) (by omega) X1).mono ?_;rintro e X2 ⟨⟨r1,rfl,hr1⟩,hb2⟩;have z1:r1.size<=20:=by rw[z2l hr1];exact z1v _ (by omega) (by omega)
     have hbd2:=hbd.trans (hb2.mono hbd.size);have hSS2:=mkS _ hbd2;clear hSS hb2;go_wp2;refine hK _ _ hSS2 ?_;clear hK;have hSS:=hSS2;clear hSS2;have y4:¬9223372036854775807<t.size+1+r1.size:=by omega
     have y5:¬9223372036854775807<t.size+1+r1.size+1:=by omega
     refine tW 9 hSS ?_;refine tW 10 hSS ?_;refine oG 17 fun K hK=>?_
     go_wp2_with fail;refine(show Calls _ _ _ _ _ from z0U qb (by omega) (by omega) X2).mono ?_;rintro e X3 ⟨⟨r2,rfl,hr2⟩,hb3⟩;have z2:r2.size<=20:=by rw[z2l hr2];exact z1v _ (by omega) (by omega)
     have hbd3:=hbd2.trans (hb3.mono hbd2.size);have hSS3:=mkS _ hbd3;clear hSS hb3;go_wp2;refine hK _ _ hSS3 ?_;clear hK;have hSS:=hSS3;clear hSS3;have y6:¬9223372036854775807<t.size+1+r1.size+1+r2.size:=by omega
     have y7:¬9223372036854775807<t.size+1+r1.size+1+r2.size+1:=by omega
     refine tW 18 hSS ?_;refine tW 19 hSS ?_;refine oG 26 fun K hK=>?_
     go_wp2_with fail;refine(show Calls _ _ _ _ _ from z0U qc (by omega) (by omega) X3).mono ?_;rintro e X4 ⟨⟨r3,rfl,hr3⟩,hb4⟩;have z3:r3.size<=20:=by rw[z2l hr3];exact z1v _ (by omega) (by omega)
     have hbd4:=hbd3.trans (hb4.mono hbd3.size);have hSS4:=mkS _ hbd4;clear hSS hb4;go_wp2;refine hK _ _ hSS4 ?_;clear hK;have hSS:=hSS4;clear hSS4;have y8:¬9223372036854775807<t.size+1+r1.size+1+r2.size+1+r3.size:=by omega
     refine tW 27 hSS ?_;clear hSS;refine lG 28 fun K hK=>?_
     go_wp2;refine hK _ _ ?_;clear hK;refine z1c (by kernel_rfl) ?_ _;have HT1:Hid ((t++⟨#[32]⟩++r1++⟨#[32]⟩++r2++⟨#[32]⟩++r3).data.toList=Lib.join (z2c en++catW (z2s en) en.nP++catW (patW en) (j+1)) [32]):=HPT r1 r2 r3 hr1 hr2 hr3;have hbe:=hb.trans (hbd4.mono hb.size);clear hr1 hr2 hr3 y1 y4 y5 y6 y7 y8 z1 z2 z3 mkS hbd hbd2 hbd3 hbd4 HPT;go_wp2;go_roundw
     case rel=>exact⟨j+1,_,by omega,by go_num,rfl,HT1,hbe⟩
     case measure=>simp[intOf];omega
    ·obtain rfl:j=en.nQ:=by omega
     have zt:=HSM.out en.nP en.nQ t (Nat.le_refl _) (Nat.le_refl _) HT.out;have HTL:Hid ((t++⟨#[10]⟩).data.toList=z0D en):=by
      show _=Lib.join (z2c en++catW (z2s en) en.nP++catW (patW en) en.nQ) [32]++[10];rw[<-HT.out];simp
     have hbf:Below bw w wr:=hb0.trans (hb.mono (by have:=hb0.size;have:=HBW.out;omega));clear HT hq;go_wp2;go_ret;refine⟨⟨_,rfl,HTL.out⟩,?_⟩;rw[HBW.out];exact hbf
end
section
open Go.RowKit Go.Maps
theorem write_ia:writeF (.map []) 0 bnA zzT=0:=by decide
abbrev fia:DataW Unit:=DataW.put (.map []) (keyB bnA) (z1s zzT.data.toList (((0:Nat):Int)+1))
theorem inv_ia:Inv fia 1:=Inv.put Inv.empty write_ia
theorem has_ia:Maps.has fia (keyB bnA)=true:=has_put_same ⟨[],rfl⟩ (z4p bnA) _
theorem rd_ia{T:ByteArray->ByteArray}(hT:z4C fia T):rdD fia T bnA=z0k zzT:=by
 have h2:fia.atKey (keyB bnA) (z1s [] 0)=z1s zzT.data.toList (((0:Nat):Int)+1):=atKey_put_same ⟨[],rfl⟩ (z4p bnA) _ _;have h3:=hT.is bnA zzT _ has_ia h2;unfold rdD;rw[if_pos has_ia,<-h3]
theorem of_one{rd:ByteArray->Nat×ObjF}{n:ByteArray}(hA:rd n=z0k zzT):OfIs rd n 0 1/\nmAt rd n 0=n:=by
 have e0:nmAt rd n 0=n:=rfl;have hn1:z0g rd n 1=[n]:=by
  show z2C [n] (z0V (rd n).2 (rd n).2.nN)=_;rw[hA,parse_zz.2.nN];rfl
 refine⟨.ok 1 (fun j hj=>?_) (by rw[hn1];rfl),e0⟩;obtain rfl:j=0:=by omega
 exact⟨by simp[z0g],by rw[e0,hA];exact parse_zz.1⟩
theorem reck_one{rd:ByteArray->Nat×ObjF}{n:ByteArray}(hA:rd n=z0k zzT):∃P Q,z0Z rd n 1 (fun _=>0) P Q/\z4m rd n 1 (fun _=>0) P Q 0 0=3/\(obAt rd n 0).nW=1/\(z0l rd n 1 (fun _=>0) P Q)=[(0,0,3)]:=by
 obtain⟨hO,e0⟩:=of_one hA;have o0:obAt rd n 0=(z0k zzT).2:=by show(rd (nmAt rd n 0)).2=_;rw[e0,hA]
 have sA:=parse_zz.2;obtain⟨P,Q,hP⟩:=finds_some (z1T 1 (obAt rd n));have t0:=sA.ties 0 (by decide);have hw:whereF (obAt rd n) P Q (fun _=>0) 0 0=some 0:=by
  unfold whereF;rw[o0,t0.2.1];rw[if_pos (by decide)]
 have ht:tieW (obAt rd n) P Q (fun _=>0) 0 0=(0,3):=by
  unfold tieW;rw[hw,o0,t0.2.1,t0.1,t0.2.2.1];decide
 have n0:(obAt rd n 0).nT=1:=by rw[o0,sA.nT];rfl
 have hp:z0l rd n 1 (fun _=>0) P Q=[(0,0,3)]:=by
  show []++z1E (obAt rd n) P Q (fun _=>0) 0 (obAt rd n 0).nT=_;rw[n0];show []++([]++[(0,(obAt rd n 0).tAt 0,(tieW (obAt rd n) P Q (fun _=>0) 0 0).2)])=_;rw[ht,o0,t0.1];rfl
 refine⟨P,Q,⟨hO,bases_zz.sizes fun i hi=>?_,fun _ _=>rfl,hP,?_⟩,?_,?_,hp⟩
 ·obtain rfl:i=0:=by omega
  show(1:Int)=((obAt rd n 0).nW:Int);rw[o0,sA.nW];rfl
 ·unfold allF;rw[if_neg (by decide),if_neg (by decide)];show seqF 0 (z0a (fun k=>(tieW (obAt rd n) P Q (fun _=>0) 0 k).1) (obAt rd n 0).nT)=0;rw[n0];show seqF 0 (seqF 0 (tieW (obAt rd n) P Q (fun _=>0) 0 0).1)=0;rw[ht];decide
 ·unfold z4m;rw[hp];show(if pP [(0,0,3)] 0=((0:Nat):Int)/\pT [(0,0,3)] 0=((0:Nat):Int)then pV [(0,0,3)] 0 else _)=3;rw[if_pos (by decide)];decide
 ·rw[o0,sA.nW];rfl
end
section
open Go.RowKit
theorem z7f (a c:Option Addr)(ca cb:Nat)(w:World) :
 Calls Tryz.prog 8 #[.slice a 0 ca,.slice c 0 cb] w fun e w'=>e=.returned (.bool true)/\∃k,w'=w.drewN k:=by
 go_enter Tryz.func8,Tryz.ntmps8;go_wp2;refine wp_loop_rounds 1 ?_;rw[rounds_succ];go_wp2;go_ret;exact⟨rfl,0,rfl⟩
theorem sameTexts_some(f:Nat->ByteArray)(n:Nat)(bx ox cx bY oY cy:Nat)(w:World)(hm:n<=1000000000)
 (hx:∀i,i<n->w.cell? ⟨bx,ox+i,none⟩=some (.string (f i)))
 (hy:∀i,i<n->w.cell? ⟨bY,oY+i,none⟩=some (.string (f i))) :
 Calls Tryz.prog 8 #[.slice (some ⟨bx,ox,none⟩) n cx,.slice (some ⟨bY,oY,none⟩) n cy] w fun e w'=>e=.returned (.bool true)/\∃k,w'=w.drewN k:=by
 go_enter Tryz.func8,Tryz.ntmps8;go_wp2;go_loopw [5] (fun i wr=>∃k j:Nat,k<=n/\i=.int .i64 k/\wr=w.drewN j) (fun i _=>n-(intOf i).toNat)
 case atStart=>exact⟨0,0,Nat.zero_le _,rfl,rfl⟩
 case round=>
  obtain⟨k,j,hk,rfl,rfl⟩:=hrel;by_cases hlt:k<n
  ·have hxk:=hx k hlt;have hyk:=hy k hlt;clear hx hy;generalize f k=z at *;go_wp2;go_quiet (fail);go_wp2;go_roundw
   case rel=>exact⟨k+1,j+nq,by omega,by go_num,rfl⟩
   case measure=>simp[intOf];omega
  ·have hkn:k=n:=by omega
   subst hkn;clear hx hy;go_wp2;go_ret;exact⟨rfl,j,rfl⟩
theorem z5u (f g:Nat->ByteArray)(n:Nat)(a c:Option Addr)(ca cb:Nat)(w:World)(hm:n<=1000000000)
 (hx:z1z w a n fun i=>.string (f i)) (hy:z1z w c n fun i=>.string (g i)) (he:∀i,i<n->f i=g i) :
 Calls Tryz.prog 8 #[.slice a n ca,.slice c n cb] w fun e w'=>e=.returned (.bool true)/\∃k,w'=w.drewN k:=by
 rcases hx with h0|⟨b,o,rfl,hx⟩
 ·subst h0;exact z7f a c ca cb w
 ·rcases hy with h0|⟨b',o',rfl,hy⟩
  ·subst h0;exact z7f _ c ca cb w
  ·exact sameTexts_some f n b o ca b' o' cb w hm hx (fun i hi=>by rw[hy i hi,he i hi])
end
end Go.Proofs.YtbcpcbonlhlhpaaGreatDoor
