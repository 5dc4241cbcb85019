/- What Text of package entry returns, of any entry: its line, -/
import Derived.Test.YtbcpcbonlhlhpaaGreatDoorShelfSmall
import Derived.Deep.RegionHeld3
namespace Go.Proofs.YtbcpcbonlhlhpaaGreatDoor
open Go.RowKit
set_option maxHeartbeats 16000000
set_option maxRecDepth 100000
def z1A (l:List (List UInt8)):List Value:=l.map fun x=>Value.string ⟨x.toArray⟩
@[simp] theorem strsC_length (l:List (List UInt8)):(z1A l).length=l.length:=by simp[z1A]
theorem z6B (a b:List (List UInt8)):z1A (a++b)=z1A a++z1A b:=by simp[z1A]
theorem strsC_one(l:List (List UInt8)):∀u∈z1A l,u.oneCell'=true:=fun u hu=>by
 obtain⟨x,_,rfl⟩:=List.mem_map.1 hu;rfl
theorem growW{B m:Nat}{w:World}{v:Value}{l:List (List UInt8)}(x y z:ByteArray)(hB:B<=w.heap.size)(h:w.ownsRow B 9 1 v m (z1A l))(hm:m<=1000) :
 ∃v' W,(Builtin.append_ #[22,22] 22 #[v,.slice (some ⟨w.heap.size,0,none⟩) 3 3]).run Tryz.prog (w.alloc (.cells #[.string x,.string y,.string z] 9))=.ok v' W/\Grown B 9 1 (w.alloc (.cells #[.string x,.string y,.string z] 9)) v (m+3) (z1A (l++[x.data.toList,y.data.toList,z.data.toList])) v' W:=by
 have:=z0J 22 9 1 16 (.string ⟨#[]⟩) (by kernel_rfl) (by kernel_rfl) (by rfl) (by decide) B (w.alloc (.cells #[.string x,.string y,.string z] 9)) v m (z1A l) (h.alloc _) (some ⟨w.heap.size,0,none⟩) 3 3 (z1A [x.data.toList,y.data.toList,z.data.toList]) rfl
  (.inr ⟨_,_,rfl,fun j u hj=>by
    rw[Nat.zero_add,World.cell?_alloc_mark]
    match j,hj with
    |0,hj=>simpa[z1A]using hj
    |1,hj=>simpa[z1A]using hj
    |2,hj=>simpa[z1A]using hj
    |j+3,hj=>simp[z1A]at hj⟩) (strsC_one _) (by simp;omega) (by omega) (by decide)
 rw[z6B];exact this
theorem textE_bad{e:EntF}(h:entF e≠0):z5m e=(entF e,[]):=by unfold z5m;rw[if_neg h]
theorem textE_ok{e:EntF}(h:entF e=0):z5m e=(0,z0D e):=by unfold z5m;rw[if_pos h]
structure EntBox(w:World)(b:Nat)(v:EntV)(e:EntF):Prop where
 c0:w.cell? ⟨b,0,none⟩=some (.string e.root)
 c1:w.cell? ⟨b,1,none⟩=some (.slice v.aP e.nP v.cP)
 c2:w.cell? ⟨b,2,none⟩=some (.slice v.aQ e.nQ v.cQ)
theorem EntBox.new(w:World)(v:EntV)(e:EntF):EntBox (w.alloc (.cells (z1r v e) 71)) w.heap.size v e:=
 ⟨by rw[World.cell?_alloc_mark];rfl,by rw[World.cell?_alloc_mark];rfl,by rw[World.cell?_alloc_mark];rfl⟩
theorem EntBox.later{w w':World}{b:Nat}{v:EntV}{e:EntF}(h:EntBox w b v e)(hb:Below w.heap.size w w'):EntBox w' b v e:=⟨cell_later hb h.c0,cell_later hb h.c1,cell_later hb h.c2⟩
structure Box3(w:World)(b:Nat)(x y z:Value):Prop where
 c0:w.cell? ⟨b,0,none⟩=some x
 c1:w.cell? ⟨b,1,none⟩=some y
 c2:w.cell? ⟨b,2,none⟩=some z
theorem Box3.new(w:World)(x y z:Value)(t:TypeId):Box3 (w.alloc (.cells #[x,y,z] t)) w.heap.size x y z:=
 ⟨by rw[World.cell?_alloc_mark];rfl,by rw[World.cell?_alloc_mark];rfl,by rw[World.cell?_alloc_mark];rfl⟩
theorem Box3.later{w w':World}{b:Nat}{x y z:Value}(h:Box3 w b x y z)(hb:Below w.heap.size w w'):Box3 w' b x y z:=⟨cell_later hb h.c0,cell_later hb h.c1,cell_later hb h.c2⟩
theorem Box3.grown{w w':World}{b:Nat}{x y z:Value}{row:Option Nat}(h:Box3 w b x y z)(hg:w.grownBy w' row)(hne:some b≠row):Box3 w' b x y z:=⟨hg.cell h.c0 hne,hg.cell h.c1 hne,hg.cell h.c2 hne⟩
theorem Box3.alloc1{w:World}{b:Nat}{x y z:Value}(h:Box3 w b x y z)(bl:Obj):Box3 (w.alloc bl) b x y z:=h.later ((Below.refl _ _).alloc (Nat.le_refl _) _)
theorem ba_mk(l:List UInt8):(⟨l.toArray⟩:ByteArray).data.toList=l:=by simp
theorem ba_nl(l:List UInt8):(⟨l.toArray⟩:ByteArray)++⟨#[10]⟩=⟨(l++[10]).toArray⟩:=by apply ByteArray.ext;simp
theorem joinW{B n:Nat}{w:World}{a:Option Addr}{c:Nat}{l:List (List UInt8)}(h:w.ownsRow B 9 1 (.slice a n c) n (z1A l))(h0:0<n)(hn:n<=1000)(hlen:(Lib.join l [32]).length<=100000) :
 Calls Tryz.prog 96 #[.slice a n c,.string ⟨#[32]⟩] w fun e w'=>e=.returned (.string ⟨(Lib.join l [32]).toArray⟩)/\Below w.heap.size w w':=by
 have hl:l.length=n:=by have:=h.1;simpa using this
 obtain⟨a',c',hv,hc⟩:=z0c h;injection hv with _ _ hcc;subst hcc;obtain⟨g,rfl,hB,hc0⟩:=z0K h (j:=0) (u:=.string ⟨(l[0]'(by omega)).toArray⟩) (by simp[z1A,hl,h0]);have hm:(l.map fun x=>(⟨x.toArray⟩:ByteArray)).map (fun x=>x.data.toList)=l:=by
  rw[List.map_map];exact(List.map_congr_left (fun x _=>by simp)).trans (List.map_id _)
 have:=Tryz.strings_Join g 0 c (l.map fun x=>(⟨x.toArray⟩:ByteArray)) ⟨#[32]⟩ w (fun j x hj=>by
  obtain⟨g',hg',_,hcj⟩:=z0K h (j:=j) (u:=.string x) (by
   rw[List.getElem?_map]at hj;unfold z1A;rw[List.getElem?_map];cases hx:l[j]? with
   |none=>rw[hx]at hj;simp at hj
   |some y=>rw[hx]at hj;simp at hj;simp[hj])
  injection hg' with hg';injection hg' with hg';rw[Nat.zero_add,hg'];exact hcj) (h.lt g rfl).2 (by simp;omega) (by simp;omega) (by rw[hm];exact Nat.le_trans hlen (by decide))
 rw[hm,List.length_map,hl]at this;exact this
attribute [local go_sem ↓] Go.wp_at_zero Go.wp_at_succ
theorem z7l (v:EntV)(en:EntF)(w:World)(h:z5k w v en)(hf:EntFit en)(hE:Env w) :
 Calls Tryz.prog 109 #[.agg (z1r v en)] w fun e w'=>e=.returned (.tuple #[.string ⟨(z5m en).2.toArray⟩,errV (z5m en).1])/\Below w.heap.size w w':=by
 have hb0:Below w.heap.size w (w.alloc (.cells (z1r v en) 71)):=(Below.refl _ _).alloc (Nat.le_refl _) _;have hX0:=EntBox.new w v en;have HC:=entCheck_any v en _ (h.later hb0) hf;have hE0:=hE.later hb0;have h0:=h.later hb0;obtain⟨aP,cP,aQ,cQ⟩:=v;have c0:=hX0.c0;have c1:=hX0.c1;have c2:=hX0.c2;by_cases hF:entF en=0
 ·rw[textE_ok hF];rw[hF]at HC;have hok:=z5t hF;have hnP:=hok.nP;have hnQ:=hok.nQ;have qP:-9223372036854775808<=(en.nP:Int):=by omega
  have qP':(en.nP:Int)<=9223372036854775807:=by omega
  have qQ:-9223372036854775808<=(en.nQ:Int):=by omega
  have qQ':(en.nQ:Int)<=9223372036854775807:=by omega
  clear h hf hF hE;generalize hW:w.alloc (.cells (z1r ⟨aP,cP,aQ,cQ⟩ en) 71)=W at *;go_enter Tryz.func109,Tryz.ntmps109;go_wp2_with fail;refine HC.mono ?_;rintro e w1 ⟨rfl,hb1⟩;clear HC;rw[show errV 0=.nilIface from rfl];have hX1:=hX0.later hb1;replace c0:=hX1.c0;replace c1:=hX1.c1;replace c2:=hX1.c2;have hE1:=hE0.later hb1;have hbR:=hb1;dsimp only at c1 c2;go_wp2;go_region_held3 (fun w'=>w'.cell? ⟨w.heap.size,0,none⟩=some (.string en.root)/\w'.cell? ⟨w.heap.size,1,none⟩=some (.slice aP en.nP cP)/\w'.cell? ⟨w.heap.size,2,none⟩=some (.slice aQ en.nQ cQ))
   (first|exact⟨hX1.c0,hX1.c1,hX1.c2⟩|go_keep)
   (first|(go_at_call 63;refine(z4u _ _ ?hE ?h0 ?h1).mono ?_;(case hE=>first|exact hE1|exact hE1.drew);(case h0=>assumption);(case h1=>assumption);rintro e w3 ⟨rfl,hb3⟩;replace hE1:=hE1.later (by first|exact hb3|exact z0v hb3);replace hX1:=hX1.later (by first|exact hb3|exact z0v hb3);replace hbR:=hbR.trans ((by first|exact hb3|exact z0v hb3:Below _ _ w3).mono hbR.size)))
  have hbA:Below w3.heap.size w3 (w3.alloc (.cells #[.string en.root,.string ⟨(Lib.itoa en.nP).toArray⟩,.string ⟨(Lib.itoa en.nQ).toArray⟩] 9)):=(Below.refl _ _).alloc (Nat.le_refl _) _;have hO:(w3.alloc (.cells #[.string en.root,.string ⟨(Lib.itoa en.nP).toArray⟩,.string ⟨(Lib.itoa en.nQ).toArray⟩] 9)).ownsRow W.heap.size 9 1 (.slice (some ⟨w3.heap.size,0,none⟩) 3 3) 3 (z1A (z2c en)):=by
   have:=World.ownsRow_lit (base:=W.heap.size) (e:=9) (size:=1) w3 #[.string en.root,.string ⟨(Lib.itoa en.nP).toArray⟩,.string ⟨(Lib.itoa en.nQ).toArray⟩] 3 hbR.size (by decide) (by rfl);exact this
  have hb4:=hbR.trans (hbA.mono hbR.size);have hX4:=hX0.later hb4;clear hE1 hX1 hbR hbA c0 c1 c2 hb3 hb1 qP qP' qQ qQ';have c1:=hX4.c1;dsimp only at c1;go_wp2;generalize w3.alloc (.cells #[.string en.root,.string ⟨(Lib.itoa en.nP).toArray⟩,.string ⟨(Lib.itoa en.nQ).toArray⟩] 9)=W3 at *;go_loopw [5,29] (fun u y wr=>∃i:Nat,i<=en.nP/\y=.int .i64 i/\wr.ownsRow W.heap.size 9 1 u (3+3*i) (z1A (z2c en++catW (z2s en) i))/\Below W.heap.size W wr) (fun _ y _=>en.nP-(intOf y).toNat)
  case atStart=>exact⟨0,Nat.zero_le _,rfl,by simpa[catW]using hO,hb4⟩
  case round=>
   obtain⟨i,hi,rfl,hOr,hbr⟩:=hrel;clear hO hb4 hX4 c1;have hXr:=hX0.later hbr;have c1:=hXr.c1;have hEr:=hE0.later hbr;dsimp only at c1;by_cases hlt:i<en.nP
   ·have hprt:RowE wr aP en.nP en.pName en.pStamp en.pBase:=(h0.later hbr).parts;rcases hprt with hz|⟨bk,o,rfl,hc⟩
    ·omega
    obtain⟨x0,x1,x2⟩:=hc i hlt;obtain⟨_,k1,k2,k3,k4⟩:=hok.parts i hlt;have r1:-9223372036854775808<=en.pStamp i:=by omega
    have r2:en.pStamp i<=9223372036854775807:=by omega
    have r3:-9223372036854775808<=en.pBase i:=by omega
    have r4:en.pBase i<=9223372036854775807:=by omega
    have hbA:Below wr.heap.size wr (wr.alloc (.cells #[.string (en.pName i),.int .i64 (en.pStamp i),.int .i64 (en.pBase i)] 112)):=(Below.refl _ _).alloc (Nat.le_refl _) _;have hPB:=Box3.new wr (.string (en.pName i)) (.int .i64 (en.pStamp i)) (.int .i64 (en.pBase i)) 112;have hE5:=hEr.later hbA;have hO5:=z0e hOr hbA;have hb5:=hbr.trans (hbA.mono hbr.size);have hrow:∀k,u5.ownBlock=some k->k<wr.heap.size:=fun k hk=>(hOr.lt k hk).2
    have HPW:Hid (z2s en i=[(en.pName i).data.toList,Lib.itoa (en.pStamp i),Lib.itoa (en.pBase i)]):=rfl;obtain⟨au,cu,rfl,_⟩:=z0c hOr;clear hc k1 k2 k3 k4 hEr hbA hOr;generalize hz0:en.pName i=z0 at *;generalize hz1:en.pStamp i=z1 at *;generalize hz2:en.pBase i=z2 at *;clear hz0 hz1 hz2;go_wp2;go_region_held3 (fun w'=>w'.cell? ⟨wr.heap.size,0,none⟩=some (.string z0)/\w'.cell? ⟨wr.heap.size,1,none⟩=some (.int .i64 z1)/\w'.cell? ⟨wr.heap.size,2,none⟩=some (.int .i64 z2))
     (first|with_reducible exact⟨hPB.c0,hPB.c1,hPB.c2⟩|with_reducible exact⟨(hPB.alloc1 _).c0,(hPB.alloc1 _).c1,(hPB.alloc1 _).c2⟩|go_keep)
     (first
       |(go_at_call 63;refine(z4u _ _ ?hE ?h0 ?h1).mono ?_;(case hE=>first|exact hE5|exact hE5.drew);(case h0=>assumption);(case h1=>assumption);rintro e w3 ⟨rfl,hb3⟩;(try replace hb3:=z0v hb3);replace hE5:=hE5.later hb3;replace hPB:=hPB.later hb3;replace hO5:=z0e hO5 hb3;replace hb5:=hb5.trans (hb3.mono hb5.size);clear hb3)
       |(obtain⟨v9,W9,happ,hG⟩:=growW (z0) (⟨(Lib.itoa z1).toArray⟩) (⟨(Lib.itoa z2).toArray⟩) hb5.size hO5 (by omega);refine step_run rfl (.tmp 37) (.tmp 46) 22 rfl _ _ _ rfl rfl happ ?_;clear happ;replace hPB:=(hPB.alloc1 _).grown hG.grown (fun hq=>Nat.lt_irrefl _ (hrow _ hq.symm))))
    have hO9:=hG.own;have hb9:=(hb5.alloc hb5.size _).trans hG.below;clear hG;go_wp2;go_roundw
    case rel=>
     refine⟨i+1,by omega,by go_num,?_,hb9⟩;show W9.ownsRow W.heap.size 9 1 v9 _ (z1A (z2c en++(catW (z2s en) i++z2s en i)));rw[<-List.append_assoc,HPW.out];exact hO9
    case measure=>simp[intOf];omega
   ·have e:i=en.nP:=by omega
    subst e;have c2:=hXr.c2;dsimp only at c2;obtain⟨l1,hl1⟩:∃l,z2c en++catW (z2s en) en.nP=l:=⟨_,rfl⟩;rw[hl1]at hOr;have HL1:Hid (z2c en++catW (z2s en) en.nP=l1):=hl1;clear hl1 hlt hEr c1;go_wp2;go_loopw [5,52] (fun u y wq=>∃i:Nat,i<=en.nQ/\y=.int .i64 i/\wq.ownsRow W.heap.size 9 1 u (3+3*en.nP+3*i) (z1A (l1++catW (patW en) i))/\Below W.heap.size W wq) (fun _ y _=>en.nQ-(intOf y).toNat)
    case atStart=>exact⟨0,Nat.zero_le _,rfl,by simpa[catW]using hOr,hbr⟩
    case round=>
     obtain⟨i,hi,rfl,hOq,hbq⟩:=hrel;clear hOr hbr hXr c2;have hXr:=hX0.later hbq;have c2:=hXr.c2;have hEr:=hE0.later hbq;dsimp only at c2;by_cases hlt:i<en.nQ
     ·have hprt:z6m wr aQ en.nQ en.qPart en.qAt en.qWord:=(h0.later hbq).pats;rcases hprt with hz|⟨bk,o,rfl,hc⟩
      ·omega
      obtain⟨x0,x1,x2⟩:=hc i hlt;obtain⟨k0,k1,k2,k3,k4,k5⟩:=hok.pats i hlt;have r0:-9223372036854775808<=en.qPart i:=by omega
      have r0':en.qPart i<=9223372036854775807:=by omega
      have r1:-9223372036854775808<=en.qAt i:=by omega
      have r2:en.qAt i<=9223372036854775807:=by omega
      have r3:-9223372036854775808<=en.qWord i:=by omega
      have r4:en.qWord i<=9223372036854775807:=by omega
      have hbA:Below wr.heap.size wr (wr.alloc (.cells #[.int .i64 (en.qPart i),.int .i64 (en.qAt i),.int .i64 (en.qWord i)] 114)):=(Below.refl _ _).alloc (Nat.le_refl _) _;have hPB:=Box3.new wr (.int .i64 (en.qPart i)) (.int .i64 (en.qAt i)) (.int .i64 (en.qWord i)) 114;have hE5:=hEr.later hbA;have hO5:=z0e hOq hbA;have hb5:=hbq.trans (hbA.mono hbq.size);have hrow:∀k,u5.ownBlock=some k->k<wr.heap.size:=fun k hk=>(hOq.lt k hk).2
      have HPW:Hid (patW en i=[Lib.itoa (en.qPart i),Lib.itoa (en.qAt i),Lib.itoa (en.qWord i)]):=rfl;obtain⟨au,cu,rfl,_⟩:=z0c hOq;clear hc k0 k1 k2 k3 k4 k5 hEr hbA hOq;generalize hz0:en.qPart i=z0 at *;generalize hz1:en.qAt i=z1 at *;generalize hz2:en.qWord i=z2 at *;clear hz0 hz1 hz2;go_wp2;go_region_held3 (fun w'=>w'.cell? ⟨wr.heap.size,0,none⟩=some (.int .i64 z0)/\w'.cell? ⟨wr.heap.size,1,none⟩=some (.int .i64 z1)/\w'.cell? ⟨wr.heap.size,2,none⟩=some (.int .i64 z2))
       (first|with_reducible exact⟨hPB.c0,hPB.c1,hPB.c2⟩|with_reducible exact⟨(hPB.alloc1 _).c0,(hPB.alloc1 _).c1,(hPB.alloc1 _).c2⟩|go_keep)
       (first
         |(go_at_call 63;refine(z4u _ _ ?hE ?h0 ?h1).mono ?_;(case hE=>first|exact hE5|exact hE5.drew);(case h0=>assumption);(case h1=>assumption);rintro e w3 ⟨rfl,hb3⟩;(try replace hb3:=z0v hb3);replace hE5:=hE5.later hb3;replace hPB:=hPB.later hb3;replace hO5:=z0e hO5 hb3;replace hb5:=hb5.trans (hb3.mono hb5.size);clear hb3)
         |(obtain⟨v9,W9,happ,hG⟩:=growW (⟨(Lib.itoa z0).toArray⟩) (⟨(Lib.itoa z1).toArray⟩) (⟨(Lib.itoa z2).toArray⟩) hb5.size hO5 (by omega);refine step_run rfl (.tmp 60) (.tmp 70) 22 rfl _ _ _ rfl rfl happ ?_;clear happ;replace hPB:=(hPB.alloc1 _).grown hG.grown (fun hq=>Nat.lt_irrefl _ (hrow _ hq.symm))))
      have hO9:=hG.own;have hb9:=(hb5.alloc hb5.size _).trans hG.below;clear hG;go_wp2;go_roundw
      case rel=>
       refine⟨i+1,by omega,by go_num,?_,hb9⟩;show W9.ownsRow W.heap.size 9 1 v9 _ (z1A (l1++(catW (patW en) i++patW en i)));rw[<-List.append_assoc,HPW.out];exact hO9
      case measure=>simp[intOf];omega
     ·have e:i=en.nQ:=by omega
      subst e;have hlen:=(z3P _ (z3X hok)).1;rw[z6P]at hlen;have HW:Hid (l1++catW (patW en) en.nQ=entW en):=by rw[<-HL1.out];rfl
      rw[HW.out]at hOq;obtain⟨au,cu,rfl,_⟩:=z0c hOq;have HJ:=joinW hOq (by omega) (by omega) (by omega);clear hOq hEr c2;go_wp2_with fail;refine(show Calls _ _ _ _ _ from HJ).mono ?_;rintro e w7 ⟨rfl,hb7⟩;clear HJ;go_wp2;go_ret2;exact⟨by show Ending.returned (.tuple #[.string ((⟨(Lib.join (entW en) [32]).toArray⟩:ByteArray)++⟨#[10]⟩),.nilIface])=_;rw[ba_nl];rfl,(hb0.trans (hbq.mono hb0.size)).trans (hb7.mono (Nat.le_trans hb0.size hbq.size))⟩
 ·rw[textE_bad hF];obtain⟨ff,hff⟩:=errV_is hF;rw[hff]at HC ⊢;clear hF hE hf h hff h0 hE0;generalize hW:w.alloc (.cells (z1r ⟨aP,cP,aQ,cQ⟩ en) 71)=W at *;go_enter Tryz.func109,Tryz.ntmps109;go_wp2_with fail;refine HC.mono ?_;rintro e w1 ⟨rfl,hb1⟩;clear HC;go_wp2;go_ret2;exact⟨rfl,hb0.trans (hb1.mono hb0.size)⟩
end Go.Proofs.YtbcpcbonlhlhpaaGreatDoor
