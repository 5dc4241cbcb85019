/- What the document's Bases returns, for all sizes and all -/
import Derived.Test.YtbcpcbonlhlhpaaGreatDoorPlaceBoth
set_option maxRecDepth 100000
set_option maxHeartbeats 8000000
namespace Go.Proofs.YtbcpcbonlhlhpaaGreatDoor
section
open Go.RowKit
structure Used(w:World)(g:Nat)(U:Nat->Bool):Prop where
 lt:g<w.heap.size
 at':∀i,i<600->w.cell? ⟨g,i,none⟩=some (.bool (U i))
 free:∀i,w.frozen? ⟨g,i,none⟩=false
theorem Used.later{w w':World}{g:Nat}{U:Nat->Bool}(h:Used w g U)(hb:Below w.heap.size w w'):Used w' g U:=
 ⟨Nat.lt_of_lt_of_le h.lt hb.size,fun i hi=>cell_later hb (h.at' i hi),fun i=>by rw[hb.frozen (p:=⟨g,i,none⟩) h.lt];exact h.free i⟩
theorem Used.set{w:World}{g:Nat}{U V:Nat->Bool}(h:Used w g U){x:Nat}(hx:x<600)(hV:∀z,V z=if z=x then true else U z):Used (w.setCell ⟨g,x,none⟩ (.bool true)) g V:=
 ⟨by simpa[World.setCell]using h.lt,fun i hi=>by
  rw[hV];by_cases e:i=x
  ·subst e;rw[World.cell?_setCell_same _ _ _ (h.at' i hi),if_pos rfl]
  ·rw[World.cell?_setCell_other _ _ _ _ (by intro e2;injection e2 with _ e2 _;exact e e2.symm),if_neg e];exact h.at' i hi,fun i=>by rw[World.frozen?_setCell];exact h.free i⟩
theorem Used.congr{w:World}{g:Nat}{U V:Nat->Bool}(h:Used w g U)(e:∀z,U z=V z):Used w g V:=⟨h.lt,fun i hi=>by rw[<-e];exact h.at' i hi,h.free⟩
theorem Used.grown{w W:World}{g:Nat}{U:Nat->Bool}{row:Option Nat}(h:Used w g U)(hg:w.grownBy W row)(hne:some g≠row):Used W g U:=
 ⟨Nat.lt_of_lt_of_le h.lt hg.size,fun i hi=>hg.cell (h.at' i hi) hne,fun i=>by rw[World.frozen?_of_block (w:=w) (hg.block g h.lt hne)];exact h.free i⟩
theorem owns_lower{w:World}{B B':Nat}{e:TypeId}{s n:Nat}{v:Value}{xs:List Value}(h:w.ownsRow B e s v n xs)(hB:B'<=B):w.ownsRow B' e s v n xs:=⟨h.1,by
 rcases h.2 with h|⟨g,cap,cur,h1,h2,h3⟩
 ·exact .inl h
 ·exact .inr ⟨g,cap,cur,h1,Nat.le_trans hB h2,h3⟩⟩
theorem owns_set{w:World}{B:Nat}{e:TypeId}{s n:Nat}{v:Value}{xs:List Value}(h:w.ownsRow B e s v n xs){a:Addr}(ha:a.block<B)(u:Value):(w.setCell a u).ownsRow B e s v n xs:=ownsRow_setCell_below h ha u
theorem used_made:∃cs:Array Value,(∀w,Sem.run Tryz.prog (zeroValue 167) w=.ok (.agg cs) w)/\∀w:World,Used (w.alloc (.cells cs 167)) w.heap.size (fun _=>false):=
 ⟨Array.replicate 600 (.bool false),fun w=>by kernel_rfl,fun w=>⟨by simp,fun i hi=>by simp[go_sem,hi],fun i=>by simp[go_sem]⟩⟩
inductive RefBasesEnd (w:World) (B ns:Nat) (sz:Nat->Int) (nt:Nat) (tf tm:Nat->Int):Ending->Prop
 |bad (f:Nat) (b:Nat->Int) (hf:f≠0) (h:BasesAre ns sz nt tf tm f b):RefBasesEnd w B ns sz nt tf tm (.returned (.tuple #[.slice none 0 0,.int .i64 (f:Int)]))
 |ok (b:Nat->Int) (v:Value) (h:BasesAre ns sz nt tf tm 0 b) (hv:w.ownsRow B 3 1 v ns (z0i (intC b) ns)):RefBasesEnd w B ns sz nt tf tm (.returned (.tuple #[v,.int .i64 0]))
theorem refBases_any(sz tf tm:Nat->Int)(a a':Option Addr)(ns c nt c':Nat)(w:World)(hn:ns<=maxLen)(hn':nt<=maxLen)(hr:z1z w a ns fun i=>.int .i64 (sz i))(ht:z6I w a' nt tf tm) :
 Calls Tryz.prog 57 #[.slice a ns c,.slice a' nt c'] w fun e w'=>RefBasesEnd w' w.heap.size ns sz nt tf tm e/\Below w.heap.size w w':=by
 unfold maxLen at hn hn';obtain⟨Z,hal,hZ⟩:=used_made;generalize hF:z1S ns sz nt tf tm=F;have HF0:Hid (z1S ns sz nt tf tm=F):=hF;unfold z1S at hF;by_cases h1:6<ns∨20<nt
 ·rw[if_pos h1]at hF;subst hF;have HE:Hid (BasesAre ns sz nt tf tm 2 (fun _=>0)):=by
   have h2:z1S ns sz nt tf tm=2:=HF0.out;have h3:BasesAre ns sz nt tf tm (z1S ns sz nt tf tm) (fun _=>0):=.bad _ (by rw[h2];decide);rw[h2]at h3;exact h3
  by_cases g1:(6:Int)<(ns:Int)
  ·clear h1;go_enter Tryz.func57,Tryz.ntmps57;go_wp2;go_ret2;exact⟨.bad 2 _ (by decide) HE.out,Below.refl _ _⟩
  ·have g2:(20:Int)<(nt:Int):=by omega
   clear h1;go_enter Tryz.func57,Tryz.ntmps57;go_wp2;go_ret2;exact⟨.bad 2 _ (by decide) HE.out,Below.refl _ _⟩
 ·rw[if_neg h1]at hF;have HF:Hid ((if z0H (fun i=>decide (sz i<1∨40<sz i)) ns=true then 1 else if z0H (fun i=>decide (tf i<0∨256<tf i∨tm i<0∨256<tm i)) nt=true then 1 else 0)=F):=hF;have HB:F=1->BasesAre ns sz nt tf tm 1 (fun _=>0):=fun e=>by
   have h2:z1S ns sz nt tf tm=1:=HF0.out.trans e;have h3:BasesAre ns sz nt tf tm (z1S ns sz nt tf tm) (fun _=>0):=.bad _ (by rw[h2];decide);rw[h2]at h3;exact h3
  have g1:¬(6:Int)<(ns:Int):=by omega
  have g2:¬(20:Int)<(nt:Int):=by omega
  clear hF h1;go_enter Tryz.func57,Tryz.ntmps57;go_wp2;go_loopw [6] (fun x wr=>∃k:Nat,k<=ns/\x=.int .i64 k/\wr=w/\Hid (z0H (fun i=>decide (sz i<1∨40<sz i)) k=false)) (fun x _=>ns-(intOf x).toNat)
  case atStart=>exact⟨0,Nat.zero_le _,rfl,rfl,rfl⟩
  case round=>
   obtain⟨k,hk,rfl,hw,HK⟩:=hrel;replace hw:=hw.symm;subst hw;by_cases hlt:k<ns
   ·rcases hr with h0|⟨b,o,rfl,hc⟩
    ·omega
    have hck:=hc k hlt;clear hc;by_cases hz:sz k<1∨40<sz k
    ·have HE:Hid (BasesAre ns sz nt tf tm 1 (fun _=>0)):=HB (by rw[<-HF.out,if_pos (z1D hlt (decide_eq_true hz))]);clear HB;by_cases hz1:sz k<1
     ·clear hz;go_wp2;go_ret2;exact⟨.bad 1 _ (by decide) HE.out,Below.refl _ _⟩
     ·have hz2:40<sz k:=by omega
      clear hz;go_wp2;go_ret2;exact⟨.bad 1 _ (by decide) HE.out,Below.refl _ _⟩
    ·have HE:Hid (z0H (fun i=>decide (sz i<1∨40<sz i)) (k+1)=false):=z2U HK.out (decide_eq_false hz);have hz1:¬sz k<1:=by omega
     have hz2:¬40<sz k:=by omega
     clear hz HB;go_wp2;go_roundw
     case rel=>exact⟨k+1,by omega,by go_num,trivial,HE⟩
     case measure=>simp[intOf];omega
   ·have e:k=ns:=by omega
    have HG:Hid ((if z0H (fun i=>decide (tf i<0∨256<tf i∨tm i<0∨256<tm i)) nt=true then 1 else 0)=F):=by
     have hq:¬z0H (fun i=>decide (sz i<1∨40<sz i)) ns=true:=by rw[<-e,HK.out];decide
     have:=HF.out;rw[if_neg hq]at this;exact this
    clear HF HK;subst e;go_wp2;go_loopw [7] (fun x wr=>∃k:Nat,k<=nt/\x=.int .i64 k/\Below w.heap.size w wr/\Hid (z0H (fun i=>decide (tf i<0∨256<tf i∨tm i<0∨256<tm i)) k=false)) (fun x _=>nt-(intOf x).toNat)
    case atStart=>exact⟨0,Nat.zero_le _,rfl,Below.refl _ _,rfl⟩
    case round=>
     obtain⟨j,hj,rfl,hb,HK⟩:=hrel;by_cases hlt:j<nt
     ·rcases ht with h0|⟨b,o,rfl,hc⟩
      ·omega
      have hc0:=cell_later hb (hc j hlt).1;have hc1:=cell_later hb (hc j hlt).2;have hx:∀ob:Obj,Below w.heap.size w (wr.alloc ob):=fun ob=>hb.alloc hb.size ob
      clear hc hr;by_cases hz:tf j<0∨256<tf j∨tm j<0∨256<tm j
      ·have HE:Hid (BasesAre k sz nt tf tm 1 (fun _=>0)):=HB (by rw[<-HG.out,if_pos (z1D hlt (decide_eq_true hz))]);clear HB;by_cases z1:tf j<0
       ·clear hz;go_wp2;go_ret2;exact⟨.bad 1 _ (by decide) HE.out,hx _⟩
       by_cases z2:256<tf j
       ·clear hz;go_wp2;go_ret2;exact⟨.bad 1 _ (by decide) HE.out,hx _⟩
       by_cases z3:tm j<0
       ·clear hz;go_wp2;go_ret2;exact⟨.bad 1 _ (by decide) HE.out,hx _⟩
       have z4:256<tm j:=by omega
       clear hz;go_wp2;go_ret2;exact⟨.bad 1 _ (by decide) HE.out,hx _⟩
      ·have HE:Hid (z0H (fun i=>decide (tf i<0∨256<tf i∨tm i<0∨256<tm i)) (j+1)=false):=z2U HK.out (decide_eq_false hz);have z1:¬tf j<0:=by omega
       have z2:¬256<tf j:=by omega
       have z3:¬tm j<0:=by omega
       have z4:¬256<tm j:=by omega
       clear hz HB;go_wp2;go_roundw
       case rel=>exact⟨j+1,by omega,by go_num,hx _,HE⟩
       case measure=>simp[intOf];omega
     ·have e:j=nt:=by omega
      have HP:Hid (z1S k sz nt tf tm=0):=by
       show _=0;rw[HF0.out,<-HG.out,if_neg];rw[<-e,HK.out];decide
      obtain⟨_,_,g3,g4⟩:=placeF_zero HP.out;clear HG HK HB HF0;subst e;have hU:=hZ wr;have hbz:Below w.heap.size w (wr.alloc (.cells Z 167)):=hb.alloc hb.size _;obtain⟨g,hg⟩:∃g,g=wr.heap.size:=⟨_,rfl⟩;have hBg:w.heap.size<=g:=by rw[hg];exact hb.size
      go_wp2;rw[<-hg]at hU ⊢;generalize wr.alloc (.cells Z 167)=w0 at *;clear hg hb hZ hal;go_loopw [10] (fun x wr=>∃i:Nat,i<=j/\x=.int .i64 i/\Used wr g (z6o tf tm i)/\Below w.heap.size w wr) (fun x _=>j-(intOf x).toNat)
      case atStart=>exact⟨0,Nat.zero_le _,rfl,hU,hbz⟩
      case round=>
       clear hU hbz;obtain⟨i,hi,rfl,hU,hb⟩:=hrel;by_cases hlt:i<j
       ·obtain⟨f,hf⟩:∃f:Nat,tf i=f:=⟨(tf i).toNat,by have:=g4 i hlt;omega⟩;obtain⟨m,hm⟩:∃m:Nat,tm i=m:=⟨(tm i).toNat,by have:=g4 i hlt;omega⟩;have hfm:f<=256/\m<=256:=by have:=g4 i hlt;omega
        have ht':=ht;rcases ht' with h0|⟨bt,ot,rfl,hc⟩
        ·omega
        go_wp2;go_loopw [11] (fun x wr=>∃q:Nat,q<=m/\x=.int .i64 q/\Used wr g (z6j tf tm i q)/\Below w.heap.size w wr) (fun x _=>m-(intOf x).toNat)
        case atStart=>exact⟨0,Nat.zero_le _,rfl,hU.congr fun z=>(usedTo_zero tf tm i z).symm,hb⟩
        case round=>
         clear hU hb;obtain⟨q,hq,rfl,hU,hb⟩:=hrel;have d0:wr.cell? ⟨bt,ot+i*2,none⟩=some (.int .i64 (f:Int)):=by rw[<-hf];exact cell_later hb (hc i hlt).1
         have d1:wr.cell? ⟨bt,ot+i*2+1,none⟩=some (.int .i64 (m:Int)):=by rw[<-hm];exact cell_later hb (hc i hlt).2
         by_cases hlq:q<m
         ·have hcell:=hU.at' (f+q) (by omega);have hfree:=hU.free (f+q);have hU2:=hU.set (x:=f+q) (by omega) (V:=z6j tf tm i (q+1)) (fun z=>usedTo_succ (by rw[hf];omega) z);have hb2:=hb.setCell (p:=⟨g,f+q,none⟩) hBg (.bool true);clear hU hb hc;go_wp2;go_roundw
          case rel=>exact⟨q+1,by omega,by go_num,hU2,hb2⟩
          case measure=>simp[intOf];omega
         ·have e:q=m:=by omega
          subst e;clear hc;go_wp2;go_roundw
          case rel=>exact⟨i+1,by omega,by go_num,hU.congr fun z=>usedTo_full hm z,hb⟩
          case measure=>simp[intOf];omega
       ·have e:i=j:=by omega
        subst e;clear ht;go_wp2;go_loopw [12,13] (fun x y wr=>∃(n:Nat) (vb:Value) (b:Nat->Int),n<=k/\y=.int .i64 n/\x=vb/\wr.ownsRow (g+1) 3 1 vb n (z0i (intC b) n)/\Used wr g (z6o (z0W tf i b) (z0W tm i fun j=>z0x (sz j)) (i+n))/\(∀j,j<n->0<=b j/\b j<=256)/\Hid (∀j,j<n->Laid tf tm i sz b j)/\Below w.heap.size w wr) (fun _ y _=>k-(intOf y).toNat)
        case atStart=>exact⟨0,.slice none 0 0,fun _=>0,Nat.zero_le _,rfl,rfl,World.ownsRow_nil _ _ _ _,hU.congr fun z=>usedB_congr fun x hx=>⟨(z4M hx).symm,(z4M hx).symm⟩,fun j hj=>by omega,fun j hj=>by omega,hb⟩
        case round=>
         clear hU hb;obtain⟨n,vb,b,hnk,rfl,rfl,ho,hU,hbb,HL,hb⟩:=hrel;by_cases hlt:n<k
         ·have hs:=g3 n hlt;obtain⟨R,hR⟩:∃R:Nat,z0x (sz n)=R:=⟨(z0x (sz n)).toNat,by have:=z3W hs.1 hs.2;omega⟩;have hrk:=z3W hs.1 hs.2;rw[hR]at hrk;have hR1:16<=R/\R<=48:=by omega
          clear hrk;rcases hr with h0|⟨bk,o,rfl,hc⟩
          ·omega
          have hck:=cell_later hb (hc n hlt);have HR:=fun(w:World)=>pages_any (sz n) w (by omega) (by omega)
          rw[hR]at HR;have hfar:∀x,x<i+n->z0W tf i b x+z0W tm i (fun j=>z0x (sz j)) x<=600:=fun x hx=>by
           by_cases e:x<i
           ·rw[z4M e,z4M e];have:=g4 x e;omega
           ·obtain⟨y,rfl⟩:∃y,x=i+y:=⟨x-i,by omega⟩;rw[z4c,z4c];have h1:=hbb y (by omega);have h2:=g3 y (by omega);have h3:=z3W h2.1 h2.2;omega
          go_wp2_with fail;refine(HR _).mono ?_;rintro e w' ⟨rfl,rfl⟩;clear HR hck;go_wp2;go_loopw [15] (fun x wr=>∃q:Nat,q<=38/\x=.int .i64 (16*(q:Int))/\wr.ownsRow (g+1) 3 1 u12 n (z0i (intC b) n)/\Used wr g (z6o (z0W tf i b) (z0W tm i fun j=>z0x (sz j)) (i+n))/\Hid (∀j:Nat,j<q->z2N (z0W tf i b) (z0W tm i fun j=>z0x (sz j)) (i+n) (16*(j:Int)) (R:Int)=true)/\Below w.heap.size w wr) (fun x _=>700-(intOf x).toNat)
          case atStart=>exact⟨0,by omega,rfl,ho,hU,fun j hj=>by omega,hb⟩
          case round=>
           clear ho hU hb;obtain⟨q,hq,rfl,ho,hU,HM,hb⟩:=hrel;go_wp2;go_loopw [16,17] (fun x y wr=>∃p:Nat,p<=R/\y=.int .i64 p/\x=.bool (z5g (z0W tf i b) (z0W tm i fun j=>z0x (sz j)) (i+n) (16*q) p)/\wr.ownsRow (g+1) 3 1 u12 n (z0i (intC b) n)/\Used wr g (z6o (z0W tf i b) (z0W tm i fun j=>z0x (sz j)) (i+n))/\Below w.heap.size w wr) (fun _ y _=>R-(intOf y).toNat)
           case atStart=>exact⟨0,Nat.zero_le _,rfl,rfl,ho,hU,hb⟩
           case round=>
            clear ho hU hb;obtain⟨p,hp,rfl,rfl,ho,hU,hb⟩:=hrel;have hcast:((16*q:Nat):Int)=16*(q:Int):=by omega
            have HC:Hid (z5g (z0W tf i b) (z0W tm i fun j=>z0x (sz j)) (i+n) (16*q) R = !(z2N (z0W tf i b) (z0W tm i fun j=>z0x (sz j)) (i+n) (16*(q:Int)) (R:Int))):=by
             show _=(!_);rw[clearB_meets,hcast]
            clear hcast;have again:z2N (z0W tf i b) (z0W tm i fun j=>z0x (sz j)) (i+n) (16*(q:Int)) (R:Int)=true->q+1<=38/\∀j:Nat,j<q+1->z2N (z0W tf i b) (z0W tm i fun j=>z0x (sz j)) (i+n) (16*(j:Int)) (R:Int)=true:=fun h=>by
             refine⟨?_,fun j hj=>?_⟩
             ·by_cases e:600<=16*q
              ·rw[meets_far hfar e]at h;cases h
              ·omega
             ·by_cases e:j=q
              ·subst e;exact h
              ·exact HM.out j (by omega)
            by_cases hlp:p<R
            ·cases hCp:z5g (z0W tf i b) (z0W tm i fun j=>z0x (sz j)) (i+n) (16*q) p with
             |false=>
              have hm:z2N (z0W tf i b) (z0W tm i fun j=>z0x (sz j)) (i+n) (16*(q:Int)) (R:Int)=true:=by
               have:=HC.out;rw[clearB_mono (Nat.le_of_lt hlp) hCp]at this;simpa using this
              obtain⟨e1,e2⟩:=again hm;have E2:Hid (∀j:Nat,j<q+1->z2N (z0W tf i b) (z0W tm i fun j=>z0x (sz j)) (i+n) (16*(j:Int)) (R:Int)=true):=e2;clear hm again e2 HC hCp;go_wp2;go_roundw
              case rel=>exact⟨q+1,e1,by go_num,ho,hU,E2,hb⟩
              case measure=>simp[intOf];omega
             |true=>
              clear again;by_cases h6:600<=16*(q:Int)+(p:Int)
              ·have HE:Hid (z5g (z0W tf i b) (z0W tm i fun j=>z0x (sz j)) (i+n) (16*q) (p+1)=true):=by
                show _=true;simp only[z5g,hCp,usedB_far hfar (show 600<=16*q+p by omega)];rfl
               clear hCp;go_wp2;go_roundw
               case rel=>exact⟨p+1,by omega,by go_num,by rw[HE.out],ho,hU,hb⟩
               case measure=>simp[intOf];omega
              ·have hcell:=hU.at' (16*q+p) (by omega);have HE:Hid (z5g (z0W tf i b) (z0W tm i fun j=>z0x (sz j)) (i+n) (16*q) (p+1) = !(z6o (z0W tf i b) (z0W tm i fun j=>z0x (sz j)) (i+n) (16*q+p))):=by
                show _=(!_);simp only[z5g,hCp,Bool.true_and]
               generalize z6o (z0W tf i b) (z0W tm i fun j=>z0x (sz j)) (i+n) (16*q+p)=ub at hcell HE;clear hCp;go_wp2;go_roundw
               case rel=>exact⟨p+1,by omega,by go_num,by rw[HE.out],ho,hU,hb⟩
               case measure=>simp[intOf];omega
            ·have e:p=R:=by omega
             subst e;rw[HC.out];cases hm:z2N (z0W tf i b) (z0W tm i fun j=>z0x (sz j)) (i+n) (16*(q:Int)) (p:Int)with
             |true=>
              obtain⟨e1,e2⟩:=again hm;have E2:Hid (∀j:Nat,j<q+1->z2N (z0W tf i b) (z0W tm i fun j=>z0x (sz j)) (i+n) (16*(j:Int)) (p:Int)=true):=e2;clear hm again e2 HC;go_wp2;go_roundw
              case rel=>exact⟨q+1,e1,by go_num,ho,hU,E2,hb⟩
              case measure=>simp[intOf];omega
             |false=>
              clear again HC;by_cases hfull:256<16*(q:Int)+(p:Int)
              ·have HE:Hid (BasesAre k sz i tf tm 8 b):=.full b n HP.out hlt HL.out (fun x hx=>by
                rw[hR]at hx ⊢;exact HM.out x (by omega))
               clear hm HM HL;go_wp2;go_ret2;exact⟨.bad 8 b (by decide) HE.out,hb⟩
              ·have hB:z6i (z0W tf i b) (z0W tm i fun j=>z0x (sz j)) (i+n) (z0x (sz n)) q:=⟨by rw[hR];omega,by rw[hR];exact hm,by rw[hR];exact HM.out⟩;have HQ:Hid (∀j,j<n+1->Laid tf tm i sz (setAt b n (16*(q:Int))) j):=fun j hj=>by
                by_cases e:j=n
                ·subst e;exact⟨q,z4d,hB.congr fun x hx=>⟨z3n (fun y hy=>z2Z hy) x hx,rfl⟩⟩
                ·exact(HL.out j (by omega)).congr fun y hy=>z2Z (by omega)
               have hU0:Used wr g (z6j (z0W tf i (setAt b n (16*(q:Int)))) (z0W tm i fun j=>z0x (sz j)) (i+n) 0):=hU.congr fun z=>by
                rw[usedTo_zero];exact usedB_congr fun x hx=>⟨z3n (fun y hy=>z2Z hy) x hx,rfl⟩
               clear hB hm HM HL hU;go_wp2;go_loopw [18] (fun x wr=>∃y:Nat,y<=p/\x=.int .i64 y/\wr.ownsRow (g+1) 3 1 u12 n (z0i (intC b) n)/\Used wr g (z6j (z0W tf i (setAt b n (16*(q:Int)))) (z0W tm i fun j=>z0x (sz j)) (i+n) y)/\Below w.heap.size w wr) (fun x _=>p-(intOf x).toNat)
               case atStart=>exact⟨0,Nat.zero_le _,rfl,ho,hU0,hb⟩
               case round=>
                clear ho hU0 hb;obtain⟨y,hy,rfl,ho,hU,hb⟩:=hrel;by_cases hly:y<p
                ·have hcell:=hU.at' (16*q+y) (by omega);have hfree:=hU.free (16*q+y);have hU2:=hU.set (x:=16*q+y) (by omega) (V:=z6j (z0W tf i (setAt b n (16*(q:Int)))) (z0W tm i fun j=>z0x (sz j)) (i+n) (y+1)) (fun z=>usedTo_succ (by rw[z4c,z4d];omega) z);have hb2:=hb.setCell (p:=⟨g,16*q+y,none⟩) hBg (.bool true);have ho2:=owns_set ho (a:=⟨g,16*q+y,none⟩) (Nat.lt_succ_self _) (.bool true);clear hU hb ho;go_wp2;go_roundw
                 case rel=>exact⟨y+1,by omega,by go_num,ho2,hU2,hb2⟩
                 case measure=>simp[intOf];omega
                ·have e:y=p:=by omega
                 subst e;have hgl:=hU.lt;obtain⟨v2,W2,happ2,hG2⟩:=growInt (w:=wr) (16*(q:Int)) (show g+1<=wr.heap.size from hgl) ho (by omega);have hi4:=hG2.own;rw[joinInt (b':=setAt b n (16*(q:Int))) (fun i hi=>z2Z hi) z4d]at hi4;have hne:some g≠u12.ownBlock:=fun e=>by have:=(ho.lt _ e.symm).1;omega
                 have hU3:=((hU.later ((Below.refl _ _).alloc (Nat.le_refl _) (.cells #[.int .i64 (16*(q:Int))] 3))).grown hG2.grown hne).congr fun z=>usedTo_full (by rw[z4c];exact hR) z
                 have hb3:Below w.heap.size w W2:=(hb.alloc hb.size _).trans (hG2.below.mono (by omega));have hbn:∀j,j<n+1->0<=setAt b n (16*(q:Int)) j/\setAt b n (16*(q:Int)) j<=256:=fun j hj=>by
                  by_cases e:j=n
                  ·subst e;rw[z4d];omega
                  ·rw[<-z2Z (by omega)];exact hbb j (by omega)
                 clear hG2 ho hU hne;go_wp2_with (at_builtin;refine z0b rfl (.tmp 143) (.tmp 145) 52 rfl u12 (.slice (some ⟨wr.heap.size,0,none⟩) 1 1) _ rfl rfl happ2 ?_);go_roundw
                 case rel=>exact⟨n+1,v2,setAt b n (16*(q:Int)),by omega,by go_num,rfl,hi4,hU3,hbn,HQ,hb3⟩
                 case measure=>simp[intOf];omega
         ·have e:n=k:=by omega
          subst e;go_wp2;go_ret2;exact⟨.ok b _ (.ok b HP.out HL.out) (owns_lower ho (by omega)),hb⟩
end
section
open Go.RowKit
def FoundEnd(L:z3S)(s:ByteArray)(e:Ending):Prop:=∃p q:Int,e=.returned (.tuple #[.int .i64 p,.int .i64 q])/\IsFound L s p q
theorem find_any(a:Option Addr)(n c:Nat)(V:Nat->ObjV)(O:Nat->ObjF)(s:ByteArray)(w:World)(hn:n<=1000000000)(hm:∀i,i<n->(O i).nS<=1000000000)(hr:z3U w a n V O) :
 Calls Tryz.prog 272 #[.slice a n c,.string s] w fun e w'=>FoundEnd (z1T n O) s e/\Below w.heap.size w w':=by
 go_enter Tryz.func272,Tryz.ntmps272;go_wp2;go_loopw [6,7,14] (fun x y z wr=>∃(i:Nat) (p q:Int),i<=n/\z=.int .i64 i/\x=.int .i64 p/\y=.int .i64 q/\SoFar (z1T n O) s i 0 p q/\Below w.heap.size w wr) (fun _ _ z _=>n-(intOf z).toNat)
 case atStart=>exact⟨0,-1,-1,Nat.zero_le _,rfl,rfl,rfl,SoFar.start _ _,Below.refl _ _⟩
 case round=>
  obtain⟨i,p,q,hi,rfl,rfl,rfl,HS,hb⟩:=hrel;by_cases hlt:i<n
  ·rcases hr with h0|⟨bk,o,rfl,hc⟩
   ·omega
   have H:=(hc i hlt).later hb;have hmi:=hm i hlt;have c0:=H.c0;have c1:=H.c1;have c2:=H.c2;have c3:=H.c3;have hsy:=hc i hlt |>.here.syms;have hx:∀ob:Obj,Below w.heap.size w (wr.alloc ob):=fun ob=>hb.alloc hb.size ob
   clear hc hm H;go_wp2;go_loopw [6,7,22] (fun x y z w2=>∃(k:Nat) (p q:Int),k<=(O i).nS/\z=.int .i64 k/\x=.int .i64 p/\y=.int .i64 q/\SoFar (z1T n O) s i k p q/\Below w.heap.size w w2) (fun _ _ z _=>(O i).nS-(intOf z).toNat)
   case atStart=>exact⟨0,p,q,Nat.zero_le _,rfl,rfl,rfl,HS,hx _⟩
   case round=>
    clear HS c0 c1 c2 c3 hx hb;obtain⟨k,p2,q2,hk,rfl,rfl,rfl,HS,hb⟩:=hrel;by_cases hlk:k<(O i).nS
    ·rcases hsy with h0|⟨b2,o2,ha2,hs2⟩
     ·omega
     have d0:=cell_later hb (hs2 k hlk).1;have d1:=cell_later hb (hs2 k hlk).2.1;have d2:=cell_later hb (hs2 k hlk).2.2;rw[ha2];have hx:∀ob:Obj,Below w.heap.size w (wr.alloc ob):=fun ob=>hb.alloc hb.size ob
     clear hs2;by_cases hnm:(O i).sName k=s
     ·have hh:Hit (z1T n O) s i k:=⟨hlt,hlk,hnm⟩;have ht:(((O i).sName k).toList==s.toList)=true:=by rw[z0z,decide_eq_true hnm]
      clear hnm;cases hwk:(O i).sWeak k with
      |false=>
       have HF:=HS.strong hh (show(z1T n O).wk i k=false from hwk);rw[hwk]at d2;clear hwk HS hh;go_wp2;go_ret2;exact⟨⟨i,k,rfl,HF⟩,hx _⟩
      |true=>
       rw[hwk]at d2;rcases HS.shape with⟨rfl,rfl⟩|⟨x,y,rfl,rfl,_,_⟩
       ·have HF:=HS.first hh (show(z1T n O).wk i k=true from hwk)
        clear hwk HS hh;go_wp2;go_roundw
        case rel=>exact⟨k+1,i,k,by omega,by go_num,rfl,rfl,HF,hx _⟩
        case measure=>simp[intOf];omega
       ·have HF:=HS.more (show(z1T n O).wk i k=true from hwk);have hz:((x:Int) == -1)=false:=by rw[beq_eq_false_iff_ne];omega
        clear hwk HS hh;go_wp2;go_roundw
        case rel=>exact⟨k+1,x,y,by omega,by go_num,rfl,rfl,HF,hx _⟩
        case measure=>simp[intOf];omega
     ·have HO:=HS.other (show(z1T n O).nm i k≠s from hnm);have ht:(((O i).sName k).toList==s.toList)=false:=by rw[z0z,decide_eq_false hnm]
      clear hnm HS;go_wp2;go_roundw
      case rel=>exact⟨k+1,p2,q2,by omega,by go_num,rfl,rfl,HO,hx _⟩
      case measure=>simp[intOf];omega
    ·have e:k=(O i).nS:=by omega
     subst e;have HN:=SoFar.next (i:=i) (show SoFar (z1T n O) s i ((z1T n O).m i) p2 q2 from HS)
     go_wp2;go_roundw
     case rel=>exact⟨i+1,p2,q2,by omega,by go_num,rfl,rfl,HN,hb⟩
     case measure=>simp[intOf];omega
  ·have e:i=n:=by omega
   subst e;go_wp2;go_ret2;exact⟨⟨p,q,rfl,HS.done⟩,hb⟩
end
end Go.Proofs.YtbcpcbonlhlhpaaGreatDoor
