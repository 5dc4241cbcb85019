/- What is said of chapter 13: the law ConsoleSays returns -/
import Derived.Test.YtbcpcbonlhlhpaaGreatDoorPlainHello
set_option maxRecDepth 100000
set_option maxHeartbeats 16000000
namespace Go.Proofs.YtbcpcbonlhlhpaaGreatDoor
open Go.RowKit Go.Maps
theorem strs_row{w:World}{B n c:Nat}{a:Option Addr}{l:List (List UInt8)}{f:Nat->ByteArray}(h:w.ownsRow B 9 1 (.slice a n c) n (z1A l))(hf:∀i,i<n->l[i]?=some (f i).data.toList):z1z w a n fun i=>.string (f i):=by
 by_cases h0:n=0
 ·exact .inl h0
 ·obtain⟨g,hg,_,_⟩:=z0K h (j:=0) (u:=.string (f 0)) (by unfold z1A;rw[List.getElem?_map,hf 0 (by omega)];rfl);refine .inr ⟨g,0,hg,fun i hi=>?_⟩;obtain⟨g',hg',_,hc⟩:=z0K h (j:=i) (u:=.string (f i)) (by unfold z1A;rw[List.getElem?_map,hf i hi];rfl);rw[hg]at hg';injection hg' with hg';injection hg' with hg';subst hg';rw[Nat.zero_add];exact hc
theorem same_zero(w:World):Calls Tryz.prog 6 #[.nilIface,.int .i64 0] w fun e w'=>e=.returned (.bool true)/\w=w':=(same_nil 0 w).mono fun _ _ ⟨h1,h2⟩=>⟨by rw[h1];rfl,h2⟩
theorem hello_any(w:World)(hE:Env w):Calls Tryz.prog 4 #[] w fun e w'=>e=.returned (.bool true)/\Below w.heap.size w w':=by
 have hb0:Below w.heap.size w (w.alloc (.cells #[.string ⟨#[108,105,110,101,32,119,111,114,100,32,53]⟩,.string ⟨#[108,105,110,101,32,98,97,115,101,32,48,32,51]⟩,.string ⟨#[111,98,106,101,99,116]⟩,.string ⟨#[119,114,105,116,101,32,97]⟩,.string ⟨#[108,111,97,100,32,97]⟩,.string ⟨#[98,117,105,108,100,32,97]⟩,.string ⟨#[108,111,97,100,32,97]⟩,.string ⟨#[101,110,116,114,121,32,97]⟩,.string ⟨#[102,108,121,32,104,105,103,104]⟩] 9)):=(Below.refl _ _).alloc (Nat.le_refl _) _;have hrow:z1z (w.alloc (.cells #[.string ⟨#[108,105,110,101,32,119,111,114,100,32,53]⟩,.string ⟨#[108,105,110,101,32,98,97,115,101,32,48,32,51]⟩,.string ⟨#[111,98,106,101,99,116]⟩,.string ⟨#[119,114,105,116,101,32,97]⟩,.string ⟨#[108,111,97,100,32,97]⟩,.string ⟨#[98,117,105,108,100,32,97]⟩,.string ⟨#[108,111,97,100,32,97]⟩,.string ⟨#[101,110,116,114,121,32,97]⟩,.string ⟨#[102,108,121,32,104,105,103,104]⟩] 9)) (some ⟨w.heap.size,0,none⟩) 9 fun i=>.string (heX i):=.inr ⟨w.heap.size,0,rfl,fun i hi=>by
  rw[Nat.zero_add,World.cell?_alloc_new]
  match i,hi with
  |0,_=>rfl
  |1,_=>rfl
  |2,_=>rfl
  |3,_=>rfl
  |4,_=>rfl
  |5,_=>rfl
  |6,_=>rfl
  |7,_=>rfl
  |8,_=>rfl⟩
 have HR:=run_any (some ⟨w.heap.size,0,none⟩) 9 9 heX _ (hE.later hb0) hrow (by decide) hello_arm;clear hrow;go_enter Tryz.func4,Tryz.ntmps4;go_wp2_with fail;refine(show Calls _ _ _ _ _ from HR).mono ?_;rintro e w1 ⟨⟨v,rfl,hown,_⟩,hb1⟩;clear HR;obtain⟨a,c,rfl,_⟩:=z0c hown;have hr1:=strs_row (f:=heA) hown fun i hi=>by rw[ansL_at heX hi,hello_ans i hi]
 have hb2:=hb0.trans (hb1.mono hb0.size);have hbn:Below w1.heap.size w1 (w1.alloc (.cells #[.string ⟨#[111,107]⟩,.string ⟨#[111,107]⟩,.string ⟨#[49,32,119,111,114,100,115]⟩,.string ⟨#[111,107]⟩,.string ⟨#[110,101,119,32,97,32,48,58,32,51]⟩,.string ⟨#[111,107]⟩,.string ⟨#[107,101,112,116,32,97,32,48,58,32,51]⟩,.string ⟨#[97,32,49,32,49,32,97,32,49,32,48,32,48,32,48,32,51]⟩,.string ⟨#[101,114,114,111,114,32,52]⟩] 9)):=(Below.refl _ _).alloc (Nat.le_refl _) _;have hr2:z1z (w1.alloc (.cells #[.string ⟨#[111,107]⟩,.string ⟨#[111,107]⟩,.string ⟨#[49,32,119,111,114,100,115]⟩,.string ⟨#[111,107]⟩,.string ⟨#[110,101,119,32,97,32,48,58,32,51]⟩,.string ⟨#[111,107]⟩,.string ⟨#[107,101,112,116,32,97,32,48,58,32,51]⟩,.string ⟨#[97,32,49,32,49,32,97,32,49,32,48,32,48,32,48,32,51]⟩,.string ⟨#[101,114,114,111,114,32,52]⟩] 9)) (some ⟨w1.heap.size,0,none⟩) 9 fun i=>.string (heA i):=.inr ⟨w1.heap.size,0,rfl,fun i hi=>by
  rw[Nat.zero_add,World.cell?_alloc_new]
  match i,hi with
  |0,_=>rfl
  |1,_=>rfl
  |2,_=>rfl
  |3,_=>rfl
  |4,_=>rfl
  |5,_=>rfl
  |6,_=>rfl
  |7,_=>rfl
  |8,_=>rfl⟩
 have HS:=z5u heA heA 9 a (some ⟨w1.heap.size,0,none⟩) c 9 _ (by decide) (hr1.later hbn) hr2 (fun _ _=>rfl);have hb3:=hb2.trans (hbn.mono hb2.size);have HZ:=same_zero w1;clear hown hr1 hr2 hbn hb0 hb1 hb2;go_wp2_with fail;refine(show Calls _ _ _ _ _ from HZ).mono ?_;rintro e w2 ⟨rfl,rfl⟩;clear HZ;go_wp2_with fail;refine(show Calls _ _ _ _ _ from HS).mono ?_;rintro e w3 ⟨rfl,kd,rfl⟩;clear HS;go_wp2;go_ret;exact⟨rfl,below_drewN hb3 kd⟩
theorem RSAt.only{w0 W W':World}{z m q:Nat}{vl:Value}{V:Nat->EntV}{L:List z0u}{st:CSt}(h:RSAt w0 W z m q vl V L st)(ho:Only [some 9] W W')(hb:Below w0.heap.size W W'):RSAt w0 W' z m q vl V L st:=
 ⟨ho.block _ _ h.sess (by simp[z5l]),h.shelf.only ho hb (by decide) (by decide) (by decide) (by decide),h.files.only ho (by decide) (by decide),h.agree,h.below.trans hb⟩
theorem not_arm{s:ByteArray}(h:3<s.size->((s.extract 0 4).toList == [97,114,109,32])=false):(32:UInt8)∈s.data.toList->wOf s.data.toList≠cArm:=fun hb e=>by
 obtain⟨h1,_⟩:=z5D hb;rw[e]at h1;have hl:=congrArg List.length h1;have hls:s.data.toList.length=s.size:=by simp
 rw[hls]at hl;simp only[List.length_append,List.length_cons,List.length_nil]at hl;have h2:=h (by omega);rw[beq_eq_false_iff_ne]at h2;apply h2;rw[ByteArray.toList_eq,ByteArray.data_extract,Array.toList_extract];simp only[List.extract_eq_take_drop];rw[h1];rfl
theorem rsat_new(w5:World):RSAt w5 (((w5.alloc (.cells #[.slice none 0 0,.int .i64 0] 33)).alloc (.cells #[.slice none 0 0] 37)).alloc (.cells #[.pointer (some ⟨w5.heap.size,0,none⟩),.pointer (some ⟨w5.heap.size+1,0,none⟩),.string ⟨#[]⟩] 39)) (w5.heap.size+1+1) (w5.heap.size+1) w5.heap.size (.slice none 0 0) (fun _=>⟨none,0,none,0⟩) [] st0/\RLow w5 (w5.heap.size+1+1) (w5.heap.size+1) w5.heap.size:=by
 have hb1:Below w5.heap.size w5 (w5.alloc (.cells #[.slice none 0 0,.int .i64 0] 33)):=(Below.refl _ _).alloc (Nat.le_refl _) _;have hx1:(w5.alloc (.cells #[.slice none 0 0,.int .i64 0] 33)).heap[w5.heap.size]?=some (.cells #[.slice none 0 0,.int .i64 0] 33 (0,0)):=Array.getElem?_push_size;have hs1:(w5.alloc (.cells #[.slice none 0 0,.int .i64 0] 33)).heap.size=w5.heap.size+1:=by simp
 generalize w5.alloc (.cells #[.slice none 0 0,.int .i64 0] 33)=W6 at *;have hb2:Below W6.heap.size W6 (W6.alloc (.cells #[.slice none 0 0] 37)):=(Below.refl _ _).alloc (Nat.le_refl _) _;have hx2:(W6.alloc (.cells #[.slice none 0 0] 37)).heap[W6.heap.size]?=some (.cells #[.slice none 0 0] 37 (0,0)):=Array.getElem?_push_size;have hs2:(W6.alloc (.cells #[.slice none 0 0] 37)).heap.size=W6.heap.size+1:=by simp
 generalize W6.alloc (.cells #[.slice none 0 0] 37)=W7 at *;have hb3:Below W7.heap.size W7 (W7.alloc (.cells (rsessC w5.heap.size (w5.heap.size+1) ⟨#[]⟩) 39)):=(Below.refl _ _).alloc (Nat.le_refl _) _;have hx3:(W7.alloc (.cells (rsessC w5.heap.size (w5.heap.size+1) ⟨#[]⟩) 39)).heap[W7.heap.size]?=some (.cells (rsessC w5.heap.size (w5.heap.size+1) ⟨#[]⟩) 39 (0,0)):=Array.getElem?_push_size;rw[hs2,hs1]at hx3;rw[hs1]at hx2;have hx1':=(hb3.block _ (by omega)).trans ((hb2.block _ (by omega)).trans hx1);have hx2':=(hb3.block _ (by omega)).trans hx2;refine⟨⟨hx3,⟨hx2',⟨World.ownsRow_nil _ _ _ _,fun i hi=>absurd hi (Nat.not_lt_zero _)⟩,by decide,fun i _ hi=>absurd hi (Nat.not_lt_zero _)⟩,⟨Nat.le_refl _,.slice none 0 0,hx1',World.ownsRow_nil _ _ _ _⟩,z3I.empty,?_⟩,⟨by omega,by omega,Nat.le_refl _⟩⟩;exact(hb1.trans (hb2.mono (by omega))).trans (hb3.mono (by omega))
def copyL(X:Nat->ByteArray)(n:Nat):List (List UInt8):=(List.range n).map fun i=>(X i).data.toList
theorem copyL_at{X:Nat->ByteArray}{n i:Nat}(h:i<n):(copyL X n)[i]?=some (X i).data.toList:=by simp[copyL,h]
theorem z7H (X:Nat->ByteArray)(n:Nat):(copyL X n).length=n:=by simp[copyL]
theorem consoleSays_walk(a:Option Addr)(n c:Nat)(X:Nat->ByteArray)(w:World)(hE:Env w)(hr:z1z w a n fun i=>.string (X i))(hf:∀i,i<n->(X i).size<=maxLen) :
 Calls Tryz.prog 3 #[.slice a n c] w fun e w'=>e=.returned (.bool true)/\Below w.heap.size w w':=by
 have HC:=hello_any w hE;go_enter Tryz.func3,Tryz.ntmps3;go_wp2_with fail;refine(show Calls _ _ _ _ _ from HC).mono ?_;rintro e w1 ⟨rfl,hb1⟩;clear HC;by_cases h70:(70:Int)<(n:Int)
 ·go_wp2;go_ret;exact⟨rfl,hb1⟩
 have hr1:=hr.later hb1;have hn70:n<=70:=by omega
 go_wp2;go_loopw [4] (fun y4 wr=>∃i:Nat,i<=n/\y4=.int .i64 i/\wr=w1/\Hid (∀j,j<i->(X j).size<=100/\(3<(X j).size->(((X j).extract 0 4).toList == [97,114,109,32])=false))) (fun y4 _=>n-(intOf y4).toNat)
 case atStart=>exact⟨0,Nat.zero_le _,rfl,rfl,fun j hj=>absurd hj (Nat.not_lt_zero _)⟩
 case round=>
  obtain⟨i,hi,rfl,hw,HJ⟩:=hrel;replace hw:=hw.symm;subst hw;by_cases hlt:i<n
  ·rcases hr1 with h0|⟨bk,o,hao,hcc⟩
   ·omega
   have x0:w1.cell? ⟨bk,o+i,none⟩=some (.string (X i)):=hcc i hlt;have hml:=hf i hlt;subst hao;have hi0:(0:Int)<=(i:Int):=by omega
   have hi1:(i:Int)<(n:Int):=by omega
   have HNX:Hid ((X i).size<=100->(3<(X i).size->(((X i).extract 0 4).toList == [97,114,109,32])=false)->∀j,j<i+1->(X j).size<=100/\(3<(X j).size->(((X j).extract 0 4).toList == [97,114,109,32])=false)):=fun h1 h2 j hj=>by
    by_cases e:j=i
    ·subst e;exact⟨h1,h2⟩
    ·exact HJ.out j (by omega)
   clear hcc HJ hr;generalize X i=x at *;by_cases h1:(100:Int)<(x.size:Int)
   ·go_wp2;go_ret;exact⟨rfl,hb1⟩
   by_cases h3:(3:Int)<(x.size:Int)
   ·have h4:4<=x.size:=by omega
    have h4':(4:Int)<=(x.size:Int):=by omega
    cases hq:((x.extract 0 4).toList == [97,114,109,32])with
    |true=>
     go_wp2;go_ret;exact⟨rfl,hb1⟩
    |false=>
     have HN:=HNX.out (by omega) (fun _=>hq);have HNN:Hid (∀j,j<i+1->(X j).size<=100/\(3<(X j).size->(((X j).extract 0 4).toList == [97,114,109,32])=false)):=HN;clear HN HNX;go_wp2;go_roundw
     case rel=>exact⟨i+1,by omega,by go_num,trivial,HNN⟩
     case measure=>simp[intOf];omega
   ·have HN:=HNX.out (by omega) (fun h=>absurd h (by omega));have HNN:Hid (∀j,j<i+1->(X j).size<=100/\(3<(X j).size->(((X j).extract 0 4).toList == [97,114,109,32])=false)):=HN;clear HN HNX;go_wp2;go_roundw
    case rel=>exact⟨i+1,by omega,by go_num,trivial,HNN⟩
    case measure=>simp[intOf];omega
  ·obtain rfl:i=n:=by omega
   have HARM:Hid (∀j,j<i->(32:UInt8)∈(X j).data.toList->wOf (X j).data.toList≠cArm):=fun j hj=>not_arm (HJ.out j hj).2
   clear HJ hlt;obtain⟨v1,W1,happ1,hG1⟩:=z0J 22 9 1 16 (.string ⟨#[]⟩) (by kernel_rfl) (by kernel_rfl) (by rfl) (by decide) w1.heap.size w1 (.slice none 0 0) 0 [] (World.ownsRow_nil _ _ _ _) a i c (z1A (copyL X i)) (by simp[z1A,copyL]) (hr1.imp id fun⟨bk,o,ha,hcc⟩=>⟨bk,o,ha,fun j u hj=>by
    by_cases hji:j<i
    ·unfold z1A at hj;rw[List.getElem?_map,copyL_at hji]at hj;simp only[Option.map_some,Option.some.injEq]at hj;subst hj;exact hcc j hji
    ·unfold z1A at hj;rw[List.getElem?_map,List.getElem?_eq_none (by rw[z7H];omega)]at hj;cases hj⟩) (strsC_one _) (Nat.le_refl _) (by omega) (by decide)
   rw[Nat.zero_add,List.nil_append]at hG1;obtain⟨a1,c1,rfl,_⟩:=z0c hG1.own;have hbW1:=hb1.trans (hG1.below.mono hb1.size);obtain⟨v2,W2,happ2,hown2,hbg2,_⟩:=growStrs ⟨#[109,97,114,107]⟩ [109,97,114,107] rfl (Nat.le_trans (Nat.le_refl _) hG1.below.size) hG1.own (by omega);obtain⟨a2,c2,rfl,hc2⟩:=z0c hown2;have hb2:=hb1.trans ((hG1.below.trans hbg2).mono hb1.size);have hrow2:z1z W2 a2 i fun j=>.string (X j):=by
    have h2:=strs_row (f:=fun j=>if j<i then X j else⟨#[109,97,114,107]⟩) hown2 fun j hj=>by
     by_cases e:j<i
     ·rw[List.getElem?_append_left (by rw[z7H];exact e),copyL_at e];simp only[if_pos e]
     ·obtain rfl:j=i:=by omega
      rw[List.getElem?_append_right (by rw[z7H];exact Nat.le_refl _),z7H];simp
    rcases h2 with h0|⟨bk,o,ha,hcc⟩
    ·omega
    ·exact .inr ⟨bk,o,ha,fun j hj=>by have:=hcc j (by omega);simp only[if_pos hj]at this;exact this⟩
   have hi0:(0:Int)<=(i:Int):=by omega
   have hic:(i:Int)<=(c2:Int):=by omega
   have hicn:i<=c2:=by omega
   have hE2:=hE.later hb2;have hrl:z1z W2 a i fun j=>.string (X j):=hr.later hb2
   clear hG1 hbW1 hown2 hbg2 hr1 hc2;go_wp2_with (at_builtin;first|refine z0b rfl (.const (.slice none 0 0)) (.tmp 49) 22 rfl _ _ _ rfl rfl happ1 ?_|refine z0b rfl (.tmp 50) (.tmp 51) 22 rfl _ _ _ rfl rfl happ2 ?_);by_cases h60:60<i
   ·have HRM:=runMany_any a2 i c2 W2 h60;have hi60:(60:Int)<(i:Int):=by omega
    refine(show Calls _ _ _ _ _ from HRM).mono ?_;rintro e w5 ⟨rfl,hw5⟩;subst w5;clear HRM;have HS:=same_errV 2 2 W2;rw[show errV 2=.iface 43 (.int .i64 2)from rfl]at HS;rw[show errV 2=.iface 43 (.int .i64 2)from rfl];have HS':Calls Tryz.prog 6 #[.iface 43 (.int .i64 2),.int .i64 2] W2 fun e w'=>e=.returned (.bool true)/\W2=w':=HS
    clear HS;go_wp2_with fail;refine(show Calls _ _ _ _ _ from HS').mono ?_;rintro e w6 ⟨rfl,rfl⟩;clear HS';go_wp2;go_ret;exact⟨rfl,hb2⟩
   have HRUN:=run_any a2 i c2 X W2 hE2 hrow2 (by omega) HARM.out;have hi60:¬(60:Int)<(i:Int):=by omega
   refine(show Calls _ _ _ _ _ from HRUN).mono ?_;rintro e w5 ⟨⟨v5,rfl,hown5,hwell⟩,hb5⟩;clear HRUN;obtain⟨a5,c5,rfl,_⟩:=z0c hown5;have hro:=strs_row (f:=fun j=>⟨(ansAt X j).toArray⟩) hown5 fun j hj=>by rw[ansL_at X hj]
   have hrow5:=hrow2.later hb5;have hrl5:=hrl.later hb5;have hb5':=hb2.trans (hb5.mono hb2.size);have HWELL:Hid (∀j,j<=i->Well (stAt X j) j):=hwell;clear hown5 hwell hb5 hrow2 hrl hb2 hE2;obtain⟨hR0,hlo⟩:=rsat_new w5;go_upto_block 2 with fail;generalize ((w5.alloc (.cells #[.slice none 0 0,.int .i64 0] 33)).alloc (.cells #[.slice none 0 0] 37)).alloc (.cells #[.pointer (some ⟨w5.heap.size,0,none⟩),.pointer (some ⟨w5.heap.size+1,0,none⟩),.string ⟨#[]⟩] 39)=W8 at *;generalize w5.heap.size+1+1=z at *;generalize w5.heap.size+1=m at *;have hlo2:RLow w5 z m w5.heap.size:=hlo;clear hlo;go_wp2;go_loopw [9,10] (fun y9 y10 wz=>∃(j:Nat) (vl:Value) (V:Nat->EntV) (L:List z0u),j<=i/\y10=.int .i64 j/\wz.ownsRow w5.heap.size 9 1 y9 j (z1A (ansL X j))/\RSAt w5 wz z m w5.heap.size vl V L (stAt X j)) (fun _ y10 _=>i-(intOf y10).toNat)
   case atStart=>exact⟨0,_,_,_,Nat.zero_le _,rfl,World.ownsRow_nil _ _ _ _,hR0⟩
   case round=>
    clear hR0;obtain⟨j,vl,V,L,hj,rfl,hrow,hR⟩:=hrel;by_cases hlt:j<i
    ·rcases hrl5.later hR.below with h0|⟨bk,o,hao,hcc⟩
     ·omega
     have x0:wr.cell? ⟨bk,o+j,none⟩=some (.string (X j)):=hcc j hlt;have HA:=say_any w5 wr z m w5.heap.size vl V L (stAt X j) j (X j) hR hlo2 (HWELL.out j (by omega)) (by omega);have hj0:(0:Int)<=(j:Int):=by omega
     have hj1:(j:Int)<(i:Int):=by omega
     have hnx:stAt X (j+1)=(sayC (stAt X j) (z1n (X j).data.toList)).1:=rfl;have hax:ansL X (j+1)=ansL X j++[(sayC (stAt X j) (z1n (X j).data.toList)).2]:=rfl;rw[<-hnx]at HA;obtain⟨a6,c6,rfl,_⟩:=z0c hrow;have HAO:Hid (a=some ⟨bk,o,none⟩):=hao;have HRL:Hid (z1z w5 a i fun j=>.string (X j)):=hrl5;have HRO:Hid (z1z w5 a5 i fun j=>.string ⟨(ansAt X j).toArray⟩):=hro;have HRW:Hid (z1z w5 a2 i fun j=>.string (X j)):=hrow5;rw[hao];clear hcc hrl5 hro hrow5 hao hr;generalize hnS:stAt X (j+1)=S1 at *;generalize hAL:ansL X (j+1)=A1 at *;have HNS:Hid (stAt X (j+1)=S1):=hnS;have HAL:Hid (ansL X (j+1)=A1):=hAL;generalize (sayC (stAt X j) (z1n (X j).data.toList)).2=an at *;have HAX:Hid (A1=ansL X j++[an]):=hax;clear hnx hax hnS hAL hR;generalize X j=ln at *;go_wp2_with fail;refine(show Calls _ _ _ _ _ from HA).mono ?_;rintro e w6 ⟨⟨t,rfl,ht⟩,⟨⟨vl6,V6,L6,hR6⟩,ho6⟩⟩;clear HA x0;have hrow6:=z7G hrow ho6 (by decide);obtain⟨v9,W9,happ,hown,hbg,hgr⟩:=growStrs t an ht hR6.below.size hrow6 (by omega);have hal:Below w6.heap.size w6 (w6.alloc (.cells #[.string t] 9)):=(Below.refl _ _).alloc (Nat.le_refl _) _;have hR8:=hR6.later hal;have hR9:RSAt w5 W9 z m w5.heap.size vl6 V6 L6 S1:=by
      have ho:Only [some 9] (w6.alloc (.cells #[.string t] 9)) W9:=⟨fun k ob hk hob=>(hgr.block k (Array.getElem?_eq_some_iff.1 hk).1 (fun e=>hob (by
       obtain⟨cc,hcc⟩:=z3C (hrow6.alloc (.cells #[.string t] 9)) e.symm;rw[hcc]at hk;injection hk with hk;subst hk;simp[z5l]))).trans hk⟩
      have hb9:Below w5.heap.size (w6.alloc (.cells #[.string t] 9)) W9:=⟨hgr.os,hgr.tape,hgr.output,hgr.size,fun k hk=>hgr.block k (Nat.lt_of_lt_of_le hk hR8.below.size) (fun e=>by
       have:=(hrow6.lt k e.symm).1;omega)⟩
      exact hR8.only ho hb9
     rw[<-HAX.out]at hown;obtain⟨a9,c9,rfl,_⟩:=z0c hown;rw[<-HNS.out]at hR9;rw[<-HAL.out]at hown;clear hrow hrow6 hR6 hR8 ho6 hbg hgr hal ht HNS HAL HAX;go_wp2_with (at_builtin;refine z0b rfl (.tmp 89) (.tmp 91) 22 rfl _ _ _ rfl rfl happ ?_);go_wp2;go_roundw
     case rel=>exact⟨j+1,vl6,V6,L6,by omega,by go_num,hown,hR9⟩
     case measure=>simp[intOf];omega
    ·obtain rfl:j=i:=by omega
     obtain⟨a6,c6,rfl,_⟩:=z0c hrow;have hrw:=strs_row (f:=fun k=>⟨(ansAt X k).toArray⟩) hrow fun k hk=>by rw[ansL_at X hk]
     have HZ:=same_zero wr;have HS1:=z5u (fun k=>⟨(ansAt X k).toArray⟩) (fun k=>⟨(ansAt X k).toArray⟩) j a5 a6 c5 c6 wr (by omega) (hro.later hR.below) hrw (fun _ _=>rfl);have HS2:=fun(W:World) (hW:Below wr.heap.size wr W)=>z5u X X j a2 a c2 c W (by omega) ((hrow5.later hR.below).later hW) ((hrl5.later hR.below).later hW) (fun _ _=>rfl)
     have hbz:=hb5'.trans (hR.below.mono hb5'.size);clear hrow hrw hro hrow5 hrl5 hR hr HARM HWELL;go_wp2_with fail;refine(show Calls _ _ _ _ _ from HZ).mono ?_;rintro e w6 ⟨rfl,rfl⟩;clear HZ;go_wp2_with fail;refine(show Calls _ _ _ _ _ from HS1).mono ?_;rintro e w7 ⟨rfl,k1,rfl⟩;clear HS1;have HS3:=HS2 _ (below_drewN (Below.refl _ wr) k1);clear HS2;go_wp2_with fail;refine(show Calls _ _ _ _ _ from HS3).mono ?_;rintro e w8 ⟨rfl,k2,rfl⟩;clear HS3;go_wp2;go_ret;exact⟨rfl,below_drewN hbz (k1+k2)⟩
end Go.Proofs.YtbcpcbonlhlhpaaGreatDoor
