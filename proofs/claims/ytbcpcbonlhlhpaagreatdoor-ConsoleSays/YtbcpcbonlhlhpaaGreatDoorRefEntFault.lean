/- What EntryFault of the document's answer returns, of any -/
import Derived.Test.YtbcpcbonlhlhpaaGreatDoorEntText
import Derived.Test.YtbcpcbonlhlhpaaGreatDoorPlainCut
set_option maxRecDepth 100000
set_option maxHeartbeats 8000000
namespace Go.Proofs.YtbcpcbonlhlhpaaGreatDoor
open Go.RowKit
theorem faultTo_bad{g:Nat->Nat}{i n:Nat}(h0:z0a g i=0)(hi:i<n)(hb:g i≠0):z0a g n=g i:=by
 induction n with
 |zero=>omega
 |succ n ih=>
  simp only[z0a];by_cases e:i=n
  ·subst e;rw[h0,z0p]
  ·rw[ih (by omega)];unfold seqF;rw[if_neg hb]
theorem seqF_nz{a b:Nat}(h:a≠0):seqF a b=a:=by unfold seqF;rw[if_neg h]
theorem refEntFault_any(v:EntV)(en:EntF)(w:World)(h:z5k w v en)(hf:EntFit en) :
 Calls Tryz.prog 55 #[.agg (z1r v en)] w fun e w'=>e=.returned (.int .i64 ((entF en:Nat):Int))/\Below w.heap.size w w':=by
 have hb0:Below w.heap.size w (w.alloc (.cells (z1r v en) 71)):=(Below.refl _ _).alloc (Nat.le_refl _) _;have hX0:=EntBox.new w v en;have h1:=h.later hb0;obtain⟨aP,cP,aQ,cQ⟩:=v;have c0:=hX0.c0;have c1:=hX0.c1;have c2:=hX0.c2;have hnm:=hf.names;have hnP:=hf.nP;have hnQ:=hf.nQ;unfold maxLen at hnP hnQ;have HC:=z2d en.root (w.alloc (.cells (z1r ⟨aP,cP,aQ,cQ⟩ en) 71)) hf.root;obtain⟨F,hF⟩:∃F,entF en=F:=⟨_,rfl⟩;rw[hF];have HF:Hid (entF en=F):=hF;unfold entF at hF;clear h hf hX0;unfold z1r at *;dsimp only at *;generalize hW:w.alloc (.cells #[.string en.root,.slice aP en.nP cP,.slice aQ en.nQ cQ] 71)=W at *;by_cases hn:z0r en.root.data.toList=0
 ·rw[hn]at HC hF;rw[z0p]at hF;by_cases hm47:(en.nP:Int)<1
  ·have HE:Hid (F=2):=by
    show F=2;rw[<-hF,if_neg (by unfold z3f;simp;omega),seqF_nz (by decide)]
   clear hF;go_enter Tryz.func55,Tryz.ntmps55;go_wp2_with fail;refine(show Calls _ _ _ _ _ from HC).mono ?_;rintro e w1 ⟨rfl,hw1⟩;subst hw1;clear HC;go_wp2;go_ret;exact⟨by rw[HE.out];rfl,hb0⟩
  by_cases hm61:(6:Int)<(en.nP:Int)
  ·have HE:Hid (F=2):=by
    show F=2;rw[<-hF,if_neg (by unfold z3f;simp;omega),seqF_nz (by decide)]
   clear hF;go_enter Tryz.func55,Tryz.ntmps55;go_wp2_with fail;refine(show Calls _ _ _ _ _ from HC).mono ?_;rintro e w1 ⟨rfl,hw1⟩;subst hw1;clear HC;go_wp2;go_ret;exact⟨by rw[HE.out];rfl,hb0⟩
  by_cases hm75:(36:Int)<(en.nQ:Int)
  ·have HE:Hid (F=2):=by
    show F=2;rw[<-hF,if_neg (by unfold z3f;simp;omega),seqF_nz (by decide)]
   clear hF;go_enter Tryz.func55,Tryz.ntmps55;go_wp2_with fail;refine(show Calls _ _ _ _ _ from HC).mono ?_;rintro e w1 ⟨rfl,hw1⟩;subst hw1;clear HC;go_wp2;go_ret;exact⟨by rw[HE.out];rfl,hb0⟩
  rw[if_pos (by unfold z3f;simp;omega),z0p]at hF;have HFF:Hid (seqF (z4H en en.nP) (z2w en en.nQ)=F):=hF;have hm6:en.nP<=6:=by omega
  have hm36:en.nQ<=36:=by omega
  clear hF;go_enter Tryz.func55,Tryz.ntmps55;go_wp2_with fail;refine(show Calls _ _ _ _ _ from HC).mono ?_;rintro e w1 ⟨rfl,hw1⟩;subst hw1;clear HC;go_wp2;go_loopw [4] (fun y wr=>∃i:Nat,i<=en.nP/\y=.int .i64 i/\Hid (z4H en i=0)/\Below W.heap.size W wr) (fun y _=>en.nP-(intOf y).toNat)
  case atStart=>exact⟨0,Nat.zero_le _,rfl,rfl,Below.refl _ _⟩
  case round=>
   obtain⟨i,hi,rfl,HK,hbr⟩:=hrel;have c1r:=cell_later hbr c1;have hbw:Below w.heap.size w wr:=hb0.trans (hbr.mono hb0.size);by_cases hlt:i<en.nP
   ·have hprt:RowE wr aP en.nP en.pName en.pStamp en.pBase:=(h1.later hbr).parts;rcases hprt with h0|⟨bk,o,rfl,hc⟩
    ·omega
    obtain⟨x0,x1,x2⟩:=hc i hlt;have hi0:(0:Int)<=(i:Int):=by omega
    have hi1:(i:Int)<(en.nP:Int):=by omega
    have HBAD:Hid (z0P (en.pName i) (en.pStamp i) (en.pBase i)≠0->F=z0P (en.pName i) (en.pStamp i) (en.pBase i)):=fun hb=>by
     rw[<-HFF.out];unfold z4H;rw[faultTo_bad HK.out hlt hb,seqF_nz hb]
    have HGOOD:Hid (z0P (en.pName i) (en.pStamp i) (en.pBase i)=0->z4H en (i+1)=0):=fun hs=>z0L HK.out hs
    have HN:=z2d (en.pName i) (wr.alloc (.cells #[.string (en.pName i),.int .i64 (en.pStamp i),.int .i64 (en.pBase i)] 112)) (hnm i hlt);have hbn:Below wr.heap.size wr (wr.alloc (.cells #[.string (en.pName i),.int .i64 (en.pStamp i),.int .i64 (en.pBase i)] 112)):=(Below.refl _ _).alloc (Nat.le_refl _) _;have d0:(wr.alloc (.cells #[.string (en.pName i),.int .i64 (en.pStamp i),.int .i64 (en.pBase i)] 112)).cell? ⟨wr.heap.size,0,none⟩=some (.string (en.pName i)):=by simp[go_sem]
    have d1:(wr.alloc (.cells #[.string (en.pName i),.int .i64 (en.pStamp i),.int .i64 (en.pBase i)] 112)).cell? ⟨wr.heap.size,1,none⟩=some (.int .i64 (en.pStamp i)):=by simp[go_sem]
    have d2:(wr.alloc (.cells #[.string (en.pName i),.int .i64 (en.pStamp i),.int .i64 (en.pBase i)] 112)).cell? ⟨wr.heap.size,2,none⟩=some (.int .i64 (en.pBase i)):=by simp[go_sem]
    have hbB:=hbw.trans (hbn.mono hbw.size);have hbR:=hbr.trans (hbn.mono hbr.size);unfold z0P at HBAD HGOOD;generalize en.pName i=nm at *;generalize en.pStamp i=st at *;generalize en.pBase i=ba at *;clear hc hbn HK hbr hbw HFF;generalize hNF:z0r nm.data.toList=NF at *;clear hNF;by_cases hNF0:NF=0
    ·subst hNF0;rw[z0p]at HBAD HGOOD;by_cases hq1:st<1
     ·have HE:Hid (F=1):=by
       have:=HBAD.out;rw[if_pos (by omega)]at this;exact this (by decide)
      clear HBAD HGOOD;go_wp2_with fail;refine(show Calls _ _ _ _ _ from HN).mono ?_;rintro e w2 ⟨rfl,hw2⟩;subst hw2;clear HN;go_wp2;go_ret;exact⟨by rw[HE.out];rfl,hbB⟩
     by_cases hq2:1000000<st
     ·have HE:Hid (F=1):=by
       have:=HBAD.out;rw[if_pos (by omega)]at this;exact this (by decide)
      clear HBAD HGOOD;go_wp2_with fail;refine(show Calls _ _ _ _ _ from HN).mono ?_;rintro e w2 ⟨rfl,hw2⟩;subst hw2;clear HN;go_wp2;go_ret;exact⟨by rw[HE.out];rfl,hbB⟩
     by_cases hq3:ba<0
     ·have HE:Hid (F=1):=by
       have:=HBAD.out;rw[if_neg (by omega),if_pos (by omega)]at this;exact this (by decide)
      clear HBAD HGOOD;go_wp2_with fail;refine(show Calls _ _ _ _ _ from HN).mono ?_;rintro e w2 ⟨rfl,hw2⟩;subst hw2;clear HN;go_wp2;go_ret;exact⟨by rw[HE.out];rfl,hbB⟩
     by_cases hq4:255<ba
     ·have HE:Hid (F=1):=by
       have:=HBAD.out;rw[if_neg (by omega),if_pos (by omega)]at this;exact this (by decide)
      clear HBAD HGOOD;go_wp2_with fail;refine(show Calls _ _ _ _ _ from HN).mono ?_;rintro e w2 ⟨rfl,hw2⟩;subst hw2;clear HN;go_wp2;go_ret;exact⟨by rw[HE.out];rfl,hbB⟩
     by_cases hq5:0<ba % 16
     ·have HE:Hid (F=1):=by
       have:=HBAD.out;rw[if_neg (by omega),if_pos (by omega)]at this;exact this (by decide)
      clear HBAD HGOOD;go_wp2_with fail;refine(show Calls _ _ _ _ _ from HN).mono ?_;rintro e w2 ⟨rfl,hw2⟩;subst hw2;clear HN;go_wp2;go_ret;exact⟨by rw[HE.out];rfl,hbB⟩
     have HG:Hid (z4H en (i+1)=0):=HGOOD.out (by rw[if_neg (by omega),if_neg (by omega)]);have hq0:0<=ba:=by omega
     clear HBAD HGOOD;go_wp2_with fail;refine(show Calls _ _ _ _ _ from HN).mono ?_;rintro e w2 ⟨rfl,hw2⟩;subst hw2;clear HN;go_wp2;go_roundw
     case rel=>exact⟨i+1,by omega,by go_num,HG,hbR⟩
     case measure=>simp[intOf];omega
    ·have HE:Hid (F=NF):=by
      have:=HBAD.out;rw[seqF_nz hNF0]at this;exact this hNF0
     have hpos:(0:Int)<(NF:Int):=by omega
     clear HBAD HGOOD;go_wp2_with fail;refine(show Calls _ _ _ _ _ from HN).mono ?_;rintro e w2 ⟨rfl,hw2⟩;subst hw2;clear HN;go_wp2;go_ret;exact⟨z3l (by rw[HE.out]),hbB⟩
   ·obtain rfl:i=en.nP:=by omega
    have HFF2:Hid (z2w en en.nQ=F):=by rw[<-HFF.out,HK.out,z0p];exact rfl
    clear HK HFF;have c2r:=cell_later hbr c2;go_wp2;go_loopw [7] (fun y w5=>∃j:Nat,j<=en.nQ/\y=.int .i64 j/\Hid (z2w en j=0)/\Below W.heap.size W w5) (fun y _=>en.nQ-(intOf y).toNat)
    case atStart=>exact⟨0,Nat.zero_le _,rfl,rfl,hbr⟩
    case round=>
     clear hbr hbw c2r c1r;obtain⟨j,hj,rfl,HK,hbr⟩:=hrel;have c1r:=cell_later hbr c1;have c2r:=cell_later hbr c2;have hbw:Below w.heap.size w wr:=hb0.trans (hbr.mono hb0.size);by_cases hlt2:j<en.nQ
     ·have hprt:z6m wr aQ en.nQ en.qPart en.qAt en.qWord:=(h1.later hbr).pats;rcases hprt with h0|⟨bk,o,rfl,hc⟩
      ·omega
      obtain⟨x0,x1,x2⟩:=hc j hlt2;have hi0:(0:Int)<=(j:Int):=by omega
      have hi1:(j:Int)<(en.nQ:Int):=by omega
      have HBAD:Hid (z1d en.nP (en.qPart j) (en.qAt j) (en.qWord j)≠0->F=z1d en.nP (en.qPart j) (en.qAt j) (en.qWord j)):=fun hb=>by
       rw[<-HFF2.out];unfold z2w;rw[faultTo_bad HK.out hlt2 hb]
      have HGOOD:Hid (z1d en.nP (en.qPart j) (en.qAt j) (en.qWord j)=0->z2w en (j+1)=0):=fun hs=>z0L HK.out hs
      have HN:=z7r (en.qWord j) (wr.alloc (.cells #[.int .i64 (en.qPart j),.int .i64 (en.qAt j),.int .i64 (en.qWord j)] 114));have hbn:Below wr.heap.size wr (wr.alloc (.cells #[.int .i64 (en.qPart j),.int .i64 (en.qAt j),.int .i64 (en.qWord j)] 114)):=(Below.refl _ _).alloc (Nat.le_refl _) _;have d0:(wr.alloc (.cells #[.int .i64 (en.qPart j),.int .i64 (en.qAt j),.int .i64 (en.qWord j)] 114)).cell? ⟨wr.heap.size,0,none⟩=some (.int .i64 (en.qPart j)):=by simp[go_sem]
      have d1:(wr.alloc (.cells #[.int .i64 (en.qPart j),.int .i64 (en.qAt j),.int .i64 (en.qWord j)] 114)).cell? ⟨wr.heap.size,1,none⟩=some (.int .i64 (en.qAt j)):=by simp[go_sem]
      have d2:(wr.alloc (.cells #[.int .i64 (en.qPart j),.int .i64 (en.qAt j),.int .i64 (en.qWord j)] 114)).cell? ⟨wr.heap.size,2,none⟩=some (.int .i64 (en.qWord j)):=by simp[go_sem]
      have c1n:=cell_later hbn c1r;have hbB:=hbw.trans (hbn.mono hbw.size);have hbR:=hbr.trans (hbn.mono hbr.size);unfold z1d z0j at HBAD HGOOD;generalize en.qPart j=pp at *;generalize en.qAt j=tt at *;generalize en.qWord j=xx at *;clear hc hbn HK hbr hbw HFF2;generalize hMM:z0y xx=MM at *;clear hMM;by_cases hq1:pp<0
      ·have HE:Hid (F=1):=by
        have:=HBAD.out;rw[if_neg (by simp;intros;omega)]at this;exact this (by decide)
       clear HBAD HGOOD;go_wp2_with fail;refine(show Calls _ _ _ _ _ from HN).mono ?_;rintro e w2 ⟨rfl,hw2⟩;subst hw2;clear HN;go_wp2;go_ret;exact⟨by rw[HE.out];rfl,hbB⟩
      by_cases hq2:(en.nP:Int)<=pp
      ·have HE:Hid (F=1):=by
        have:=HBAD.out;rw[if_neg (by simp;intros;omega)]at this;exact this (by decide)
       clear HBAD HGOOD;go_wp2_with fail;refine(show Calls _ _ _ _ _ from HN).mono ?_;rintro e w2 ⟨rfl,hw2⟩;subst hw2;clear HN;go_wp2;go_ret;exact⟨by rw[HE.out];rfl,hbB⟩
      by_cases hq3:tt<0
      ·have HE:Hid (F=1):=by
        have:=HBAD.out;rw[if_neg (by simp;intros;omega)]at this;exact this (by decide)
       clear HBAD HGOOD;go_wp2_with fail;refine(show Calls _ _ _ _ _ from HN).mono ?_;rintro e w2 ⟨rfl,hw2⟩;subst hw2;clear HN;go_wp2;go_ret;exact⟨by rw[HE.out];rfl,hbB⟩
      by_cases hq4:39<tt
      ·have HE:Hid (F=1):=by
        have:=HBAD.out;rw[if_neg (by simp;intros;omega)]at this;exact this (by decide)
       clear HBAD HGOOD;go_wp2_with fail;refine(show Calls _ _ _ _ _ from HN).mono ?_;rintro e w2 ⟨rfl,hw2⟩;subst hw2;clear HN;go_wp2;go_ret;exact⟨by rw[HE.out];rfl,hbB⟩
      by_cases hq5:MM=false
      ·have HE:Hid (F=1):=by
        have:=HBAD.out;rw[if_neg (by simp;intros;simp[hq5])]at this;exact this (by decide)
       clear HBAD HGOOD;subst hq5;go_wp2_with fail;refine(show Calls _ _ _ _ _ from HN).mono ?_;rintro e w2 ⟨rfl,hw2⟩;subst hw2;clear HN;go_wp2;go_ret;exact⟨by rw[HE.out];rfl,hbB⟩
      have hq6:MM=true:=by simpa using hq5
      have HG:Hid (z2w en (j+1)=0):=HGOOD.out (by rw[if_pos (by simp[hq6];omega)]);subst hq6;clear HBAD HGOOD hq5;go_wp2_with fail;refine(show Calls _ _ _ _ _ from HN).mono ?_;rintro e w2 ⟨rfl,hw2⟩;subst hw2;clear HN;go_wp2;go_roundw
      case rel=>exact⟨j+1,by omega,by go_num,HG,hbR⟩
      case measure=>simp[intOf];omega
     ·obtain rfl:j=en.nQ:=by omega
      have HE:Hid (F=0):=by rw[<-HFF2.out,HK.out];exact rfl
      go_wp2;go_ret;exact⟨by rw[HE.out];rfl,hbw⟩
 ·have HE:Hid (F=z0r en.root.data.toList):=by
   show F=_;rw[<-hF,seqF_nz hn]
  clear hF;generalize z0r en.root.data.toList=NF at *;have hpos:(0:Int)<(NF:Int):=by omega
  go_enter Tryz.func55,Tryz.ntmps55;go_wp2_with fail;refine(show Calls _ _ _ _ _ from HC).mono ?_;rintro e w1 ⟨rfl,hw1⟩;subst hw1;clear HC;go_wp2;go_ret;exact⟨z3l (by rw[HE.out]),hb0⟩
end Go.Proofs.YtbcpcbonlhlhpaaGreatDoor
