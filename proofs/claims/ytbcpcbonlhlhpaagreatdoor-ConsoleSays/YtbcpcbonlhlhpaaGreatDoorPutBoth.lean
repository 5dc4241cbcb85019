/- What the document's Patches returns, for objects that may -/
import Derived.Test.YtbcpcbonlhlhpaaGreatDoorRefFound
import Derived.RegionTactic
import Derived.BigRegion
import Derived.Deep.RegionWith
import Derived.Deep.CutRange
set_option maxRecDepth 100000
set_option maxHeartbeats 8000000
namespace Go.Proofs.YtbcpcbonlhlhpaaGreatDoor
section
open Go.RowKit
theorem wordMayQ_any(n:Int)(w:World):Calls Tryz.prog 54 #[.int .i64 n] w fun e w'=>e=.returned (.bool (z0y n))/\w=w':=by
 by_cases h1:-2147483648<=n
 all_goals by_cases h2:n<=2147483647
 all_goals
  go_enter Tryz.func54,Tryz.ntmps54;go_wp2;go_ret;exact⟨z0w (by simp[z0y] <;> omega),rfl⟩
structure TieIn(w:World)(bt:Nat)(x k d:Int)(s:ByteArray)(b:Bool):Prop where
 c0:w.cell? ⟨bt,0,none⟩=some (.int .i64 x)
 c1:w.cell? ⟨bt,1,none⟩=some (.int .i64 k)
 c2:w.cell? ⟨bt,2,none⟩=some (.int .i64 d)
 c3:w.cell? ⟨bt,3,none⟩=some (.string s)
 c4:w.cell? ⟨bt,4,none⟩=some (.bool b)
theorem TieIn.later{w w':World}{bt:Nat}{x k d:Int}{s:ByteArray}{b:Bool}(h:TieIn w bt x k d s b)(hb:Below w.heap.size w w'):TieIn w' bt x k d s b:=
 ⟨cell_later hb h.c0,cell_later hb h.c1,cell_later hb h.c2,cell_later hb h.c3,cell_later hb h.c4⟩
inductive RefAllEnd (w:World) (B:Nat) (l:List (Nat×Int×Int)) (F:Nat):Ending->Prop
 |bad (hf:F≠0):RefAllEnd w B l F (.returned (.tuple #[.slice none 0 0,.int .i64 (F:Int)]))
 |ok (hf:F=0) (v:Value) (hv:w.ownsRow B 114 3 v l.length (z3x l)):RefAllEnd w B l F (.returned (.tuple #[v,.int .i64 0]))
theorem hangF_near{k bi x d p:Int}(h3:k=3)(z:¬(p+d-(bi+x) < -500∨500<p+d-(bi+x))):z3a k bi x d (some p)=(0,p+d-(bi+x)):=by
 simp only[z3a];rw[if_pos h3,if_neg z]
theorem hangF_nearFar{k bi x d p:Int}(h3:k=3)(z:p+d-(bi+x) < -500∨500<p+d-(bi+x)):z3a k bi x d (some p)=(7,0):=by
 simp only[z3a];rw[if_pos h3,if_pos z]
theorem hangF_whole{k bi x d p:Int}(h3:k≠3)(z:z0y (p+d)=true):z3a k bi x d (some p)=(0,p+d):=by
 simp only[z3a];rw[if_neg h3,if_pos z]
theorem hangF_far{k bi x d p:Int}(h3:k≠3)(z:z0y (p+d)=false):z3a k bi x d (some p)=(7,0):=by
 simp only[z3a];rw[if_neg h3,if_neg (by simp[z])]
theorem whereG_none{O:Nat->ObjF}{P Q:ByteArray->Int}{B:Nat->Int}{bi k:Int}{s:ByteArray}{b:Bool}(h:z2V O P Q B bi k s b=none):k≠1/\¬0<=P s/\b=false:=by
 unfold z2V at h;split at h
 ·cases h
 split at h
 ·cases h
 split at h
 ·cases h
 ·rename_i h1 h2 h3;exact⟨h1,h2,by simpa using h3⟩
theorem whereG_one{O:Nat->ObjF}{P Q:ByteArray->Int}{B:Nat->Int}{bi k:Int}{s:ByteArray}{b:Bool}{p:Int}(h:z2V O P Q B bi k s b=some p):(k=1/\p=bi)∨(k≠1/\0<=P s/\p=B (P s).toNat+(O (P s).toNat).sAt (Q s).toNat)∨(k≠1/\¬0<=P s/\b=true/\p=0):=by
 unfold z2V at h;split at h
 ·rename_i h1;injection h with h;exact .inl ⟨h1,h.symm⟩
 split at h
 ·rename_i h1 h2;injection h with h;exact .inr (.inl ⟨h1,h2,h.symm⟩)
 split at h
 ·rename_i h1 h2 h3;injection h with h;exact .inr (.inr ⟨h1,h2,h3,h.symm⟩)
 ·cases h
theorem refPatches_any(al ab:Option Addr)(n cl nb cb:Nat)(V:Nat->ObjV)(O:Nat->ObjF)(B:Nat->Int)(P Q:ByteArray->Int)(w:World)(hn:n<=1000)(hnb:nb<=maxLen)(hr:z3U w al n V O)(hrb:z1z w ab nb fun i=>.int .i64 (B i))(hg:∀i,i<n->z3J (O i))(hP:z5p (z1T n O) P Q) :
 Calls Tryz.prog 58 #[.slice al n cl,.slice ab nb cb] w fun e w'=>RefAllEnd w' w.heap.size (z0A O P Q B n) (allF n O P Q nb B) e/\Below w.heap.size w w':=by
 unfold maxLen at hnb;generalize hF:allF n O P Q nb B=F;unfold allF at hF;by_cases h1:nb=n
 ·subst h1;rw[if_neg (by simp)]at hF;have HF0:Hid ((if z0H (fun i=>decide (B i<0∨256<B i)) nb=true then 1 else tiesF O P Q B nb)=F):=hF;clear hF;go_enter Tryz.func58,Tryz.ntmps58;go_wp2;go_loopw [6] (fun x wr=>∃k:Nat,k<=nb/\x=.int .i64 k/\wr=w/\Hid (z0H (fun i=>decide (B i<0∨256<B i)) k=false)) (fun x _=>nb-(intOf x).toNat)
  case atStart=>exact⟨0,Nat.zero_le _,rfl,rfl,rfl⟩
  case round=>
   obtain⟨k,hk,rfl,hw,HK⟩:=hrel;replace hw:=hw.symm;subst hw;by_cases hlt:k<nb
   ·rcases hrb with h0|⟨b,o,rfl,hc⟩
    ·omega
    have hck:=hc k hlt;clear hc;by_cases hz:B k<0∨256<B k
    ·have HE:Hid (F=1):=by
      show F=1;rw[<-HF0.out,if_pos (z1D hlt (decide_eq_true hz))]
     by_cases hz1:B k<0
     ·clear hz;go_wp2;go_ret2;rw[HE.out];exact⟨.bad (by decide),Below.refl _ _⟩
     ·have hz2:256<B k:=by omega
      clear hz;go_wp2;go_ret2;rw[HE.out];exact⟨.bad (by decide),Below.refl _ _⟩
    ·have HE:Hid (z0H (fun i=>decide (B i<0∨256<B i)) (k+1)=false):=z2U HK.out (decide_eq_false hz);have hz1:¬B k<0:=by omega
     have hz2:¬256<B k:=by omega
     clear hz;go_wp2;go_roundw
     case rel=>exact⟨k+1,by omega,by go_num,trivial,HE⟩
     case measure=>simp[intOf];omega
   ·have e:k=nb:=by omega
    have hq:¬outB B nb=true:=by
     show ¬z0H (fun i=>decide (B i<0∨256<B i)) nb=true;rw[<-e,HK.out];decide
    have HF:Hid (tiesF O P Q B nb=F):=by
     have:=HF0.out;rw[if_neg (show ¬z0H (fun i=>decide (B i<0∨256<B i)) nb=true from hq)]at this;exact this
    have hin:PatIn w al nb V O ab B:=⟨hr,hrb,hg,outB_no hq,hn⟩;clear HF0 HK hq hr hrb hnb;subst e;go_wp2;go_loopw [7,8] (fun x z wr=>∃(i:Nat) (v:Value),i<=k/\z=.int .i64 i/\x=v/\wr.ownsRow w.heap.size 114 3 v (z0A O P Q B i).length (z3x (z0A O P Q B i))/\Hid (tiesF O P Q B i=0)/\Below w.heap.size w wr) (fun _ z _=>k-(intOf z).toNat)
    case atStart=>exact⟨0,.slice none 0 0,Nat.zero_le _,rfl,rfl,World.ownsRow_nil _ _ _ _,rfl,Below.refl _ _⟩
    case round=>
     obtain⟨i,v,hi,rfl,rfl,ho,HT,hb⟩:=hrel;by_cases hlt:i<k
     ·have hgi:=hg i hlt;have hnT:=hgi.nT;have hlen:=z6H P Q B (i:=i) (fun j hj=>(hg j (by omega)).nT);have hin1:=hin.objs;rcases hin1 with h0|⟨bk,o,rfl,hc⟩
      ·omega
      go_wp2;go_loopw [7,9] (fun x z wr=>∃(m:Nat) (v:Value),m<=(O i).nT/\z=.int .i64 m/\x=v/\wr.ownsRow w.heap.size 114 3 v (z0A O P Q B i++z1E O P Q B i m).length (z3x (z0A O P Q B i++z1E O P Q B i m))/\Hid (z0a (fun k=>(tieW O P Q B i k).1) m=0)/\Below w.heap.size w wr) (fun _ z _=>(O i).nT-(intOf z).toNat)
      case atStart=>exact⟨0,_,Nat.zero_le _,rfl,rfl,by simpa[z1E]using ho,rfl,hb⟩
      case round=>
       clear ho hb;obtain⟨m,v,hm,rfl,rfl,ho,HK,hb⟩:=hrel;have H:=(hc i hlt).later hb;have c3:=H.c3;by_cases hlm:m<(O i).nT
       ·have htk:=hgi.ties m hlm;rcases H.here.ties with h0|⟨b2,o2,ha2,hs2⟩
        ·omega
        obtain⟨d0,d1,d2,d3,d4⟩:=hs2 m hlm;rw[ha2]at c3;clear hs2 H hc;have hx:∀ob:Obj,Below w.heap.size w (wr.alloc ob):=fun ob=>hb.alloc hb.size ob
        have hT0:TieIn (wr.alloc (.cells #[.int .i64 ((O i).tAt m),.int .i64 ((O i).tKind m),.int .i64 ((O i).tAdd m),.string ((O i).tName m),.bool ((O i).tWeak m)] 98)) wr.heap.size ((O i).tAt m) ((O i).tKind m) ((O i).tAdd m) ((O i).tName m) ((O i).tWeak m):=
         ⟨by simp[go_sem],by simp[go_sem],by simp[go_sem],by simp[go_sem],by simp[go_sem]⟩
        have hX:=hx (.cells #[.int .i64 ((O i).tAt m),.int .i64 ((O i).tKind m),.int .i64 ((O i).tAdd m),.string ((O i).tName m),.bool ((O i).tWeak m)] 98);have hoX:=ho.alloc (.cells #[.int .i64 ((O i).tAt m),.int .i64 ((O i).tKind m),.int .i64 ((O i).tAdd m),.string ((O i).tName m),.bool ((O i).tWeak m)] 98);have hTW:tieW O P Q B i m=z3a ((O i).tKind m) (B i) ((O i).tAt m) ((O i).tAdd m) (z2V O P Q B (B i) ((O i).tKind m) ((O i).tName m) ((O i).tWeak m)):=rfl;have hFnd:=fun(w':World) (hb:Below w.heap.size w w')=>refFound_any (some ⟨bk,o,none⟩) k cl V O ((O i).tName m) w' (by omega) (fun j hj=>by have:=(hg j hj).nS;omega) (hin.objs.later hb)
        have hln:=patsOf_len O P Q B i m;have hWn:=hgi.nW;have hstop:(tieW O P Q B i m).1≠0->F=(tieW O P Q B i m).1:=fun hf=>by
         rw[<-HF.out];have e1:z0a (fun k=>(tieW O P Q B i k).1) (O i).nT=(tieW O P Q B i m).1:=z0E hlm HK.out hf;have e2:=z0E (g:=fun i=>z0a (fun k=>(tieW O P Q B i k).1) (O i).nT) hlt HT.out (by rw[e1];exact hf);exact e2.trans e1
        have cq1:=hT0.c1;have cq2:=hT0.c2;go_upto_if 66 with fail;clear cq1 cq2;generalize hbt:wr.heap.size=bt at *;generalize wr.alloc (.cells #[.int .i64 ((O i).tAt m),.int .i64 ((O i).tKind m),.int .i64 ((O i).tAdd m),.string ((O i).tName m),.bool ((O i).tWeak m)] 98)=X at *;clear d0 d1 d2 d3 d4 c3 hbt hx ho hb;cases hW:z2V O P Q B (B i) ((O i).tKind m) ((O i).tName m) ((O i).tWeak m)with
        |none=>
         rw[hW]at hTW;have HE:Hid (F=6):=by
          have:=hstop (by rw[hTW];simp[z3a]);rw[hTW]at this;exact this
         obtain⟨w1,w2,w3⟩:=whereG_none hW;have k1:((O i).tKind m==1)=false:=by rw[beq_eq_false_iff_ne];exact w1
         have c1:=hT0.c1;have c3:=hT0.c3;have c4:=hT0.c4;rw[w3]at c4;have hPs:P ((O i).tName m)=-1/\Q ((O i).tName m)=-1:=by
          rcases hP.shape ((O i).tName m)with h|⟨x,y,h,_⟩
          ·exact h
          ·omega
         clear hTW hW w1 w2 w3 hstop hT0 hoX;go_wp2_with fail;refine(hFnd _ hX).mono ?_;rintro e w2 ⟨⟨p,q,rfl,hFd⟩,hb2⟩;obtain⟨rfl,rfl⟩:=hP.eq hFd;rw[hPs.1,hPs.2];replace c4:=cell_later hb2 c4;have hb3:=hX.trans (hb2.mono hX.size);clear hFnd hFd hb2 c1 c3 hPs hX;go_wp2;go_ret2;rw[HE.out];exact⟨.bad (by decide),hb3⟩
        |some p=>
         rw[hW]at hTW;have hp:=whereG_in hin hP hlt hW;have hone:=whereG_one hW;have hBi:=hin.inW i hlt;clear hW;go_cut [11,12,13]from 66 to 104 (fun v _ _ wc=>v=.int .i64 (p+(O i).tAdd m)/\TieIn wc bt ((O i).tAt m) ((O i).tKind m) ((O i).tAdd m) ((O i).tName m) ((O i).tWeak m)/\wc.ownsRow w.heap.size 114 3 u7 (z0A O P Q B i++z1E O P Q B i m).length (z3x (z0A O P Q B i++z1E O P Q B i m))/\Below w.heap.size w wc)
         case first=>
          have c1:=hT0.c1;have c3:=hT0.c3;have c4:=hT0.c4;rcases hone with⟨k1,hpe⟩|⟨k1,hP0,hpe⟩|⟨k1,hP0,hwk,hpe⟩
          ·have k1':((O i).tKind m==1)=true:=by rw[beq_iff_eq];exact k1
           rcases hin.bases with h0|⟨bb,ob,rfl,hcb⟩
           ·omega
           have hci:=cell_later hX (hcb i hlt);have HPE:Hid (p=B i):=hpe;clear hcb k1 hpe hFnd;go_wp2;go_meet;exact⟨by rw[HPE.out];go_num,hT0,hoX,hX⟩
          ·have k1':((O i).tKind m==1)=false:=by rw[beq_eq_false_iff_ne];exact k1
           rcases hP.shape ((O i).tName m)with⟨e1,_⟩|⟨x,y,e1,e2,hxn,hyn,_⟩
           ·omega
           have hx':x<k:=hxn;have hy':y<(O x).nS:=hyn;have hBx:=hin.inW x hx';have hSy:=((hg x hx').syms y hy').2;have hWx:=(hg x hx').nW;have hSx:=(hg x hx').nS;have HPE:Hid (p=B x+(O x).sAt y):=by
            show p=_;rw[hpe,e1,e2];rfl
           rcases hin.bases with h0|⟨bb,ob,rfl,hcb⟩
           ·omega
           rcases hin.objs with h0|⟨bl,ol,hal,hcl⟩
           ·omega
           injection hal with hal;injection hal with hal1 hal2;subst hal1 hal2;have hcx:=hcb x hx';have hH:=hcl x hx';have hc2:=hH.c2;rcases hH.here.syms with h0|⟨bs,os,ha,hs⟩
           ·omega
           rw[ha]at hc2;have hsy:=(hs y hy').2.1;clear hcb hcl hH hs k1 hpe hP0;go_wp2_with fail;refine(hFnd _ hX).mono ?_;rintro e w2 ⟨⟨p2,q2,rfl,hFd⟩,hb2⟩;obtain⟨rfl,rfl⟩:=hP.eq hFd;rw[e1,e2];have hb3:=hX.trans (hb2.mono hX.size);replace hT0:=hT0.later hb2;replace hoX:=z0e hoX hb2;replace hcx:=cell_later hb3 hcx;replace hc2:=cell_later hb3 hc2;replace hsy:=cell_later hb3 hsy;replace c4:=hT0.c4;clear hFnd hFd hb2 c1 c3 hX e1 e2;go_wp2;go_quiet (fail);go_wp2;go_meet;exact⟨by rw[HPE.out];go_num,hT0.later (below_drewN (Below.refl _ _) _),z0e hoX (below_drewN (Below.refl _ _) _),below_drewN hb3 _⟩
          ·have k1':((O i).tKind m==1)=false:=by rw[beq_eq_false_iff_ne];exact k1
           have hPs:P ((O i).tName m)=-1/\Q ((O i).tName m)=-1:=by
            rcases hP.shape ((O i).tName m)with h|⟨x,y,h,_⟩
            ·exact h
            ·omega
           have HPE:Hid (p=0):=hpe;rw[hwk]at c4;clear k1 hP0 hpe hwk;go_wp2_with fail;refine(hFnd _ hX).mono ?_;rintro e w2 ⟨⟨p2,q2,rfl,hFd⟩,hb2⟩;obtain⟨rfl,rfl⟩:=hP.eq hFd;rw[hPs.1,hPs.2];have hb3:=hX.trans (hb2.mono hX.size);replace hT0:=hT0.later hb2;replace hoX:=z0e hoX hb2;replace c4:=cell_later hb2 c4;clear hFnd hFd hb2 c1 c3 hX hPs;go_wp2;go_meet;exact⟨by rw[HPE.out];go_num,hT0,hoX,hb3⟩
         case rest=>
          obtain⟨rfl,hT,hoC,hC⟩:=hcut;have c0:=hT.c0;have c1:=hT.c1;have htk1:=htk.2.2.1;have htk2:=htk.2.2.2.1;have htk3:=htk.1;have htk4:=htk.2.1;clear hone hFnd hX hoX hT0 htk;by_cases h3:(O i).tKind m=3
          ·have h3':((O i).tKind m==3)=true:=by rw[beq_iff_eq];exact h3
           rcases hin.bases with h0|⟨bb,ob,rfl,hcb⟩
           ·omega
           have hci:=cell_later hC (hcb i hlt);clear hcb;by_cases z:p+(O i).tAdd m-(B i+(O i).tAt m) < -500∨500<p+(O i).tAdd m-(B i+(O i).tAt m)
           ·have HE:Hid (F=7):=by
             rw[hangF_nearFar h3 z]at hTW;have:=hstop (by rw[hTW];simp);rw[hTW]at this;exact this
            clear h3 hTW hstop;by_cases z1:p+(O i).tAdd m-B i-(O i).tAt m < -500
            ·clear z;go_wp2;go_quiet (fail);go_wp2;go_ret2;rw[HE.out];exact⟨.bad (by decide),below_drewN hC _⟩
            ·have z2:500<p+(O i).tAdd m-B i-(O i).tAt m:=by omega
             clear z;go_wp2;go_quiet (fail);go_wp2;go_ret2;rw[HE.out];exact⟨.bad (by decide),below_drewN hC _⟩
           ·rw[hangF_near h3 z]at hTW;have hwd:z0y (p+(O i).tAdd m-B i-(O i).tAt m)=true:=by simp[z0y];omega
            have HI:=fun(w:World)=>wordMayQ_any (p+(O i).tAdd m-B i-(O i).tAt m) w
            rw[hwd]at HI;have z1:¬p+(O i).tAdd m-B i-(O i).tAt m < -500:=by omega
            have z2:¬500<p+(O i).tAdd m-B i-(O i).tAt m:=by omega
            have HE:Hid (z0a (fun k=>(tieW O P Q B i k).1) (m+1)=0):=z0L HK.out (by rw[hTW]);have HV:Hid ((tieW O P Q B i m).2=p+(O i).tAdd m-B i-(O i).tAt m):=by
             show _=_;rw[hTW];show p+(O i).tAdd m-(B i+(O i).tAt m)=_;omega
            clear h3 hTW hstop z hwd HK;go_wp2;go_quiet (fail);go_wp2_with fail;refine(HI _).mono ?_;rintro e w3 ⟨rfl,rfl⟩;have hC2:Below w.heap.size w (wc.drewN nq):=below_drewN hC _;have hoC2:=z0e hoC (below_drewN (Below.refl wc.heap.size wc) nq);have e0:(wc.drewN nq).cell? ⟨bt,0,none⟩=some (.int .i64 ((O i).tAt m)):=by simpa using c0
            generalize wc.drewN nq=wd at *;obtain⟨v1,W1,happ1,hG1⟩:=growPat (i:Int) ((O i).tAt m) (p+(O i).tAdd m-B i-(O i).tAt m) hC2.size hoC2 (by simp only[List.length_append];omega);have ho3:=hG1.own;rw[<-HV.out,patsC_snoc (z0A O P Q B i++z1E O P Q B i m) (i,(O i).tAt m,(tieW O P Q B i m).2)]at ho3;have ho4:W1.ownsRow w.heap.size 114 3 v1 (z0A O P Q B i++z1E O P Q B i (m+1)).length (z3x (z0A O P Q B i++z1E O P Q B i (m+1))):=by
             have e:z0A O P Q B i++z1E O P Q B i (m+1)=z0A O P Q B i++z1E O P Q B i m++[(i,(O i).tAt m,(tieW O P Q B i m).2)]:=by simp[z1E]
             rw[e,List.length_append (bs:=[_]),List.length_singleton];exact ho3
            have hb4:Below w.heap.size w W1:=(hC2.alloc hC2.size _).trans hG1.below;clear hC2 hoC2 hG1 ho3 HI hC hoC c0 c1;go_wp2_with (at_builtin;refine z0b rfl (.tmp 127) (.tmp 133) 69 rfl u7 (.slice (some ⟨wd.heap.size,0,none⟩) 1 1) _ rfl rfl happ1 ?_);go_roundw
            case rel=>exact⟨m+1,v1,by omega,by go_num,rfl,ho4,HE,hb4⟩
            case measure=>simp[intOf];omega
          ·have h3':((O i).tKind m==3)=false:=by rw[beq_eq_false_iff_ne];exact h3
           have HI:=fun(w:World)=>wordMayQ_any (p+(O i).tAdd m) w
           cases hwd:z0y (p+(O i).tAdd m)with
           |false=>
            rw[hwd]at HI;have HE:Hid (F=7):=by
             rw[hangF_far h3 hwd]at hTW;have:=hstop (by rw[hTW];simp);rw[hTW]at this;exact this
            clear h3 hTW hstop hwd;go_wp2_with fail;refine(HI _).mono ?_;rintro e w3 ⟨rfl,rfl⟩;go_wp2;go_ret2;rw[HE.out];exact⟨.bad (by decide),hC⟩
           |true=>
            rw[hwd]at HI;rw[hangF_whole h3 hwd]at hTW;have HE:Hid (z0a (fun k=>(tieW O P Q B i k).1) (m+1)=0):=z0L HK.out (by rw[hTW]);have HV:Hid ((tieW O P Q B i m).2=p+(O i).tAdd m):=by
             show _=_;rw[hTW]
            clear h3 hTW hstop hwd HK;have hC2:=hC;have hoC2:=hoC;have e0:=c0;go_wp2_with fail;refine(HI _).mono ?_;rintro e w3 ⟨rfl,rfl⟩;obtain⟨v1,W1,happ1,hG1⟩:=growPat (i:Int) ((O i).tAt m) (p+(O i).tAdd m) hC2.size hoC2 (by simp only[List.length_append];omega);have ho3:=hG1.own;rw[<-HV.out,patsC_snoc (z0A O P Q B i++z1E O P Q B i m) (i,(O i).tAt m,(tieW O P Q B i m).2)]at ho3;have ho4:W1.ownsRow w.heap.size 114 3 v1 (z0A O P Q B i++z1E O P Q B i (m+1)).length (z3x (z0A O P Q B i++z1E O P Q B i (m+1))):=by
             have e:z0A O P Q B i++z1E O P Q B i (m+1)=z0A O P Q B i++z1E O P Q B i m++[(i,(O i).tAt m,(tieW O P Q B i m).2)]:=by simp[z1E]
             rw[e,List.length_append (bs:=[_]),List.length_singleton];exact ho3
            have hb4:Below w.heap.size w W1:=(hC2.alloc hC2.size _).trans hG1.below;clear hC2 hoC2 hG1 ho3 HI hC hoC c0 c1;go_wp2_with (at_builtin;refine z0b rfl (.tmp 127) (.tmp 133) 69 rfl u7 (.slice (some ⟨wc.heap.size,0,none⟩) 1 1) _ rfl rfl happ1 ?_);go_roundw
            case rel=>exact⟨m+1,v1,by omega,by go_num,rfl,ho4,HE,hb4⟩
            case measure=>simp[intOf];omega
       ·have e:m=(O i).nT:=by omega
        subst e;have HE:Hid (tiesF O P Q B (i+1)=0):=z0L HT.out HK.out;have ho2:wr.ownsRow w.heap.size 114 3 u7 (z0A O P Q B (i+1)).length (z3x (z0A O P Q B (i+1))):=ho;clear ho H hc;go_wp2;go_roundw
        case rel=>exact⟨i+1,_,by omega,by go_num,rfl,ho2,HE,hb⟩
        case measure=>simp[intOf];omega
     ·have e:i=k:=by omega
      subst e;go_wp2;go_ret2;exact⟨.ok (HF.out.symm.trans HT.out) _ ho,hb⟩
 ·rw[if_pos h1]at hF;subst hF;have h1':((nb:Int) != (n:Int))=true:=by rw[bne_iff_ne];omega
  clear h1 hr hrb hP hg;go_enter Tryz.func58,Tryz.ntmps58;go_wp2;go_ret2;exact⟨.bad (by decide),Below.refl _ _⟩
end
section
open Go.RowKit
theorem sizes_any(a:Option Addr)(n c:Nat)(V:Nat->ObjV)(O:Nat->ObjF)(w:World)(hn:n<=1000)(hm:∀i,i<n->(O i).nW<=maxLen)(hr:z3U w a n V O) :
 Calls Tryz.prog 201 #[.slice a n c] w fun e w'=>(∃v,e=.returned v/\w'.ownsRow w.heap.size 3 1 v n (z0i (intC fun i=>((O i).nW:Int)) n))/\Below w.heap.size w w':=by
 go_enter Tryz.func201,Tryz.ntmps201;go_wp2;go_loopw [3,8] (fun x z wr=>∃(k:Nat) (v:Value),k<=n/\z=.int .i64 k/\x=v/\wr.ownsRow w.heap.size 3 1 v k (z0i (intC fun i=>((O i).nW:Int)) k)/\Below w.heap.size w wr) (fun _ z _=>n-(intOf z).toNat)
 case atStart=>exact⟨0,.slice none 0 0,Nat.zero_le _,rfl,rfl,World.ownsRow_nil _ _ _ _,Below.refl _ _⟩
 case round=>
  obtain⟨k,v,hk,rfl,rfl,ho,hb⟩:=hrel;by_cases hlt:k<n
  ·have hr1:=hr.later hb;rcases hr1 with h0|⟨bk,o,rfl,hc⟩
   ·omega
   have H:=hc k hlt;have c0:=H.c0;have c1:=H.c1;have c2:=H.c2;have c3:=H.c3;have hmk:=hm k hlt;unfold maxLen at hmk;have hB:=hb.size;clear hc H;obtain⟨v1,W1,happ1,hG1⟩:=growInt (w:=wr.alloc (.cells #[.slice (V k).aN (O k).nN (V k).cN,.slice (V k).aW (O k).nW (V k).cW,.slice (V k).aS (O k).nS (V k).cS,.slice (V k).aT (O k).nT (V k).cT] 56)) ((O k).nW:Int) (by simp;omega) (ho.alloc _) (by omega);have e1:(wr.alloc (.cells #[.slice (V k).aN (O k).nN (V k).cN,.slice (V k).aW (O k).nW (V k).cW,.slice (V k).aS (O k).nS (V k).cS,.slice (V k).aT (O k).nT (V k).cT] 56)).heap.size=wr.heap.size+1:=by simp
   rw[e1]at happ1;have ho1:=hG1.own;rw[joinInt (b':=fun i=>((O i).nW:Int)) (fun i _=>rfl) rfl]at ho1;have hb1:Below w.heap.size w W1:=((hb.alloc hB _).alloc (by simp;omega) _).trans hG1.below;clear hG1 ho e1 hb;go_wp2_with (at_builtin;refine z0b rfl (.tmp 12) (.tmp 16) 52 rfl u3 (.slice (some ⟨wr.heap.size+1,0,none⟩) 1 1) _ rfl rfl happ1 ?_);go_roundw
   case rel=>exact⟨k+1,v1,by omega,by go_num,rfl,ho1,hb1⟩
   case measure=>simp[intOf];omega
  ·have e:k=n:=by omega
   subst e;go_wp2;go_ret;exact⟨⟨_,rfl,ho⟩,hb⟩
def wdC(V:Nat->ObjV)(O:Nat->ObjF)(i:Nat):List Value:=[.slice (V i).aW (O i).nW (V i).cW]
theorem wdC_len(V:Nat->ObjV)(O:Nat->ObjF)(i:Nat):(wdC V O i).length=1:=rfl
theorem growWd{B:Nat}{w:World}{v:Value}{n:Nat}{xs:List Value}(a:Option Addr)(m c:Nat)(hB:B<=w.heap.size)(h:w.ownsRow B 52 1 v n xs)(hn:n<1000000) :
 ∃v' W,(Builtin.append_ #[325,325] 325 #[v,.slice (some ⟨w.heap.size,0,none⟩) 1 1]).run Tryz.prog (w.alloc (.cells #[.slice a m c] 52))=.ok v' W/\Grown B 52 1 (w.alloc (.cells #[.slice a m c] 52)) v (n+1) (xs++[.slice a m c]) v' W:=
 z0J 325 52 1 24 (.slice none 0 0) (by kernel_rfl) (by kernel_rfl) (by rfl) (by decide) B _ v n _ (h.alloc _) (some ⟨w.heap.size,0,none⟩) 1 1 [.slice a m c] rfl
  (.inr ⟨_,_,rfl,fun j u hj=>by
    match j,hj with
    |0,hj=>simp at hj;subst hj;simp[go_sem]
    |j+1,hj=>simp at hj⟩) (fun u hu=>by simp at hu;subst hu;rfl) (by simp;omega) (by omega) (by decide)
theorem rows_wd{w:World}{B:Nat}{e:TypeId}{v:Value}{n:Nat}{V:Nat->ObjV}{O:Nat->ObjF}(h:w.ownsRow B e 1 v n (z0i (wdC V O) n))(hA:∀i,i<n->z1C w (V i) (O i)):∃a c,v=.slice a n c/\n<=c/\ListsRow w a n (fun i=>(V i).aW) (fun i=>(O i).nW) (fun i=>(V i).cW) (fun i j=>(O i).words j):=by
 obtain⟨a,c,rfl,hc⟩:=z0c h;refine⟨a,c,rfl,hc,?_⟩;by_cases h0:n=0
 ·exact .inl h0
 ·have key:∀i,i<n->∃g,a=some ⟨g,0,none⟩/\B<=g/\w.cell? ⟨g,i,none⟩=some (.slice (V i).aW (O i).nW (V i).cW):=fun i hi=>
   z0K h (by have:=z2G (g:=wdC V O) (s:=1) (n:=n) (i:=i) (j:=0) (fun i _=>wdC_len V O i) hi (by omega);simpa[wdC]using this)
  obtain⟨g,ha,_,_⟩:=key 0 (by omega);refine .inr ⟨g,0,ha,fun i hi=>⟨?_,(hA i hi).words⟩⟩;obtain⟨g1,ha1,_,h1⟩:=key i hi;rw[ha]at ha1;injection ha1 with ha1;injection ha1 with ha1;subst ha1;simpa using h1
theorem wordsOf_any(a:Option Addr)(n c:Nat)(V:Nat->ObjV)(O:Nat->ObjF)(w:World)(hn:n<=1000)(hr:z3U w a n V O) :
 Calls Tryz.prog 249 #[.slice a n c] w fun e w'=>(∃v,e=.returned v/\w'.ownsRow w.heap.size 52 1 v n (z0i (wdC V O) n))/\Below w.heap.size w w':=by
 go_enter Tryz.func249,Tryz.ntmps249;go_wp2;go_loopw [3,8] (fun x z wr=>∃(k:Nat) (v:Value),k<=n/\z=.int .i64 k/\x=v/\wr.ownsRow w.heap.size 52 1 v k (z0i (wdC V O) k)/\Below w.heap.size w wr) (fun _ z _=>n-(intOf z).toNat)
 case atStart=>exact⟨0,.slice none 0 0,Nat.zero_le _,rfl,rfl,World.ownsRow_nil _ _ _ _,Below.refl _ _⟩
 case round=>
  obtain⟨k,v,hk,rfl,rfl,ho,hb⟩:=hrel;by_cases hlt:k<n
  ·have hr1:=hr.later hb;rcases hr1 with h0|⟨bk,o,rfl,hc⟩
   ·omega
   have H:=hc k hlt;have c0:=H.c0;have c1:=H.c1;have c2:=H.c2;have c3:=H.c3;have hB:=hb.size;clear hc H;obtain⟨v1,W1,happ1,hG1⟩:=growWd (w:=wr.alloc (.cells #[.slice (V k).aN (O k).nN (V k).cN,.slice (V k).aW (O k).nW (V k).cW,.slice (V k).aS (O k).nS (V k).cS,.slice (V k).aT (O k).nT (V k).cT] 56)) (V k).aW (O k).nW (V k).cW (by simp;omega) (ho.alloc _) (by omega);have e1:(wr.alloc (.cells #[.slice (V k).aN (O k).nN (V k).cN,.slice (V k).aW (O k).nW (V k).cW,.slice (V k).aS (O k).nS (V k).cS,.slice (V k).aT (O k).nT (V k).cT] 56)).heap.size=wr.heap.size+1:=by simp
   rw[e1]at happ1;have ho1:W1.ownsRow w.heap.size 52 1 v1 (k+1) (z0i (wdC V O) (k+1)):=hG1.own;have hb1:Below w.heap.size w W1:=((hb.alloc hB _).alloc (by simp;omega) _).trans hG1.below;clear hG1 ho e1 hb;go_wp2_with (at_builtin;refine z0b rfl (.tmp 12) (.tmp 15) 325 rfl u3 (.slice (some ⟨wr.heap.size+1,0,none⟩) 1 1) _ rfl rfl happ1 ?_);go_roundw
   case rel=>exact⟨k+1,v1,by omega,by go_num,rfl,ho1,hb1⟩
   case measure=>simp[intOf];omega
  ·have e:k=n:=by omega
   subst e;go_wp2;go_ret;exact⟨⟨_,rfl,ho⟩,hb⟩
def z7s (w:World)(a:Option Addr)(n:Nat)(nm:Nat->ByteArray)(B:Nat->Int)(A:Nat->Option Addr)(M C:Nat->Nat)(X:Nat->Nat->Int):Prop:=
 n=0∨∃bk o,a=some ⟨bk,o,none⟩/\∀i,i<n->w.cell? ⟨bk,o+i*3,none⟩=some (.string (nm i))/\w.cell? ⟨bk,o+i*3+1,none⟩=some (.int .i64 (B i))/\w.cell? ⟨bk,o+i*3+2,none⟩=some (.slice (A i) (M i) (C i))/\z1z w (A i) (M i) fun j=>.int .i64 (X i j)
theorem z7s.later{w w':World}{a:Option Addr}{n:Nat}{nm:Nat->ByteArray}{B:Nat->Int}{A:Nat->Option Addr}{M C:Nat->Nat}{X:Nat->Nat->Int}(h:z7s w a n nm B A M C X)(hb:Below w.heap.size w w'):z7s w' a n nm B A M C X:=by
 rcases h with h|⟨bk,o,ha,hc⟩
 ·exact .inl h
 ·exact .inr ⟨bk,o,ha,fun i hi=>⟨cell_later hb (hc i hi).1,cell_later hb (hc i hi).2.1,cell_later hb (hc i hi).2.2.1,(hc i hi).2.2.2.later hb⟩⟩
end
section
open Go.RowKit
def pP(l:List (Nat×Int×Int))(i:Nat):Int:=((l.getD i (0,0,0)).1:Int)
def pT(l:List (Nat×Int×Int))(i:Nat):Int:=(l.getD i (0,0,0)).2.1
def pV(l:List (Nat×Int×Int))(i:Nat):Int:=(l.getD i (0,0,0)).2.2
theorem joinPat(l:List (Nat×Int×Int)):∀k,k<=l.length->z3x (l.take k)=z0i (fun i=>patC (l.getD i (0,0,0))) k:=by
 intro k
 induction k with
 |zero=>intro _;rfl
 |succ k ih=>
  intro hk;rw[List.take_succ_eq_append_getElem (by omega)];show z3x (l.take k++[l[k]])=z0i _ k++patC (l.getD k (0,0,0));have e1:z3x (l.take k++[l[k]])=z3x (l.take k)++patC l[k]:=by unfold z3x;rw[List.flatMap_append];simp only[List.flatMap_cons,List.flatMap_nil,List.append_nil]
  rw[e1,ih (by omega)];congr 2;rw[List.getD_eq_getElem?_getD,List.getElem?_eq_getElem (by omega:k<l.length)];rfl
theorem patsC_join(l:List (Nat×Int×Int)):z3x l=z0i (fun i=>patC (l.getD i (0,0,0))) l.length:=by
 have:=joinPat l l.length (Nat.le_refl _)
 rwa [List.take_length]at this
theorem patC_len(x:Nat×Int×Int):(patC x).length=3:=rfl
theorem rows_pat{w:World}{B:Nat}{e:TypeId}{v:Value}{l:List (Nat×Int×Int)}(h:w.ownsRow B e 3 v l.length (z3x l)):∃a c,v=.slice a l.length c/\l.length<=c/\z6m w a l.length (pP l) (pT l) (pV l):=by
 obtain⟨a,c,rfl,hc⟩:=z0c h;refine⟨a,c,rfl,hc,?_⟩;by_cases h0:l.length=0
 ·exact .inl h0
 ·rw[patsC_join]at h;have key:∀i,i<l.length->∀j u,(patC (l.getD i (0,0,0)))[j]?=some u->j<3->∃g,a=some ⟨g,0,none⟩/\B<=g/\w.cell? ⟨g,i*3+j,none⟩=some u:=fun i hi j u hu hj=>
   z0K h (by rw[z2G (s:=3) (fun i _=>patC_len _) hi hj];exact hu)
  obtain⟨g,ha,_,_⟩:=key 0 (by omega) 0 _ rfl (by omega);refine .inr ⟨g,0,ha,fun i hi=>?_⟩;have get:∀j u,(patC (l.getD i (0,0,0)))[j]?=some u->j<3->w.cell? ⟨g,i*3+j,none⟩=some u:=fun j u hu hj=>by
   obtain⟨g',ha',_,hc'⟩:=key i hi j u hu hj;rw[ha]at ha';injection ha' with ha';injection ha' with ha';subst ha';exact hc'
  exact⟨by rw[Nat.zero_add];exact get 0 _ rfl (by omega),by rw[Nat.zero_add];exact get 1 _ rfl (by omega),by rw[Nat.zero_add];exact get 2 _ rfl (by omega)⟩
end
end Go.Proofs.YtbcpcbonlhlhpaaGreatDoor
namespace Go.Proofs.YtbcpcbonlhlhpaaGreatDoor
open Go.RowKit
theorem isPlaceP_any(a n:Int)(w:World):Calls Tryz.prog 268 #[.int .i64 a,.int .i64 n] w fun e w'=>e=.returned (.bool (z0j a n))/\w'=w:=by
 by_cases h1:0<=a
 all_goals by_cases h2:a<n
 all_goals
  go_enter Tryz.func268,Tryz.ntmps268;go_wp2;go_ret;exact⟨z0w (by simp[z0j] <;> omega),rfl⟩
theorem int_cells{w:World}{a:Option Addr}{n:Nat}{f:Nat->Int}(h:z1z w a n fun i=>.int .i64 (f i)):n=0∨∃b o,a=some ⟨b,o,none⟩/\∀j u,(z0i (intC f) n)[j]?=some u->w.cell? ⟨b,o+j,none⟩=some u:=by
 rcases h with h|⟨b,o,ha,hc⟩
 ·exact .inl h
 ·refine .inr ⟨b,o,ha,fun j u hj=>?_⟩;have hlt:j<n:=by
   have:=(List.getElem?_eq_some_iff.1 hj).1;rw[z3B (fun i _=>z6S f i)]at this;omega
  have hj':=z2G (g:=intC f) (s:=1) (n:=n) (i:=j) (j:=0) (fun i _=>z6S f i) hlt (by omega);simp only[Nat.mul_one,Nat.add_zero]at hj';rw[hj']at hj;simp[intC]at hj;rw[<-hj];exact hc j hlt
theorem int_one{f:Nat->Int}{n:Nat}:∀u∈z0i (intC f) n,u.oneCell'=true:=fun u hu=>by
 obtain⟨i,_,h⟩:=joinC_mem hu;simp[intC]at h;subst h;rfl
theorem cloneInt_any(f:Nat->Int)(a:Option Addr)(n c:Nat)(w:World)(hn:n<=1000000)(hr:z1z w a n fun i=>.int .i64 (f i)) :
 Calls Tryz.prog 267 #[.slice a n c] w fun e w'=>(∃v',e=.returned v'/\w'.ownsRow w.heap.size 3 1 v' n (z0i (intC f) n))/\Below w.heap.size w w':=by
 have q:∀(w:World) (a:Option Addr) (n c n' c':Nat),(binOp .eql 52 (.slice a n c) (.slice none n' c')).run Tryz.prog w=.ok (.bool a.isNone) w:=fun w a n c n' c'=>Lib.run_eql_slice_nil w _ _ a n c n' c' Tryz.underlying52
 cases a with
 |none=>
  have h0:n=0:=by
   rcases hr with h|⟨b,o,h,_⟩
   ·exact h
   ·cases h
  subst h0;go_enter Tryz.func267,Tryz.ntmps267;go_wp2;go_ret;exact⟨⟨_,rfl,World.ownsRow_nil _ _ _ _⟩,Below.refl _ _⟩
 |some ad=>
  obtain⟨v',W,happ,hG⟩:=z0J 52 3 1 8 (.int .i64 0) (by kernel_rfl) (by kernel_rfl) (by rfl) (by decide) w.heap.size (w.alloc (.cells #[] 3)) (.slice (some ⟨w.heap.size,0,none⟩) 0 0) 0 []
   (World.ownsRow_made w #[] 0 (Nat.le_refl _) (Nat.zero_le _) rfl) (some ad) n c (z0i (intC f) n) (by rw[z3B (fun i _=>z6S f i)]) (int_cells (hr.later ((Below.refl _ _).alloc (Nat.le_refl _) _))) int_one (by simp) (by omega) (by decide)
  clear hr;go_enter Tryz.func267,Tryz.ntmps267;go_wp2_with (at_builtin;refine z0b rfl _ _ 52 rfl _ _ _ rfl rfl happ ?_);go_ret;exact⟨⟨v',rfl,by simpa using hG.own⟩,((Below.refl _ _).alloc (Nat.le_refl _) _).trans hG.below⟩
theorem owns_block{w:World}{B:Nat}{e:TypeId}{n c:Nat}{a:Option Addr}{b:Nat->Int}(h:w.ownsRow B e 1 (.slice a n c) n (z0i (intC b) n))(hn:0<n) :
 ∃g,a=some ⟨g,0,none⟩/\B<=g/\(∀j,j<n->w.cell? ⟨g,j,none⟩=some (.int .i64 (b j)))/\∀j,w.frozen? ⟨g,j,none⟩=false:=by
 have hc:∀j,j<n->∃g,a=some ⟨g,0,none⟩/\B<=g/\w.cell? ⟨g,j,none⟩=some (.int .i64 (b j)):=fun i hi=>
  z0K h (by have:=z2G (g:=intC b) (s:=1) (n:=n) (i:=i) (j:=0) (fun i _=>z6S b i) hi (by omega);simpa[intC]using this)
 rcases h.2 with⟨_,h0⟩|⟨g,cap,cur,hv,hB,hg,_⟩
 ·omega
 ·injection hv with h1 h2 h3;refine⟨g,h1,hB,fun j hj=>?_,fun j=>by simp[World.frozen?,hg]⟩;obtain⟨g',ha,_,h'⟩:=hc j hj;rw[h1]at ha;injection ha with ha;injection ha with ha;subst ha;exact h'
def updF{α:Type}(f:Nat->α)(k:Nat)(x:α):Nat->α:=fun i=>if i=k then x else f i
theorem z3Z {α:Type}{f:Nat->α}{k:Nat}{x:α}:updF f k x k=x:=if_pos rfl
theorem z3i {α:Type}{f:Nat->α}{k:Nat}{x:α}{i:Nat}(h:i≠k):updF f k x i=f i:=if_neg h
theorem z4V.more{w w1:World}{B g k:Nat}{M:Nat->Nat}{A:Nat->Option Addr}{C G:Nat->Nat}{X:Nat->Nat->Int}{e:TypeId}{a':Option Addr}{c':Nat}{u:Value}(h:z4V w B g k M A C G X)(hb:Below w.heap.size w w1)(hB:B<=w.heap.size)
 (hc:w1.cell? ⟨g,k,none⟩=some u) (ho:w1.ownsRow w.heap.size e 1 (.slice a' (M k) c') (M k) (z0i (intC (X k)) (M k))) :
 ∃A' C' G',z4V (w1.setCell ⟨g,k,none⟩ (.slice a' (M k) c')) B g (k+1) M A' C' G' X:=by
 have h1:=h.later hb;obtain⟨gk,hgk⟩:∃gk,0<M k->a'=some ⟨gk,0,none⟩/\w.heap.size<=gk/\(∀j,j<M k->w1.cell? ⟨gk,j,none⟩=some (.int .i64 (X k j)))/\∀j,w1.frozen? ⟨gk,j,none⟩=false:=by
  by_cases hm:0<M k
  ·obtain⟨gk,hh⟩:=owns_block ho hm;exact⟨gk,fun _=>hh⟩
  ·exact⟨0,fun h=>absurd h hm⟩
 have lts:∀i,i<k->0<M i->G i<w.heap.size:=fun i hi hm=>World.block_lt_of_cell? _ _ (h.row i hi 0 hm)
 refine⟨updF A k a',updF C k c',updF G k gk,h.hB,?_,?_,?_,?_,?_,?_,?_,?_,?_⟩
 ·simpa[World.setCell]using h1.lt
 ·intro i hi;by_cases e:i=k
  ·subst e;rw[World.cell?_setCell_same _ _ _ hc,z3Z,z3Z]
  ·rw[World.cell?_setCell_other _ _ _ _ (by intro e2;injection e2 with _ e2 _;exact e e2.symm),z3i e,z3i e];exact h1.top i (by omega)
 ·intro i;rw[World.frozen?_setCell];exact h1.free i
 ·intro i hi hm;by_cases e:i=k
  ·subst e;rw[z3Z,z3Z];exact(hgk hm).1
  ·rw[z3i e,z3i e];exact h1.adr i (by omega) hm
 ·intro i hi hm;by_cases e:i=k
  ·subst e;rw[z3Z];exact Nat.le_trans hB (hgk hm).2.1
  ·rw[z3i e];exact h1.own i (by omega) hm
 ·intro i hi hm;by_cases e:i=k
  ·subst e;rw[z3Z];have:=(hgk hm).2.1;have:=h.lt;omega
  ·rw[z3i e];exact h1.ne i (by omega) hm
 ·intro i hi j hj;by_cases e:i=k
  ·subst e;rw[z3Z];have hh:=hgk (by omega);rw[World.cell?_setCell_other _ _ _ _ (by intro e2;injection e2 with e2 _ _;have:=hh.2.1;have:=h.lt;omega)];exact hh.2.2.1 j hj
  ·rw[z3i e,World.cell?_setCell_other _ _ _ _ (by intro e2;injection e2 with e2 _ _;exact h1.ne i (by omega) (by omega) e2.symm)];exact h1.row i (by omega) j hj
 ·intro i hi hm j;rw[World.frozen?_setCell];by_cases e:i=k
  ·subst e;rw[z3Z];exact(hgk hm).2.2.2 j
  ·rw[z3i e];exact h1.rfree i (by omega) hm j
 ·intro i j hi hj hij hmi hmj;by_cases e:i=k
  ·subst e;rw[z3Z,z3i (fun e=>hij e.symm)];have:=(hgk hmi).2.1;have:=lts j (by omega) hmj;omega
  ·by_cases e2:j=k
   ·subst e2;rw[z3i e,z3Z];have:=(hgk hmj).2.1;have:=lts i (by omega) hmi;omega
   ·rw[z3i e,z3i e2];exact h1.apart i j (by omega) (by omega) hij hmi hmj
theorem z4V.none{w:World}{B g:Nat}(hB:B<=g)(hg:g<w.heap.size)(hf:∀i,w.frozen? ⟨g,i,none⟩=false)(M:Nat->Nat)(X:Nat->Nat->Int):z4V w B g 0 M (fun _=>none) (fun _=>0) (fun _=>0) X:=
 ⟨hB,hg,fun i hi=>by omega,hf,fun i hi=>by omega,fun i hi=>by omega,fun i hi=>by omega,fun i hi=>by omega,fun i hi=>by omega,fun i j hi=>by omega⟩
inductive PutEnd (w:World) (B n:Nat) (M:Nat->Nat) (X:Nat->Nat->Int) (np:Nat) (p t v:Nat->Int):Ending->Prop
 |bad (h:BadAt (fun k=>z7e n M (p k) (t k)) np):PutEnd w B n M X np p t v (.returned (.tuple #[.slice none 0 0,errV 1]))
 |ok (g:Nat) (A:Nat->Option Addr) (C G:Nat->Nat) (h:AllOk (fun k=>z7e n M (p k) (t k)) np) (ho:z4V w B g n M A C G (putF X p t v np)):PutEnd w B n M X np p t v (.returned (.tuple #[.slice (some ⟨g,0,none⟩) n n,.nilIface]))
end Go.Proofs.YtbcpcbonlhlhpaaGreatDoor
namespace Go.Proofs.YtbcpcbonlhlhpaaGreatDoor
open Go.RowKit
theorem put_any(a a':Option Addr)(n c np c':Nat)(A:Nat->Option Addr)(M C:Nat->Nat)(X:Nat->Nat->Int)(p t v:Nat->Int)(w:World)(hn:n<=1000)(hM:∀i,i<n->M i<=1000)(hnp:np<=1000)(hr:ListsRow w a n A M C X)(hp:z6m w a' np p t v) :
 Calls Tryz.prog 248 #[.slice a n c,.slice a' np c'] w fun e w'=>PutEnd w' w.heap.size n M X np p t v e/\Below w.heap.size w w':=by
 have hmk:=fun(w:World)=>run_make_row' (P:=Tryz.prog) 325 52 (.slice none 0 0) 24 Tryz.underlying325 (by kernel_rfl) rfl .i64 .i64 n (by omega) (by omega) w
 have hrow:=World.rowIs_made w (.slice none 0 0) n 52;have hb0:Below w.heap.size w (w.alloc (.cells (madeCells #[.slice none 0 0] n) 52)):=(Below.refl _ _).alloc (Nat.le_refl _) _;have hlt0:w.heap.size<(w.alloc (.cells (madeCells #[.slice none 0 0] n) 52)).heap.size:=by simp
 go_enter Tryz.func248,Tryz.ntmps248;go_wp2;clear hmk;generalize w.alloc (.cells (madeCells #[.slice none 0 0] n) 52)=w0 at *;go_loopw [16] (fun x wr=>∃(k:Nat) (A':Nat->Option Addr) (C' G:Nat->Nat),k<=n/\x=.int .i64 k/\z4V wr w.heap.size w.heap.size k M A' C' G X/\(∀i,i<n->∃u,wr.cell? ⟨w.heap.size,i,none⟩=some u)/\Below w.heap.size w wr) (fun x _=>n-(intOf x).toNat)
 case atStart=>exact⟨0,_,_,_,Nat.zero_le _,rfl,z4V.none (Nat.le_refl _) hlt0 hrow.frozen _ _,fun i hi=>⟨_,hrow.cell hi⟩,hb0⟩
 case round=>
  clear hrow hb0 hlt0;obtain⟨k,A',C',G,hk,rfl,hO,hcs,hb⟩:=hrel;by_cases hlt:k<n
  ·have hr1:=hr.later hb;rcases hr1 with h0|⟨bk,o,rfl,hc⟩
   ·omega
   have hck:=(hc k hlt).1;have HC:=cloneInt_any (X k) (A k) (M k) (C k) wr (by have:=hM k hlt;omega) (hc k hlt).2;clear hc;go_wp2_with fail;refine HC.mono ?_;rintro e w2 ⟨⟨v',rfl,ho⟩,hb2⟩;clear HC;obtain⟨a2,c2,rfl,_⟩:=z0c ho;obtain⟨u,hu⟩:=hcs k hlt;have hu2:=cell_later hb2 hu;have hz:=(hO.later hb2).free k;obtain⟨A2,C2,G2,hO2⟩:=hO.more hb2 hb.size hu2 ho;have hcs2:∀i,i<n->∃u,(w2.setCell ⟨w.heap.size,k,none⟩ (.slice a2 (M k) c2)).cell? ⟨w.heap.size,i,none⟩=some u:=fun i hi=>by
    obtain⟨u,hu⟩:=hcs i hi;exact cell?_setCell_some (cell_later hb2 hu)
   have hb3:Below w.heap.size w (w2.setCell ⟨w.heap.size,k,none⟩ (.slice a2 (M k) c2)):=(hb.trans (hb2.mono hb.size)).setCell (Nat.le_refl _) _;clear hO hcs hu hb hb2 ho;go_wp2;go_roundw
   case rel=>exact⟨k+1,A2,C2,G2,by omega,by go_num,hO2,hcs2,hb3⟩
   case measure=>simp[intOf];omega
  ·have e:k=n:=by omega
   subst e;clear hcs;go_wp2;go_loopw [29] (fun x wr=>∃j:Nat,j<=np/\x=.int .i64 j/\z4V wr w.heap.size w.heap.size k M A' C' G (putF X p t v j)/\Hid (∀i,i<j->z7e k M (p i) (t i)=true)/\Below w.heap.size w wr) (fun x _=>np-(intOf x).toNat)
   case atStart=>exact⟨0,Nat.zero_le _,rfl,hO,fun i hi=>by omega,hb⟩
   case round=>
    clear hO hb;obtain⟨j,hj,rfl,hO,HP,hb⟩:=hrel;by_cases hlj:j<np
    ·have hp1:=hp.later hb;rcases hp1 with h0|⟨bp,op,rfl,hc⟩
     ·omega
     obtain⟨p0,p1,p2⟩:=hc j hlj;clear hc;have hq:∀ob:Obj,Below wr.heap.size wr (wr.alloc ob):=fun ob=>(Below.refl _ _).alloc (Nat.le_refl _) ob
     have HI:=isPlaceP_any;cases h1:z0j (p j) (k:Int)with
     |false=>
      have HE:Hid (BadAt (fun i=>z7e k M (p i) (t i)) np):=⟨j,hlj,by simp[z7e,h1]⟩;have HI1:=fun(w:World)=>HI (p j) (k:Int) w
      simp only[h1]at HI1;clear h1 HI;go_wp2;go_quiet ((go_at_call 268;exact Calls.quiet_of_same (HI1 _)));go_wp2;go_ret2;exact⟨.bad HE.out,below_drewN (hb.alloc hb.size _) _⟩
     |true=>
      obtain⟨x,hx,hxk⟩:∃x:Nat,p j=x/\x<k:=by
       simp[z0j]at h1;exact⟨(p j).toNat,by omega,by omega⟩
      have HI1:=fun(w:World)=>HI (x:Int) (k:Int) w
      rw[hx]at h1 p0;simp only[h1]at HI1;clear h1;have htop:∀ob,(wr.alloc ob).cell? ⟨w.heap.size,x,none⟩=some (.slice (A' x) (M x) (C' x)):=fun ob=>cell_later (hq ob) (hO.top x hxk)
      have hMx:=hM x hxk;cases h2:z0j (t j) (M x:Int)with
      |false=>
       have HE:Hid (BadAt (fun i=>z7e k M (p i) (t i)) np):=⟨j,hlj,by simp[z7e,hx,h2]⟩;have HI2:=fun(w:World)=>HI (t j) (M x:Int) w
       simp only[h2]at HI2;clear h2 HI;go_wp2;go_quiet ((first|(go_at_call_of 268 (Value.int IntKind.i64 (x:Int));exact Calls.quiet_of_same (HI1 _))|(go_at_call_of 268 (Value.int IntKind.i64 (t j));exact Calls.quiet_of_same (HI2 _))));go_wp2;go_ret2;exact⟨.bad HE.out,below_drewN (hb.alloc hb.size _) _⟩
      |true=>
       obtain⟨y,hy,hyk⟩:∃y:Nat,t j=y/\y<M x:=by
        simp[z0j]at h2;exact⟨(t j).toNat,by omega,by omega⟩
       have HE:Hid (∀i,i<j+1->z7e k M (p i) (t i)=true):=fun i hi=>by
        by_cases e:i=j
        ·subst e;simp[z7e,hx,hy,z0j,hxk,hyk]
        ·exact HP.out i (by omega)
       have HI2:=fun(w:World)=>HI (y:Int) (M x:Int) w
       rw[hy]at h2 p1;simp only[h2]at HI2;clear h2 HI;have hO1:=fun ob=>(hO.later (hq ob)).put hxk hyk (v j)
       have hadr:=hO.adr x hxk (by omega);rw[hadr]at htop;have hcy:∀ob,(wr.alloc ob).cell? ⟨G x,y,none⟩=some (.int .i64 (putF X p t v j x y)):=fun ob=>cell_later (hq ob) (hO.row x hxk y hyk)
       have hzy:∀ob,(wr.alloc ob).frozen? ⟨G x,y,none⟩=false:=fun ob=>(hO.later (hq ob)).rfree x hxk (by omega) y
       have hown:=hO.own x hxk (by omega);have hpf:∀i i',putF X p t v (j+1) i i'=if i=x/\i'=y then v j else putF X p t v j i i':=fun i i'=>by
        simp only[putF,hx,hy];by_cases e:i=x/\i'=y
        ·rw[if_pos e,if_pos (by omega)]
        ·rw[if_neg e,if_neg (by omega)]
       have HPF:Hid (∀i i',putF X p t v (j+1) i i'=if i=x/\i'=y then v j else putF X p t v j i i'):=hpf;clear hpf hO hx hy hadr;go_wp2;go_quiet ((first|(go_at_call_of 268 (Value.int IntKind.i64 (x:Int));exact Calls.quiet_of_same (HI1 _))|(go_at_call_of 268 (Value.int IntKind.i64 (y:Int));exact Calls.quiet_of_same (HI2 _))));go_wp2;go_region;go_wp2;go_roundw
       case rel=>exact⟨j+1,by omega,by go_num,((hO1 _).congr fun i _ i' _=>(HPF.out i i').symm).later (below_drewN (Below.refl _ _) _),HE,below_drewN ((hb.alloc hb.size _).setCell hown _) _⟩
       case measure=>simp[intOf];omega
    ·have e:j=np:=by omega
     subst e;go_wp2;go_ret2;exact⟨.ok _ _ _ _ HP.out hO,hb⟩
end Go.Proofs.YtbcpcbonlhlhpaaGreatDoor
