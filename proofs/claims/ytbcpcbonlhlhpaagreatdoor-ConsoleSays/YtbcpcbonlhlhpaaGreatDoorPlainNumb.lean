/- What checkSymbols, checkTie and checkTies return, for every -/
import Derived.Test.YtbcpcbonlhlhpaaGreatDoorCheckSmall
import Derived.Test.YtbcpcbonlhlhpaaGreatDoorShelf
import Derived.Lib.AppendIntMem
import Derived.Deep.Cut
import Derived.Deep.CutRange
import Derived.Deep.RegionWith
import Derived.Lib.SplitLaws
import Derived.Lib.IndexBytes
import Derived.Lib.AtoiErrMem
import Derived.Lib.AtoiAll
import Derived.Lib.Strings
namespace Go.Proofs.YtbcpcbonlhlhpaaGreatDoor
open Go.RowKit
set_option maxHeartbeats 2000000
theorem sameName_any(nm t:ByteArray)(x:Int)(b:Bool)(bs:Nat)(w:World)(hs:w.cell? ⟨bs,0,none⟩=some (.string t)) :
 Calls Tryz.prog 228 #[.agg #[.string nm,.int .i64 x,.bool b],.pointer (some ⟨bs,0,none⟩)] w fun e w'=>e=.returned (.bool (decide (nm=t)))/\Below w.heap.size w w':=by
 have hl:=World.block_lt_of_cell? _ _ hs;have hs':∀ob:Obj,(w.alloc ob).cell? ⟨bs,0,none⟩=some (.string t):=fun ob=>by rw[World.cell?_alloc_lt _ _ _ hl];exact hs
 clear hs hl;go_enter Tryz.func228,Tryz.ntmps228;go_wp2;go_ret;exact⟨z0w (z0z nm t),(Below.refl _ _).alloc (Nat.le_refl _) _⟩
theorem containsFunc_any(s:Nat->ByteArray)(v:Nat->Int)(b:Nat->Bool)(a:Option Addr)(n c bs:Nat)(t:ByteArray)(w:World)(hn:n<=1000000000)(hr:z4K w a n s v b)(hs:w.cell? ⟨bs,0,none⟩=some (.string t)) :
 Calls Tryz.prog 229 #[.slice a n c,.func (.func 228) #[] #[.pointer (some ⟨bs,0,none⟩)]] w fun e w'=>e=.returned (.bool (z0H (fun j=>decide (s j=t)) n))/\Below w.heap.size w w':=by
 generalize hF:z0H (fun j=>decide (s j=t)) n=F;have HF:Hid (z0H (fun j=>decide (s j=t)) n=F):=hF;clear hF;go_enter Tryz.func229,Tryz.ntmps229;go_wp2;go_loopw [8] (fun x wr=>∃k:Nat,k<=n/\x=.int .i64 k/\Hid (z0H (fun j=>decide (s j=t)) k=false)/\Below w.heap.size w wr) (fun x _=>n-(intOf x).toNat)
 case atStart=>exact⟨0,Nat.zero_le _,rfl,rfl,Below.refl _ _⟩
 case round=>
  obtain⟨k,hk,rfl,HK,hb⟩:=hrel;by_cases hlt:k<n
  ·rcases hr with h0|⟨bk,o,rfl,hc⟩
   ·omega
   ·have hc0:=cell_later hb (hc k hlt).1;have hc1:=cell_later hb (hc k hlt).2.1;have hc2:=cell_later hb (hc k hlt).2.2;have HC:=sameName_any (s k) t (v k) (b k) bs wr (cell_later hb hs);clear hc hs;by_cases he:s k=t
    ·have HE:Hid (F=true):=HF.out.symm.trans (z1D hlt (by simp[he]));rw[decide_eq_true he]at HC;clear he;go_wp2_with fail;refine HC.mono ?_;rintro e w2 ⟨rfl,hb2⟩;clear HC;go_wp2;go_ret;exact⟨z0w HE.out.symm,hb.trans (hb2.mono hb.size)⟩
    ·have HE:Hid (z0H (fun j=>decide (s j=t)) (k+1)=false):=z2U HK.out (by simp[he]);rw[decide_eq_false he]at HC;clear he;go_wp2_with fail;refine HC.mono ?_;rintro e w2 ⟨rfl,hb2⟩;clear HC;go_wp2;go_roundw
     case rel=>exact⟨k+1,by omega,by go_num,HE,hb.trans (hb2.mono hb.size)⟩
     case measure=>simp[intOf];omega
  ·have HE:Hid (F=false):=by
    have e:k=n:=by omega
    rw[<-HF.out,<-e];exact HK.out
   go_wp2;go_ret;exact⟨z0w HE.out.symm,hb⟩
theorem z6l (s:Nat->ByteArray)(v:Nat->Int)(b:Nat->Bool)(a:Option Addr)(n c m:Nat)(w:World)(hn:n<=1000000000)(hc:n<=c)(hr:z4K w a n s v b)(hs:∀i,i<n->(s i).size<=maxLen) :
 Calls Tryz.prog 181 #[.slice a n c,.int .i64 (m:Int)] w fun e w'=>e=.returned (errV (z0a (symF m s v) n))/\Below w.heap.size w w':=by
 generalize hF:z0a (symF m s v) n=F;have HF:Hid (z0a (symF m s v) n=F):=hF;clear hF;go_enter Tryz.func181,Tryz.ntmps181;go_wp2;go_loopw [11] (fun x wr=>∃k:Nat,k<=n/\x=.int .i64 k/\Hid (z0a (symF m s v) k=0)/\Below w.heap.size w wr) (fun x _=>n-(intOf x).toNat)
 case atStart=>exact⟨0,Nat.zero_le _,rfl,rfl,Below.refl _ _⟩
 case round=>
  obtain⟨k,hk,rfl,HK,hb⟩:=hrel;by_cases hlt:k<n
  ·rcases hr with h0|⟨bk,o,rfl,hc'⟩
   ·omega
   ·have hc0:=cell_later hb (hc' k hlt).1;have hc1:=cell_later hb (hc' k hlt).2.1;have hc2:=cell_later hb (hc' k hlt).2.2;have hb1:∀ob:Obj,Below w.heap.size w (wr.alloc ob):=fun ob=>hb.alloc hb.size ob
    have HN:=fun(w:World)=>z4U (s k) w (hs k hlt)
    have HP:=fun(w:World)=>isPlace_any (v k) (m:Int) w
    by_cases h0:z0r (s k).data.toList=0
    ·have HD:Hid (symF m s v k=if z0j (v k) m=true then(if dupF s k=true then 3 else 0)else 1):=by
      show symF m s v k=_;unfold symF;rw[h0,z0p]
     simp only[z3j h0]at HN;clear h0;cases hp:z0j (v k) m with
     |true=>
      have HC:=fun(w':World) (hw:z4K w' (some ⟨bk,o,none⟩) k s v b) (bs:Nat) (hx:w'.cell? ⟨bs,0,none⟩=some (.string (s k)))=>containsFunc_any s v b (some ⟨bk,o,none⟩) k c bs (s k) w' (by omega) hw hx
      have hrk:z4K w (some ⟨bk,o,none⟩) k s v b:=.inr ⟨bk,o,rfl,fun i hi=>hc' i (by omega)⟩;simp only[hp]at HP;cases hd:z0H (fun j=>decide (s j=s k)) k with
      |true=>
       have hd':dupF s k=true:=hd;have HE:Hid (F=3):=by
        have e:symF m s v k=3:=by rw[HD.out,if_pos hp,if_pos hd']
        show F=3;rw[<-HF.out,z0E hlt HK.out (by rw[e];decide),e]
       simp only[hd]at HC;clear hd hd' hp HD hc' hs;go_wp2_with fail;refine(HN _).mono ?_;rintro e w' ⟨rfl,rfl⟩;go_wp2_with fail;refine(HP _).mono ?_;rintro e w' ⟨rfl,rfl⟩;go_wp2_with fail;refine(HC _ (hrk.later (hb1 _)) _ (by simp[go_sem])).mono ?_;rintro e w2 ⟨rfl,hb2⟩;clear HC HN HP;go_wp2;go_ret;rw[HE.out];exact⟨rfl,(hb1 _).trans (hb2.mono (hb1 _).size)⟩
      |false=>
       have hd':¬dupF s k=true:=by unfold dupF;simp[hd]
       have HE:Hid (z0a (symF m s v) (k+1)=0):=z0L HK.out (by rw[HD.out,if_pos hp,if_neg hd']);simp only[hd]at HC;clear hd hd' hp HD hc' hs;go_wp2_with fail;refine(HN _).mono ?_;rintro e w' ⟨rfl,rfl⟩;go_wp2_with fail;refine(HP _).mono ?_;rintro e w' ⟨rfl,rfl⟩;go_wp2_with fail;refine(HC _ (hrk.later (hb1 _)) _ (by simp[go_sem])).mono ?_;rintro e w2 ⟨rfl,hb2⟩;clear HC HN HP;go_wp2;go_roundw
       case rel=>exact⟨k+1,by omega,by go_num,HE,(hb1 _).trans (hb2.mono (hb1 _).size)⟩
       case measure=>simp[intOf];omega
     |false=>
      have HE:Hid (F=1):=by
       have e:symF m s v k=1:=by rw[HD.out,if_neg (by simp[hp])]
       show F=1;rw[<-HF.out,z0E hlt HK.out (by rw[e];decide),e]
      simp only[hp]at HP;clear hp HD hc' hs;go_wp2_with fail;refine(HN _).mono ?_;rintro e w' ⟨rfl,rfl⟩;go_wp2_with fail;refine(HP _).mono ?_;rintro e w' ⟨rfl,rfl⟩;clear HN HP;go_wp2;go_ret;rw[HE.out];exact⟨rfl,hb1 _⟩
    ·have HV:Hid (errV F=.iface 43 (.int .i64 ((z0r (s k).data.toList:Nat):Int))):=by
      have e:symF m s v k=z0r (s k).data.toList:=z1q _ h0;show errV F=_;rw[<-HF.out,z0E hlt HK.out (by rw[e];exact h0),e,z1J h0]
     simp only[z1J h0]at HN;clear h0 hc' hs;go_wp2_with fail;refine(HN _).mono ?_;rintro e w' ⟨rfl,rfl⟩;clear HN HP;go_wp2;go_ret;rw[HV.out];exact⟨rfl,hb1 _⟩
  ·have HE:Hid (F=0):=by
    have e:k=n:=by omega
    rw[<-HF.out,<-e];exact HK.out
   go_wp2;go_ret;rw[HE.out];exact⟨rfl,hb⟩
end Go.Proofs.YtbcpcbonlhlhpaaGreatDoor
namespace Go.Proofs.YtbcpcbonlhlhpaaGreatDoor
open Go.RowKit
theorem checkTie_any(x k d:Int)(s:ByteArray)(b:Bool)(ahead m:Int)(w:World)(hs:s.size<=maxLen) :
 Calls Tryz.prog 230 #[.agg #[.int .i64 x,.int .i64 k,.int .i64 d,.string s,.bool b],.int .i64 ahead,.int .i64 m] w fun e w'=>e=.returned (errV (z4X x k d s b ahead m))/\Below w.heap.size w w':=by
 have hb:∀ob:Obj,Below w.heap.size w (w.alloc ob):=fun ob=>(Below.refl _ _).alloc (Nat.le_refl _) ob
 have HP:=fun(w:World)=>isPlace_any x m w
 have HW:=fun(w:World)=>isWord_any d w
 have HN:=fun(w:World)=>z4U s w hs
 generalize hF:z4X x k d s b ahead m=F;unfold z4X at hF;cases hp:z0j x m with
 |false=>
  have HE:Hid (F=1):=by rw[<-hF,if_neg (by simp[hp])];rfl
  simp only[hp]at HP;clear hF hp;go_enter Tryz.func230,Tryz.ntmps230;go_wp2_with fail;refine(HP _).mono ?_;rintro e w' ⟨rfl,rfl⟩;clear HP HW HN;go_wp2;go_ret;rw[HE.out];exact⟨rfl,hb _⟩
 |true=>
  cases hw:z0y d with
  |false=>
   have HE:Hid (F=1):=by rw[<-hF,if_neg (by simp[hw])];rfl
   simp only[hp]at HP;simp only[hw]at HW;clear hF hp hw;go_enter Tryz.func230,Tryz.ntmps230;go_wp2_with fail;refine(HP _).mono ?_;rintro e w' ⟨rfl,rfl⟩;go_wp2_with fail;refine(HW _).mono ?_;rintro e w' ⟨rfl,rfl⟩;clear HP HW HN;go_wp2;go_ret;rw[HE.out];exact⟨rfl,hb _⟩
  |true=>
   rw[if_pos ⟨hp,hw⟩]at hF;simp only[hp]at HP;simp only[hw]at HW;clear hp hw;by_cases ha:x<=ahead
   ·have HE:Hid (F=3):=by rw[<-hF,if_pos ha];rfl
    clear hF;go_enter Tryz.func230,Tryz.ntmps230;go_wp2_with fail;refine(HP _).mono ?_;rintro e w' ⟨rfl,rfl⟩;go_wp2_with fail;refine(HW _).mono ?_;rintro e w' ⟨rfl,rfl⟩;clear HP HW HN;go_wp2;go_ret;rw[HE.out];exact⟨rfl,hb _⟩
   ·rw[if_neg ha]at hF;by_cases k1:k=1
    ·subst k1;rw[if_pos rfl]at hF;by_cases hd:s.size=0
     ·have hz:s.toList.isEmpty=true:=by
       rw[ByteArray.size_eq_zero_iff.1 hd,ByteArray.toList_eq];rfl
      cases b with
      |true=>
       have HE:Hid (F=3):=by rw[<-hF,if_neg (fun h=>by cases h.2)];rfl
       clear hF hd;go_enter Tryz.func230,Tryz.ntmps230;go_wp2_with fail;refine(HP _).mono ?_;rintro e w' ⟨rfl,rfl⟩;go_wp2_with fail;refine(HW _).mono ?_;rintro e w' ⟨rfl,rfl⟩;clear HP HW HN;go_wp2;go_ret;rw[HE.out];exact⟨rfl,hb _⟩
      |false=>
       have HE:Hid (F=0):=by rw[<-hF,if_pos ⟨hd,rfl⟩];rfl
       clear hF hd;go_enter Tryz.func230,Tryz.ntmps230;go_wp2_with fail;refine(HP _).mono ?_;rintro e w' ⟨rfl,rfl⟩;go_wp2_with fail;refine(HW _).mono ?_;rintro e w' ⟨rfl,rfl⟩;clear HP HW HN;go_wp2;go_ret;rw[HE.out];exact⟨rfl,hb _⟩
     ·have hz:s.toList.isEmpty=false:=by
       rw[List.isEmpty_eq_false_iff,ByteArray.toList_eq];intro h;have:s.data.toList.length=0:=by rw[h];rfl
       exact hd (by simpa using this)
      have HE:Hid (F=3):=by rw[<-hF,if_neg (fun h=>hd h.1)];rfl
      clear hF hd;go_enter Tryz.func230,Tryz.ntmps230;go_wp2_with fail;refine(HP _).mono ?_;rintro e w' ⟨rfl,rfl⟩;go_wp2_with fail;refine(HW _).mono ?_;rintro e w' ⟨rfl,rfl⟩;clear HP HW HN;go_wp2;go_ret;rw[HE.out];exact⟨rfl,hb _⟩
    ·rw[if_neg k1]at hF;have d1:(k==1)=false:=by rw[beq_eq_false_iff_ne];exact k1
     by_cases k2:k=2
     ·rw[if_pos (.inl k2)]at hF;have d2:(k==2)=true:=by rw[beq_iff_eq];exact k2
      have HE:Hid (z0r s.data.toList=F):=hF;clear hF k1 k2;go_enter Tryz.func230,Tryz.ntmps230;go_wp2_with fail;refine(HP _).mono ?_;rintro e w' ⟨rfl,rfl⟩;go_wp2_with fail;refine(HW _).mono ?_;rintro e w' ⟨rfl,rfl⟩;go_wp2_with fail;refine(HN _).mono ?_;rintro e w' ⟨rfl,rfl⟩;clear HP HW HN;go_wp2;go_ret;rw[<-HE.out];exact⟨rfl,hb _⟩
     ·have d2:(k==2)=false:=by rw[beq_eq_false_iff_ne];exact k2
      by_cases k3:k=3
      ·rw[if_pos (.inr k3)]at hF;have d3:(k==3)=true:=by rw[beq_iff_eq];exact k3
       have HE:Hid (z0r s.data.toList=F):=hF;clear hF k1 k2 k3;go_enter Tryz.func230,Tryz.ntmps230;go_wp2_with fail;refine(HP _).mono ?_;rintro e w' ⟨rfl,rfl⟩;go_wp2_with fail;refine(HW _).mono ?_;rintro e w' ⟨rfl,rfl⟩;go_wp2_with fail;refine(HN _).mono ?_;rintro e w' ⟨rfl,rfl⟩;clear HP HW HN;go_wp2;go_ret;rw[<-HE.out];exact⟨rfl,hb _⟩
      ·rw[if_neg (fun h=>h.elim k2 k3)]at hF;have d3:(k==3)=false:=by rw[beq_eq_false_iff_ne];exact k3
       have HE:Hid (F=3):=hF.symm;clear hF k1 k2 k3;go_enter Tryz.func230,Tryz.ntmps230;go_wp2_with fail;refine(HP _).mono ?_;rintro e w' ⟨rfl,rfl⟩;go_wp2_with fail;refine(HW _).mono ?_;rintro e w' ⟨rfl,rfl⟩;clear HP HW HN;go_wp2;go_ret;rw[HE.out];exact⟨rfl,hb _⟩
theorem checkTies_any(o:ObjF)(a:Option Addr)(c:Nat)(w:World)(hn:o.nT<=1000000000)(hr:z6x w a o.nT o.tAt o.tKind o.tAdd o.tName o.tWeak)(hs:∀i,i<o.nT->(o.tName i).size<=maxLen) :
 Calls Tryz.prog 182 #[.slice a o.nT c,.int .i64 (o.nW:Int)] w fun e w'=>e=.returned (errV (z0a (tieF o) o.nT))/\Below w.heap.size w w':=by
 generalize hF:z0a (tieF o) o.nT=F;have HF:Hid (z0a (tieF o) o.nT=F):=hF;clear hF;go_enter Tryz.func182,Tryz.ntmps182;go_wp2;go_loopw [5,11] (fun y x wr=>∃k:Nat,k<=o.nT/\x=.int .i64 k/\y=.int .i64 (z5J o.tAt k)/\Hid (z0a (tieF o) k=0)/\Below w.heap.size w wr) (fun _ x _=>o.nT-(intOf x).toNat)
 case atStart=>exact⟨0,Nat.zero_le _,rfl,rfl,rfl,Below.refl _ _⟩
 case round=>
  obtain⟨k,hk,rfl,rfl,HK,hb⟩:=hrel;by_cases hlt:k<o.nT
  ·rcases hr with h0|⟨bk,of,rfl,hc'⟩
   ·omega
   ·have hc0:=cell_later hb (hc' k hlt).1;have hc1:=cell_later hb (hc' k hlt).2.1;have hc2:=cell_later hb (hc' k hlt).2.2.1;have hc3:=cell_later hb (hc' k hlt).2.2.2.1;have hc4:=cell_later hb (hc' k hlt).2.2.2.2;have hb1:∀ob:Obj,Below w.heap.size w (wr.alloc ob):=fun ob=>hb.alloc hb.size ob
    have HT:=fun(w:World)=>checkTie_any (o.tAt k) (o.tKind k) (o.tAdd k) (o.tName k) (o.tWeak k) (z5J o.tAt k) o.nW w (hs k hlt)
    have HD:Hid (tieF o k=z4X (o.tAt k) (o.tKind k) (o.tAdd k) (o.tName k) (o.tWeak k) (z5J o.tAt k) o.nW):=rfl;generalize z4X (o.tAt k) (o.tKind k) (o.tAdd k) (o.tName k) (o.tWeak k) (z5J o.tAt k) o.nW=g at *;generalize hpv:z5J o.tAt k=pv at *;clear hpv;by_cases h0:g=0
    ·subst h0;have HE:Hid (z0a (tieF o) (k+1)=0):=z0L HK.out HD.out;simp only[z3j rfl]at HT;clear hc' hs;go_wp2_with fail;refine(HT _).mono ?_;rintro e w2 ⟨rfl,hb2⟩;have hx0:w2.cell? ⟨wr.heap.size,0,none⟩=some (.int .i64 (o.tAt k)):=cell_later hb2 (by simp[go_sem]);clear HT;go_wp2;go_roundw
     case rel=>exact⟨k+1,by omega,by go_num,rfl,HE,(hb1 _).trans (hb2.mono (hb1 _).size)⟩
     case measure=>simp[intOf];omega
    ·have HV:Hid (errV F=.iface 43 (.int .i64 (g:Int))):=by
      show errV F=_;rw[<-HF.out,z0E hlt HK.out (by rw[HD.out];exact h0),HD.out,z1J h0]
     simp only[z1J h0]at HT;clear h0 hc' hs;go_wp2_with fail;refine(HT _).mono ?_;rintro e w2 ⟨rfl,hb2⟩;clear HT;go_wp2;go_ret;rw[HV.out];exact⟨rfl,(hb1 _).trans (hb2.mono (hb1 _).size)⟩
  ·have HE:Hid (F=0):=by
    have e:k=o.nT:=by omega
    rw[<-HF.out,<-e];exact HK.out
   go_wp2;go_ret;rw[HE.out];exact⟨rfl,hb⟩
end Go.Proofs.YtbcpcbonlhlhpaaGreatDoor
namespace Go.Proofs.YtbcpcbonlhlhpaaGreatDoor
open Go.RowKit
theorem checkObj_any(v:ObjV)(o:ObjF)(w:World)(hA:z1C w v o)(hf:z6z o) :
 Calls Tryz.prog 134 #[.agg (v.cells o)] w fun e w'=>e=.returned (errV (objF o))/\Below w.heap.size w w':=by
 have hb0:∀ob:Obj,Below w.heap.size w (w.alloc ob):=fun ob=>(Below.refl _ _).alloc (Nat.le_refl _) ob
 have HC:=fun(w:World)=>checkCounts_any v o w hf
 unfold ObjV.cells at HC;unfold ObjV.cells;by_cases c0:z2j o=0
 ·have hsm:o.nN<=4/\o.nW<=40/\o.nS<=8/\o.nT<=6:=by
   unfold z2j at c0;split at c0
   ·omega
   ·omega
  simp only[z3j c0]at HC;by_cases c1:z0a (z3w o.needs) o.nN=0
  ·by_cases c2:z0a (z4w o.words) o.nW=0
   ·by_cases c3:z0a (symF o.nW o.sName o.sAt) o.nS=0
    ·have HE:Hid (objF o=z0a (tieF o) o.nT):=by
      show objF o=_;unfold objF;rw[c0,c1,c2,c3];rfl
     go_enter Tryz.func134,Tryz.ntmps134;go_wp2_with fail;refine(HC _).mono ?_;rintro e w1 ⟨rfl,hb1⟩;clear HC;have hx:Below w.heap.size w w1:=(hb0 _).trans (hb1.mono (hb0 _).size);have hc0:w1.cell? ⟨w.heap.size,0,none⟩=some (.slice v.aN o.nN v.cN):=cell_later hb1 (by simp[go_sem]);have hc1:w1.cell? ⟨w.heap.size,0+1,none⟩=some (.slice v.aW o.nW v.cW):=cell_later hb1 (by simp[go_sem]);have hc2:w1.cell? ⟨w.heap.size,0+2,none⟩=some (.slice v.aS o.nS v.cS):=cell_later hb1 (by simp[go_sem]);have hc3:w1.cell? ⟨w.heap.size,0+3,none⟩=some (.slice v.aT o.nT v.cT):=cell_later hb1 (by simp[go_sem]);go_wp2_with fail;refine(z3Y o.needs v.aN o.nN v.cN _ (by omega) hA.capN (hA.needs.later hx) hf.needs).mono ?_;rw[z3j c1];rintro e w' ⟨rfl,rfl⟩;go_wp2_with fail;refine(z5w o.words v.aW o.nW v.cW _ (by omega) (hA.words.later hx)).mono ?_;rw[z3j c2];rintro e w' ⟨rfl,rfl⟩;go_wp2_with fail;refine(z6l o.sName o.sAt o.sWeak v.aS o.nS v.cS o.nW _ (by omega) hA.capS (hA.syms.later hx) (fun i hi=>(hf.syms i hi).1)).mono ?_;rw[z3j c3];rintro e w2 ⟨rfl,hb2⟩;have hy:Below w.heap.size w w2:=hx.trans (hb2.mono hx.size);have hd1:=cell_later hb2 hc1;have hd3:=cell_later hb2 hc3;clear hc0 hc1 hc2 hc3;go_wp2_with fail;refine(checkTies_any o v.aT v.cT _ (by omega) (hA.ties.later hy) (fun i hi=>(hf.ties i hi).1)).mono ?_;rintro e w3 ⟨rfl,hb3⟩;go_wp2;go_ret;rw[HE.out];exact⟨rfl,hy.trans (hb3.mono hy.size)⟩
    ·have HE:Hid (objF o=z0a (symF o.nW o.sName o.sAt) o.nS):=by
      show objF o=_;unfold objF;rw[c0,c1,c2,z1q _ c3];rfl
     go_enter Tryz.func134,Tryz.ntmps134;go_wp2_with fail;refine(HC _).mono ?_;rintro e w1 ⟨rfl,hb1⟩;clear HC;have hx:Below w.heap.size w w1:=(hb0 _).trans (hb1.mono (hb0 _).size);have hc0:w1.cell? ⟨w.heap.size,0,none⟩=some (.slice v.aN o.nN v.cN):=cell_later hb1 (by simp[go_sem]);have hc1:w1.cell? ⟨w.heap.size,0+1,none⟩=some (.slice v.aW o.nW v.cW):=cell_later hb1 (by simp[go_sem]);have hc2:w1.cell? ⟨w.heap.size,0+2,none⟩=some (.slice v.aS o.nS v.cS):=cell_later hb1 (by simp[go_sem]);go_wp2_with fail;refine(z3Y o.needs v.aN o.nN v.cN _ (by omega) hA.capN (hA.needs.later hx) hf.needs).mono ?_;rw[z3j c1];rintro e w' ⟨rfl,rfl⟩;go_wp2_with fail;refine(z5w o.words v.aW o.nW v.cW _ (by omega) (hA.words.later hx)).mono ?_;rw[z3j c2];rintro e w' ⟨rfl,rfl⟩;go_wp2_with fail;refine(z6l o.sName o.sAt o.sWeak v.aS o.nS v.cS o.nW _ (by omega) hA.capS (hA.syms.later hx) (fun i hi=>(hf.syms i hi).1)).mono ?_;rw[z1J c3];rintro e w2 ⟨rfl,hb2⟩;go_wp2;go_ret;rw[HE.out,z1J c3];exact⟨rfl,hx.trans (hb2.mono hx.size)⟩
   ·have HE:Hid (objF o=z0a (z4w o.words) o.nW):=by
     show objF o=_;unfold objF;rw[c0,c1,z1q _ c2];rfl
    go_enter Tryz.func134,Tryz.ntmps134;go_wp2_with fail;refine(HC _).mono ?_;rintro e w1 ⟨rfl,hb1⟩;clear HC;have hx:Below w.heap.size w w1:=(hb0 _).trans (hb1.mono (hb0 _).size);have hc0:w1.cell? ⟨w.heap.size,0,none⟩=some (.slice v.aN o.nN v.cN):=cell_later hb1 (by simp[go_sem]);have hc1:w1.cell? ⟨w.heap.size,0+1,none⟩=some (.slice v.aW o.nW v.cW):=cell_later hb1 (by simp[go_sem]);go_wp2_with fail;refine(z3Y o.needs v.aN o.nN v.cN _ (by omega) hA.capN (hA.needs.later hx) hf.needs).mono ?_;rw[z3j c1];rintro e w' ⟨rfl,rfl⟩;go_wp2_with fail;refine(z5w o.words v.aW o.nW v.cW _ (by omega) (hA.words.later hx)).mono ?_;rw[z1J c2];rintro e w' ⟨rfl,rfl⟩;go_wp2;go_ret;rw[HE.out,z1J c2];exact⟨rfl,hx⟩
  ·have HE:Hid (objF o=z0a (z3w o.needs) o.nN):=by
    show objF o=_;unfold objF;rw[c0,z1q _ c1];rfl
   go_enter Tryz.func134,Tryz.ntmps134;go_wp2_with fail;refine(HC _).mono ?_;rintro e w1 ⟨rfl,hb1⟩;clear HC;have hx:Below w.heap.size w w1:=(hb0 _).trans (hb1.mono (hb0 _).size);have hc0:w1.cell? ⟨w.heap.size,0,none⟩=some (.slice v.aN o.nN v.cN):=cell_later hb1 (by simp[go_sem]);go_wp2_with fail;refine(z3Y o.needs v.aN o.nN v.cN _ (by omega) hA.capN (hA.needs.later hx) hf.needs).mono ?_;rw[z1J c1];rintro e w' ⟨rfl,rfl⟩;go_wp2;go_ret;rw[HE.out,z1J c1];exact⟨rfl,hx⟩
 ·have HE:Hid (objF o=z2j o):=by
   show objF o=_;unfold objF;rw[z1q _ c0]
  simp only[z1J c0]at HC;go_enter Tryz.func134,Tryz.ntmps134;go_wp2_with fail;refine(HC _).mono ?_;rintro e w1 ⟨rfl,hb1⟩;clear HC;go_wp2;go_ret;rw[HE.out,z1J c0];exact⟨rfl,(hb0 _).trans (hb1.mono (hb0 _).size)⟩
end Go.Proofs.YtbcpcbonlhlhpaaGreatDoor
namespace Go.Proofs.YtbcpcbonlhlhpaaGreatDoor
open Go.RowKit
structure Env(w:World):Prop where
 pow : Lib.TabIs Tryz.prog w "internal/strconv.uint64pow10" .u64 Lib.pow10Tab
 maxLen:∃m,w.cell? ⟨0,0,none⟩=some (.int .i64 m)
 errS:∃ev,w.cell? ⟨2,0,none⟩=some ev/\(ev=.nilIface∨∃te pe,ev=.iface te pe)
 errR:∃ev,w.cell? ⟨3,0,none⟩=some ev/\(ev=.nilIface∨∃te pe,ev=.iface te pe)
theorem gPow : Tryz.prog.globalNamed "internal/strconv.uint64pow10" = some 1 := by kernel_rfl
theorem Env.later{w w':World}(h:Env w)(hb:Below w.heap.size w w'):Env w' where
 pow:=by
  have hl:=World.block_lt_of_cell? _ _ (h.pow.cell gPow 0 (by decide));exact var?_below hb gPow hl h.pow
 maxLen:=by obtain⟨m,hm⟩:=h.maxLen;exact⟨m,cell_later hb hm⟩
 errS:=by obtain⟨m,hm,hk⟩:=h.errS;exact⟨m,cell_later hb hm,hk⟩
 errR:=by obtain⟨m,hm,hk⟩:=h.errR;exact⟨m,cell_later hb hm,hk⟩
theorem Env.drew{w:World}(h:Env w):Env w.drew:=⟨h.pow,h.maxLen,h.errS,h.errR⟩
theorem z4u (n:Int)(w:World)(hE:Env w)(h0:-9223372036854775808<=n)(h1:n<=9223372036854775807) :
 Calls Tryz.prog 63 #[.int .i64 n] w fun e w'=>e=.returned (.string ⟨(Lib.itoa n).toArray⟩)/\Below w.heap.size w w':=by
 refine(Tryz.strconv_Itoa n h0 h1 w hE.pow).mono ?_;rintro e w' ⟨rfl,k,os,rfl⟩;exact⟨rfl,Lib.below_grow _ _ (Nat.le_refl _) _ _⟩
theorem z0v {B:Nat}{w w':World}(h:Below B w.drew w'):Below B w w':=⟨h.os,h.tape,h.output,h.size,h.block⟩
end Go.Proofs.YtbcpcbonlhlhpaaGreatDoor
namespace Go.Proofs.YtbcpcbonlhlhpaaGreatDoor
open Go.RowKit
set_option maxHeartbeats 2000000
theorem line_any(b:Bool)(bk c:Nat)(xs:List ByteArray)(w:World)(hc:∀(j:Nat) x,xs[j]?=some x->w.cell? ⟨bk,0+j,none⟩=some (.string x))(hbk:bk<w.heap.size)(hcap:xs.length<=c)(hn:xs.length<=100)
 (hlen:(Lib.join (xs.map (·.data.toList)) [32]).length<=1000000) :
 Calls Tryz.prog 135 #[.bool b,.slice (some ⟨bk,0,none⟩) xs.length c] w fun e w'=>(∃s:ByteArray,e=.returned (.string s)/\s.data.toList=z3m b (xs.map (·.data.toList)))/\Below w.heap.size w w':=by
 have HJ:=Tryz.strings_Join bk 0 c xs ⟨#[32]⟩ w hc hbk (by omega) hcap;have HL:Hid (z3m b (xs.map (·.data.toList))=(if b=true then [119,101,97,107,32]else [])++(Lib.join (xs.map (·.data.toList)) [32]++[10])):=rfl;have ej:(ByteArray.mk #[32]).data.toList=[32]:=rfl;rw[ej]at HJ;generalize Lib.join (xs.map (·.data.toList)) [32]=l at *;replace HJ:=HJ (by omega);clear hc ej;cases b
 all_goals
  go_enter Tryz.func135,Tryz.ntmps135;go_wp2_with fail;refine HJ.mono ?_;rintro e w' ⟨rfl,hb⟩;clear HJ;go_wp2;go_ret;refine⟨⟨_,rfl,?_⟩,hb⟩;rw[HL.out];simp
theorem line2(b:Bool)(x y:ByteArray)(w:World)(hx:x.size<=1000)(hy:y.size<=1000) :
 Calls Tryz.prog 135 #[.bool b,.slice (some ⟨w.heap.size,0,none⟩) 2 2] (w.alloc (.cells #[.string x,.string y] 9)) fun e w'=>(∃s:ByteArray,e=.returned (.string s)/\s.data.toList=z3m b [x.data.toList,y.data.toList])/\Below w.heap.size w w':=by
 refine(line_any b w.heap.size 2 [x,y] _ ?_ (by simp) (by simp) (by simp) ?_).mono ?_
 ·intro j v hj
  match j,hj with
  |0,hj=>simp at hj;subst hj;simp[go_sem]
  |1,hj=>simp at hj;subst hj;simp[go_sem]
 ·simp only[List.map_cons,List.map_nil];rw[join2];simp;omega
 ·rintro e w' ⟨h,hb⟩;exact⟨h,((Below.refl _ _).alloc (Nat.le_refl _) _).trans (hb.mono (by simp))⟩
theorem line3(b:Bool)(x y z:ByteArray)(w:World)(hx:x.size<=1000)(hy:y.size<=1000)(hz:z.size<=1000) :
 Calls Tryz.prog 135 #[.bool b,.slice (some ⟨w.heap.size,0,none⟩) 3 3] (w.alloc (.cells #[.string x,.string y,.string z] 9)) fun e w'=>(∃s:ByteArray,e=.returned (.string s)/\s.data.toList=z3m b [x.data.toList,y.data.toList,z.data.toList])/\Below w.heap.size w w':=by
 refine(line_any b w.heap.size 3 [x,y,z] _ ?_ (by simp) (by simp) (by simp) ?_).mono ?_
 ·intro j v hj
  match j,hj with
  |0,hj=>simp at hj;subst hj;simp[go_sem]
  |1,hj=>simp at hj;subst hj;simp[go_sem]
  |2,hj=>simp at hj;subst hj;simp[go_sem]
 ·simp only[List.map_cons,List.map_nil];rw[join3];simp;omega
 ·rintro e w' ⟨h,hb⟩;exact⟨h,((Below.refl _ _).alloc (Nat.le_refl _) _).trans (hb.mono (by simp))⟩
theorem line4(b:Bool)(x y z u:ByteArray)(w:World)(hx:x.size<=1000)(hy:y.size<=1000)(hz:z.size<=1000)(hu:u.size<=1000) :
 Calls Tryz.prog 135 #[.bool b,.slice (some ⟨w.heap.size,0,none⟩) 4 4] (w.alloc (.cells #[.string x,.string y,.string z,.string u] 9)) fun e w'=>(∃s:ByteArray,e=.returned (.string s)/\s.data.toList=z3m b [x.data.toList,y.data.toList,z.data.toList,u.data.toList])/\Below w.heap.size w w':=by
 refine(line_any b w.heap.size 4 [x,y,z,u] _ ?_ (by simp) (by simp) (by simp) ?_).mono ?_
 ·intro j v hj
  match j,hj with
  |0,hj=>simp at hj;subst hj;simp[go_sem]
  |1,hj=>simp at hj;subst hj;simp[go_sem]
  |2,hj=>simp at hj;subst hj;simp[go_sem]
  |3,hj=>simp at hj;subst hj;simp[go_sem]
 ·simp only[List.map_cons,List.map_nil];rw[join4];simp;omega
 ·rintro e w' ⟨h,hb⟩;exact⟨h,((Below.refl _ _).alloc (Nat.le_refl _) _).trans (hb.mono (by simp))⟩
structure TieBox(w:World)(bk:Nat)(x k d:Int)(s:ByteArray)(b:Bool):Prop where
 c0:w.cell? ⟨bk,0,none⟩=some (.int .i64 x)
 c1:w.cell? ⟨bk,0+1,none⟩=some (.int .i64 k)
 c2:w.cell? ⟨bk,0+2,none⟩=some (.int .i64 d)
 c3:w.cell? ⟨bk,0+3,none⟩=some (.string s)
 c4:w.cell? ⟨bk,0+4,none⟩=some (.bool b)
theorem TieBox.later{w w':World}{bk:Nat}{x k d:Int}{s:ByteArray}{b:Bool}(h:TieBox w bk x k d s b)(hb:Below w.heap.size w w'):TieBox w' bk x k d s b:=
 ⟨cell_later hb h.c0,cell_later hb h.c1,cell_later hb h.c2,cell_later hb h.c3,cell_later hb h.c4⟩
theorem tieLine_any(x k d:Int)(s:ByteArray)(b:Bool)(w:World)(hE:Env w)(hx:-9223372036854775808<=x/\x<=9223372036854775807)(hd:-9223372036854775808<=d/\d<=9223372036854775807)(hs:s.size<=1000) :
 Calls Tryz.prog 136 #[.agg #[.int .i64 x,.int .i64 k,.int .i64 d,.string s,.bool b]] w fun e w'=>(∃r:ByteArray,e=.returned (.string r)/\r.data.toList=z3R x k d s b)/\Below w.heap.size w w':=by
 have hb0:∀ob:Obj,Below w.heap.size w (w.alloc ob):=fun ob=>(Below.refl _ _).alloc (Nat.le_refl _) ob
 have hE0:Env (w.alloc (.cells #[.int .i64 x,.int .i64 k,.int .i64 d,.string s,.bool b] 98)):=hE.later (hb0 _);have hB0:TieBox (w.alloc (.cells #[.int .i64 x,.int .i64 k,.int .i64 d,.string s,.bool b] 98)) w.heap.size x k d s b:=by
  constructor <;> simp[go_sem]
 have hW0:=hb0 (.cells #[.int .i64 x,.int .i64 k,.int .i64 d,.string s,.bool b] 98);have hx1:=hx.1;have hx2:=hx.2;have hd1:=hd.1;have hd2:=hd.2;have lx:=z1v x hx.1 hx.2;have ld:=z1v d hd.1 hd.2;clear hx hd hb0 hE;go_enter Tryz.func136,Tryz.ntmps136;go_upto_region 1 with fail;go_cut [3,4]from 5 to 10 (fun u v wc=>u=.string ⟨(Lib.itoa x).toArray⟩/\v=.string ⟨(Lib.itoa d).toArray⟩/\TieBox wc w.heap.size x k d s b/\Below w.heap.size w wc)
 case first=>
  go_region_with (go_at_call 63;refine(z4u _ _ (by first|exact hE0|exact hE0.drew) (by assumption) (by assumption)).mono ?_;rintro e w1 ⟨rfl,hb⟩;(try replace hb:=z0v hb);replace hE0:=hE0.later hb;replace hB0:=hB0.later hb;replace hW0:=hW0.trans (hb.mono hW0.size);have hc0:=hB0.c0;have hc2:=hB0.c2;clear hb)
  all_goals (go_wp2_with fail;go_meet;exact⟨rfl,rfl,hB0,hW0⟩)
 case rest=>
  obtain⟨rfl,rfl,hB,hW⟩:=hcut;have c1:=hB.c1;have c3:=hB.c3;have c4:=hB.c4;clear hE0 hB0 hW0;have HX:Hid ((ByteArray.mk (Lib.itoa x).toArray).data.toList=Lib.itoa x):=by show(Lib.itoa x).toArray.toList=_;simp
  have HD:Hid ((ByteArray.mk (Lib.itoa d).toArray).data.toList=Lib.itoa d):=by show(Lib.itoa d).toArray.toList=_;simp
  have lx':(ByteArray.mk (Lib.itoa x).toArray).size<=1000:=by show(Lib.itoa x).toArray.size<=1000;simp;omega
  have ld':(ByteArray.mk (Lib.itoa d).toArray).size<=1000:=by show(Lib.itoa d).toArray.size<=1000;simp;omega
  generalize ByteArray.mk (Lib.itoa x).toArray=ix at *;generalize ByteArray.mk (Lib.itoa d).toArray=id' at *;clear lx ld hx1 hx2 hd1 hd2;by_cases k1:k=1
  ·have HE:Hid (z3R x k d s b=z3m false [[98,97,115,101],ix.data.toList,id'.data.toList]):=by
    show z3R x k d s b=_;unfold z3R;rw[if_pos k1,HX.out,HD.out]
   have d1:(k==1)=true:=by rw[beq_iff_eq];exact k1
   clear k1;go_wp2_with fail;refine(line3 false ⟨#[98,97,115,101]⟩ ix id' _ (by decide) lx' ld').mono ?_;rintro e w2 ⟨⟨r,rfl,hr⟩,hb2⟩;have HR:Hid (r.data.toList=z3m false [[98,97,115,101],ix.data.toList,id'.data.toList]):=hr;clear hr;go_wp2;go_ret;exact⟨⟨r,rfl,HR.out.trans HE.out.symm⟩,hW.trans (hb2.mono hW.size)⟩
  ·have d1:(k==1)=false:=by rw[beq_eq_false_iff_ne];exact k1
   by_cases k2:k=2
   ·have HE:Hid (z3R x k d s b=z3m b [[119,104,111,108,101],ix.data.toList,id'.data.toList,s.data.toList]):=by
     show z3R x k d s b=_;unfold z3R;rw[if_neg k1,if_pos k2,HX.out,HD.out]
    have d2:(k==2)=true:=by rw[beq_iff_eq];exact k2
    clear k1 k2;go_wp2_with fail;refine(line4 b ⟨#[119,104,111,108,101]⟩ ix id' s _ (by decide) lx' ld' hs).mono ?_;rintro e w2 ⟨⟨r,rfl,hr⟩,hb2⟩;have HR:Hid (r.data.toList=z3m b [[119,104,111,108,101],ix.data.toList,id'.data.toList,s.data.toList]):=hr;clear hr;go_wp2;go_ret;exact⟨⟨r,rfl,HR.out.trans HE.out.symm⟩,hW.trans (hb2.mono hW.size)⟩
   ·have HE:Hid (z3R x k d s b=z3m b [[110,101,97,114],ix.data.toList,id'.data.toList,s.data.toList]):=by
     show z3R x k d s b=_;unfold z3R;rw[if_neg k1,if_neg k2,HX.out,HD.out]
    have d2:(k==2)=false:=by rw[beq_eq_false_iff_ne];exact k2
    clear k1 k2;go_wp2_with fail;refine(line4 b ⟨#[110,101,97,114]⟩ ix id' s _ (by decide) lx' ld' hs).mono ?_;rintro e w2 ⟨⟨r,rfl,hr⟩,hb2⟩;have HR:Hid (r.data.toList=z3m b [[110,101,97,114],ix.data.toList,id'.data.toList,s.data.toList]):=hr;clear hr;go_wp2;go_ret;exact⟨⟨r,rfl,HR.out.trans HE.out.symm⟩,hW.trans (hb2.mono hW.size)⟩
end Go.Proofs.YtbcpcbonlhlhpaaGreatDoor
namespace Go.Proofs.YtbcpcbonlhlhpaaGreatDoor
def numF(l:List UInt8):Int:=match Lib.atoiAll l with | .ok v=>v | .range=>Lib.atoiSat l|_=>0
theorem z3y (d:Nat)(h:d<10):(UInt8.ofNat (48+d)).toNat=48+d:=by
 rw[UInt8.toNat_ofNat'];omega
theorem parse_dec:∀(k u:Nat),u<=k->u<1000000000000000000->∀r,Lib.parseUint10 0 (Lib.decDigits u++r)=Lib.parseUint10 u r:=by
 intro k
 induction k with
 |zero=>
  intro u hu _ r;have:u=0:=by omega
  subst this;rw[Lib.decDigits,dif_pos (by omega)];show Lib.parseUint10 0 (UInt8.ofNat (48+0) :: r)=_;rw[Lib.parseUint10,z3y 0 (by omega),if_pos (by omega),if_neg (by omega),if_neg (by omega)]
 |succ k ih=>
  intro u hu hb r;rw[Lib.decDigits];by_cases h:u<10
  ·rw[dif_pos h];show Lib.parseUint10 0 (UInt8.ofNat (48+u) :: r)=_;rw[Lib.parseUint10,z3y u h,if_pos (by omega),if_neg (by omega),if_neg (by omega)];congr 1;omega
  ·rw[dif_neg h,List.append_assoc,ih (u / 10) (by omega) (by omega)];show Lib.parseUint10 (u / 10) (UInt8.ofNat (48+u % 10) :: r)=_;rw[Lib.parseUint10,z3y (u % 10) (by omega),if_pos (by omega),if_neg (by omega),if_neg (by omega)];congr 1;omega
theorem z5F:∀(k u:Nat),u<=k->∀x∈Lib.decDigits u,48<=x.toNat/\x.toNat<=57:=by
 intro k
 induction k with
 |zero=>
  intro u hu x hx;rw[Lib.decDigits,dif_pos (by omega),List.mem_singleton]at hx;rw[hx,z3y u (by omega)];omega
 |succ k ih=>
  intro u hu x hx;rw[Lib.decDigits]at hx;by_cases h:u<10
  ·rw[dif_pos h,List.mem_singleton]at hx;rw[hx,z3y u (by omega)];omega
  ·rw[dif_neg h,List.mem_append,List.mem_singleton]at hx;rcases hx with hx|hx
   ·exact ih (u / 10) (by omega) x hx
   ·rw[hx,z3y (u % 10) (by omega)];omega
theorem dec_ne(u:Nat):Lib.decDigits u ≠ []:=by
 rw[Lib.decDigits];split <;> simp
theorem mag_dec(u:Nat)(hb:u<1000000000000000000):Lib.parseMag (Lib.decDigits u)=.ok u:=by
 unfold Lib.parseMag;rw[if_neg (dec_ne u)];have:=parse_dec u u (Nat.le_refl _) hb [];rw[List.append_nil]at this;rw[this];rfl
theorem z3D (n:Int)(h0:-1000000000000<=n)(h1:n<=1000000000000):numF (Lib.itoa n)=n:=by
 unfold numF
 suffices h:Lib.atoiAll (Lib.itoa n)=.ok n by rw[h]
 unfold Lib.itoa;by_cases hn:n<0
 ·rw[if_pos hn];unfold Lib.atoiAll;have e45:(45:UInt8).toNat=45:=rfl;simp only[e45,or_true,if_true];rw[mag_dec _ (by omega)];simp only[not_true,false_and,if_false,true_and];rw[if_neg (by omega)];congr 1;omega
 ·rw[if_neg hn];obtain⟨c,r,hc⟩:=List.exists_cons_of_ne_nil (dec_ne n.toNat);have hb:=z5F n.toNat n.toNat (Nat.le_refl _) c (by rw[hc];simp);have hm:=mag_dec n.toNat (by omega);rw[hc]at hm ⊢;unfold Lib.atoiAll;have e1:¬(c.toNat=43∨c.toNat=45):=by omega
  have e2:¬c.toNat=45:=by omega
  simp only[];rw[if_neg e1,hm];simp only[e2,not_false_eq_true,true_and,false_and,if_false];rw[if_neg (by omega)];congr 1;omega
theorem numF_wf(l:List UInt8):-9223372036854775808<=numF l/\numF l<=9223372036854775807:=by
 unfold numF;split
 ·rename_i v hv;unfold Lib.atoiAll at hv;split at hv
  ·cases hv
  ·simp only[]at hv;split at hv
   ·cases hv
   ·cases hv
   ·split at hv
    ·cases hv
    ·split at hv
     ·cases hv
     ·injection hv with hv;subst hv;split <;> omega
 ·unfold Lib.atoiSat;split <;> omega
 ·omega
theorem itoa_bytes(n:Int):∀x∈Lib.itoa n,x=45∨48<=x.toNat/\x.toNat<=57:=by
 intro x hx;unfold Lib.itoa at hx;split at hx
 ·rcases List.mem_cons.1 hx with h|h
  ·exact .inl h
  ·exact .inr (z5F _ _ (Nat.le_refl _) x h)
 ·exact .inr (z5F _ _ (Nat.le_refl _) x hx)
theorem z0M (n:Int)(c:UInt8)(h:c=32∨c=10):c ∉ Lib.itoa n:=by
 intro hc;rcases itoa_bytes n c hc with e|⟨e1,e2⟩
 ·rcases h with rfl|rfl <;> simp at e
 ·rcases h with rfl|rfl <;> simp at e1 e2
theorem z1b {l:List UInt8}(h:z0r l=0)(c:UInt8)(hc:c=32∨c=10):c ∉ l:=by
 have hf:z6p l l.length=true:=by
  unfold z0r at h;split at h
  ·omega
  ·split at h
   ·assumption
   ·omega
 have all:∀n,z6p l n=true->∀i,i<n->fit ((l.getD i 0).toNat:Int) ((i:Int)==0)=true:=by
  intro n
  induction n with
  |zero=>intro _ i hi;omega
  |succ n ih=>
   intro h i hi;simp only[z6p,Bool.and_eq_true]at h;by_cases e:i=n
   ·subst e;exact h.2
   ·exact ih h.1 i (by omega)
 intro hm;obtain⟨i,hi,he⟩:=List.getElem_of_mem hm;have:=all _ hf i hi;rw[List.getD_eq_getElem?_getD,List.getElem?_eq_getElem hi,Option.getD_some,he]at this;rcases hc with rfl|rfl <;> simp[fit]at this
def sp(c:UInt8)(l:List UInt8):List (List UInt8):=Lib.splitK [c] 0 (l.count c) l
theorem z7D (c:UInt8)(r:List UInt8):∀p:List UInt8,c ∉ p->Lib.indexByte (p++c :: r) c=p.length
 | [],_=>by simp[Lib.indexByte]
 |b :: p,h=>by
  have h1:(b==c)=false:=by
   rw[beq_eq_false_iff_ne];intro e;exact h (by rw[e];simp)
  have ih:=z7D c r p (fun e=>h (List.mem_cons_of_mem _ e));simp only[List.cons_append,Lib.indexByte,h1,ih,List.length_cons];rw[if_neg (by simp),if_neg (by simp)];omega
theorem index_no(c:UInt8):∀p:List UInt8,c ∉ p->Lib.indexByte p c=-1
 | [],_=>rfl
 |b :: p,h=>by
  have h1:(b==c)=false:=by
   rw[beq_eq_false_iff_ne];intro e;exact h (by rw[e];simp)
  have ih:=index_no c p (fun e=>h (List.mem_cons_of_mem _ e));simp only[Lib.indexByte,h1,ih];rfl
theorem sp_end(c:UInt8)(p:List UInt8)(h:c ∉ p):sp c p=[p]:=by
 unfold sp;rw[List.count_eq_zero.2 h];rfl
theorem sp_mid(c:UInt8)(p r:List UInt8)(h:c ∉ p):sp c (p++c :: r)=p :: sp c r:=by
 unfold sp;have hk:(p++c :: r).count c=r.count c+1:=by
  rw[List.count_append,List.count_eq_zero.2 h,List.count_cons_self];omega
 rw[hk];have hi:Lib.index (p++c :: r) [c]=p.length:=by rw[Lib.index_one,z7D c r p h]
 rw[Lib.splitK,if_neg (by rw[hi];simp),hi];simp
theorem bytes_map{xs:List ByteArray}{ys:List (List UInt8)}(h:xs.map (·.data.toList)=ys):xs=ys.map fun l=>(⟨l.toArray⟩:ByteArray):=by
 subst h;rw[List.map_map]
 conv=>lhs;rw[<-List.map_id xs]
 apply List.map_congr_left;intro x _;simp
theorem splitB_sp(c:UInt8)(s:ByteArray):Lib.splitB ⟨#[c]⟩ 0 (Lib.countB s ⟨#[c]⟩) s=(sp c s.data.toList).map fun l=>(⟨l.toArray⟩:ByteArray):=by
 apply bytes_map;rw[Lib.splitB_data];unfold sp;rw[<-Lib.count_one]
end Go.Proofs.YtbcpcbonlhlhpaaGreatDoor
