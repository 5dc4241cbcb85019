/- What ObjectFault of the document's answer returns, for -/
import Derived.Test.YtbcpcbonlhlhpaaGreatDoorPlainCut
namespace Go.Proofs.YtbcpcbonlhlhpaaGreatDoor
open Go.RowKit
set_option maxHeartbeats 6000000
set_option maxRecDepth 100000
theorem objF_counts{o:ObjF}(h0:z2j o=2):objF o=2:=by unfold objF;rw[h0];rfl
theorem objF_need{o:ObjF}(h0:z2j o=0){k:Nat}(hk:k<o.nN)(h:z0a (z3w o.needs) k=0)(h':z3w o.needs k≠0):objF o=z3w o.needs k:=by
 unfold objF;rw[h0,z0p,z0E hk h h',z1q _ h']
theorem objF_word{o:ObjF}(h0:z2j o=0)(h1:z0a (z3w o.needs) o.nN=0){k:Nat}(hk:k<o.nW)(h:z0a (z4w o.words) k=0)(h':z4w o.words k≠0):objF o=z4w o.words k:=by
 unfold objF;rw[h0,z0p,h1,z0p,z0E hk h h',z1q _ h']
theorem objF_sym{o:ObjF}(h0:z2j o=0)(h1:z0a (z3w o.needs) o.nN=0)(h2:z0a (z4w o.words) o.nW=0){k:Nat}(hk:k<o.nS)(h:z0a (symF o.nW o.sName o.sAt) k=0)(h':symF o.nW o.sName o.sAt k≠0):objF o=symF o.nW o.sName o.sAt k:=by
 unfold objF;rw[h0,z0p,h1,z0p,h2,z0p,z0E hk h h',z1q _ h']
theorem z4o {o:ObjF}(h0:z2j o=0)(h1:z0a (z3w o.needs) o.nN=0)(h2:z0a (z4w o.words) o.nW=0)(h3:z0a (symF o.nW o.sName o.sAt) o.nS=0){k:Nat}(hk:k<o.nT)(h:z0a (tieF o) k=0)(h':tieF o k≠0):objF o=tieF o k:=by
 unfold objF;rw[h0,z0p,h1,z0p,h2,z0p,h3,z0p,z0E hk h h']
theorem objF_ok{o:ObjF}(h0:z2j o=0)(h1:z0a (z3w o.needs) o.nN=0)(h2:z0a (z4w o.words) o.nW=0)(h3:z0a (symF o.nW o.sName o.sAt) o.nS=0)(h4:z0a (tieF o) o.nT=0):objF o=0:=by
 unfold objF;rw[h0,z0p,h1,z0p,h2,z0p,h3,z0p,h4]
theorem needF_name{f:Nat->ByteArray}{i:Nat}(h:z0r (f i).data.toList≠0):z3w f i=z0r (f i).data.toList:=z1q _ h
theorem needF_dup{f:Nat->ByteArray}{i j:Nat}(h:z0r (f i).data.toList=0)(hj:j<i)(e:f j=f i):z3w f i=3:=by
 unfold z3w;rw[h,z0p];exact if_pos (z1D hj (by simp[e]))
theorem needF_ok{f:Nat->ByteArray}{i:Nat}(h:z0r (f i).data.toList=0)(hd:z0H (fun j=>decide (f j=f i)) i=false):z3w f i=0:=by
 unfold z3w;rw[h,z0p];exact if_neg (by unfold dupF;rw[hd];decide)
theorem symF_name{nW:Int}{s:Nat->ByteArray}{a:Nat->Int}{i:Nat}(h:z0r (s i).data.toList≠0):symF nW s a i=z0r (s i).data.toList:=z1q _ h
theorem symF_place{nW:Int}{s:Nat->ByteArray}{a:Nat->Int}{i:Nat}(h:z0r (s i).data.toList=0)(hp:a i<0∨nW<=a i):symF nW s a i=1:=by
 unfold symF;rw[h,z0p];exact if_neg (by unfold z0j;rw[Bool.and_eq_true,decide_eq_true_eq,decide_eq_true_eq];omega)
theorem symF_dup{nW:Int}{s:Nat->ByteArray}{a:Nat->Int}{i j:Nat}(h:z0r (s i).data.toList=0)(h0:0<=a i)(h1:a i<nW)(hj:j<i)(e:s j=s i):symF nW s a i=3:=by
 unfold symF;rw[h,z0p,if_pos (by unfold z0j;rw[Bool.and_eq_true,decide_eq_true_eq,decide_eq_true_eq];omega)];exact if_pos (z1D hj (by simp[e]))
theorem symF_ok{nW:Int}{s:Nat->ByteArray}{a:Nat->Int}{i:Nat}(h:z0r (s i).data.toList=0)(h0:0<=a i)(h1:a i<nW)(hd:z0H (fun j=>decide (s j=s i)) i=false):symF nW s a i=0:=by
 unfold symF;rw[h,z0p,if_pos (by unfold z0j;rw[Bool.and_eq_true,decide_eq_true_eq,decide_eq_true_eq];omega)];exact if_neg (by unfold dupF;rw[hd];decide)
theorem toList_nil(s:ByteArray):s.toList=[] ↔ s.size=0:=by
 rw[ByteArray.toList_eq,<-List.length_eq_zero_iff];simp
theorem place_yes{a n:Int}(h0:0<=a)(h1:a<n):z0j a n=true:=by unfold z0j;rw[Bool.and_eq_true,decide_eq_true_eq,decide_eq_true_eq];omega
theorem place_no{a n:Int}(h:a<0∨n<=a):¬z0j a n=true:=by unfold z0j;rw[Bool.and_eq_true,decide_eq_true_eq,decide_eq_true_eq];omega
theorem tieF_bound{o:ObjF}{i:Nat}(h:¬(z0j (o.tAt i) o.nW=true/\z0y (o.tAdd i)=true)):tieF o i=1:=if_neg h
theorem tieF_kind{o:ObjF}{i:Nat}(h:z0j (o.tAt i) o.nW=true/\z0y (o.tAdd i)=true)(hk:o.tKind i<1∨3<o.tKind i):tieF o i=3:=by
 unfold tieF z4X;rw[if_pos h];split
 ·rfl
 ·rw[if_neg (by omega),if_neg (by omega)]
theorem tieF_ahead{o:ObjF}{i:Nat}(h:z0j (o.tAt i) o.nW=true/\z0y (o.tAdd i)=true)(ha:o.tAt i<=z5J o.tAt i):tieF o i=3:=by
 unfold tieF z4X;rw[if_pos h,if_pos ha]
theorem tieF_base{o:ObjF}{i:Nat}(h:z0j (o.tAt i) o.nW=true/\z0y (o.tAdd i)=true)(ha:¬o.tAt i<=z5J o.tAt i)(hk:o.tKind i=1):tieF o i=if (o.tName i).size=0/\o.tWeak i=false then 0 else 3:=by
 unfold tieF z4X;rw[if_pos h,if_neg ha,if_pos hk]
theorem tieF_name{o:ObjF}{i:Nat}(h:z0j (o.tAt i) o.nW=true/\z0y (o.tAdd i)=true)(ha:¬o.tAt i<=z5J o.tAt i)(hk:o.tKind i=2∨o.tKind i=3):tieF o i=z0r (o.tName i).data.toList:=by
 unfold tieF z4X;rw[if_pos h,if_neg ha,if_neg (by omega),if_pos hk]
theorem objectFault_many(v:ObjV)(o:ObjF)(w:World)(hc:4<o.nN∨o.nW<1∨40<o.nW∨8<o.nS∨6<o.nT) :
 Calls Tryz.prog 37 #[.agg (v.cells o)] w fun e w'=>e=.returned (.int .i64 2)/\Below w.heap.size w w':=by
 obtain⟨aN,cN,aW,cW,aS,cS,aT,cT⟩:=v;unfold ObjV.cells;have hx:Below w.heap.size w (w.alloc (.cells #[.slice aN o.nN cN,.slice aW o.nW cW,.slice aS o.nS cS,.slice aT o.nT cT] 56)):=(Below.refl _ _).alloc (Nat.le_refl _) _;go_enter Tryz.func37,Tryz.ntmps37;go_wp2
 all_goals first|(go_ret;exact⟨rfl,hx⟩)|(exfalso;omega)
theorem objectFault_few(v:ObjV)(o:ObjF)(w:World)(hA:z1C w v o)(hf:z6z o)(hc:z2j o=0)(hcn:o.nN<=4/\1<=o.nW/\o.nW<=40/\o.nS<=8/\o.nT<=6) :
 Calls Tryz.prog 37 #[.agg (v.cells o)] w fun e w'=>e=.returned (.int .i64 ((objF o:Nat):Int))/\Below w.heap.size w w':=by
 obtain⟨aN,cN,aW,cW,aS,cS,aT,cT⟩:=v;unfold ObjV.cells;have h5:z1z w aN o.nN fun i=>.string (o.needs i):=hA.needs
 have h6:z1z w aW o.nW fun i=>.int .i64 (o.words i):=hA.words
 have h7:z4K w aS o.nS o.sName o.sAt o.sWeak:=hA.syms;have h8:z6x w aT o.nT o.tAt o.tKind o.tAdd o.tName o.tWeak:=hA.ties;have hx:Below w.heap.size w (w.alloc (.cells #[.slice aN o.nN cN,.slice aW o.nW cW,.slice aS o.nS cS,.slice aT o.nT cT] 56)):=(Below.refl _ _).alloc (Nat.le_refl _) _;have c0:(w.alloc (.cells #[.slice aN o.nN cN,.slice aW o.nW cW,.slice aS o.nS cS,.slice aT o.nT cT] 56)).cell? ⟨w.heap.size,0,none⟩=some (.slice aN o.nN cN):=by simp[go_sem]
 have c1:(w.alloc (.cells #[.slice aN o.nN cN,.slice aW o.nW cW,.slice aS o.nS cS,.slice aT o.nT cT] 56)).cell? ⟨w.heap.size,1,none⟩=some (.slice aW o.nW cW):=by simp[go_sem]
 have c2:(w.alloc (.cells #[.slice aN o.nN cN,.slice aW o.nW cW,.slice aS o.nS cS,.slice aT o.nT cT] 56)).cell? ⟨w.heap.size,2,none⟩=some (.slice aS o.nS cS):=by simp[go_sem]
 have c3:(w.alloc (.cells #[.slice aN o.nN cN,.slice aW o.nW cW,.slice aS o.nS cS,.slice aT o.nT cT] 56)).cell? ⟨w.heap.size,3,none⟩=some (.slice aT o.nT cT):=by simp[go_sem]
 replace h5:=h5.later hx;replace h6:=h6.later hx;replace h7:=h7.later hx;replace h8:=h8.later hx;obtain⟨g1,g2,g3,g4,g5⟩:=hcn;have k1:¬(4:Int)<o.nN:=by omega
 have k2:¬(o.nW:Int)<1:=by omega
 have k3:¬(40:Int)<o.nW:=by omega
 have k4:¬(8:Int)<o.nS:=by omega
 have k5:¬(6:Int)<o.nT:=by omega
 clear hA g1 g2 g3 g4 g5;go_enter Tryz.func37,Tryz.ntmps37;go_wp2;generalize w.alloc (.cells #[.slice aN o.nN cN,.slice aW o.nW cW,.slice aS o.nS cS,.slice aT o.nT cT] 56)=Y at *;have HC:Hid (z2j o=0):=hc;clear hc;go_loopw [3] (fun x wr=>∃k j:Nat,k<=o.nN/\x=.int .i64 k/\wr=Y.drewN j/\Hid (z0a (z3w o.needs) k=0)) (fun x _=>o.nN-(intOf x).toNat)
 case atStart=>exact⟨0,0,Nat.zero_le _,rfl,rfl,rfl⟩
 case round=>
  obtain⟨k,j,hk,rfl,hw,HF⟩:=hrel;subst hw;by_cases hlt:k<o.nN
  ·rcases h5 with h0|⟨b1,o1,rfl,h5⟩
   ·omega
   have p0:=h5 k hlt;have HN:=z2d (o.needs k) (Y.drewN j) (hf.needs k hlt);by_cases hz:z0r (o.needs k).data.toList=0
   ·rw[hz]at HN;clear h6 h7 h8;go_wp2_with fail;refine HN.mono ?_;rintro e w2 ⟨rfl,hw2⟩;replace hw2:=hw2.symm;subst hw2;clear HN;go_wp2;go_loopw [5] (fun x wr=>∃q i:Nat,q<=k/\x=.int .i64 q/\wr=Y.drewN i/\Hid (z0H (fun j=>decide (o.needs j=o.needs k)) q=false)) (fun x _=>k-(intOf x).toNat)
    case atStart=>exact⟨0,j,Nat.zero_le _,rfl,rfl,rfl⟩
    case round=>
     obtain⟨q,i,hq,rfl,hw,HA⟩:=hrel;subst hw;by_cases hqk:q<k
     ·have p1:=h5 q (by omega);by_cases he:o.needs q=o.needs k
      ·have e3:=needF_dup hz hqk he;have HR:Hid (objF o=3):=(objF_need HC.out hlt HF.out (by rw[e3];decide)).trans e3;have hbe:((o.needs q).toList==(o.needs k).toList)=true:=by rw[z0z];simp[he]
       clear e3 he hz h5;go_wp2;go_quiet (fail);go_wp2;go_ret;rw[HR.out];exact⟨rfl,below_drewN (below_drewN hx _) _⟩
      ·have HR:Hid (z0H (fun j=>decide (o.needs j=o.needs k)) (q+1)=false):=z2U HA.out (by simp[he]);have hbe:((o.needs q).toList==(o.needs k).toList)=false:=by rw[z0z];simp[he]
       clear he hz h5;go_wp2;go_quiet (fail);go_wp2;go_roundw
       case rel=>exact⟨q+1,i+nq,by omega,by go_num,rfl,HR⟩
       case measure=>simp[intOf];omega
     ·have e:q=k:=by omega
      subst e;have HR:Hid (z0a (z3w o.needs) (q+1)=0):=z0L HF.out (needF_ok hz HA.out);clear hz h5;go_wp2;go_roundw
      case rel=>exact⟨q+1,i,by omega,by go_num,rfl,HR⟩
      case measure=>simp[intOf];omega
   ·have hp:(0:Int)<((z0r (o.needs k).data.toList:Nat):Int):=by omega
    have HR:Hid (objF o=z0r (o.needs k).data.toList):=(objF_need HC.out hlt HF.out (by rw[needF_name hz];exact hz)).trans (needF_name hz);generalize z0r (o.needs k).data.toList=F at *;clear h6 h7 h8 hz;go_wp2_with fail;refine HN.mono ?_;rintro e w2 ⟨rfl,hw2⟩;replace hw2:=hw2.symm;subst hw2;clear HN;go_wp2;go_ret;rw[HR.out];exact⟨rfl,below_drewN hx _⟩
  ·have e:k=o.nN:=by omega
   subst e;clear h5;have H1:Hid (z0a (z3w o.needs) o.nN=0):=HF;clear HF;go_wp2;go_loopw [6] (fun x wr=>∃k i:Nat,k<=o.nW/\x=.int .i64 k/\wr=Y.drewN i/\Hid (z0a (z4w o.words) k=0)) (fun x _=>o.nW-(intOf x).toNat)
   case atStart=>exact⟨0,j,Nat.zero_le _,rfl,rfl,rfl⟩
   case round=>
    obtain⟨k,i,hk,rfl,hw,HF⟩:=hrel;subst hw;by_cases hlt:k<o.nW
    ·rcases h6 with h0|⟨b1,o1,rfl,h6⟩
     ·omega
     have p0:=h6 k hlt;have HN:=z7r (o.words k) (Y.drewN i);by_cases hz:z0y (o.words k)=true
     ·have e0:z4w o.words k=0:=if_pos hz;have HR:Hid (z0a (z4w o.words) (k+1)=0):=z0L HF.out e0;rw[hz]at HN;clear h6 h7 h8 hz e0;go_wp2_with fail;refine HN.mono ?_;rintro e w2 ⟨rfl,hw2⟩;replace hw2:=hw2.symm;subst hw2;clear HN;go_wp2;go_roundw
      case rel=>exact⟨k+1,i,by omega,by go_num,rfl,HR⟩
      case measure=>simp[intOf];omega
     ·have e0:z4w o.words k=1:=if_neg hz;have HR:Hid (objF o=1):=(objF_word HC.out H1.out hlt HF.out (by rw[e0];decide)).trans e0;rw[show z0y (o.words k)=false by simpa using hz]at HN;clear h6 h7 h8 hz e0;go_wp2_with fail;refine HN.mono ?_;rintro e w2 ⟨rfl,hw2⟩;replace hw2:=hw2.symm;subst hw2;clear HN;go_wp2;go_ret;rw[HR.out];exact⟨rfl,below_drewN hx _⟩
    ·have e:k=o.nW:=by omega
     subst e;have H2:Hid (z0a (z4w o.words) o.nW=0):=HF;clear h6 HF;go_wp2;go_loopw [8] (fun x wr=>∃k:Nat,k<=o.nS/\x=.int .i64 k/\Below Y.heap.size Y wr/\Hid (z0a (symF o.nW o.sName o.sAt) k=0)) (fun x _=>o.nS-(intOf x).toNat)
     case atStart=>exact⟨0,Nat.zero_le _,rfl,below_drewN (Below.refl _ _) _,rfl⟩
     case round=>
      obtain⟨k,hk,rfl,hb,HF⟩:=hrel;have d1:=cell_later hb c1;have d2:=cell_later hb c2;have hxb:=hx.trans (hb.mono hx.size);by_cases hlt:k<o.nS
      ·rcases h7 with h0|⟨b1,o1,rfl,h7⟩
       ·omega
       have p0:=cell_later hb (h7 k hlt).1;have p1:=cell_later hb (h7 k hlt).2.1;have p2:=cell_later hb (h7 k hlt).2.2;have HN:=fun W=>z2d (o.sName k) W (hf.syms k hlt).1
       have hal:Below wr.heap.size wr (wr.alloc (.cells #[.string (o.sName k),.int .i64 (o.sAt k),.bool (o.sWeak k)] 96)):=(Below.refl _ _).alloc (Nat.le_refl _) _;have q0:(wr.alloc (.cells #[.string (o.sName k),.int .i64 (o.sAt k),.bool (o.sWeak k)] 96)).cell? ⟨wr.heap.size,0,none⟩=some (.string (o.sName k)):=by simp[go_sem]
       have q1:(wr.alloc (.cells #[.string (o.sName k),.int .i64 (o.sAt k),.bool (o.sWeak k)] 96)).cell? ⟨wr.heap.size,1,none⟩=some (.int .i64 (o.sAt k)):=by simp[go_sem]
       clear c0 c1 c2 c3 h8;go_wp2_with fail;refine(HN _).mono ?_;rintro e w2 ⟨rfl,hw2⟩;rw[hw2]at hal q0 q1;replace d1:=cell_later hal d1;replace d2:=cell_later hal d2;replace hb:=hb.trans (hal.mono hb.size);replace hxb:=hxb.trans (hal.mono hxb.size);clear hw2 HN p0 p1 p2 hal;by_cases hz:z0r (o.sName k).data.toList=0
       ·rw[hz];by_cases hp:o.sAt k<0∨(o.nW:Int)<=o.sAt k
        ·have e0:=symF_place (nW:=o.nW) (a:=o.sAt) hz hp;have HR:Hid (objF o=1):=(objF_sym HC.out H1.out H2.out hlt HF.out (by rw[e0];decide)).trans e0;clear e0 hz h7;go_wp2
         all_goals first|(go_ret;rw[HR.out];exact⟨rfl,hxb⟩)|(exfalso;omega)
        ·have a0:¬o.sAt k<0:=by omega
         have a1:¬(o.nW:Int)<=o.sAt k:=by omega
         clear hp;go_wp2;go_loopw [11] (fun x wr=>∃q i:Nat,q<=k/\x=.int .i64 q/\wr=w2.drewN i/\Hid (z0H (fun j=>decide (o.sName j=o.sName k)) q=false)) (fun x _=>k-(intOf x).toNat)
         case atStart=>exact⟨0,0,Nat.zero_le _,rfl,rfl,rfl⟩
         case round=>
          obtain⟨q,i,hq,rfl,hw,HA⟩:=hrel;subst hw;by_cases hqk:q<k
          ·have p1:=cell_later hb (h7 q (by omega)).1;by_cases he:o.sName q=o.sName k
           ·have e3:=symF_dup (nW:=o.nW) (a:=o.sAt) hz (by omega) (by omega) hqk he;have HR:Hid (objF o=3):=(objF_sym HC.out H1.out H2.out hlt HF.out (by rw[e3];decide)).trans e3;have hbe:((o.sName q).toList==(o.sName k).toList)=true:=by rw[z0z];simp[he]
            clear e3 he hz h7;go_wp2;go_quiet (fail);go_wp2;go_ret;rw[HR.out];exact⟨rfl,below_drewN (below_drewN hxb _) _⟩
           ·have HR:Hid (z0H (fun j=>decide (o.sName j=o.sName k)) (q+1)=false):=z2U HA.out (by simp[he]);have hbe:((o.sName q).toList==(o.sName k).toList)=false:=by rw[z0z];simp[he]
            clear he hz h7;go_wp2;go_quiet (fail);go_wp2;go_roundw
            case rel=>exact⟨q+1,i+nq,by omega,by go_num,rfl,HR⟩
            case measure=>simp[intOf];omega
          ·have e:q=k:=by omega
           subst e;have HR:Hid (z0a (symF o.nW o.sName o.sAt) (q+1)=0):=z0L HF.out (symF_ok hz (by omega) (by omega) HA.out);clear hz h7;go_wp2;go_roundw
           case rel=>exact⟨q+1,by omega,by go_num,below_drewN hb _,HR⟩
           case measure=>simp[intOf];omega
       ·have hp:(0:Int)<((z0r (o.sName k).data.toList:Nat):Int):=by omega
        have HR:Hid (objF o=z0r (o.sName k).data.toList):=(objF_sym HC.out H1.out H2.out hlt HF.out (by rw[symF_name hz];exact hz)).trans (symF_name hz);generalize z0r (o.sName k).data.toList=F at *;clear hz h7;go_wp2;go_ret;rw[HR.out];exact⟨rfl,hxb⟩
      ·have e:k=o.nS:=by omega
       subst e;have H3:Hid (z0a (symF o.nW o.sName o.sAt) o.nS=0):=HF;clear h7 HF;go_wp2;go_loopw [12] (fun x wr=>∃k:Nat,k<=o.nT/\x=.int .i64 k/\Below Y.heap.size Y wr/\Hid (z0a (tieF o) k=0)) (fun x _=>o.nT-(intOf x).toNat)
       case atStart=>exact⟨0,Nat.zero_le _,rfl,hb,rfl⟩
       case round=>
        clear hb d1 d2 hxb;obtain⟨k,hk,rfl,hb,HF⟩:=hrel;have d1:=cell_later hb c1;have d3:=cell_later hb c3;have hxb:=hx.trans (hb.mono hx.size);by_cases hlt:k<o.nT
        ·rcases h8 with h0|⟨b1,o1,rfl,h8⟩
         ·omega
         have p0:=cell_later hb (h8 k hlt).1;have p1:=cell_later hb (h8 k hlt).2.1;have p2:=cell_later hb (h8 k hlt).2.2.1;have p3:=cell_later hb (h8 k hlt).2.2.2.1;have p4:=cell_later hb (h8 k hlt).2.2.2.2;have HN:=fun W=>z7r (o.tAdd k) W
         have hal:Below wr.heap.size wr (wr.alloc (.cells #[.int .i64 (o.tAt k),.int .i64 (o.tKind k),.int .i64 (o.tAdd k),.string (o.tName k),.bool (o.tWeak k)] 98)):=(Below.refl _ _).alloc (Nat.le_refl _) _;have q0:(wr.alloc (.cells #[.int .i64 (o.tAt k),.int .i64 (o.tKind k),.int .i64 (o.tAdd k),.string (o.tName k),.bool (o.tWeak k)] 98)).cell? ⟨wr.heap.size,0,none⟩=some (.int .i64 (o.tAt k)):=by simp[go_sem]
         have q1:(wr.alloc (.cells #[.int .i64 (o.tAt k),.int .i64 (o.tKind k),.int .i64 (o.tAdd k),.string (o.tName k),.bool (o.tWeak k)] 98)).cell? ⟨wr.heap.size,1,none⟩=some (.int .i64 (o.tKind k)):=by simp[go_sem]
         have q3:(wr.alloc (.cells #[.int .i64 (o.tAt k),.int .i64 (o.tKind k),.int .i64 (o.tAdd k),.string (o.tName k),.bool (o.tWeak k)] 98)).cell? ⟨wr.heap.size,3,none⟩=some (.string (o.tName k)):=by simp[go_sem]
         have q4:(wr.alloc (.cells #[.int .i64 (o.tAt k),.int .i64 (o.tKind k),.int .i64 (o.tAdd k),.string (o.tName k),.bool (o.tWeak k)] 98)).cell? ⟨wr.heap.size,4,none⟩=some (.bool (o.tWeak k)):=by simp[go_sem]
         clear c0 c1 c2 c3;go_wp2_with fail;refine(HN _).mono ?_;rintro e w2 ⟨rfl,hw2⟩;rw[hw2]at hal q0 q1 q3 q4;replace d1:=cell_later hal d1;replace d3:=cell_later hal d3;replace hb:=hb.trans (hal.mono hb.size);replace hxb:=hxb.trans (hal.mono hxb.size);clear hw2 HN p0 p1 p2 p3 p4 hal;cases hwd:z0y (o.tAdd k)with
         |false=>
          have e0:tieF o k=1:=tieF_bound (fun h=>by rw[hwd]at h;exact absurd h.2 (by decide));have HR:Hid (objF o=1):=(z4o HC.out H1.out H2.out H3.out hlt HF.out (by rw[e0];decide)).trans e0;clear e0 h8;go_wp2
          all_goals (go_ret;rw[HR.out];exact⟨rfl,hxb⟩)
         |true=>
          by_cases hp:o.tAt k<0∨(o.nW:Int)<=o.tAt k
          ·have e0:tieF o k=1:=tieF_bound (fun h=>place_no hp h.1);have HR:Hid (objF o=1):=(z4o HC.out H1.out H2.out H3.out hlt HF.out (by rw[e0];decide)).trans e0;clear e0 h8;go_wp2
           all_goals first|(go_ret;rw[HR.out];exact⟨rfl,hxb⟩)|(exfalso;omega)
          ·have a0:¬o.tAt k<0:=by omega
           have a1:¬(o.nW:Int)<=o.tAt k:=by omega
           have hpw:z0j (o.tAt k) o.nW=true/\z0y (o.tAdd k)=true:=⟨place_yes (by omega) (by omega),hwd⟩;have HP:Hid (z0j (o.tAt k) o.nW=true/\z0y (o.tAdd k)=true):=hpw;clear hp hpw;by_cases hk1:o.tKind k<1
           ·have e0:=tieF_kind HP.out (.inl hk1);have HR:Hid (objF o=3):=(z4o HC.out H1.out H2.out H3.out hlt HF.out (by rw[e0];decide)).trans e0;clear e0 h8;have gd1:decide (o.tKind k<1)=true:=by simpa using hk1
            go_wp2;go_quiet (fail);go_wp2;go_ret;rw[HR.out];exact⟨rfl,below_drewN hxb _⟩
           ·by_cases hk3:3<o.tKind k
            ·have e0:=tieF_kind HP.out (.inr hk3);have HR:Hid (objF o=3):=(z4o HC.out H1.out H2.out H3.out hlt HF.out (by rw[e0];decide)).trans e0;clear e0 h8;have gd1:decide (o.tKind k<1)=false:=by simpa using hk1
             have gd3:decide (3<o.tKind k)=true:=by simpa using hk3
             go_wp2;go_quiet (fail);go_wp2;go_ret;rw[HR.out];exact⟨rfl,below_drewN hxb _⟩
            ·by_cases hpr:0<k/\o.tAt k<=o.tAt (k-1)
             ·have e0:=tieF_ahead HP.out (by have:=hpr.2;rw[show k=(k-1)+1 by omega];exact(show o.tAt ((k-1)+1)<=o.tAt (k-1) by rw[show(k-1)+1=k by omega];exact this));have HR:Hid (objF o=3):=(z4o HC.out H1.out H2.out H3.out hlt HF.out (by rw[e0];decide)).trans e0;have pp:=cell_later hb (h8 (k-1) (by omega)).1;have hk0':(0:Int)<k:=by omega
              have hpr2:=hpr.2;clear e0 h8 hpr;have gd1:decide (o.tKind k<1)=false:=by simpa using hk1
              have gd3:decide (3<o.tKind k)=false:=by simpa using hk3
              have gd0:decide (0<k)=true:=by simpa using hk0'
              go_wp2;go_quiet (fail);go_wp2;go_ret;rw[HR.out];exact⟨rfl,below_drewN hxb _⟩
             ·have HAh:Hid (¬o.tAt k<=z5J o.tAt k):=by
               show ¬o.tAt k<=z5J o.tAt k;cases k with
               |zero=>show ¬o.tAt 0 <= -1;omega
               |succ m=>show ¬o.tAt (m+1)<=o.tAt m;exact fun h=>hpr ⟨by omega,h⟩
              by_cases hk0:0<k
              ·have pp:=cell_later hb (h8 (k-1) (by omega)).1;have hk0':(0:Int)<k:=by omega
               have gd1:decide (o.tKind k<1)=false:=by simpa using hk1
               have gd3:decide (3<o.tKind k)=false:=by simpa using hk3
               have gd0:decide (0<k)=true:=by simpa using hk0'
               have gdp:decide (o.tAt k<=o.tAt (k-1))=false:=by simpa using fun h=>hpr ⟨hk0,h⟩
               clear hpr h8;go_wp2;go_quiet (fail);by_cases hkd:o.tKind k=1
               ·by_cases hn:(o.tName k).size=0/\o.tWeak k=false
                ·have e0:tieF o k=0:=(tieF_base HP.out (Int.not_le.2 HAh.out) hkd).trans (if_pos hn);have HR:Hid (z0a (tieF o) (k+1)=0):=z0L HF.out e0;have hn1:(o.tName k).toList=[]:=(toList_nil _).2 hn.1;have hn2:=hn.2;clear hn e0;go_wp2;go_roundw
                 case rel=>exact⟨k+1,by omega,by go_num,below_drewN hb _,HR⟩
                 case measure=>simp[intOf];omega
                ·have e0:tieF o k=3:=(tieF_base HP.out (Int.not_le.2 HAh.out) hkd).trans (if_neg hn);have HR:Hid (objF o=3):=(z4o HC.out H1.out H2.out H3.out hlt HF.out (by rw[e0];decide)).trans e0;by_cases hn1:(o.tName k).toList=[]
                 ·have hn2:o.tWeak k=true:=by
                   cases hwk:o.tWeak k
                   ·exact absurd ⟨(toList_nil _).1 hn1,hwk⟩ hn
                   ·rfl
                  clear hn e0;go_wp2;go_ret;rw[HR.out];exact⟨rfl,below_drewN hxb _⟩
                 ·clear hn e0;go_wp2;go_ret;rw[HR.out];exact⟨rfl,below_drewN hxb _⟩
               ·have hk2:(1:Int)<o.tKind k:=by omega
                have e0:=tieF_name HP.out (Int.not_le.2 HAh.out) (show o.tKind k=2∨o.tKind k=3 by omega);go_wp2_with fail;refine(z2d (o.tName k) _ (hf.ties k hlt).1).mono ?_;rintro e w3 ⟨rfl,hw3⟩;replace hw3:=hw3.symm;subst hw3;by_cases hz:z0r (o.tName k).data.toList=0
                ·rw[hz]at e0 ⊢;have HR:Hid (z0a (tieF o) (k+1)=0):=z0L HF.out e0;clear e0 hz;go_wp2;go_roundw
                 case rel=>exact⟨k+1,by omega,by go_num,below_drewN hb _,HR⟩
                 case measure=>simp[intOf];omega
                ·have HR:Hid (objF o=z0r (o.tName k).data.toList):=(z4o HC.out H1.out H2.out H3.out hlt HF.out (by rw[e0];exact hz)).trans e0;have hp:(0:Int)<((z0r (o.tName k).data.toList:Nat):Int):=by omega
                 clear e0;generalize z0r (o.tName k).data.toList=F at *;clear hz;go_wp2;go_ret;rw[HR.out];exact⟨rfl,below_drewN hxb _⟩
              ·have gd1:decide (o.tKind k<1)=false:=by simpa using hk1
               have gd3:decide (3<o.tKind k)=false:=by simpa using hk3
               have gd0:decide (0<k)=false:=by simpa using hk0
               clear hpr h8;go_wp2;go_quiet (fail);by_cases hkd:o.tKind k=1
               ·by_cases hn:(o.tName k).size=0/\o.tWeak k=false
                ·have e0:tieF o k=0:=(tieF_base HP.out (Int.not_le.2 HAh.out) hkd).trans (if_pos hn);have HR:Hid (z0a (tieF o) (k+1)=0):=z0L HF.out e0;have hn1:(o.tName k).toList=[]:=(toList_nil _).2 hn.1;have hn2:=hn.2;clear hn e0;go_wp2;go_roundw
                 case rel=>exact⟨k+1,by omega,by go_num,below_drewN hb _,HR⟩
                 case measure=>simp[intOf];omega
                ·have e0:tieF o k=3:=(tieF_base HP.out (Int.not_le.2 HAh.out) hkd).trans (if_neg hn);have HR:Hid (objF o=3):=(z4o HC.out H1.out H2.out H3.out hlt HF.out (by rw[e0];decide)).trans e0;by_cases hn1:(o.tName k).toList=[]
                 ·have hn2:o.tWeak k=true:=by
                   cases hwk:o.tWeak k
                   ·exact absurd ⟨(toList_nil _).1 hn1,hwk⟩ hn
                   ·rfl
                  clear hn e0;go_wp2;go_ret;rw[HR.out];exact⟨rfl,below_drewN hxb _⟩
                 ·clear hn e0;go_wp2;go_ret;rw[HR.out];exact⟨rfl,below_drewN hxb _⟩
               ·have hk2:(1:Int)<o.tKind k:=by omega
                have e0:=tieF_name HP.out (Int.not_le.2 HAh.out) (show o.tKind k=2∨o.tKind k=3 by omega);go_wp2_with fail;refine(z2d (o.tName k) _ (hf.ties k hlt).1).mono ?_;rintro e w3 ⟨rfl,hw3⟩;replace hw3:=hw3.symm;subst hw3;by_cases hz:z0r (o.tName k).data.toList=0
                ·rw[hz]at e0 ⊢;have HR:Hid (z0a (tieF o) (k+1)=0):=z0L HF.out e0;clear e0 hz;go_wp2;go_roundw
                 case rel=>exact⟨k+1,by omega,by go_num,below_drewN hb _,HR⟩
                 case measure=>simp[intOf];omega
                ·have HR:Hid (objF o=z0r (o.tName k).data.toList):=(z4o HC.out H1.out H2.out H3.out hlt HF.out (by rw[e0];exact hz)).trans e0;have hp:(0:Int)<((z0r (o.tName k).data.toList:Nat):Int):=by omega
                 clear e0;generalize z0r (o.tName k).data.toList=F at *;clear hz;go_wp2;go_ret;rw[HR.out];exact⟨rfl,below_drewN hxb _⟩
        ·have e:k=o.nT:=by omega
         subst e;have HR:Hid (objF o=0):=objF_ok HC.out H1.out H2.out H3.out HF.out;clear h8;go_wp2;go_ret;rw[HR.out];exact⟨rfl,hxb⟩
theorem objectFault_any(v:ObjV)(o:ObjF)(w:World)(hA:z1C w v o)(hf:z6z o) :
 Calls Tryz.prog 37 #[.agg (v.cells o)] w fun e w'=>e=.returned (.int .i64 ((objF o:Nat):Int))/\Below w.heap.size w w':=by
 by_cases hc:4<o.nN∨o.nW<1∨40<o.nW∨8<o.nS∨6<o.nT
 ·have h2:z2j o=2:=if_pos (by omega);rw[objF_counts h2];exact objectFault_many v o w hc
 ·exact objectFault_few v o w hA hf (if_neg (by omega)) (by omega)
end Go.Proofs.YtbcpcbonlhlhpaaGreatDoor
