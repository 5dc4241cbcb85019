/- What ObjectText of the document's answer returns, for every -/
import Derived.Test.YtbcpcbonlhlhpaaGreatDoorPlainCut
import Derived.Deep.DeepCutAuto
namespace Go.Proofs.YtbcpcbonlhlhpaaGreatDoor
open Go.RowKit
set_option maxHeartbeats 30000000
set_option maxRecDepth 100000
theorem need_cat(o:ObjF)(k:Nat)(t:ByteArray)(h:t.data.toList=z0G o k):(t++⟨#[110,101,101,100,32]⟩++o.needs k++⟨#[10]⟩).data.toList=z0G o (k+1):=by
 show _=z0G o k++z5e (o.needs k);rw[<-h];unfold z5e z3m;rw[join2];simp
theorem word_cat(o:ObjF)(k:Nat)(t r:ByteArray)(h:t.data.toList=z0G o o.nN++z1a o k)(hr:r.data.toList=Lib.itoa (o.words k)):(t++⟨#[119,111,114,100,32]⟩++r++⟨#[10]⟩).data.toList=z0G o o.nN++z1a o (k+1):=by
 show _=z0G o o.nN++(z1a o k++z5d (o.words k));rw[<-List.append_assoc,<-h];unfold z5d z3m;rw[join2,<-hr];simp
theorem sym_cat(o:ObjF)(k:Nat)(t r:ByteArray)(h:t.data.toList=z0G o o.nN++z1a o o.nW++z2K o k)(hr:r.data.toList=Lib.itoa (o.sAt k))(b:Bool)(hb:o.sWeak k=b) :
 ((if b=true then t++⟨#[119,101,97,107,32]⟩else t)++⟨#[115,121,109,98,111,108,32]⟩++o.sName k++⟨#[32]⟩++r++⟨#[10]⟩).data.toList=z0G o o.nN++z1a o o.nW++z2K o (k+1):=by
 show _=z0G o o.nN++z1a o o.nW++(z2K o k++symLn (o.sName k) (o.sAt k) (o.sWeak k));rw[<-List.append_assoc,<-h,hb];unfold symLn z3m;rw[join3,<-hr];cases b <;> simp
def weakB(b:Bool)(t:ByteArray):ByteArray:=if b=true then t++⟨#[119,101,97,107,32]⟩else t
theorem weakB_size(b:Bool)(t:ByteArray):(weakB b t).size<=t.size+5:=by
 cases b
 ·exact Nat.le_add_right _ _
 ·show(t++⟨#[119,101,97,107,32]⟩).size<=_;rw[ByteArray.size_append];exact Nat.le_refl _
def z7u (m:Nat):ByteArray:=if m=1 then⟨#[98,97,115,101]⟩else if m=2 then⟨#[119,104,111,108,101]⟩else⟨#[110,101,97,114]⟩
theorem kindB_size(m:Nat):(z7u m).size<=5:=by
 unfold z7u;split
 ·decide
 ·split
  ·decide
  ·decide
theorem tie_cat1(o:ObjF)(k m:Nat)(t r s:ByteArray)(h:t.data.toList=z0G o o.nN++z1a o o.nW++z2K o o.nS++z4v o k)(hr:r.data.toList=Lib.itoa (o.tAt k))(hs:s.data.toList=Lib.itoa (o.tAdd k))(hm:o.tKind k=(m:Int))(h1:m=1) :
 (t++z7u m++⟨#[32]⟩++r++⟨#[32]⟩++s++⟨#[10]⟩).data.toList=z0G o o.nN++z1a o o.nW++z2K o o.nS++z4v o (k+1):=by
 show _=z0G o o.nN++z1a o o.nW++z2K o o.nS++(z4v o k++z3R (o.tAt k) (o.tKind k) (o.tAdd k) (o.tName k) (o.tWeak k));rw[<-List.append_assoc,<-h];subst h1;unfold z3R z3m z7u;rw[if_pos rfl,if_pos (by rw[hm];rfl),join3,<-hr,<-hs];simp
theorem tie_cat2(o:ObjF)(k m:Nat)(t r s:ByteArray)(h:t.data.toList=z0G o o.nN++z1a o o.nW++z2K o o.nS++z4v o k)(hr:r.data.toList=Lib.itoa (o.tAt k))(hs:s.data.toList=Lib.itoa (o.tAdd k))(hm:o.tKind k=(m:Int))(h1:m=2∨m=3)(b:Bool)(hb:o.tWeak k=b) :
 ((if b=true then t++⟨#[119,101,97,107,32]⟩else t)++z7u m++⟨#[32]⟩++r++⟨#[32]⟩++s++⟨#[32]⟩++o.tName k++⟨#[10]⟩).data.toList=z0G o o.nN++z1a o o.nW++z2K o o.nS++z4v o (k+1):=by
 show _=z0G o o.nN++z1a o o.nW++z2K o o.nS++(z4v o k++z3R (o.tAt k) (o.tKind k) (o.tAdd k) (o.tName k) (o.tWeak k));rw[<-List.append_assoc,<-h,hb];unfold z3R z3m;rcases h1 with rfl|rfl
 ·have e1:¬o.tKind k=1:=by rw[hm];decide
  have e2:o.tKind k=2:=by rw[hm];rfl
  rw[if_neg e1,if_pos e2,join4,<-hr,<-hs];cases b <;> simp[z7u]
 ·have e1:¬o.tKind k=1:=by rw[hm];decide
  have e2:¬o.tKind k=2:=by rw[hm];decide
  rw[if_neg e1,if_neg e2,join4,<-hr,<-hs];cases b <;> simp[z7u]
structure TieSt(Z wc:World)(bt bk m:Nat)(x d:Int)(nm kd:ByteArray):Prop where
 below:Below Z.heap.size Z wc
 q0:wc.cell? ⟨bt,0,none⟩=some (.int .i64 x)
 q1:wc.cell? ⟨bt,1,none⟩=some (.int .i64 (m:Int))
 q2:wc.cell? ⟨bt,2,none⟩=some (.int .i64 d)
 q3:wc.cell? ⟨bt,3,none⟩=some (.string nm)
 pk:wc.cell? ⟨bk,m,none⟩=some (.string kd)
theorem TieSt.later{Z wc wd:World}{bt bk m:Nat}{x d:Int}{nm kd:ByteArray}(h:TieSt Z wc bt bk m x d nm kd)(hb:Below wc.heap.size wc wd):TieSt Z wd bt bk m x d nm kd:=
 ⟨h.below.trans (hb.mono h.below.size),cell_later hb h.q0,cell_later hb h.q1,cell_later hb h.q2,cell_later hb h.q3,cell_later hb h.pk⟩
theorem z2l {t:ByteArray}{l:List UInt8}(h:t.data.toList=l):t.size=l.length:=by rw[<-h];simp
theorem objectText_any(v:ObjV)(o:ObjF)(F:Nat)(L:List UInt8)(w:World)(hA:z1C w v o)(hok:z3J o)(hFL:(F,L)=if 1200<(z3Q o).length then(2,[])else(0,z3Q o)) :
 Calls Tryz.prog 38 #[.agg (v.cells o)] w fun e w'=>(∃t:ByteArray,e=.returned (.tuple #[.string t,.int .i64 (F:Int)])/\t.data.toList=L)/\Below w.heap.size w w':=by
 obtain⟨aN,cN,aW,cW,aS,cS,aT,cT⟩:=v;unfold ObjV.cells;have h5:z1z w aN o.nN fun i=>.string (o.needs i):=hA.needs
 have h6:z1z w aW o.nW fun i=>.int .i64 (o.words i):=hA.words
 have h7:z4K w aS o.nS o.sName o.sAt o.sWeak:=hA.syms;have h8:z6x w aT o.nT o.tAt o.tKind o.tAdd o.tName o.tWeak:=hA.ties;have hx:Below w.heap.size w (w.alloc (.cells #[.slice aN o.nN cN,.slice aW o.nW cW,.slice aS o.nS cS,.slice aT o.nT cT] 56)):=(Below.refl _ _).alloc (Nat.le_refl _) _;have c0:(w.alloc (.cells #[.slice aN o.nN cN,.slice aW o.nW cW,.slice aS o.nS cS,.slice aT o.nT cT] 56)).cell? ⟨w.heap.size,0,none⟩=some (.slice aN o.nN cN):=by simp[go_sem]
 have c1:(w.alloc (.cells #[.slice aN o.nN cN,.slice aW o.nW cW,.slice aS o.nS cS,.slice aT o.nT cT] 56)).cell? ⟨w.heap.size,1,none⟩=some (.slice aW o.nW cW):=by simp[go_sem]
 have c2:(w.alloc (.cells #[.slice aN o.nN cN,.slice aW o.nW cW,.slice aS o.nS cS,.slice aT o.nT cT] 56)).cell? ⟨w.heap.size,2,none⟩=some (.slice aS o.nS cS):=by simp[go_sem]
 have c3:(w.alloc (.cells #[.slice aN o.nN cN,.slice aW o.nW cW,.slice aS o.nS cS,.slice aT o.nT cT] 56)).cell? ⟨w.heap.size,3,none⟩=some (.slice aT o.nT cT):=by simp[go_sem]
 replace h5:=h5.later hx;replace h6:=h6.later hx;replace h7:=h7.later hx;replace h8:=h8.later hx;have n1:=hok.nN;have n2:=hok.nW;have n3:=hok.nS;have n4:=hok.nT;have HT:Hid (z3Q o=z0G o o.nN++z1a o o.nW++z2K o o.nS++z4v o o.nT):=rfl;generalize z3Q o=TL at *;have HFL:Hid ((F,L)=if 1200<TL.length then(2,[])else(0,TL)):=hFL;clear hA hFL;go_enter Tryz.func38,Tryz.ntmps38;go_wp2;generalize w.alloc (.cells #[.slice aN o.nN cN,.slice aW o.nW cW,.slice aS o.nS cS,.slice aT o.nT cT] 56)=Y at *;go_loopw [4,5] (fun s x wr=>∃(k j:Nat) (t:ByteArray),k<=o.nN/\x=.int .i64 k/\s=.string t/\wr=Y.drewN j/\Hid (t.data.toList=z0G o k)) (fun _ x _=>o.nN-(intOf x).toNat)
 case atStart=>exact⟨0,0,⟨#[]⟩,Nat.zero_le _,rfl,rfl,rfl,rfl⟩
 case round=>
  obtain⟨k,j,t,hk,rfl,rfl,hw,HL⟩:=hrel;subst hw;by_cases hlt:k<o.nN
  ·rcases h5 with h0|⟨b1,o1,rfl,h5⟩
   ·omega
   have p0:=h5 k hlt;have z1:=z3r hok k hk;have z2:=z2l HL.out;have z3:=z1k (hok.needs k hlt);have z4:(o.needs k).data.toList.length=(o.needs k).size:=by simp
   have z5:t.size<=400:=by omega
   have z6:(o.needs k).size<=8:=by omega
   have HN:Hid ((t++⟨#[110,101,101,100,32]⟩++o.needs k++⟨#[10]⟩).data.toList=z0G o (k+1)):=need_cat o k t HL.out;clear h5 h6 h7 h8 z1 z2 z3 z4;go_wp2;go_roundw
   case rel=>exact⟨k+1,j,_,by omega,by go_num,rfl,rfl,HN⟩
   case measure=>simp[intOf];omega
  ·have e:k=o.nN:=by omega
   subst e;have HL2:Hid (t.data.toList=z0G o o.nN++z1a o 0):=by
    show t.data.toList=z0G o o.nN++[];rw[List.append_nil];exact HL.out
   clear h5 HL;go_wp2;go_loopw [4,6] (fun s x wr=>∃(k:Nat) (t:ByteArray),k<=o.nW/\x=.int .i64 k/\s=.string t/\Below Y.heap.size Y wr/\Hid (t.data.toList=z0G o o.nN++z1a o k)) (fun _ x _=>o.nW-(intOf x).toNat)
   case atStart=>exact⟨0,t,Nat.zero_le _,rfl,rfl,below_drewN (Below.refl _ _) _,HL2⟩
   case round=>
    clear HL2;obtain⟨k,t,hk,rfl,rfl,hb,HL⟩:=hrel;have d1:=cell_later hb c1;by_cases hlt:k<o.nW
    ·rcases h6 with h0|⟨b1,o1,rfl,h6⟩
     ·omega
     have p0:=cell_later hb (h6 k hlt);have w1:=hok.words k hlt;have z1:=z3r hok o.nN (Nat.le_refl _);have z2:=z2l HL.out;have z3:=z4B hok k hk;rw[List.length_append]at z2;have z5:t.size<=4400:=by omega
     have HD:=z0U (o.words k) (by omega) (by omega) wr;have zi:=z1v (o.words k) (by omega) (by omega);clear h7 h8 z1 z2 z3 h6;go_wp2_with fail;refine HD.mono ?_;rintro e w2 ⟨⟨r,rfl,hr⟩,hb2⟩;have zr:r.size<=20:=by rw[z2l hr];exact zi
     have HN:Hid ((t++⟨#[119,111,114,100,32]⟩++r++⟨#[10]⟩).data.toList=z0G o o.nN++z1a o (k+1)):=word_cat o k t r HL.out hr;replace hb:=hb.trans (hb2.mono hb.size);clear HD hr hb2 p0 d1 zi;go_wp2;go_roundw
     case rel=>exact⟨k+1,_,by omega,by go_num,rfl,hb,HN⟩
     case measure=>simp[intOf];omega
    ·have e:k=o.nW:=by omega
     subst e;have HL2:Hid (t.data.toList=z0G o o.nN++z1a o o.nW++z2K o 0):=by
      show t.data.toList=z0G o o.nN++z1a o o.nW++[];rw[List.append_nil];exact HL.out
     clear h6 HL;go_wp2;go_loopw [4,7] (fun s x wr=>∃(k:Nat) (t:ByteArray),k<=o.nS/\x=.int .i64 k/\s=.string t/\Below Y.heap.size Y wr/\Hid (t.data.toList=z0G o o.nN++z1a o o.nW++z2K o k)) (fun _ x _=>o.nS-(intOf x).toNat)
     case atStart=>exact⟨0,t,Nat.zero_le _,rfl,rfl,hb,HL2⟩
     case round=>
      clear HL2 hb d1;obtain⟨k,t,hk,rfl,rfl,hb,HL⟩:=hrel;have d2:=cell_later hb c2;by_cases hlt:k<o.nS
      ·rcases h7 with h0|⟨b1,o1,rfl,h7⟩
       ·omega
       have p0:=cell_later hb (h7 k hlt).1;have p1:=cell_later hb (h7 k hlt).2.1;have p2:=cell_later hb (h7 k hlt).2.2;have w1:=hok.syms k hlt;have z0:=z1k w1.1;have z1:=z3r hok o.nN (Nat.le_refl _);have z2:=z2l HL.out;have z3:=z4B hok o.nW (Nat.le_refl _);have z4:=symsL_len hok k hk;rw[List.length_append,List.length_append]at z2;have z5:t.size<=5200:=by omega
       have z6:(o.sName k).size<=8:=by rw[z2l (t:=o.sName k) rfl];exact z0
       have HD:=fun W=>z0U (o.sAt k) (by omega) (by omega) W
       have zi:=z1v (o.sAt k) (by omega) (by omega);clear h8 z0 z1 z2 z3 z4 h7;cases hwk:o.sWeak k
       ·rw[hwk]at p2;have y1:¬9223372036854775807<t.size+7:=by omega
        have y2:¬9223372036854775807<t.size+7+(o.sName k).size:=by omega
        have y3:¬9223372036854775807<t.size+7+(o.sName k).size+1:=by omega
        have y4:∀r:ByteArray,r.size<=20->¬9223372036854775807<t.size+7+(o.sName k).size+1+r.size:=by intro r hr;omega
        have y5:∀r:ByteArray,r.size<=20->¬9223372036854775807<t.size+7+(o.sName k).size+1+r.size+1:=by intro r hr;omega
        go_wp2;go_region_law (go_simp;go_at_call 17;refine(HD _).mono ?_;rintro e w2 ⟨⟨r,rfl,hr⟩,hb2⟩;replace hb2:=undrew hb2;have zr:r.size<=20:=Nat.le_trans (Nat.le_of_eq (z2l hr)) zi;replace p0:=cell_later hb2 p0;replace p1:=cell_later hb2 p1;replace d2:=cell_later hb2 d2;have x4:=y4 r zr;have x5:=y5 r zr)
        all_goals
         have HN:Hid ((t++⟨#[115,121,109,98,111,108,32]⟩++o.sName k++⟨#[32]⟩++r++⟨#[10]⟩).data.toList=z0G o o.nN++z1a o o.nW++z2K o (k+1)):=sym_cat o k t r HL.out hr false hwk;replace hb:=hb.trans (hb2.mono hb.size);clear hr hb2 p0 p1 p2 d2 zi HD y1 y2 y3 y4 y5 x4 x5;go_wp2;go_roundw
         case rel=>exact⟨k+1,_,by omega,by go_num,rfl,hb,HN⟩
         case measure=>simp[intOf];omega
       ·rw[hwk]at p2;have y1:¬9223372036854775807<t.size+5+7:=by omega
        have y2:¬9223372036854775807<t.size+5+7+(o.sName k).size:=by omega
        have y3:¬9223372036854775807<t.size+5+7+(o.sName k).size+1:=by omega
        have y4:∀r:ByteArray,r.size<=20->¬9223372036854775807<t.size+5+7+(o.sName k).size+1+r.size:=by intro r hr;omega
        have y5:∀r:ByteArray,r.size<=20->¬9223372036854775807<t.size+5+7+(o.sName k).size+1+r.size+1:=by intro r hr;omega
        go_wp2;go_region_law (go_simp;go_at_call 17;refine(HD _).mono ?_;rintro e w2 ⟨⟨r,rfl,hr⟩,hb2⟩;replace hb2:=undrew hb2;have zr:r.size<=20:=Nat.le_trans (Nat.le_of_eq (z2l hr)) zi;replace p0:=cell_later hb2 p0;replace p1:=cell_later hb2 p1;replace d2:=cell_later hb2 d2;have x4:=y4 r zr;have x5:=y5 r zr)
        all_goals
         have HN:Hid (((t++⟨#[119,101,97,107,32]⟩)++⟨#[115,121,109,98,111,108,32]⟩++o.sName k++⟨#[32]⟩++r++⟨#[10]⟩).data.toList=z0G o o.nN++z1a o o.nW++z2K o (k+1)):=sym_cat o k t r HL.out hr true hwk;replace hb:=hb.trans (hb2.mono hb.size);clear hr hb2 p0 p1 p2 d2 zi HD y1 y2 y3 y4 y5 x4 x5;go_wp2;go_roundw
         case rel=>exact⟨k+1,_,by omega,by go_num,rfl,hb,HN⟩
         case measure=>simp[intOf];omega
      ·have e:k=o.nS:=by omega
       subst e;have HL2:Hid (t.data.toList=z0G o o.nN++z1a o o.nW++z2K o o.nS++z4v o 0):=by
        show t.data.toList=z0G o o.nN++z1a o o.nW++z2K o o.nS++[];rw[List.append_nil];exact HL.out
       have hbZ:Below Y.heap.size Y (wr.alloc (.cells #[.string ⟨#[]⟩,.string ⟨#[98,97,115,101]⟩,.string ⟨#[119,104,111,108,101]⟩,.string ⟨#[110,101,97,114]⟩] 9)):=hb.alloc hb.size _;have hkc:∀m:Nat,m=1∨m=2∨m=3->(wr.alloc (.cells #[.string ⟨#[]⟩,.string ⟨#[98,97,115,101]⟩,.string ⟨#[119,104,111,108,101]⟩,.string ⟨#[110,101,97,114]⟩] 9)).cell? ⟨wr.heap.size,m,none⟩=some (.string (z7u m)):=by
        rintro m (rfl|rfl|rfl)
        ·simp[go_sem,z7u]
        ·simp[go_sem,z7u]
        ·simp[go_sem,z7u]
       clear h7 HL;go_wp2;generalize wr.alloc (.cells #[.string ⟨#[]⟩,.string ⟨#[98,97,115,101]⟩,.string ⟨#[119,104,111,108,101]⟩,.string ⟨#[110,101,97,114]⟩] 9)=Z at *;generalize wr.heap.size=bk at *;clear hb d2;go_loopw [4,9] (fun s x wr=>∃(k:Nat) (t:ByteArray),k<=o.nT/\x=.int .i64 k/\s=.string t/\Below Z.heap.size Z wr/\Hid (t.data.toList=z0G o o.nN++z1a o o.nW++z2K o o.nS++z4v o k)) (fun _ x _=>o.nT-(intOf x).toNat)
       case atStart=>exact⟨0,t,Nat.zero_le _,rfl,rfl,Below.refl _ _,HL2⟩
       case round=>
        clear HL2;obtain⟨k,t,hk,rfl,rfl,hb,HL⟩:=hrel;have hbY:=hbZ.trans (hb.mono hbZ.size);have d3:=cell_later hbY c3;by_cases hlt:k<o.nT
        ·rcases h8 with h0|⟨b1,o1,rfl,h8⟩
         ·omega
         have w1:=hok.ties k hlt;have zn:=hok.tieName k hlt;obtain⟨m,hm,hm3⟩:∃m:Nat,o.tKind k=(m:Int)/\(m=1∨m=2∨m=3):=by
          rcases w1.2.2.2.2 with⟨h1,_⟩|⟨h1|h1,_⟩
          ·exact⟨1,by rw[h1];rfl,.inl rfl⟩
          ·exact⟨2,by rw[h1];rfl,.inr (.inl rfl)⟩
          ·exact⟨3,by rw[h1];rfl,.inr (.inr rfl)⟩
         have p0:=cell_later hbY (h8 k hlt).1;have p1:=cell_later hbY (h8 k hlt).2.1;have p2:=cell_later hbY (h8 k hlt).2.2.1;have p3:=cell_later hbY (h8 k hlt).2.2.2.1;have p4:=cell_later hbY (h8 k hlt).2.2.2.2;rw[hm]at p1;have pk:=cell_later hb (hkc m hm3);have hal:Below wr.heap.size wr (wr.alloc (.cells #[.int .i64 (o.tAt k),.int .i64 (m:Int),.int .i64 (o.tAdd k),.string (o.tName k),.bool (o.tWeak k)] 98)):=(Below.refl _ _).alloc (Nat.le_refl _) _;replace pk:=cell_later hal pk;have q0:(wr.alloc (.cells #[.int .i64 (o.tAt k),.int .i64 (m:Int),.int .i64 (o.tAdd k),.string (o.tName k),.bool (o.tWeak k)] 98)).cell? ⟨wr.heap.size,0,none⟩=some (.int .i64 (o.tAt k)):=by simp[go_sem]
         have q1:(wr.alloc (.cells #[.int .i64 (o.tAt k),.int .i64 (m:Int),.int .i64 (o.tAdd k),.string (o.tName k),.bool (o.tWeak k)] 98)).cell? ⟨wr.heap.size,1,none⟩=some (.int .i64 (m:Int)):=by simp[go_sem]
         have q2:(wr.alloc (.cells #[.int .i64 (o.tAt k),.int .i64 (m:Int),.int .i64 (o.tAdd k),.string (o.tName k),.bool (o.tWeak k)] 98)).cell? ⟨wr.heap.size,2,none⟩=some (.int .i64 (o.tAdd k)):=by simp[go_sem]
         have q3:(wr.alloc (.cells #[.int .i64 (o.tAt k),.int .i64 (m:Int),.int .i64 (o.tAdd k),.string (o.tName k),.bool (o.tWeak k)] 98)).cell? ⟨wr.heap.size,3,none⟩=some (.string (o.tName k)):=by simp[go_sem]
         have _q4:(wr.alloc (.cells #[.int .i64 (o.tAt k),.int .i64 (m:Int),.int .i64 (o.tAdd k),.string (o.tName k),.bool (o.tWeak k)] 98)).cell? ⟨wr.heap.size,4,none⟩=some (.bool (o.tWeak k)):=by simp[go_sem]
         replace hb:=hb.trans (hal.mono hb.size);have z1:=z3r hok o.nN (Nat.le_refl _);have z2:=z2l HL.out;have z3:=z4B hok o.nW (Nat.le_refl _);have z4:=symsL_len hok o.nS (Nat.le_refl _);have z7:=tiesL_len hok k hk;rw[List.length_append,List.length_append,List.length_append]at z2;have z5:t.size<=6000:=by omega
         have z6:(o.tName k).size<=8:=by rw[z2l (t:=o.tName k) rfl];exact zn
         have HD1:=fun W=>z0U (o.tAt k) (by omega) (by omega) W
         have HD2:=fun W=>z0U (o.tAdd k) (by omega) (by omega) W
         have zi1:=z1v (o.tAt k) (by omega) (by omega);have zi2:=z1v (o.tAdd k) (by omega) (by omega);have zk:=kindB_size m;have hmi:(m:Int)<4:=by omega
         have HK:Hid (z7u m=z7u m):=rfl;have HM:Hid ((m=1∨m=2∨m=3)/\o.tKind k=(m:Int)):=⟨hm3,hm⟩;obtain⟨kd,hkd⟩:∃kd,z7u m=kd:=⟨_,rfl⟩;have HKD:Hid (z7u m=kd):=hkd;rw[hkd]at pk zk;clear _q4 hkd HK hm hm3 hkc h8 z1 z2 z3 z4 z7 zn c0 c1 c2 c3 hbY;have W1:Hid (o.tKind k=1/\(o.tName k).size=0/\o.tWeak k=false∨(o.tKind k=2∨o.tKind k=3)/\z0r (o.tName k).data.toList=0):=w1.2.2.2.2;go_upto_if 92 with fail;go_cut [4] (fun s wc=>s=.string (weakB (o.tWeak k) t)/\TieSt Z wc wr.heap.size bk m (o.tAt k) (o.tAdd k) (o.tName k) kd)
         case first=>
          cases hwk:o.tWeak k
          ·rw[hwk]at p4 hal pk q0 q1 q2 q3 hb;clear HD1 HD2;go_wp2;go_meet;exact⟨by rw[hwk];rfl,hb,q0,q1,q2,q3,pk⟩
          ·rw[hwk]at p4 hal pk q0 q1 q2 q3 hb;clear HD1 HD2;go_wp2;go_meet;exact⟨by rw[hwk];rfl,hb,q0,q1,q2,q3,pk⟩
         case rest=>
          obtain⟨rfl,hT⟩:=hcut;clear pk q0 q1 q2 q3 hal hb p0 p1 p2 p3 p4 d3;have ztw:=weakB_size (o.tWeak k) t;have HTW:Hid (weakB (o.tWeak k) t=weakB (o.tWeak k) t):=rfl;obtain⟨tw,htw⟩:∃tw,weakB (o.tWeak k) t=tw:=⟨_,rfl⟩;replace HTW:Hid (weakB (o.tWeak k) t=tw):=htw;rw[htw]at ztw ⊢;clear htw;have z9:tw.size<=6005:=by omega
          have y1:¬9223372036854775807<tw.size+kd.size:=by omega
          have y2:¬9223372036854775807<tw.size+kd.size+1:=by omega
          have y3:∀r:ByteArray,r.size<=20->¬9223372036854775807<tw.size+kd.size+1+r.size:=by intro r hr;omega
          have y4:∀r:ByteArray,r.size<=20->¬9223372036854775807<tw.size+kd.size+1+r.size+1:=by intro r hr;omega
          have y5:∀r s:ByteArray,r.size<=20->s.size<=20->¬9223372036854775807<tw.size+kd.size+1+r.size+1+s.size:=by intro r s hr hs;omega
          have q0:=hT.q0;have q1:=hT.q1;have q2:=hT.q2;have pk:=hT.pk;go_upto_region 23 with fail;go_cut [4] (fun s wc=>∃r1 r2:ByteArray,s=.string (tw++kd++⟨#[32]⟩++r1++⟨#[32]⟩++r2)/\r1.data.toList=Lib.itoa (o.tAt k)/\r2.data.toList=Lib.itoa (o.tAdd k)/\r1.size<=20/\r2.size<=20/\TieSt Z wc wr.heap.size bk m (o.tAt k) (o.tAdd k) (o.tName k) kd)
          case first=>
           go_region_law (go_simp;go_at_call 17;first|(go_at_call_of 17 (Value.int IntKind.i64 (o.tAt k));refine(HD1 _).mono ?_;rintro e w2 ⟨⟨r,rfl,hr⟩,hb2⟩;(try replace hb2:=undrew hb2);have zr:r.size<=20:=Nat.le_trans (Nat.le_of_eq (z2l hr)) zi1;replace hT:=hT.later hb2;clear hb2;replace q1:=hT.q1;replace q2:=hT.q2;replace pk:=hT.pk;have x3:=y3 r zr;have x4:=y4 r zr)|(go_at_call_of 17 (Value.int IntKind.i64 (o.tAdd k));refine(HD2 _).mono ?_;rintro e w3 ⟨⟨s,rfl,hs⟩,hb2⟩;(try replace hb2:=undrew hb2);have zs:s.size<=20:=Nat.le_trans (Nat.le_of_eq (z2l hs)) zi2;replace hT:=hT.later hb2;clear hb2;replace q1:=hT.q1;replace pk:=hT.pk;have x5:=y5 r s zr zs))
           all_goals
            go_wp2_with fail;go_meet;exact⟨r,s,rfl,hr,hs,zr,zs,hT⟩
          case rest=>
           obtain⟨r,s,rfl,hr,hs,zr,zs,hT2⟩:=hcut;clear hT q0 q1 q2 pk y1 y2 y3 y4 y5 HD1 HD2 zi1 zi2;have q1:=hT2.q1;have q3:=hT2.q3;have hb:=hT2.below;by_cases hm1:m=1
           ·have hwf:o.tWeak k=false:=by
             rcases W1.out with⟨_,_,h⟩|⟨h,_⟩
             ·exact h
             ·have:=HM.out.2;omega
            have HN0:(tw++kd++⟨#[32]⟩++r++⟨#[32]⟩++s++⟨#[10]⟩).data.toList=z0G o o.nN++z1a o o.nW++z2K o o.nS++z4v o (k+1):=by
             rw[<-HKD.out,<-HTW.out,hwf];exact tie_cat1 o k m t r s HL.out hr hs HM.out.2 hm1
            have HN:Hid ((tw++kd++⟨#[32]⟩++r++⟨#[32]⟩++s++⟨#[10]⟩).data.toList=z0G o o.nN++z1a o o.nW++z2K o o.nS++z4v o (k+1)):=HN0;have g1:¬(1:Int)<m:=by omega
            clear HN0 hm1 hr hs hwf;go_wp2;go_roundw
            case rel=>exact⟨k+1,_,by omega,by go_num,rfl,hb,HN⟩
            case measure=>simp[intOf];omega
           ·have HN0:(tw++kd++⟨#[32]⟩++r++⟨#[32]⟩++s++⟨#[32]⟩++o.tName k++⟨#[10]⟩).data.toList=z0G o o.nN++z1a o o.nW++z2K o o.nS++z4v o (k+1):=by
             rw[<-HKD.out,<-HTW.out];exact tie_cat2 o k m t r s HL.out hr hs HM.out.2 (by have:=HM.out.1;omega) (o.tWeak k) rfl
            have HN:Hid ((tw++kd++⟨#[32]⟩++r++⟨#[32]⟩++s++⟨#[32]⟩++o.tName k++⟨#[10]⟩).data.toList=z0G o o.nN++z1a o o.nW++z2K o o.nS++z4v o (k+1)):=HN0;have g1:(1:Int)<m:=by have:=HM.out.1;omega
            clear HN0 hm1 hr hs;go_wp2;go_roundw
            case rel=>exact⟨k+1,_,by omega,by go_num,rfl,hb,HN⟩
            case measure=>simp[intOf];omega
        ·have e:k=o.nT:=by omega
         subst e;have e1:t.data.toList=TL:=HL.out.trans HT.out.symm;have e2:=z2l e1;have hB:Below w.heap.size w wr:=hx.trans (hbY.mono hx.size);by_cases hl:1200<TL.length
         ·have g:(1200:Int)<t.size:=by omega
          have hq:=HFL.out;rw[if_pos hl]at hq;obtain⟨rfl,rfl⟩:=Prod.mk.inj hq;clear e1 e2 hl h8 hkc hq HFL;go_wp2;go_ret2;exact⟨⟨_,rfl,rfl⟩,hB⟩
         ·have g:¬(1200:Int)<t.size:=by omega
          have hq:=HFL.out;rw[if_neg hl]at hq;obtain⟨rfl,rfl⟩:=Prod.mk.inj hq;have HE:Hid (t.data.toList=L):=e1;clear e1 e2 hl h8 hkc hq HFL;go_wp2;go_ret2;exact⟨⟨_,rfl,HE.out⟩,hB⟩
end Go.Proofs.YtbcpcbonlhlhpaaGreatDoor
