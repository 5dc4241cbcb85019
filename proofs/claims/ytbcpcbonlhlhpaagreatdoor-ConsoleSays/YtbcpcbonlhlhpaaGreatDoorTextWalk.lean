/- What Text returns, for every object: its fault, or its -/
import Derived.Test.YtbcpcbonlhlhpaaGreatDoorBuildUse
set_option maxRecDepth 100000
set_option maxHeartbeats 4000000
namespace Go.Proofs.YtbcpcbonlhlhpaaGreatDoor
open Go.RowKit
structure SymBox(w:World)(bk:Nat)(s:ByteArray)(a:Int)(b:Bool):Prop where
 c0:w.cell? ⟨bk,0,none⟩=some (.string s)
 c1:w.cell? ⟨bk,1,none⟩=some (.int .i64 a)
 c2:w.cell? ⟨bk,2,none⟩=some (.bool b)
theorem SymBox.later{w w':World}{bk:Nat}{s:ByteArray}{a:Int}{b:Bool}(h:SymBox w bk s a b)(hb:Below w.heap.size w w'):SymBox w' bk s a b:=
 ⟨cell_later hb h.c0,cell_later hb h.c1,cell_later hb h.c2⟩
theorem text_ok(v:ObjV)(o:ObjF)(w:World)(hE:Env w)(hA:z1C w v o)(hf:z6z o)(h0:objF o=0) :
 Calls Tryz.prog 95 #[.agg (v.cells o)] w fun e w'=>(∃s:ByteArray,e=.returned (.tuple #[.string s,errV (z1X o).1])/\s.data.toList=(z1X o).2)/\Below w.heap.size w w':=by
 have hok:=objOk h0;have hn4:=hok.nN;have hn40:=hok.nW;have hn8:=hok.nS;have hn6:=hok.nT;obtain⟨aN,cN,aW,cW,aS,cS,aT,cT⟩:=v;have hAN:z1z w aN o.nN fun i=>.string (o.needs i):=hA.needs
 have hAW:z1z w aW o.nW fun i=>.int .i64 (o.words i):=hA.words
 have hAS:z4K w aS o.nS o.sName o.sAt o.sWeak:=hA.syms;have hAT:z6x w aT o.nT o.tAt o.tKind o.tAdd o.tName o.tWeak:=hA.ties;have hb0:∀ob:Obj,Below w.heap.size w (w.alloc ob):=fun ob=>(Below.refl _ _).alloc (Nat.le_refl _) ob
 have HC:=fun(w':World) (hx:Below w.heap.size w w')=>checkObj_any ⟨aN,cN,aW,cW,aS,cS,aT,cT⟩ o w' (hA.later hx) hf
 simp only[z3j h0]at HC;unfold ObjV.cells at HC;unfold ObjV.cells;have HT:Hid (z1X o=if 1200<(z3Q o).length then(2,[])else(0,z3Q o)):=if_pos h0;clear h0;go_enter Tryz.func95,Tryz.ntmps95;go_wp2_with fail;refine(HC _ (hb0 _)).mono ?_;rintro e w1 ⟨rfl,hb1⟩;clear HC;have hx:Below w.heap.size w w1:=(hb0 _).trans (hb1.mono (hb0 _).size);have hc0:w1.cell? ⟨w.heap.size,0,none⟩=some (.slice aN o.nN cN):=cell_later hb1 (by simp[go_sem]);have hc1:w1.cell? ⟨w.heap.size,0+1,none⟩=some (.slice aW o.nW cW):=cell_later hb1 (by simp[go_sem]);have hc2:w1.cell? ⟨w.heap.size,0+2,none⟩=some (.slice aS o.nS cS):=cell_later hb1 (by simp[go_sem]);have hc3:w1.cell? ⟨w.heap.size,0+3,none⟩=some (.slice aT o.nT cT):=cell_later hb1 (by simp[go_sem]);have hlt1:w.heap.size<w1.heap.size:=by have:=hb1.size;simp at this;omega
 clear hb1 hb0;have hd0:∀ob:Obj,(w1.alloc ob).cell? ⟨w.heap.size,0,none⟩=some (.slice aN o.nN cN):=fun ob=>by rw[World.cell?_alloc_lt _ _ _ hlt1];exact hc0
 have hS:=z7o w1;go_wp2;go_loopw [22] (fun x wr=>∃k:Nat,k<=o.nN/\x=.int .i64 k/\z7b w1 wr (z0G o k)) (fun x _=>o.nN-(intOf x).toNat)
 case atStart=>exact⟨0,Nat.zero_le _,rfl,hS⟩
 case round=>
  clear hS hd0;obtain⟨k,hk,rfl,hS⟩:=hrel;have hy:Below w.heap.size w wr:=hx.trans (hS.below.mono hx.size);by_cases hlt:k<o.nN
  ·have hl:=z3r hok k hk;have hz:(o.needs k).size<=8:=by have:=z1k (hok.needs k hlt);simpa using this
   rcases hAN.later hy with h0|⟨b,of,rfl,hc⟩
   ·omega
   ·have hck:=hc k hlt;clear hc;go_wp2_with fail;refine(line2 false ⟨#[110,101,101,100]⟩ (o.needs k) _ (by decide) (by omega)).mono ?_;rintro e w2 ⟨⟨r,rfl,hr⟩,hb2⟩;have HR:Hid (r.data.toList=z5e (o.needs k)):=hr;have hrl:r.size<=100:=by
     have h1:=needLn_len (o.needs k) (z1k (hok.needs k hlt));rw[<-HR.out]at h1;simpa using h1
    clear hr;go_wp2_with fail;refine(z2o w1.heap.size w1.heap.size (z0G o k) r _ (z2m hS.is hb2) (by omega) (by omega) (Nat.le_trans hS.below.size hb2.size)).mono ?_;rintro e w3 ⟨rfl,hb3⟩;have hN:z7b w1 w3 (z0G o (k+1)):=by
     have:=hS.more hb2 hb3;rw[HR.out]at this;exact this
    clear hb2 hb3 hck;go_wp2;go_roundw
    case rel=>exact⟨k+1,by omega,by go_num,hN⟩
    case measure=>simp[intOf];omega
  ·have e:k=o.nN:=by omega
   subst e;clear hlt hk;have hd1:=cell_later hS.below hc1;go_wp2;go_loopw [34] (fun x wr=>∃k:Nat,k<=o.nW/\x=.int .i64 k/\z7b w1 wr (z0G o o.nN++z1a o k)) (fun x _=>o.nW-(intOf x).toNat)
   case atStart=>exact⟨0,Nat.zero_le _,rfl,by simpa[z1a,z2z]using hS⟩
   case round=>
    clear hS hd1 hy;obtain⟨k,hk,rfl,hS⟩:=hrel;have hy:Below w.heap.size w wr:=hx.trans (hS.below.mono hx.size);by_cases hlt:k<o.nW
    ·have hl:=z4B hok k hk;have hl0:=z3r hok o.nN (Nat.le_refl _);have hwk:=hok.words k hlt;rcases hAW.later hy with h0|⟨b,of,rfl,hc⟩
     ·omega
     ·have hck:=hc k hlt;clear hc;have HI:=z4u (o.words k) wr (hE.later hy) (by omega) (by omega);have li:=z1v (o.words k) (by omega) (by omega);have HX:Hid ((ByteArray.mk (Lib.itoa (o.words k)).toArray).data.toList=Lib.itoa (o.words k)):=by show(Lib.itoa (o.words k)).toArray.toList=_;simp
      have li':(ByteArray.mk (Lib.itoa (o.words k)).toArray).size<=20:=by show(Lib.itoa (o.words k)).toArray.size<=20;simpa using li
      generalize ByteArray.mk (Lib.itoa (o.words k)).toArray=ix at *;go_wp2_with fail;refine HI.mono ?_;rintro e w2 ⟨rfl,hb2⟩;clear HI;go_wp2_with fail;refine(line2 false ⟨#[119,111,114,100]⟩ ix _ (by decide) (by omega)).mono ?_;rintro e w3 ⟨⟨r,rfl,hr⟩,hb3⟩;have HR:Hid (r.data.toList=z5d (o.words k)):=by
       show r.data.toList=z3m false [[119,111,114,100],Lib.itoa (o.words k)];rw[<-HX.out];exact hr
      have hrl:r.size<=100:=by
       have h1:=wordLn_len (o.words k) (by omega) (by omega);rw[<-HR.out]at h1;simpa using h1
      have hb4:Below wr.heap.size wr w3:=hb2.trans (hb3.mono hb2.size);clear hr hb2 hb3;go_wp2_with fail;refine(z2o w1.heap.size w1.heap.size (z0G o o.nN++z1a o k) r _ (z2m hS.is hb4) (by rw[List.length_append];omega) (by omega) (Nat.le_trans hS.below.size hb4.size)).mono ?_;rintro e w5 ⟨rfl,hb5⟩;have hN:z7b w1 w5 (z0G o o.nN++z1a o (k+1)):=by
       have:=hS.more hb4 hb5;rw[HR.out,List.append_assoc]at this;exact this
      clear hb4 hb5 hck;go_wp2;go_roundw
      case rel=>exact⟨k+1,by omega,by go_num,hN⟩
      case measure=>simp[intOf];omega
    ·have e:k=o.nW:=by omega
     subst e;clear hlt hk;have hd2:=cell_later hS.below hc2;go_wp2;go_loopw [47] (fun x wr=>∃k:Nat,k<=o.nS/\x=.int .i64 k/\z7b w1 wr (z0G o o.nN++z1a o o.nW++z2K o k)) (fun x _=>o.nS-(intOf x).toNat)
     case atStart=>exact⟨0,Nat.zero_le _,rfl,by simpa[z2K,z2z]using hS⟩
     case round=>
      clear hS hd2 hy;obtain⟨k,hk,rfl,hS⟩:=hrel;have hy:Below w.heap.size w wr:=hx.trans (hS.below.mono hx.size);by_cases hlt:k<o.nS
      ·have hl:=symsL_len hok k hk;have hl0:=z3r hok o.nN (Nat.le_refl _);have hl1:=z4B hok o.nW (Nat.le_refl _);have hsk:=hok.syms k hlt;have hz:(o.sName k).size<=8:=by have:=z1k hsk.1;simpa using this
       have hat0:-9223372036854775808<=o.sAt k:=by omega
       have hat1:o.sAt k<=9223372036854775807:=by omega
       rcases hAS.later hy with h0|⟨b,of,rfl,hc⟩
       ·omega
       ·have hck0:=(hc k hlt).1;have hck1:=(hc k hlt).2.1;have hck2:=(hc k hlt).2.2;clear hc;have li:=z1v (o.sAt k) hat0 hat1;have HX:Hid ((ByteArray.mk (Lib.itoa (o.sAt k)).toArray).data.toList=Lib.itoa (o.sAt k)):=by show(Lib.itoa (o.sAt k)).toArray.toList=_;simp
        have li':(ByteArray.mk (Lib.itoa (o.sAt k)).toArray).size<=20:=by show(Lib.itoa (o.sAt k)).toArray.size<=20;simpa using li
        have HI:=fun(w':World) (h:Env w')=>z4u (o.sAt k) w' h hat0 hat1
        have hLn:(z3m (o.sWeak k) [[115,121,109,98,111,108],(o.sName k).data.toList,(ByteArray.mk (Lib.itoa (o.sAt k)).toArray).data.toList]).length<=100:=by
         rw[HX.out];exact symLn_len (o.sName k) (o.sAt k) (o.sWeak k) (z1k hsk.1) hat0 hat1
        generalize ByteArray.mk (Lib.itoa (o.sAt k)).toArray=ix at *;have hW0:Below wr.heap.size wr (wr.alloc (.cells #[.string (o.sName k),.int .i64 (o.sAt k),.bool (o.sWeak k)] 96)):=(Below.refl _ _).alloc (Nat.le_refl _) _;have hE0:=hE.later (hy.trans (hW0.mono hy.size));have hB0:SymBox (wr.alloc (.cells #[.string (o.sName k),.int .i64 (o.sAt k),.bool (o.sWeak k)] 96)) wr.heap.size (o.sName k) (o.sAt k) (o.sWeak k):=by
         constructor <;> simp[go_sem]
        go_wp2;go_region_with (first|(go_at_call 63;refine(HI _ (by first|exact hE0|exact hE0.drew)).mono ?_;rintro e w2 ⟨rfl,hb⟩;(try replace hb:=z0v hb);replace hB0:=hB0.later hb;replace hW0:=hW0.trans (hb.mono hW0.size);have q0:=hB0.c0;have q1:=hB0.c1;have q2:=hB0.c2;have qs:wr.heap.size<w2.heap.size:=World.block_lt_of_cell? _ _ hB0.c0;clear hb)|(go_at_call 135;refine(line3 _ _ _ _ _ (by decide) (by omega) (by omega)).mono ?_;rintro e w3 ⟨⟨r,rfl,hr⟩,hb⟩;have HR:Hid (r.data.toList=z3m (o.sWeak k) [[115,121,109,98,111,108],(o.sName k).data.toList,ix.data.toList]):=hr;clear hr;replace hW0:=hW0.trans (hb.mono hW0.size);clear hb)|(go_at_call 117;refine(z2o w1.heap.size w1.heap.size (z0G o o.nN++z1a o o.nW++z2K o k) r _ (z2m hS.is hW0) (by rw[List.length_append,List.length_append];omega) (Nat.le_trans (size_le HR.out hLn) (by decide)) (Nat.le_trans hS.below.size hW0.size)).mono ?_;rintro e w5 ⟨rfl,hb5⟩))
        all_goals
         have hN:z7b w1 w5 (z0G o o.nN++z1a o o.nW++z2K o (k+1)):=by
          have:=hS.more hW0 hb5;rw[HR.out,HX.out,List.append_assoc]at this;exact this
         clear hb5 hck0 hck1 hck2;go_wp2;go_roundw
         case rel=>exact⟨k+1,by omega,by go_num,hN⟩
         case measure=>simp[intOf];omega
      ·have e:k=o.nS:=by omega
       subst e;clear hlt hk;have hd3:=cell_later hS.below hc3;go_wp2;go_loopw [65] (fun x wr=>∃k:Nat,k<=o.nT/\x=.int .i64 k/\z7b w1 wr (z0G o o.nN++z1a o o.nW++z2K o o.nS++z4v o k)) (fun x _=>o.nT-(intOf x).toNat)
       case atStart=>exact⟨0,Nat.zero_le _,rfl,by simpa[z4v,z2z]using hS⟩
       case round=>
        clear hS hd3 hy;obtain⟨k,hk,rfl,hS⟩:=hrel;have hy:Below w.heap.size w wr:=hx.trans (hS.below.mono hx.size);have hl0:=z3r hok o.nN (Nat.le_refl _);have hl1:=z4B hok o.nW (Nat.le_refl _);have hl2:=symsL_len hok o.nS (Nat.le_refl _);have hl:=tiesL_len hok k hk;by_cases hlt:k<o.nT
        ·have htk:=hok.ties k hlt;have hz:=hok.tieName k hlt;have hz':(o.tName k).size<=8:=by simpa using hz
         rcases hAT.later hy with h0|⟨b,of,rfl,hc⟩
         ·omega
         ·have hck0:=(hc k hlt).1;have hck1:=(hc k hlt).2.1;have hck2:=(hc k hlt).2.2.1;have hck3:=(hc k hlt).2.2.2.1;have hck4:=(hc k hlt).2.2.2.2;clear hc;have HI:=fun(w':World) (h:Env w')=>tieLine_any (o.tAt k) (o.tKind k) (o.tAdd k) (o.tName k) (o.tWeak k) w' h (by omega) (by omega) (by omega)
          have hW0:Below wr.heap.size wr (wr.alloc (.cells #[.int .i64 (o.tAt k),.int .i64 (o.tKind k),.int .i64 (o.tAdd k),.string (o.tName k),.bool (o.tWeak k)] 98)):=(Below.refl _ _).alloc (Nat.le_refl _) _;have hE0:=hE.later (hy.trans (hW0.mono hy.size));have hrl0:=tieLn_len (o.tAt k) (o.tKind k) (o.tAdd k) (o.tName k) (o.tWeak k) hz (by omega) (by omega);go_wp2_with fail;refine(HI _ hE0).mono ?_;rintro e w2 ⟨⟨r,rfl,hr⟩,hb⟩;have HR:Hid (r.data.toList=z3R (o.tAt k) (o.tKind k) (o.tAdd k) (o.tName k) (o.tWeak k)):=hr;have hrl:r.size<=100:=by
           rw[<-hr]at hrl0;simpa using hrl0
          clear hr hrl0 HI hE0;replace hW0:=hW0.trans (hb.mono hW0.size);clear hb;go_wp2_with fail;refine(z2o w1.heap.size w1.heap.size (z0G o o.nN++z1a o o.nW++z2K o o.nS++z4v o k) r _ (z2m hS.is hW0) (by rw[List.length_append,List.length_append,List.length_append];omega) (by omega) (Nat.le_trans hS.below.size hW0.size)).mono ?_;rintro e w5 ⟨rfl,hb5⟩;have hN:z7b w1 w5 (z0G o o.nN++z1a o o.nW++z2K o o.nS++z4v o (k+1)):=by
           have:=hS.more hW0 hb5;rw[HR.out,List.append_assoc]at this;exact this
          clear hb5 hck0 hck1 hck2 hck3 hck4;go_wp2;go_roundw
          case rel=>exact⟨k+1,by omega,by go_num,hN⟩
          case measure=>simp[intOf];omega
        ·have e:k=o.nT:=by omega
         subst e;have HS:Hid (z0G o o.nN++z1a o o.nW++z2K o o.nS++z4v o o.nT=z3Q o):=rfl;rw[HS.out]at hS;have hT5:(z3Q o).length<=5800:=by
          rw[<-HS.out,List.length_append,List.length_append,List.length_append];omega
         have HN:=Tryz.Builder_Len w1.heap.size w1.heap.size (Lib.byteCells (z3Q o)) wr hS.is;rw[Lib.byteCells_length]at HN;have HG:=Tryz.Builder_String_any w1.heap.size w1.heap.size (z3Q o) wr hS.is hS.below.size;clear hlt hk HS hl hl0 hl1 hl2;generalize z3Q o=L at *;by_cases hm:1200<L.length
         ·have hm':(1200:Int)<(L.length:Int):=by omega
          rw[if_pos hm]at HT;clear HG hm;go_wp2_with fail;refine HN.mono ?_;rintro e w' ⟨rfl,rfl⟩;clear HN;go_wp2;go_ret2;rw[HT.out];exact⟨⟨_,rfl,rfl⟩,hy⟩
         ·have hm':¬(1200:Int)<(L.length:Int):=by omega
          rw[if_neg hm]at HT;clear hm;go_wp2_with fail;refine HN.mono ?_;rintro e w' ⟨rfl,hw⟩;subst hw;clear HN;go_wp2_with fail;refine HG.mono ?_;rintro e w6 ⟨rfl,hb6⟩;clear HG;go_wp2;go_ret2;rw[HT.out];exact⟨⟨_,rfl,by simp⟩,hx.trans ((hS.below.trans hb6).mono hx.size)⟩
end Go.Proofs.YtbcpcbonlhlhpaaGreatDoor
