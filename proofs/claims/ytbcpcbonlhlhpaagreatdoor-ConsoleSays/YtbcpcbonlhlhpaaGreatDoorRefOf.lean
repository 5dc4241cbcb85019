/- What ObjectOf of the document's answer returns, for every -/
import Derived.Test.YtbcpcbonlhlhpaaGreatDoorPlainFit
import Derived.Test.YtbcpcbonlhlhpaaGreatDoorRefFault
import Derived.Test.YtbcpcbonlhlhpaaGreatDoorRefText
import Derived.Test.YtbcpcbonlhlhpaaGreatDoorEarly
import Derived.Deep.RegionHeld3
set_option maxRecDepth 100000
set_option maxHeartbeats 30000000
namespace Go.Proofs.YtbcpcbonlhlhpaaGreatDoor
open Go.RowKit
theorem objectOf_long(s:ByteArray)(w:World)(hm:1200<s.size) :
 Calls Tryz.prog 16 #[.string s] w fun e w'=>(∃v:ObjV,e=.returned (.tuple #[.agg (v.cells (refF s).2),.int .i64 (((refF s).1:Nat):Int)])/\z1C w' v (refF s).2/\z2Q w.heap.size v (refF s).2)/\Below w.heap.size w w':=by
 have hp:refF s=(2,z0d):=if_pos hm;rw[hp];have hm':(1200:Int)<(s.size:Int):=by omega
 clear hp hm;go_enter Tryz.func16,Tryz.ntmps16;go_wp2;refine bodyPost_ret (v:=.tuple #[.agg #[.slice none 0 0,.slice none 0 0,.slice none 0 0,.slice none 0 0],.int .i64 2]) (by simp[results,Tryz.results16,go_sem]) rfl ⟨⟨noV,rfl,z4l _,z2Y _⟩,(Below.refl _ _).alloc (Nat.le_refl _) _⟩
theorem intGrow{B:Nat}{w0 w:World}{v:Value}{n:Nat}{cs:List Value}(a:Int)(hB:B<=w.heap.size)(hb:Below B w0 w)(h:w.ownsRow B 3 1 v n cs)(hn:n+1<=1000000) :
 ∃g cap W,(Builtin.append_ #[52,52] 52 #[v,.slice (some ⟨w.heap.size,0,none⟩) 1 1]).run Tryz.prog (w.alloc (.cells #[.int .i64 a] 3))=.ok (.slice (some ⟨g,0,none⟩) (n+1) cap) W/\W.ownsRow B 3 1 (.slice (some ⟨g,0,none⟩) (n+1) cap) (n+1) (cs++[.int .i64 a])/\Below B w0 W:=by
 obtain⟨g,cap,W,happ,hown,hgr⟩:=z4z 52 3 1 8 (.int .i64 0) (by kernel_rfl) (by kernel_rfl) (by rfl) (by decide) B w v n cs [.int .i64 a] h rfl (by simp[Value.oneCell']) hB hn (by decide);exact⟨g,cap,W,happ,hown,(hb.alloc hB _).grown hgr (by simp;omega) (fun k hk=>(h.lt k hk).1)⟩
theorem z6K {w:World}{B n:Nat}{e:TypeId}{v:Value}{xs:List Value}(h:w.ownsRow B e 1 v n xs) :
 ∃(a:Option Addr) (cap:Nat),v=.slice a n cap/\n<=cap/\(n=0∨∃b,B<=b/\b<w.heap.size/\a=some ⟨b,0,none⟩/\∀i x,xs[i]?=some x->w.cell? ⟨b,i,none⟩=some x):=by
 obtain⟨hl,hv⟩:=h;rcases hv with⟨rfl,rfl⟩|⟨b,cap,cur,rfl,hB,hb,hc,_,hsz,ht⟩
 ·exact⟨none,0,rfl,Nat.le_refl _,.inl rfl⟩
 ·refine⟨_,cap,rfl,hc,.inr ⟨b,hB,(Array.getElem?_eq_some_iff.1 hb).1,rfl,fun i x hx=>?_⟩⟩;have hi:i<n:=by
   have:=(List.getElem?_eq_some_iff.1 hx).1;omega
  have h1:cur[i]?=some x:=by
   rw[<-ht,List.getElem?_take,if_pos (by omega),Array.getElem?_toList]at hx;exact hx
  simp[World.cell?,hb,h1]
theorem str_at{xs:List (List UInt8)}{i:Nat}{x:List UInt8}(h:xs[i]?=some x):(strC xs)[i]?=some (.string ⟨x.toArray⟩):=by
 unfold strC;rw[List.getElem?_map,h];rfl
theorem toList_mkB(l:List UInt8):(mkB l).toList=l:=by rw[ByteArray.toList_eq,z2v]
theorem z5S {a:List UInt8}{k:ByteArray}{l:List UInt8}(h:(mkB a).toList=l)(hk:k.data.toList=l:=by rfl):mkB a=k:=by
 rw[toList_mkB]at h;rw[h,<-hk,z2x]
theorem z3e {W:World}{r:Nat}(h:W.heap[r]?=some (.cells #[.slice none 0 0,.slice none 0 0,.slice none 0 0,.slice none 0 0] 56 (0,0))) :
 W.cell? ⟨r,0,none⟩=some (.slice none 0 0)/\W.cell? ⟨r,1,none⟩=some (.slice none 0 0)/\W.cell? ⟨r,2,none⟩=some (.slice none 0 0)/\W.cell? ⟨r,3,none⟩=some (.slice none 0 0)/\W.frozen? ⟨r,0,none⟩=false/\W.frozen? ⟨r,1,none⟩=false/\W.frozen? ⟨r,2,none⟩=false/\W.frozen? ⟨r,3,none⟩=false:=by
 refine⟨?_,?_,?_,?_,?_,?_,?_,?_⟩
 ·simp[World.cell?,h]
 ·simp[World.cell?,h]
 ·simp[World.cell?,h]
 ·simp[World.cell?,h]
 ·simp[World.frozen?,h]
 ·simp[World.frozen?,h]
 ·simp[World.frozen?,h]
 ·simp[World.frozen?,h]
def numC(l:List (List UInt8)):List Value:=l.map fun y=>.int .i64 (numR y)
theorem numC_more(xs:List (List UInt8))(j:Nat)(y:List UInt8)(h:xs[j+1]?=some y):numC ((xs.drop 1).take j)++[.int .i64 (numR y)]=numC ((xs.drop 1).take (j+1)):=by
 have e:(xs.drop 1)[j]?=some y:=by rw[List.getElem?_drop,Nat.add_comm];exact h
 unfold numC;rw[List.take_add_one,e];simp
structure NumSt(w4 wr:World)(xs:List (List UInt8))(n:Value)(j:Nat):Prop where
 two:j<=2
 len:j=0∨j+1<=xs.length
 below:Below w4.heap.size w4 wr
 own:wr.ownsRow w4.heap.size 3 1 n j (numC ((xs.drop 1).take j))
theorem NumSt.grow{w4 wr:World}{xs:List (List UInt8)}{n:Value}{j:Nat}{y:List UInt8}(h:NumSt w4 wr xs n j)(h3:j+1<3)(hy:xs[j+1]?=some y) :
 ∃g cap W,(Builtin.append_ #[52,52] 52 #[n,.slice (some ⟨wr.heap.size,0,none⟩) 1 1]).run Tryz.prog (wr.alloc (.cells #[.int .i64 (numR y)] 3))=.ok (.slice (some ⟨g,0,none⟩) (j+1) cap) W/\NumSt w4 W xs (.slice (some ⟨g,0,none⟩) (j+1) cap) (j+1):=by
 obtain⟨g,cap,W,happ,hown,hb⟩:=intGrow (numR y) h.below.size h.below h.own (by omega);rw[numC_more xs j y hy]at hown;have:=(List.getElem?_eq_some_iff.1 hy).1;exact⟨g,cap,W,happ,by omega,.inr (by omega),hb,hown⟩
theorem pick_words(X:ObjF)(x:List UInt8)(y0:List UInt8)(h:(z0O x).head? = some y0):∃(wk:Bool) (xs:List (List UInt8)),z2O X x=z1l X wk xs/\((mkB y0).toList == [119,101,97,107])=wk/\(wk=true->z0O x=y0 :: xs)/\(wk=false->z0O x=xs):=by
 by_cases hk:y0=wWeak
 ·refine⟨true,(z0O x).tail,?_,by rw[toList_mkB,hk];rfl,fun _=>?_,fun h=>(by cases h)⟩
  ·unfold z2O;rw[h,hk,if_pos rfl]
  ·cases hw:z0O x with
   |nil=>rw[hw]at h;cases h
   |cons a b=>rw[hw]at h;injection h with h;rw[h];rfl
 ·refine⟨false,z0O x,?_,?_,fun h=>(by cases h),fun _=>rfl⟩
  ·unfold z2O;rw[h,if_neg (fun e=>hk (Option.some.inj e))]
  ·rw[toList_mkB,beq_eq_false_iff_ne];exact hk
structure OfSt(w3 wr:World)(B bo:Nat)(ls:List (List UInt8))(k:Nat):Prop where
 is:∃X v0 v1 v2 v3,z1o (some z0d) (ls.take k)=some X/\z0n B wr bo v0 v1 v2 v3 X
 kept:Kept B bo w3 wr
theorem objectOf_short(s:ByteArray)(w:World)(hm:¬1200<s.size) :
 Calls Tryz.prog 16 #[.string s] w fun e w'=>(∃v:ObjV,e=.returned (.tuple #[.agg (v.cells (refF s).2),.int .i64 (((refF s).1:Nat):Int)])/\z1C w' v (refF s).2/\z2Q w.heap.size v (refF s).2)/\Below w.heap.size w w':=by
 have HL:=fun W=>linesOf_ref s W (by omega)
 have hm':¬(1200:Int)<(s.size:Int):=by omega
 go_enter Tryz.func16,Tryz.ntmps16;go_wp2_with fail;refine(HL _).mono ?_;rintro e w2 ⟨⟨v,rfl,hown⟩,hb2⟩;obtain⟨c1,c2,c3⟩:=cut_sizes 10 _ s.data.toList rfl;have hl:s.data.toList.length=s.size:=by simp
 have HR:Hid (refF s=match (if (cut 10 s.data.toList).2=[]then z1o (some z0d) (cut 10 s.data.toList).1 else none)with|none=>(4,z0d)|some o=>if (z1X o).1=0/\(z1X o).2=s.data.toList then(0,o)else(4,z0d)):=if_neg hm;have hbw:Below w.heap.size w w2:=((Below.refl w.heap.size w).alloc (Nat.le_refl _) _).trans (hb2.mono (by simp));have hres:w2.heap[w.heap.size]?=some (.cells #[.slice none 0 0,.slice none 0 0,.slice none 0 0,.slice none 0 0] 56 (0,0)):=by
  refine(hb2.block w.heap.size (by simp)).trans ?_;show(w.heap.push _)[w.heap.size]?=_;rw[Array.getElem?_push_size]
 have hlt:w.heap.size<w2.heap.size:=(Array.getElem?_eq_some_iff.1 hres).1;generalize cut 10 s.data.toList=C at *;obtain⟨ls,rest⟩:=C;simp only at hown c1 c2 c3 HR ⊢;clear HL hb2;by_cases hz:rest=[]
 ·subst hz;have ed:decide (([]:List UInt8)=[])=true:=by decide
  rw[ed];clear ed;have HF:Hid (refF s=match z1o (some z0d) ls with|none=>(4,z0d)|some o=>if (z1X o).1=0/\(z1X o).2=s.data.toList then(0,o)else(4,z0d)):=HR;clear HR c2;obtain⟨aL,capL,rfl,hcapL,hLn⟩:=z6K hown;have h3:Below w2.heap.size w2 (w2.alloc (.cells #[.slice none 0 0,.slice none 0 0,.slice none 0 0,.slice none 0 0] 56)):=(Below.refl _ _).alloc (Nat.le_refl _) _;have hbo:(w2.alloc (.cells #[.slice none 0 0,.slice none 0 0,.slice none 0 0,.slice none 0 0] 56)).heap[w2.heap.size]?=some (.cells #[.slice none 0 0,.slice none 0 0,.slice none 0 0,.slice none 0 0] 56 (0,0)):=by
   show(w2.heap.push _)[w2.heap.size]?=_;rw[Array.getElem?_push_size]
  have hsz3:(w2.alloc (.cells #[.slice none 0 0,.slice none 0 0,.slice none 0 0,.slice none 0 0] 56)).heap.size=w2.heap.size+1:=by simp
  clear hown;go_wp2;generalize w2.alloc (.cells #[.slice none 0 0,.slice none 0 0,.slice none 0 0,.slice none 0 0] 56)=w3 at *;go_loopw [7] (fun x wr=>∃k:Nat,k<=ls.length/\x=.int .i64 k/\OfSt w3 wr (w2.heap.size+1) w2.heap.size ls k) (fun x _=>ls.length-(intOf x).toNat)
  case atStart=>exact⟨0,Nat.zero_le _,rfl,⟨z0d,.slice none 0 0,.slice none 0 0,.slice none 0 0,.slice none 0 0,rfl,by omega,hbo,World.ownsRow_nil _ _ _ _,World.ownsRow_nil _ _ _ _,World.ownsRow_nil _ _ _ _,World.ownsRow_nil _ _ _ _⟩,Kept.refl _ _ _⟩
  case round=>
   obtain⟨k,hk,rfl,⟨X,v0,v1,v2,v3,hX,hRd⟩,hK⟩:=hrel;by_cases hlk:k<ls.length
   ·obtain⟨x,hx⟩:∃x,ls[k]?=some x:=⟨ls[k],List.getElem?_eq_getElem hlk⟩;have hxs:x.length<=1200:=by have:=c1 x (List.mem_of_getElem? hx);omega
    rcases hLn with h0|⟨bL,hL1,hL2,rfl,hLc⟩
    ·omega
    have hcell:wr.cell? ⟨bL,k,none⟩=some (.string ⟨x.toArray⟩):=by
     have q:=hLc k _ (str_at hx);have q1:w3.heap[bL]?=w2.heap[bL]?:=h3.block bL hL2;have q2:wr.heap[bL]?=w3.heap[bL]?:=hK.block bL (by omega) (by omega);exact(World.cell?_of_block (q2.trans q1)).trans q
    have hUp:UpTo 1200 X:=by
     have q:=(z7m (ls.take k) z0d X 0 emptyO_fit ⟨Nat.le_refl _,Nat.le_refl _,Nat.le_refl _,Nat.le_refl _⟩ (fun l hl=>by
      have:=c1 l (List.mem_of_mem_take hl);simp only[maxLen];omega) hX).2
     have:(ls.take k).length<=1200:=by rw[List.length_take];omega
     unfold UpTo at q ⊢;omega
    have HX:Hid (z1o (some z0d) (ls.take (k+1))=z2O X x):=by
     show z1o (some z0d) (ls.take (k+1))=z2O X x;rw[refFold_take _ _ _ _ hx,hX];rfl
    have hrr:wr.heap[w.heap.size]?=some (.cells #[.slice none 0 0,.slice none 0 0,.slice none 0 0,.slice none 0 0] 56 (0,0)):=(hK.block w.heap.size (by omega) (by omega)).trans ((h3.block w.heap.size hlt).trans hres);have hBr:Below w.heap.size w wr:=(hbw.trans (h3.mono hbw.size)).trans (hK.below.mono (by omega));have HW:=z2b ⟨x.toArray⟩ wr (by simp[ByteArray.size];omega);have ex:(ByteArray.mk x.toArray).data.toList=x:=by simp
    rw[ex]at HW;clear ex hx hX hLc;go_wp2_with fail;refine HW.mono ?_;rintro e w4 ⟨⟨bw,cw,rfl,how⟩,hb4⟩;replace hrr:=(hb4.block w.heap.size (Array.getElem?_eq_some_iff.1 hrr).1).trans hrr;replace hBr:=hBr.trans (hb4.mono hBr.size);replace hK:=hK.trans (Kept.of hb4 hRd.lo);replace hRd:=hRd.below hb4;clear HW hcell hb4;obtain⟨aw,cw',hv,hcw,hwc⟩:=z6K how;have hne:(z0O x).length≠0:=by unfold z0O;simp
    injection hv with ha _ hcc;subst hcc;rcases hwc with h0|⟨bw',_,hbl,ha',hwc⟩
    ·exact absurd h0 hne
    rw[ha']at ha;injection ha with ha;injection ha with ha _ _;subst ha;obtain⟨y0,hy0⟩:∃y0,(z0O x)[0]?=some y0:=⟨(z0O x)[0]'(by omega),List.getElem?_eq_getElem (by omega)⟩;have hw0:w4.cell? ⟨bw,0,none⟩=some (.string (mkB y0)):=hwc 0 _ (str_at hy0);obtain⟨wk,xs,hq,hbe,hwt,hwf⟩:=pick_words X x y0 (by rw[List.head?_eq_getElem?];exact hy0);have HQ:Hid (z2O X x=z1l X wk xs):=hq;have hxN:xs.length<=1201:=by
     have h1:=(cut_sizes 32 _ x rfl).2.2;have h2:(z0O x).length<=1201:=by unfold z0O;simp;omega
     cases wk with
     |true=>rw[hwt rfl]at h2;simp at h2;omega
     |false=>rw[hwf rfl]at h2;exact h2
    have hlen':(0:Int)<(z0O x).length:=by omega
    generalize z0O x=ws at *;generalize mkB y0=z0 at *;clear how hq hne hy0;go_upto_if 44 with fail;go_cut [8] (fun v wc=>∃a cp,v=.slice a xs.length cp/\wc=w4/\(xs.length=0∨∃of,a=some ⟨bw,of,none⟩/\∀i y,xs[i]?=some y->w4.cell? ⟨bw,of+i,none⟩=some (.string (mkB y))))
    case first=>
     cases wk with
     |true=>
      obtain rfl:=hwt rfl;have hxc:∀i y,xs[i]?=some y->w4.cell? ⟨bw,1+i,none⟩=some (.string (mkB y)):=fun i y hy=>by
       have:=hwc (i+1) _ (str_at (xs:=y0 :: xs) (x:=y) hy);rw[Nat.add_comm]at this;exact this
      clear hwc hwt hwf;have hcw3:xs.length+1<=cw:=by simpa using hcw
      go_wp2
      all_goals
       go_meet;refine⟨_,_,rfl,rfl,?_⟩
       first|exact .inr ⟨1,rfl,hxc⟩|exact .inl (by omega)
     |false=>
      obtain rfl:=hwf rfl;have hxc:∀i y,ws[i]?=some y->w4.cell? ⟨bw,0+i,none⟩=some (.string (mkB y)):=fun i y hy=>by
       rw[Nat.zero_add];exact hwc i _ (str_at (x:=y) hy)
      clear hwc hwt hwf;go_wp2;go_meet;exact⟨_,_,rfl,rfl,.inr ⟨0,rfl,hxc⟩⟩
    case rest=>
     obtain⟨a8,cp,rfl,hww,hxs⟩:=hcut;replace hww:=hww.symm;subst hww;clear hwc hwt hwf hbe hw0 hcw;rcases hxs with hx0|⟨of,rfl,hxc⟩
     ·obtain rfl:=List.length_eq_zero_iff.1 hx0;have HE:Hid (refF s=(4,z0d)):=by
       have e:z1o (some z0d) ls=none:=z2S (k:=k+1) (HX.out.trans (HQ.out.trans rfl));show refF s=(4,z0d);rw[HF.out,e]
      obtain⟨q0,q1,q2,q3,f0,f1,f2,f3⟩:=z3e hrr;have hNB:=z0F hBr (Nat.le_refl w.heap.size) (.slice none 0 0) (.slice none 0 0) (.slice none 0 0) (.slice none 0 0);clear HX HQ HF;go_wp2;refine wp_loop_rounds 1 ?_;rw[rounds_succ];go_wp2;refine bodyPost_ret (v:=.tuple #[.agg #[.slice none 0 0,.slice none 0 0,.slice none 0 0,.slice none 0 0],.int .i64 4]) (by simp[results,Tryz.results16,go_sem,q0,q1,q2,q3]) rfl ?_;rw[HE.out];exact⟨⟨noV,rfl,z4l _,z2Y _⟩,hNB⟩
     ·go_wp2;go_loopw [10,11] (fun n kk wr=>∃j:Nat,kk=.int .i64 ((j:Int)+1)/\NumSt w4 wr xs n j) (fun _ kk _=>4-(intOf kk).toNat)
      case atStart=>exact⟨0,rfl,Nat.zero_le _,.inl rfl,Below.refl _ _,World.ownsRow_nil _ _ _ _⟩
      case round=>
       obtain⟨j,rfl,hS⟩:=hrel;have hj2:=hS.two;by_cases hc:j+1<xs.length/\j+1<3
       ·obtain⟨y,hy⟩:∃y,xs[j+1]?=some y:=⟨xs[j+1],List.getElem?_eq_getElem hc.1⟩;have hyc:=cell_later hS.below (hxc (j+1) y hy);have HNu:=number_ref (mkB y) wr;rw[z2v]at HNu;obtain⟨g,cap,W,happ,hS2⟩:=hS.grow hc.2 hy;have c1:((j:Int)+1)<xs.length:=by omega
        have c2:((j:Int)+1)<3:=by omega
        have HQ2:Hid (NumSt w4 W xs (.slice (some ⟨g,0,none⟩) (j+1) cap) (j+1)):=hS2;clear hS2 hxc hS hy;generalize mkB y=zy at *;go_wp2_with fail;refine HNu.mono ?_;rintro e w5 ⟨rfl,hw5⟩;replace hw5:=hw5.symm;subst hw5;cases hR:z1I y with
        |none=>
         have hnr:numR y=-1099511627776:=by unfold numR;rw[hR];rfl
         rw[hnr]at happ;clear HNu hnr;go_wp2_with (at_builtin;refine z0S rfl _ _ 52 rfl _ _ _ rfl rfl happ ?_);go_wp2;go_roundw
         case rel=>exact⟨j+1,by go_num,HQ2.out⟩
         case measure=>simp[intOf];omega
        |some r=>
         have hnr:numR y=r:=by unfold numR;rw[hR];rfl
         rw[hnr]at happ;clear HNu hnr;go_wp2_with (at_builtin;refine z0S rfl _ _ 52 rfl _ _ _ rfl rfl happ ?_);go_wp2;go_roundw
         case rel=>exact⟨j+1,by go_num,HQ2.out⟩
         case measure=>simp[intOf];omega
       ·have hown:=hS.own;have hl2:=hS.len;have hbN:=hS.below;replace hrr:=(hbN.block w.heap.size (Array.getElem?_eq_some_iff.1 hrr).1).trans hrr;replace hBr:=hBr.trans (hbN.mono hBr.size);clear hS;rcases xs with _|⟨a,_|⟨b,_|⟨c,_|⟨d,_|⟨e,r⟩⟩⟩⟩⟩
        ·have HE:Hid (refF s=(4,z0d)):=by
          have e:z1o (some z0d) ls=none:=z2S (k:=k+1) (HX.out.trans (HQ.out.trans rfl));show refF s=(4,z0d);rw[HF.out,e]
         obtain⟨q0,q1,q2,q3,f0,f1,f2,f3⟩:=z3e hrr;have hNB:=z0F hBr (Nat.le_refl w.heap.size) (.slice none 0 0) (.slice none 0 0) (.slice none 0 0) (.slice none 0 0);clear HX HQ HF;go_wp2;refine bodyPost_ret (v:=.tuple #[.agg #[.slice none 0 0,.slice none 0 0,.slice none 0 0,.slice none 0 0],.int .i64 4]) (by simp[results,Tryz.results16,go_sem,q0,q1,q2,q3]) rfl ?_;rw[HE.out];exact⟨⟨noV,rfl,z4l _,z2Y _⟩,hNB⟩
        ·have HE:Hid (refF s=(4,z0d)):=by
          have e:z1o (some z0d) ls=none:=z2S (k:=k+1) (HX.out.trans (HQ.out.trans rfl));show refF s=(4,z0d);rw[HF.out,e]
         obtain⟨q0,q1,q2,q3,f0,f1,f2,f3⟩:=z3e hrr;have hNB:=z0F hBr (Nat.le_refl w.heap.size) (.slice none 0 0) (.slice none 0 0) (.slice none 0 0) (.slice none 0 0);clear HX HQ HF;go_wp2;refine bodyPost_ret (v:=.tuple #[.agg #[.slice none 0 0,.slice none 0 0,.slice none 0 0,.slice none 0 0],.int .i64 4]) (by simp[results,Tryz.results16,go_sem,q0,q1,q2,q3]) rfl ?_;rw[HE.out];exact⟨⟨noV,rfl,z4l _,z2Y _⟩,hNB⟩
        ·have hj:j=1:=by simp at hc hl2;omega
         subst hj;obtain⟨an,cn,rfl,hcn,hcs⟩:=z6K hown;rcases hcs with h0|⟨bn,hbn1,hbn2,rfl,hnc⟩
         ·omega
         have n0:=hnc 0 (.int .i64 (numR b)) rfl;have x0:wr.cell? ⟨bw,of,none⟩=some (.string (mkB a)):=cell_later hbN (hxc 0 a rfl);have x1:wr.cell? ⟨bw,of+1,none⟩=some (.string (mkB b)):=cell_later hbN (hxc 1 b rfl);have hK4:=hK.trans (Kept.of hbN hRd.lo);have hRd4:=hRd.below hbN;have hdr:Below wr.heap.size wr wr.drew:=⟨rfl,rfl,rfl,Nat.le_refl _,fun _ _=>rfl⟩;have hK5:=hK4.trans (Kept.of hdr hRd4.lo);have hRd5:=hRd4.below hdr;have qs:w2.heap.size<wr.heap.size:=hRd4.lt;by_cases hk1:mkB a=kNeed
         ·obtain⟨g,cap,W,happ,g0,gz,hRn,hKn⟩:=hRd5.needGrow hK5 (mkB b) (by have:=hUp.1;omega);have hC:=hRd4.c0;have hbe:(mkB a).toList=[110,101,101,100]:=by rw[hk1,ByteArray.toList_eq];rfl
          have HO:Hid (OfSt w3 (W.setCell ⟨w2.heap.size,0,none⟩ (.slice (some ⟨g,0,none⟩) (X.nN+1) cap)) (w2.heap.size+1) w2.heap.size ls (k+1)):=by
           obtain⟨u0,u1,u2,u3,hu⟩:=hRn;refine⟨⟨_,u0,u1,u2,u3,HX.out.trans (HQ.out.trans ?_),hu⟩,hKn⟩;simp only[z1l];rw[if_pos hk1]
          clear hRn hKn HX HQ HF hRd4 hRd5 hK4 hK5 hrr hBr hown hk1;generalize mkB a=za at *
          skip
          as_aux_lemma=>
           go_wp2;have hSS:(fun w':World=>w'.cell? ⟨w2.heap.size,0,none⟩=some v0/\w'.cell? ⟨bw,of+1,none⟩=some (.string (mkB b))) wr.drew:=⟨hC,x1⟩;refine wp_region_noPanic ?_;refine z0f (fun w':World=>w'.cell? ⟨w2.heap.size,0,none⟩=some v0/\w'.cell? ⟨bw,of+1,none⟩=some (.string (mkB b))) 6 9 (by kernel_rfl) rfl ?_;generalize wr.drew=wd at *;refine tW 0 hSS ?_;refine tW 2 hSS ?_;refine tW 3 hSS ?_;refine tR 1 [] hSS ?_;refine tR 4 [5] hSS ?_;refine oG 5 fun K hK=>?_
           go_wp2_with fail;refine hK _ _ ⟨cell_later ((Below.refl _ _).alloc (Nat.le_refl _) _) hSS.1,cell_later ((Below.refl _ _).alloc (Nat.le_refl _) _) hSS.2⟩ ?_;clear hK hSS;refine lG 6 fun K hK=>?_
           go_wp2_with (at_builtin;refine z0S rfl (.tmp 83) (.tmp 87) 22 rfl _ _ _ rfl rfl happ ?_);refine hK _ _ ?_;clear hK;refine tA 7 ?_;refine lG 8 fun K hK=>?_
           go_wp2_with fail;refine hK _ _ ?_;clear hK;refine z1c (by kernel_rfl) ?_ _;refine NoPanic.normal ?_;go_wp2;go_roundw
           case rel=>exact⟨k+1,by omega,by go_num,HO.out⟩
           case measure=>simp[intOf];omega
         ·by_cases hk2:mkB a=kWord
          ·obtain⟨g,cap,W,happ,g0,gz,hRn,hKn⟩:=hRd5.wordGrow hK5 (numR b) (by have:=hUp.2.1;omega);have hC:=hRd4.c1;have hbe:(mkB a).toList=[119,111,114,100]:=by rw[hk2,ByteArray.toList_eq];rfl
           have HO:Hid (OfSt w3 (W.setCell ⟨w2.heap.size,1,none⟩ (.slice (some ⟨g,0,none⟩) (X.nW+1) cap)) (w2.heap.size+1) w2.heap.size ls (k+1)):=by
            obtain⟨u0,u1,u2,u3,hu⟩:=hRn;refine⟨⟨_,u0,u1,u2,u3,HX.out.trans (HQ.out.trans ?_),hu⟩,hKn⟩;simp only[z1l];rw[if_neg hk1,if_pos hk2]
           clear hRn hKn HX HQ HF hRd4 hRd5 hK4 hK5 hrr hBr hown hk1 hk2;generalize mkB a=za at *
           skip
           as_aux_lemma=>
            go_wp2;have hSS:(fun w':World=>w'.cell? ⟨w2.heap.size,1,none⟩=some v1/\w'.cell? ⟨bn,0,none⟩=some (.int .i64 (numR b))) wr.drew:=⟨hC,n0⟩;refine wp_region_noPanic ?_;refine z0f (fun w':World=>w'.cell? ⟨w2.heap.size,1,none⟩=some v1/\w'.cell? ⟨bn,0,none⟩=some (.int .i64 (numR b))) 6 9 (by kernel_rfl) rfl ?_;generalize wr.drew=wd at *;refine tW 0 hSS ?_;refine tW 2 hSS ?_;refine tW 3 hSS ?_;refine tR 1 [] hSS ?_;refine tR 4 [5] hSS ?_;refine oG 5 fun K hK=>?_
            go_wp2_with fail;refine hK _ _ ⟨cell_later ((Below.refl _ _).alloc (Nat.le_refl _) _) hSS.1,cell_later ((Below.refl _ _).alloc (Nat.le_refl _) _) hSS.2⟩ ?_;clear hK hSS;refine lG 6 fun K hK=>?_
            go_wp2_with (at_builtin;refine z0S rfl (.tmp 101) (.tmp 105) 52 rfl _ _ _ rfl rfl happ ?_);refine hK _ _ ?_;clear hK;refine tA 7 ?_;refine lG 8 fun K hK=>?_
            go_wp2_with fail;refine hK _ _ ?_;clear hK;refine z1c (by kernel_rfl) ?_ _;refine NoPanic.normal ?_;go_wp2;go_roundw
            case rel=>exact⟨k+1,by omega,by go_num,HO.out⟩
            case measure=>simp[intOf];omega
          ·have hb1:((mkB a).toList == [110,101,101,100])=false:=by rw[beq_eq_false_iff_ne];exact fun h=>hk1 (z5S h)
           have hb2:((mkB a).toList == [119,111,114,100])=false:=by rw[beq_eq_false_iff_ne];exact fun h=>hk2 (z5S h)
           have HE:Hid (refF s=(4,z0d)):=by
            have e:z1o (some z0d) ls=none:=z2S (k:=k+1) (HX.out.trans (HQ.out.trans (by simp only[z1l];rw[if_neg hk1,if_neg hk2])));show refF s=(4,z0d);rw[HF.out,e]
           obtain⟨q0,q1,q2,q3,f0,f1,f2,f3⟩:=z3e hrr;have hNB:=z0F hBr (Nat.le_refl w.heap.size) (.slice none 0 0) (.slice none 0 0) (.slice none 0 0) (.slice none 0 0);clear hk1 hk2 HX HQ HF;go_wp2;refine bodyPost_ret (v:=.tuple #[.agg #[.slice none 0 0,.slice none 0 0,.slice none 0 0,.slice none 0 0],.int .i64 4]) (by simp[results,Tryz.results16,go_sem,q0,q1,q2,q3]) rfl ?_;rw[HE.out];exact⟨⟨noV,rfl,z4l _,z2Y _⟩,hNB⟩
        ·have hj:j=2:=by simp at hc hl2;omega
         subst hj;obtain⟨an,cn,rfl,hcn,hcs⟩:=z6K hown;rcases hcs with h0|⟨bn,hbn1,hbn2,rfl,hnc⟩
         ·omega
         have n0:=hnc 0 (.int .i64 (numR b)) rfl;have n1:=hnc 1 (.int .i64 (numR c)) rfl;have x0:wr.cell? ⟨bw,of,none⟩=some (.string (mkB a)):=cell_later hbN (hxc 0 a rfl);have x1:wr.cell? ⟨bw,of+1,none⟩=some (.string (mkB b)):=cell_later hbN (hxc 1 b rfl);have x2:wr.cell? ⟨bw,of+2,none⟩=some (.string (mkB c)):=cell_later hbN (hxc 2 c rfl);have ln1:(1:Int)<((2:Nat):Int):=by decide
         have hK4:=hK.trans (Kept.of hbN hRd.lo);have hRd4:=hRd.below hbN;have hdr:Below wr.heap.size wr wr.drew:=⟨rfl,rfl,rfl,Nat.le_refl _,fun _ _=>rfl⟩;have hK5:=hK4.trans (Kept.of hdr hRd4.lo);have hRd5:=hRd4.below hdr;have qs:w2.heap.size<wr.heap.size:=hRd4.lt;by_cases hk1:mkB a=kSymbol
         ·obtain⟨g,cap,W,happ,g0,gz,hRn,hKn⟩:=hRd5.symGrow hK5 (mkB b) (numR c) wk (by have:=hUp.2.2.1;omega);have hC:=hRd4.c2;have hbe:(mkB a).toList=[115,121,109,98,111,108]:=by rw[hk1,ByteArray.toList_eq];rfl
          have HO:Hid (OfSt w3 (W.setCell ⟨w2.heap.size,2,none⟩ (.slice (some ⟨g,0,none⟩) (X.nS+1) cap)) (w2.heap.size+1) w2.heap.size ls (k+1)):=by
           obtain⟨u0,u1,u2,u3,hu⟩:=hRn;refine⟨⟨_,u0,u1,u2,u3,HX.out.trans (HQ.out.trans ?_),hu⟩,hKn⟩;simp only[z1l];rw[if_pos hk1]
          clear hRn hKn HX HQ HF hRd4 hRd5 hK4 hK5 hrr hBr hown hk1;generalize mkB a=za at *
          skip
          as_aux_lemma=>
           go_wp2;have hSS:(fun w':World=>w'.cell? ⟨w2.heap.size,2,none⟩=some v2/\w'.cell? ⟨bw,of+1,none⟩=some (.string (mkB b))/\w'.cell? ⟨bn,1,none⟩=some (.int .i64 (numR c))) wr.drew:=⟨hC,x1,n1⟩;refine wp_region_noPanic ?_;refine z0f (fun w':World=>w'.cell? ⟨w2.heap.size,2,none⟩=some v2/\w'.cell? ⟨bw,of+1,none⟩=some (.string (mkB b))/\w'.cell? ⟨bn,1,none⟩=some (.int .i64 (numR c))) 11 14 (by kernel_rfl) rfl ?_;generalize wr.drew=wd at *;refine tW 0 hSS ?_;refine tW 2 hSS ?_;refine tW 3 hSS ?_;refine tW 5 hSS ?_;refine tW 6 hSS ?_;refine tW 8 hSS ?_;refine tR 1 [] hSS ?_;refine tR 4 [10,9] hSS ?_;refine tR 7 [10,9] hSS ?_;refine tW 9 hSS ?_;refine oG 10 fun K hK=>?_
           go_wp2_with fail;refine hK _ _ ⟨cell_later ((Below.refl _ _).alloc (Nat.le_refl _) _) hSS.1,cell_later ((Below.refl _ _).alloc (Nat.le_refl _) _) hSS.2.1,cell_later ((Below.refl _ _).alloc (Nat.le_refl _) _) hSS.2.2⟩ ?_;clear hK hSS;refine lG 11 fun K hK=>?_
           go_wp2_with (at_builtin;refine z0S rfl (.tmp 119) (.tmp 128) 53 rfl _ _ _ rfl rfl happ ?_);refine hK _ _ ?_;clear hK;refine tA 12 ?_;refine lG 13 fun K hK=>?_
           go_wp2_with fail;refine hK _ _ ?_;clear hK;refine z1c (by kernel_rfl) ?_ _;refine NoPanic.normal ?_;go_wp2;go_roundw
           case rel=>exact⟨k+1,by omega,by go_num,HO.out⟩
           case measure=>simp[intOf];omega
         ·by_cases hk2:mkB a=kBase
          ·obtain⟨g,cap,W,happ,g0,gz,hRn,hKn⟩:=hRd5.tieGrow hK5 (numR b) 1 (numR c) ⟨#[]⟩ wk (by have:=hUp.2.2.2;omega);have hC:=hRd4.c3;have hbe:(mkB a).toList=[98,97,115,101]:=by rw[hk2,ByteArray.toList_eq];rfl
           have HO:Hid (OfSt w3 (W.setCell ⟨w2.heap.size,3,none⟩ (.slice (some ⟨g,0,none⟩) (X.nT+1) cap)) (w2.heap.size+1) w2.heap.size ls (k+1)):=by
            obtain⟨u0,u1,u2,u3,hu⟩:=hRn;refine⟨⟨_,u0,u1,u2,u3,HX.out.trans (HQ.out.trans ?_),hu⟩,hKn⟩;simp only[z1l];rw[if_neg hk1,if_pos hk2]
           clear hRn hKn HX HQ HF hRd4 hRd5 hK4 hK5 hrr hBr hown hk1 hk2;generalize mkB a=za at *
           skip
           as_aux_lemma=>
            go_wp2;have hSS:(fun w':World=>w'.cell? ⟨w2.heap.size,3,none⟩=some v3/\w'.cell? ⟨bn,0,none⟩=some (.int .i64 (numR b))/\w'.cell? ⟨bn,1,none⟩=some (.int .i64 (numR c))) wr.drew:=⟨hC,n0,n1⟩;refine wp_region_noPanic ?_;refine z0f (fun w':World=>w'.cell? ⟨w2.heap.size,3,none⟩=some v3/\w'.cell? ⟨bn,0,none⟩=some (.int .i64 (numR b))/\w'.cell? ⟨bn,1,none⟩=some (.int .i64 (numR c))) 11 14 (by kernel_rfl) rfl ?_;generalize wr.drew=wd at *;refine tW 0 hSS ?_;refine tW 2 hSS ?_;refine tW 3 hSS ?_;refine tW 5 hSS ?_;refine tW 6 hSS ?_;refine tW 8 hSS ?_;refine tR 1 [] hSS ?_;refine tR 4 [10,9] hSS ?_;refine tR 7 [10,9] hSS ?_;refine tW 9 hSS ?_;refine oG 10 fun K hK=>?_
            go_wp2_with fail;refine hK _ _ ⟨cell_later ((Below.refl _ _).alloc (Nat.le_refl _) _) hSS.1,cell_later ((Below.refl _ _).alloc (Nat.le_refl _) _) hSS.2.1,cell_later ((Below.refl _ _).alloc (Nat.le_refl _) _) hSS.2.2⟩ ?_;clear hK hSS;refine lG 11 fun K hK=>?_
            go_wp2_with (at_builtin;refine z0S rfl (.tmp 142) (.tmp 151) 54 rfl _ _ _ rfl rfl happ ?_);refine hK _ _ ?_;clear hK;refine tA 12 ?_;refine lG 13 fun K hK=>?_
            go_wp2_with fail;refine hK _ _ ?_;clear hK;refine z1c (by kernel_rfl) ?_ _;refine NoPanic.normal ?_;go_wp2;go_roundw
            case rel=>exact⟨k+1,by omega,by go_num,HO.out⟩
            case measure=>simp[intOf];omega
          ·have hb1:((mkB a).toList == [115,121,109,98,111,108])=false:=by rw[beq_eq_false_iff_ne];exact fun h=>hk1 (z5S h)
           have hb2:((mkB a).toList == [98,97,115,101])=false:=by rw[beq_eq_false_iff_ne];exact fun h=>hk2 (z5S h)
           have HE:Hid (refF s=(4,z0d)):=by
            have e:z1o (some z0d) ls=none:=z2S (k:=k+1) (HX.out.trans (HQ.out.trans (by simp only[z1l];rw[if_neg hk1,if_neg hk2])));show refF s=(4,z0d);rw[HF.out,e]
           obtain⟨q0,q1,q2,q3,f0,f1,f2,f3⟩:=z3e hrr;have hNB:=z0F hBr (Nat.le_refl w.heap.size) (.slice none 0 0) (.slice none 0 0) (.slice none 0 0) (.slice none 0 0);clear hk1 hk2 HX HQ HF;go_wp2;refine bodyPost_ret (v:=.tuple #[.agg #[.slice none 0 0,.slice none 0 0,.slice none 0 0,.slice none 0 0],.int .i64 4]) (by simp[results,Tryz.results16,go_sem,q0,q1,q2,q3]) rfl ?_;rw[HE.out];exact⟨⟨noV,rfl,z4l _,z2Y _⟩,hNB⟩
        ·have hj:j=2:=by simp at hc hl2;omega
         subst hj;obtain⟨an,cn,rfl,hcn,hcs⟩:=z6K hown;rcases hcs with h0|⟨bn,hbn1,hbn2,rfl,hnc⟩
         ·omega
         have n0:=hnc 0 (.int .i64 (numR b)) rfl;have n1:=hnc 1 (.int .i64 (numR c)) rfl;have x0:wr.cell? ⟨bw,of,none⟩=some (.string (mkB a)):=cell_later hbN (hxc 0 a rfl);have x1:wr.cell? ⟨bw,of+1,none⟩=some (.string (mkB b)):=cell_later hbN (hxc 1 b rfl);have x2:wr.cell? ⟨bw,of+2,none⟩=some (.string (mkB c)):=cell_later hbN (hxc 2 c rfl);have x3:wr.cell? ⟨bw,of+3,none⟩=some (.string (mkB d)):=cell_later hbN (hxc 3 d rfl);have ln1:(1:Int)<((2:Nat):Int):=by decide
         have hK4:=hK.trans (Kept.of hbN hRd.lo);have hRd4:=hRd.below hbN;have hdr:Below wr.heap.size wr wr.drew:=⟨rfl,rfl,rfl,Nat.le_refl _,fun _ _=>rfl⟩;have hK5:=hK4.trans (Kept.of hdr hRd4.lo);have hRd5:=hRd4.below hdr;have qs:w2.heap.size<wr.heap.size:=hRd4.lt;by_cases hk1:mkB a=kWhole
         ·obtain⟨g,cap,W,happ,g0,gz,hRn,hKn⟩:=hRd5.tieGrow hK5 (numR b) 2 (numR c) (mkB d) wk (by have:=hUp.2.2.2;omega);have hC:=hRd4.c3;have hbe:(mkB a).toList=[119,104,111,108,101]:=by rw[hk1,ByteArray.toList_eq];rfl
          have HO:Hid (OfSt w3 (W.setCell ⟨w2.heap.size,3,none⟩ (.slice (some ⟨g,0,none⟩) (X.nT+1) cap)) (w2.heap.size+1) w2.heap.size ls (k+1)):=by
           obtain⟨u0,u1,u2,u3,hu⟩:=hRn;refine⟨⟨_,u0,u1,u2,u3,HX.out.trans (HQ.out.trans ?_),hu⟩,hKn⟩;simp only[z1l];rw[if_pos hk1]
          clear hRn hKn HX HQ HF hRd4 hRd5 hK4 hK5 hrr hBr hown hk1;generalize mkB a=za at *
          skip
          go_wp2;have hSS:(fun w':World=>w'.cell? ⟨w2.heap.size,3,none⟩=some v3/\w'.cell? ⟨bn,0,none⟩=some (.int .i64 (numR b))/\w'.cell? ⟨bn,1,none⟩=some (.int .i64 (numR c))/\w'.cell? ⟨bw,of+3,none⟩=some (.string (mkB d))) wr.drew:=⟨hC,n0,n1,x3⟩;refine wp_region_noPanic ?_;refine z0f (fun w':World=>w'.cell? ⟨w2.heap.size,3,none⟩=some v3/\w'.cell? ⟨bn,0,none⟩=some (.int .i64 (numR b))/\w'.cell? ⟨bn,1,none⟩=some (.int .i64 (numR c))/\w'.cell? ⟨bw,of+3,none⟩=some (.string (mkB d))) 14 17 (by kernel_rfl) rfl ?_;generalize wr.drew=wd at *;refine tW 0 hSS ?_;refine tW 2 hSS ?_;refine tW 3 hSS ?_;refine tW 5 hSS ?_;refine tW 6 hSS ?_;refine tW 8 hSS ?_;refine tW 9 hSS ?_;refine tW 11 hSS ?_;refine tR 1 [] hSS ?_;refine tR 4 [13,12] hSS ?_;refine tR 7 [13,12] hSS ?_;refine tR 10 [13,12] hSS ?_;refine tW 12 hSS ?_;refine oG 13 fun K hK=>?_
          go_wp2_with fail;refine hK _ _ ⟨cell_later ((Below.refl _ _).alloc (Nat.le_refl _) _) hSS.1,cell_later ((Below.refl _ _).alloc (Nat.le_refl _) _) hSS.2.1,cell_later ((Below.refl _ _).alloc (Nat.le_refl _) _) hSS.2.2.1,cell_later ((Below.refl _ _).alloc (Nat.le_refl _) _) hSS.2.2.2⟩ ?_;clear hK hSS;refine lG 14 fun K hK=>?_
          go_wp2_with (at_builtin;refine z0S rfl (.tmp 165) (.tmp 177) 54 rfl _ _ _ rfl rfl happ ?_);refine hK _ _ ?_;clear hK;refine tA 15 ?_;refine lG 16 fun K hK=>?_
          go_wp2_with fail;refine hK _ _ ?_;clear hK;refine z1c (by kernel_rfl) ?_ _;refine NoPanic.normal ?_;go_wp2;go_roundw
          case rel=>exact⟨k+1,by omega,by go_num,HO.out⟩
          case measure=>simp[intOf];omega
         ·by_cases hk2:mkB a=kNear
          ·obtain⟨g,cap,W,happ,g0,gz,hRn,hKn⟩:=hRd5.tieGrow hK5 (numR b) 3 (numR c) (mkB d) wk (by have:=hUp.2.2.2;omega);have hC:=hRd4.c3;have hbe:(mkB a).toList=[110,101,97,114]:=by rw[hk2,ByteArray.toList_eq];rfl
           have HO:Hid (OfSt w3 (W.setCell ⟨w2.heap.size,3,none⟩ (.slice (some ⟨g,0,none⟩) (X.nT+1) cap)) (w2.heap.size+1) w2.heap.size ls (k+1)):=by
            obtain⟨u0,u1,u2,u3,hu⟩:=hRn;refine⟨⟨_,u0,u1,u2,u3,HX.out.trans (HQ.out.trans ?_),hu⟩,hKn⟩;simp only[z1l];rw[if_neg hk1,if_pos hk2]
           clear hRn hKn HX HQ HF hRd4 hRd5 hK4 hK5 hrr hBr hown hk1 hk2;generalize mkB a=za at *
           skip
           go_wp2;have hSS:(fun w':World=>w'.cell? ⟨w2.heap.size,3,none⟩=some v3/\w'.cell? ⟨bn,0,none⟩=some (.int .i64 (numR b))/\w'.cell? ⟨bn,1,none⟩=some (.int .i64 (numR c))/\w'.cell? ⟨bw,of+3,none⟩=some (.string (mkB d))) wr.drew:=⟨hC,n0,n1,x3⟩;refine wp_region_noPanic ?_;refine z0f (fun w':World=>w'.cell? ⟨w2.heap.size,3,none⟩=some v3/\w'.cell? ⟨bn,0,none⟩=some (.int .i64 (numR b))/\w'.cell? ⟨bn,1,none⟩=some (.int .i64 (numR c))/\w'.cell? ⟨bw,of+3,none⟩=some (.string (mkB d))) 14 17 (by kernel_rfl) rfl ?_;generalize wr.drew=wd at *;refine tW 0 hSS ?_;refine tW 2 hSS ?_;refine tW 3 hSS ?_;refine tW 5 hSS ?_;refine tW 6 hSS ?_;refine tW 8 hSS ?_;refine tW 9 hSS ?_;refine tW 11 hSS ?_;refine tR 1 [] hSS ?_;refine tR 4 [13,12] hSS ?_;refine tR 7 [13,12] hSS ?_;refine tR 10 [13,12] hSS ?_;refine tW 12 hSS ?_;refine oG 13 fun K hK=>?_
           go_wp2_with fail;refine hK _ _ ⟨cell_later ((Below.refl _ _).alloc (Nat.le_refl _) _) hSS.1,cell_later ((Below.refl _ _).alloc (Nat.le_refl _) _) hSS.2.1,cell_later ((Below.refl _ _).alloc (Nat.le_refl _) _) hSS.2.2.1,cell_later ((Below.refl _ _).alloc (Nat.le_refl _) _) hSS.2.2.2⟩ ?_;clear hK hSS;refine lG 14 fun K hK=>?_
           go_wp2_with (at_builtin;refine z0S rfl (.tmp 191) (.tmp 203) 54 rfl _ _ _ rfl rfl happ ?_);refine hK _ _ ?_;clear hK;refine tA 15 ?_;refine lG 16 fun K hK=>?_
           go_wp2_with fail;refine hK _ _ ?_;clear hK;refine z1c (by kernel_rfl) ?_ _;refine NoPanic.normal ?_;go_wp2;go_roundw
           case rel=>exact⟨k+1,by omega,by go_num,HO.out⟩
           case measure=>simp[intOf];omega
          ·have hb1:((mkB a).toList == [119,104,111,108,101])=false:=by rw[beq_eq_false_iff_ne];exact fun h=>hk1 (z5S h)
           have hb2:((mkB a).toList == [110,101,97,114])=false:=by rw[beq_eq_false_iff_ne];exact fun h=>hk2 (z5S h)
           have HE:Hid (refF s=(4,z0d)):=by
            have e:z1o (some z0d) ls=none:=z2S (k:=k+1) (HX.out.trans (HQ.out.trans (by simp only[z1l];rw[if_neg hk1,if_neg hk2])));show refF s=(4,z0d);rw[HF.out,e]
           obtain⟨q0,q1,q2,q3,f0,f1,f2,f3⟩:=z3e hrr;have hNB:=z0F hBr (Nat.le_refl w.heap.size) (.slice none 0 0) (.slice none 0 0) (.slice none 0 0) (.slice none 0 0);clear hk1 hk2 HX HQ HF;go_wp2;refine bodyPost_ret (v:=.tuple #[.agg #[.slice none 0 0,.slice none 0 0,.slice none 0 0,.slice none 0 0],.int .i64 4]) (by simp[results,Tryz.results16,go_sem,q0,q1,q2,q3]) rfl ?_;rw[HE.out];exact⟨⟨noV,rfl,z4l _,z2Y _⟩,hNB⟩
        ·have hN5:5<=(a :: b :: c :: d :: e :: r).length:=by simp
         have HQ0:z1l X wk (a :: b :: c :: d :: e :: r)=none:=rfl;generalize (a :: b :: c :: d :: e :: r).length=N at *;have b2:((N:Int)==2)=false:=by rw[beq_eq_false_iff_ne];omega
         have b3:((N:Int)==3)=false:=by rw[beq_eq_false_iff_ne];omega
         have b4:((N:Int)==4)=false:=by rw[beq_eq_false_iff_ne];omega
         have HE:Hid (refF s=(4,z0d)):=by
          have e:z1o (some z0d) ls=none:=z2S (k:=k+1) (HX.out.trans (HQ.out.trans HQ0));show refF s=(4,z0d);rw[HF.out,e]
         obtain⟨q0,q1,q2,q3,f0,f1,f2,f3⟩:=z3e hrr;have hNB:=z0F hBr (Nat.le_refl w.heap.size) (.slice none 0 0) (.slice none 0 0) (.slice none 0 0) (.slice none 0 0);clear HX HQ HF HQ0;go_wp2;refine bodyPost_ret (v:=.tuple #[.agg #[.slice none 0 0,.slice none 0 0,.slice none 0 0,.slice none 0 0],.int .i64 4]) (by simp[results,Tryz.results16,go_sem,q0,q1,q2,q3]) rfl ?_;rw[HE.out];exact⟨⟨noV,rfl,z4l _,z2Y _⟩,hNB⟩
   ·as_aux_lemma=>
     have e:k=ls.length:=by omega
     subst e;rw[List.take_length]at hX;have hfit:z6z X:=by
      have q:=z7m ls z0d X 0 emptyO_fit ⟨Nat.le_refl _,Nat.le_refl _,Nat.le_refl _,Nat.le_refl _⟩ (fun l hl=>by
       have:=c1 l hl;simp only[maxLen];omega) hX
      exact fit_of _ q.1 q.2 (by simp only[maxLen];omega)
     have HX:Hid (refF s=if (z1X X).1=0/\(z1X X).2=s.data.toList then(0,X)else(4,z0d)):=by
      show refF s=_;rw[HF.out,hX]
     obtain⟨v,hv,hAt⟩:=hRd.objAt;obtain⟨rfl,rfl,rfl,rfl⟩:v0=.slice v.aN X.nN v.cN/\v1=.slice v.aW X.nW v.cW/\v2=.slice v.aS X.nS v.cS/\v3=.slice v.aT X.nT v.cT:=by simpa[ObjV.cells]using hv
     have d0:=hRd.c0;have d1:=hRd.c1;have d2:=hRd.c2;have d3:=hRd.c3;have hrr:wr.heap[w.heap.size]?=some (.cells #[.slice none 0 0,.slice none 0 0,.slice none 0 0,.slice none 0 0] 56 (0,0)):=(hK.block w.heap.size (by omega) (by omega)).trans ((h3.block w.heap.size hlt).trans hres);have hBr:Below w.heap.size w wr:=(hbw.trans (h3.mono hbw.size)).trans (hK.below.mono (by omega));have hnew:z2Q w.heap.size v X:=z2Q.lower (B:=w2.heap.size+1) ⟨z4a hRd.needs,z4a hRd.words,z4a hRd.syms,z4a hRd.ties⟩ (by omega);have HOF:=objectFault_any v X wr hAt hfit;unfold ObjV.cells at HOF;clear hv hX HF hRd hK hLn;go_wp2_with fail;refine HOF.mono ?_;rintro e w5 ⟨rfl,hb5⟩;clear HOF;replace hrr:=(hb5.block w.heap.size (Array.getElem?_eq_some_iff.1 hrr).1).trans hrr;replace hBr:=hBr.trans (hb5.mono hBr.size);replace hAt:=hAt.later hb5;replace d0:=cell_later hb5 d0;replace d1:=cell_later hb5 d1;replace d2:=cell_later hb5 d2;replace d3:=cell_later hb5 d3;clear hb5;by_cases hz:objF X=0
     ·rw[hz];have hok:=objOk hz;obtain⟨F,L,hFL⟩:∃F L,(F,L)=if 1200<(z3Q X).length then((2:Nat),([]:List UInt8))else(0,z3Q X):=⟨_,_,rfl⟩
      have hTF:z1X X=(F,L):=by
       unfold z1X;rw[if_pos hz,hFL]
      have HT:=objectText_any v X F L w5 hAt hok hFL;unfold ObjV.cells at HT;rw[hTF]at HX;clear hFL hTF hz hok;go_wp2_with fail;refine HT.mono ?_;rintro e w6 ⟨⟨t,rfl,ht⟩,hb6⟩;clear HT;replace hrr:=(hb6.block w.heap.size (Array.getElem?_eq_some_iff.1 hrr).1).trans hrr;replace hBr:=hBr.trans (hb6.mono hBr.size);replace hAt:=hAt.later hb6;replace d0:=cell_later hb6 d0;replace d1:=cell_later hb6 d1;replace d2:=cell_later hb6 d2;replace d3:=cell_later hb6 d3;clear hb6;obtain⟨q0,q1,q2,q3,f0,f1,f2,f3⟩:=z3e hrr;by_cases hF:F=0
      ·subst hF;by_cases hts:t=s
       ·subst hts;have HE:Hid (refF t=(0,X)):=by
         show refF t=(0,X);rw[HX.out,if_pos ⟨rfl,ht.symm⟩]
        have hNB:=z0F hBr (Nat.le_refl w.heap.size) (.slice v.aN X.nN v.cN) (.slice v.aW X.nW v.cW) (.slice v.aS X.nS v.cS) (.slice v.aT X.nT v.cT);have hAY:=hAt.store4 hrr v.aN X.nN v.cN v.aW X.nW v.cW v.aS X.nS v.cS v.aT X.nT v.cT;clear HX ht hAt hrr hBr;go_wp2;refine bodyPost_ret (v:=.tuple #[.agg #[.slice v.aN X.nN v.cN,.slice v.aW X.nW v.cW,.slice v.aS X.nS v.cS,.slice v.aT X.nT v.cT],.int .i64 0]) (by simp[results,Tryz.results16,go_sem,q0,q1,q2,q3]) rfl ?_;rw[HE.out];exact⟨⟨v,rfl,hAY,hnew⟩,hNB⟩
       ·have HE:Hid (refF s=(4,z0d)):=by
         show refF s=(4,z0d);rw[HX.out,if_neg (fun h=>hts (by rw[<-z2x t,<-z2x s,ht,h.2]))]
        have hne:(t.toList==s.toList)=false:=by rw[z0z];simp[hts]
        have hNB:=z0F hBr (Nat.le_refl w.heap.size) (.slice none 0 0) (.slice none 0 0) (.slice none 0 0) (.slice none 0 0);clear HX ht hts;go_wp2;refine bodyPost_ret (v:=.tuple #[.agg #[.slice none 0 0,.slice none 0 0,.slice none 0 0,.slice none 0 0],.int .i64 4]) (by simp[results,Tryz.results16,go_sem,q0,q1,q2,q3]) rfl ?_;rw[HE.out];exact⟨⟨noV,rfl,z4l _,z2Y _⟩,hNB⟩
      ·have HE:Hid (refF s=(4,z0d)):=by
        show refF s=(4,z0d);rw[HX.out,if_neg (fun h=>hF h.1)]
       have hp:(0:Int)<(F:Int):=by omega
       have hNB:=z0F hBr (Nat.le_refl w.heap.size) (.slice none 0 0) (.slice none 0 0) (.slice none 0 0) (.slice none 0 0);clear HX ht hF;go_wp2;refine bodyPost_ret (v:=.tuple #[.agg #[.slice none 0 0,.slice none 0 0,.slice none 0 0,.slice none 0 0],.int .i64 4]) (by simp[results,Tryz.results16,go_sem,q0,q1,q2,q3]) rfl ?_;rw[HE.out];exact⟨⟨noV,rfl,z4l _,z2Y _⟩,hNB⟩
     ·have HE:Hid (refF s=(4,z0d)):=by
       show refF s=(4,z0d);rw[HX.out,if_neg (fun h=>hz (z6Q h.1).1)]
      have hp:(0:Int)<((objF X:Nat):Int):=by omega
      generalize objF X=FX at *;obtain⟨q0,q1,q2,q3,f0,f1,f2,f3⟩:=z3e hrr;have hNB:=z0F hBr (Nat.le_refl w.heap.size) (.slice none 0 0) (.slice none 0 0) (.slice none 0 0) (.slice none 0 0);clear HX hz;go_wp2;refine bodyPost_ret (v:=.tuple #[.agg #[.slice none 0 0,.slice none 0 0,.slice none 0 0,.slice none 0 0],.int .i64 4]) (by simp[results,Tryz.results16,go_sem,q0,q1,q2,q3]) rfl ?_;rw[HE.out];exact⟨⟨noV,rfl,z4l _,z2Y _⟩,hNB⟩
 ·have HE:Hid (refF s=(4,z0d)):=by
   show refF s=(4,z0d);rw[HR.out,if_neg hz]
  have ed:decide (rest=[])=false:=by simpa using hz
  rw[ed];clear ed HR hown hz c1 c2 c3;obtain⟨q0,q1,q2,q3,f0,f1,f2,f3⟩:=z3e hres;have hNB:=z0F hbw (Nat.le_refl w.heap.size) (.slice none 0 0) (.slice none 0 0) (.slice none 0 0) (.slice none 0 0);go_wp2;refine bodyPost_ret (v:=.tuple #[.agg #[.slice none 0 0,.slice none 0 0,.slice none 0 0,.slice none 0 0],.int .i64 4]) (by simp[results,Tryz.results16,go_sem,q0,q1,q2,q3]) rfl ?_;rw[HE.out];exact⟨⟨noV,rfl,z4l _,z2Y _⟩,hNB⟩
theorem objectOf_new(s:ByteArray)(w:World) :
 Calls Tryz.prog 16 #[.string s] w fun e w'=>(∃v:ObjV,e=.returned (.tuple #[.agg (v.cells (refF s).2),.int .i64 (((refF s).1:Nat):Int)])/\z1C w' v (refF s).2/\z2Q w.heap.size v (refF s).2)/\Below w.heap.size w w':=by
 by_cases hm:1200<s.size
 ·exact objectOf_long s w hm
 ·exact objectOf_short s w hm
end Go.Proofs.YtbcpcbonlhlhpaaGreatDoor
