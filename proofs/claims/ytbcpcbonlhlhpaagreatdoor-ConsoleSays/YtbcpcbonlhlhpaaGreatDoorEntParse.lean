/- What read of package entry returns, of any text: what it -/
import Derived.Test.YtbcpcbonlhlhpaaGreatDoorEntRow
set_option maxRecDepth 100000
set_option maxHeartbeats 16000000
namespace Go.Proofs.YtbcpcbonlhlhpaaGreatDoor
section
open Go.RowKit
theorem readW_no{ws:List ByteArray}(h:¬(3<=ws.length/\z3f (nu ws 1) (nu ws 2)=true/\(ws.length:Int)=3+3*(nu ws 1+nu ws 2))):readW ws=z1g:=by unfold readW;rw[if_neg h]
structure z5I (w:World)(v:EntV)(e:EntF):Prop where
 here:z5k w v e
 tP:e.nP=0∨∃bk o C,v.aP=some ⟨bk,o,none⟩/\w.heap[bk]?=some (.cells C 112 (0,0))
 tQ:e.nQ=0∨∃bk o C,v.aQ=some ⟨bk,o,none⟩/\w.heap[bk]?=some (.cells C 114 (0,0))
theorem z5I.later{w w':World}{v:EntV}{e:EntF}(h:z5I w v e)(hb:Below w.heap.size w w'):z5I w' v e:=
 ⟨h.here.later hb,h.tP.imp id fun⟨bk,o,C,ha,hC⟩=>⟨bk,o,C,ha,(hb.block _ (Array.getElem?_eq_some_iff.1 hC).1).trans hC⟩,h.tQ.imp id fun⟨bk,o,C,ha,hC⟩=>⟨bk,o,C,ha,(hb.block _ (Array.getElem?_eq_some_iff.1 hC).1).trans hC⟩⟩
theorem z5R (w:World):z5I w ⟨none,0,none,0⟩ z1g:=⟨⟨.inl rfl,.inl rfl⟩,.inl rfl,.inl rfl⟩
theorem z6r {w:World}{g k:Nat}(hne:k≠g)(a0 a1 a2:Value):(((w.setCell ⟨g,0,none⟩ a0).setCell ⟨g,1,none⟩ a1).setCell ⟨g,2,none⟩ a2).heap[k]?=w.heap[k]?:=
 (Below.heap_setCell _ _ _ _ hne).trans ((Below.heap_setCell _ _ _ _ hne).trans (Below.heap_setCell _ _ _ _ hne))
structure Two(w:World)(b:Nat)(x y:Value):Prop where
 c1:w.cell? ⟨b,1,none⟩=some x
 c2:w.cell? ⟨b,2,none⟩=some y
theorem Two.later{w w':World}{b:Nat}{x y:Value}(h:Two w b x y)(hb:Below w.heap.size w w'):Two w' b x y:=⟨cell_later hb h.c1,cell_later hb h.c2⟩
theorem z4r {w:World}{B:Nat}{e:TypeId}{s n:Nat}{v:Value}{xs:List Value}(h:w.ownsRow B e s v n xs){k:Nat}(hk:v.ownBlock=some k):∃c,w.heap[k]?=some (.cells c e (0,0)):=by
 rcases h.2 with⟨rfl,_⟩|⟨g,cap,cur,rfl,_,hg,_⟩
 ·simp[Value.ownBlock]at hk
 ·simp[Value.ownBlock]at hk;subst hk;exact⟨cur,hg⟩
theorem rows3{w:World}{B n:Nat}{e:TypeId}{v:Value}{g:Nat->List Value}(hg:∀i,(g i).length=3)(h:w.ownsRow B e 3 v n (z0i g n)):∃a c,v=.slice a n c/\(n=0∨∃bk,B<=bk/\a=some ⟨bk,0,none⟩/\(∀i,i<n->∀j u,(g i)[j]?=some u->w.cell? ⟨bk,i*3+j,none⟩=some u)/\∃C,w.heap[bk]?=some (.cells C e (0,0))):=by
 obtain⟨a,c,rfl,hc⟩:=z0c h;refine⟨a,c,rfl,?_⟩;by_cases h0:n=0
 ·exact .inl h0
 ·have lt3:∀i j u,(g i)[j]?=some u->j<3:=fun i j u hu=>by
   have:=(List.getElem?_eq_some_iff.1 hu).1;rw[hg]at this;exact this
  have key:∀i,i<n->∀j u,(g i)[j]?=some u->∃k,a=some ⟨k,0,none⟩/\B<=k/\w.cell? ⟨k,i*3+j,none⟩=some u:=fun i hi j u hu=>
   z0K h (by rw[z2G (s:=3) (fun i _=>hg i) hi (lt3 i j u hu)];exact hu)
  obtain⟨u0,hu0⟩:∃u,(g 0)[0]?=some u:=⟨_,List.getElem?_eq_getElem (by rw[hg];decide)⟩;obtain⟨k,ha,hk,_⟩:=key 0 (by omega) 0 u0 hu0;refine .inr ⟨k,hk,ha,fun i hi j u hu=>?_,z4r h (by rw[ha];rfl)⟩;obtain⟨k',ha',_,hc'⟩:=key i hi j u hu;rw[ha]at ha';injection ha' with ha';injection ha' with ha';subst ha';exact hc'
theorem z1w {w:World}{b o g:Nat}{u:Value}(h:w.cell? ⟨b,o,none⟩=some u)(hne:b≠g)(a0 a1 a2:Value):(((w.setCell ⟨g,0,none⟩ a0).setCell ⟨g,1,none⟩ a1).setCell ⟨g,2,none⟩ a2).cell? ⟨b,o,none⟩=some u:=by
 have hk:(((w.setCell ⟨g,0,none⟩ a0).setCell ⟨g,1,none⟩ a1).setCell ⟨g,2,none⟩ a2).heap[b]?=w.heap[b]?:=((Below.heap_setCell _ _ _ _ hne).trans (Below.heap_setCell _ _ _ _ hne)).trans (Below.heap_setCell _ _ _ _ hne);unfold World.cell? at h ⊢;rw[hk];exact h
theorem readW_yes{ws:List ByteArray}{p q:Nat}(h1:3<=ws.length)(h2:z3f (p:Int) q=true)(hp:nu ws 1=p)(hq:nu ws 2=q)(h3:ws.length=3+3*(p+q)) :
 readW ws=⟨wd ws 0,p,fun i=>wd ws (3+3*i),fun i=>nu ws (3+3*i+1),fun i=>nu ws (3+3*i+2),q,fun i=>nu ws (3+3*p+3*i),fun i=>nu ws (3+3*p+3*i+1),fun i=>nu ws (3+3*p+3*i+2)⟩:=by
 unfold readW;rw[hp,hq,if_pos ⟨h1,h2,by omega⟩];simp only[Int.toNat_natCast]
attribute [local go_sem ↓] Go.wp_at_zero Go.wp_at_succ
theorem entRead_any(s:ByteArray)(w:World)(hE:Env w)(hs:s.size<=1000000) :
 Calls Tryz.prog 169 #[.string s] w fun e w'=>∃v,e=.returned (.agg (z1r v (z7J s)))/\z5I w' v (z7J s)/\Below w.heap.size w w':=by
 have hb0:Below w.heap.size w (w.alloc (.cells #[.string ⟨#[]⟩,.slice none 0 0,.slice none 0 0] 71)):=(Below.refl _ _).alloc (Nat.le_refl _) _;have hres:(w.alloc (.cells #[.string ⟨#[]⟩,.slice none 0 0,.slice none 0 0] 71)).heap[w.heap.size]?=some (.cells #[.string ⟨#[]⟩,.slice none 0 0,.slice none 0 0] 71 (0,0)):=Array.getElem?_push_size;have hz0:(w.alloc (.cells #[.string ⟨#[]⟩,.slice none 0 0,.slice none 0 0] 71)).heap.size=w.heap.size+1:=by simp
 have hE0:=hE.later hb0;have HT:=fun W=>Tryz.strings_TrimSuffix s ⟨#[10]⟩ W (by omega)
 have HS:=splitE s _ hE0 hs;have hsz:=fun i=>Nat.le_trans (wd_size s i) hs
 have HR:Hid (z7J s=readW (z3b s)):=rfl;rw[HR.out];clear HR hE;generalize hW:w.alloc (.cells #[.string ⟨#[]⟩,.slice none 0 0,.slice none 0 0] 71)=W0 at *;generalize hws:z3b s=ws at *;go_enter Tryz.func169,Tryz.ntmps169;go_wp2_with fail;refine(HT _).mono ?_;rintro e w1 ⟨rfl,rfl⟩;clear HT;go_wp2_with fail;refine(show Calls _ _ _ _ _ from HS).mono ?_;rintro e w2 ⟨cap,rfl,hcap,hcap9,hWd,hz2,hb2⟩;clear HS;have hn9:ws.length<=129:=by omega
 have hlt1:w.heap.size<w1.heap.size:=by omega
 have hlt2:w1.heap.size<w2.heap.size:=by omega
 clear hz0 hz2;have hbA:Below w.heap.size w w2:=hb0.trans (hb2.mono hb0.size);have hres2:w2.heap[w.heap.size]?=some (.cells #[.string ⟨#[]⟩,.slice none 0 0,.slice none 0 0] 71 (0,0)):=(hb2.block _ (by omega)).trans hres;by_cases hl:ws.length<3
 ·have HR:Hid (readW ws=z1g):=readW_no (fun h=>by have:=h.1;omega);clear hWd hsz hws;have hresX:=hres2;obtain⟨q0,q1,q2,f0,f1,f2⟩:=resAt hresX;have hNB:=z5b hbA (Nat.le_refl w.heap.size) (.string ⟨#[]⟩) (.slice none 0 0) (.slice none 0 0);clear hres hresX;go_wp2;refine bodyPost_ret (v:=.agg #[.string ⟨#[]⟩,.slice none 0 0,.slice none 0 0]) (by simp[results,Tryz.results169,go_sem,q0,q1,q2]) rfl ?_;rw[HR.out];exact⟨⟨none,0,none,0⟩,rfl,z5R _,hNB⟩
 ·have y1:=hWd.at_ 1 (by omega);have y2:=hWd.at_ 2 (by omega);have z1:=hsz 1;have z2:=hsz 2;have hE2:=hE0.later hb2;have hbB:=Below.refl w2.heap.size w2;have HP:Hid (nu ws 1=numF (wd ws 1).data.toList):=rfl;have HQ:Hid (nu ws 2=numF (wd ws 2).data.toList):=rfl;generalize hx1:wd ws 1=x1 at *;generalize hx2:wd ws 2=x2 at *;clear hx1 hx2;have hY:=Two.mk y1 y2;have i1:(1:Int)<(ws.length:Int):=by omega
  have i2:(2:Int)<(ws.length:Int):=by omega
  go_wp2;go_region_held3 (fun w'=>w'.cell? ⟨w1.heap.size,1,none⟩=some (.string x1)/\w'.cell? ⟨w1.heap.size,2,none⟩=some (.string x2))
   (first|exact⟨hY.c1,hY.c2⟩|go_keep)
   (first|(go_at_call 221;refine(z2T _ _ ?hE ?hs).mono ?_;(case hE=>first|exact hE2|exact hE2.drew);(case hs=>assumption);rintro e w3 ⟨rfl,hb3⟩;(try replace hb3:=z0v hb3);replace hE2:=hE2.later hb3;replace hY:=hY.later hb3;replace hbB:=hbB.trans (hb3.mono hbB.size);clear hb3))
  have hres3:=(hbB.block _ (Nat.lt_trans hlt1 hlt2)).trans hres2;have hWd3:Words w3 w1.heap.size ws:=hWd.later hbB;have hb3:=hbA.trans (hbB.mono hbA.size);have hlt3:w1.heap.size<w3.heap.size:=Nat.lt_of_lt_of_le hlt2 hbB.size;generalize hP:numF x1.data.toList=P at *;generalize hQ:numF x2.data.toList=Q at *;have HM:=mayBe_any P Q w3;clear hY hWd hbB hbA hres2 y1 y2 z1 z2 hb2 hlt2 hP hQ i1 i2 hws;by_cases hm:z3f P Q=true
  ·rw[hm]at HM;have hm2:1<=P/\P<=6/\0<=Q/\Q<=36:=by unfold z3f at hm;simpa using hm
   have HMB:Hid (z3f P Q=true):=hm;clear hm;obtain⟨p,rfl⟩:∃p:Nat,P=p:=⟨P.toNat,by omega⟩;obtain⟨q,rfl⟩:∃q:Nat,Q=q:=⟨Q.toNat,by omega⟩;obtain⟨p1,p6,_,q6⟩:=hm2;by_cases hsum:(ws.length:Int)=3+3*(p+q)
   ·have y0:=hWd3.at_ 0 (by omega);have z0:=hsz 0;generalize hroot:wd ws 0=root at *;have HRT:Hid (wd ws 0=root):=hroot;have HC:=entClone_any root w3 z0;have hwl:ws.length=3+3*(p+q):=by omega
    have HL:Hid (ws.length=3+3*(p+q)):=hwl;clear hroot z0;go_wp2_with fail;refine HM.mono ?_;rintro e w4 ⟨rfl,rfl⟩;clear HM;go_wp2_with fail;refine(show Calls _ _ _ _ _ from HC).mono ?_;rintro e w5 ⟨rfl,hb5⟩;clear HC;have hE5:=hE2.later hb5;have hWd5:=hWd3.later hb5;have hres5:=(hb5.block _ (Nat.lt_trans hlt1 hlt3)).trans hres3;have hbW5:=hb3.trans (hb5.mono hb3.size);have hlt5:w1.heap.size<w5.heap.size:=Nat.lt_of_lt_of_le hlt3 hb5.size;have hbe:Below w5.heap.size w5 (w5.alloc (.cells #[.string root,.slice none 0 0,.slice none 0 0] 71)):=(Below.refl _ _).alloc (Nat.le_refl _) _;have hblk:(w5.alloc (.cells #[.string root,.slice none 0 0,.slice none 0 0] 71)).heap[w5.heap.size]?=some (.cells #[.string root,.slice none 0 0,.slice none 0 0] 71 (0,0)):=Array.getElem?_push_size;have hbz:w5.heap.size<(w5.alloc (.cells #[.string root,.slice none 0 0,.slice none 0 0] 71)).heap.size:=by simp
    have jw:(3:Int)<=(ws.length:Int):=by omega
    clear hres3 hWd3 hb3 hb5 hres y0 hE2 hl hsum;go_wp2;generalize w5.alloc (.cells #[.string root,.slice none 0 0,.slice none 0 0] 71)=W6 at *;have hR0:Rd 112 (fun v=>#[.string root,v,.slice none 0 0]) W6 W6 w5.heap.size (fun i=>[.string (wd ws (3+3*i)),.int .i64 (nu ws (3+3*i+1)),.int .i64 (nu ws (3+3*i+2))]) 0 (.slice none 0 0):=⟨hbz,hblk,World.ownsRow_nil _ _ _ _,Below.refl _ _,fun _ _ _=>rfl⟩;have hWd6:=hWd5.later hbe;go_loopw [49] (fun y wr=>∃(i:Nat) (v:Value),i<=p/\y=.int .i64 i/\Rd 112 (fun v=>#[.string root,v,.slice none 0 0]) W6 wr w5.heap.size (fun i=>[.string (wd ws (3+3*i)),.int .i64 (nu ws (3+3*i+1)),.int .i64 (nu ws (3+3*i+2))]) i v) (fun y _=>p-(intOf y).toNat)
    case atStart=>exact⟨0,_,Nat.zero_le _,rfl,hR0⟩
    case round=>
     obtain⟨i,v,hi,rfl,hR⟩:=hrel;by_cases hlt:i<p
     ·have hWr:=hR.words hWd6 (Nat.ne_of_lt hlt5);have hEr:=hE5.later (hbe.trans hR.low);have x0:=hWr.at_ (3+3*i) (by omega);have x1:=hWr.at_ (3+3*i+1) (by omega);have x2:=hWr.at_ (3+3*i+2) (by omega);have z0:=hsz (3+3*i);have z1:=hsz (3+3*i+1);have z2:=hsz (3+3*i+2);have HV:Hid ([.string (wd ws (3+3*i)),.int .i64 (numF (wd ws (3+3*i+1)).data.toList),.int .i64 (numF (wd ws (3+3*i+2)).data.toList)]=(fun i=>[Value.string (wd ws (3+3*i)),.int .i64 (nu ws (3+3*i+1)),.int .i64 (nu ws (3+3*i+2))]) i):=rfl;have j0:(0:Int)<=3*(i:Int):=by omega
      have j1:3*(i:Int)<=((ws.length-3:Nat):Int):=by omega
      generalize ha:wd ws (3+3*i)=a at *;generalize hb:wd ws (3+3*i+1)=b at *;generalize hc:wd ws (3+3*i+2)=c at *;clear ha hb hc hWr hR0 hsz;obtain⟨av,cv,rfl,_⟩:=z0c hR.own;have hC:wr.cell? ⟨w5.heap.size,1,none⟩=some (.slice av i cv):=by simp[World.cell?,hR.blk]
      have hY:=Three.mk x0 x1 x2;have qs:w5.heap.size<wr.heap.size:=(Array.getElem?_eq_some_iff.1 hR.blk).1;have k0:(0:Int)<((3*(p+q)-3*i:Nat):Int):=by omega
      have k1:(1:Int)<((3*(p+q)-3*i:Nat):Int):=by omega
      have k3:i<p+q:=by omega
      have k2:(2:Int)<((3*(p+q)-3*i:Nat):Int):=by omega
      have hlt6:w1.heap.size<W6.heap.size:=Nat.lt_trans hlt5 hbz;have hne6:w1.heap.size≠w5.heap.size:=Nat.ne_of_lt hlt5;clear hY hlt6 hne6;go_wp2;generalize hL:3*(p+q)-3*i=L at *;have k4:0<L:=by omega
      have k5:L≠0:=by omega
      clear hL;have hSS:(fun w':World=>w'.cell? ⟨w5.heap.size,1,none⟩=some (.slice av i cv)/\w'.cell? ⟨w1.heap.size,3+3*i,none⟩=some (.string a)/\w'.cell? ⟨w1.heap.size,3+3*i+1,none⟩=some (.string b)/\w'.cell? ⟨w1.heap.size,3+3*i+2,none⟩=some (.string c)) wr.drew:=⟨hC,x0,x1,x2⟩;refine z0f (fun w':World=>w'.cell? ⟨w5.heap.size,1,none⟩=some (.slice av i cv)/\w'.cell? ⟨w1.heap.size,3+3*i,none⟩=some (.string a)/\w'.cell? ⟨w1.heap.size,3+3*i+1,none⟩=some (.string b)/\w'.cell? ⟨w1.heap.size,3+3*i+2,none⟩=some (.string c)) 16 19 (by kernel_rfl) rfl ?_;refine tW 0 hSS ?_;refine tW 2 hSS ?_;refine tW 3 hSS ?_;refine tW 6 hSS ?_;refine tW 7 hSS ?_;refine tW 10 hSS ?_;refine tW 11 hSS ?_;refine tR 1 [] hSS ?_;refine tR 4 [13,9,5] hSS ?_;refine tR 8 [13,9] hSS ?_;refine tR 12 [13] hSS ?_;refine oG 5 fun K hK=>?_
      go_wp2_with fail;refine(show Calls _ _ _ _ _ from entClone_any a wr.drew z0).mono ?_;rintro e w7 ⟨rfl,hb7⟩;replace hb7:=z0v hb7;have hE7:=hEr.later hb7;have hR7:=hR.later hb7;clear hSS;have hSS:(fun w':World=>w'.cell? ⟨w5.heap.size,1,none⟩=some (.slice av i cv)/\w'.cell? ⟨w1.heap.size,3+3*i,none⟩=some (.string a)/\w'.cell? ⟨w1.heap.size,3+3*i+1,none⟩=some (.string b)/\w'.cell? ⟨w1.heap.size,3+3*i+2,none⟩=some (.string c)) w7:=⟨cell_later hb7 hC,cell_later hb7 x0,cell_later hb7 x1,cell_later hb7 x2⟩;go_wp2_with fail;refine hK _ _ hSS ?_;clear hK hb7 hC x0 x1 x2;refine oG 9 fun K hK=>?_
      go_wp2_with fail;refine(show Calls _ _ _ _ _ from z2T b w7 hE7 z1).mono ?_;rintro e w8 ⟨rfl,hb8⟩;have hE8:=hE7.later hb8;have hR8:=hR7.later hb8;have hSS':=hSS;clear hSS;have hSS:(fun w':World=>w'.cell? ⟨w5.heap.size,1,none⟩=some (.slice av i cv)/\w'.cell? ⟨w1.heap.size,3+3*i,none⟩=some (.string a)/\w'.cell? ⟨w1.heap.size,3+3*i+1,none⟩=some (.string b)/\w'.cell? ⟨w1.heap.size,3+3*i+2,none⟩=some (.string c)) w8:=⟨cell_later hb8 hSS'.1,cell_later hb8 hSS'.2.1,cell_later hb8 hSS'.2.2.1,cell_later hb8 hSS'.2.2.2⟩;clear hSS';go_wp2_with fail;refine hK _ _ hSS ?_;clear hK hb8;refine oG 13 fun K hK=>?_
      go_wp2_with fail;refine(show Calls _ _ _ _ _ from z2T c w8 hE8 z2).mono ?_;rintro e w9 ⟨rfl,hb9⟩;have hR9:=hR8.later hb9;have hSS':=hSS;clear hSS;have hSS:(fun w':World=>w'.cell? ⟨w5.heap.size,1,none⟩=some (.slice av i cv)/\w'.cell? ⟨w1.heap.size,3+3*i,none⟩=some (.string a)/\w'.cell? ⟨w1.heap.size,3+3*i+1,none⟩=some (.string b)/\w'.cell? ⟨w1.heap.size,3+3*i+2,none⟩=some (.string c)) w9:=⟨cell_later hb9 hSS'.1,cell_later hb9 hSS'.2.1,cell_later hb9 hSS'.2.2.1,cell_later hb9 hSS'.2.2.2⟩;clear hSS';go_wp2_with fail;refine hK _ _ hSS ?_;clear hK hb9;refine tW 14 hSS ?_;refine oG 15 fun K hK=>?_
      go_wp2_with fail;refine hK _ _ ⟨cell_later ((Below.refl _ _).alloc (Nat.le_refl _) _) hSS.1,cell_later ((Below.refl _ _).alloc (Nat.le_refl _) _) hSS.2.1,cell_later ((Below.refl _ _).alloc (Nat.le_refl _) _) hSS.2.2.1,cell_later ((Below.refl _ _).alloc (Nat.le_refl _) _) hSS.2.2.2⟩ ?_;clear hK;obtain⟨v9,W9,happ,hG⟩:=grow3 a (numF b.data.toList) (numF c.data.toList) hR9.low.size hR9.own (by omega);rw[HV.out]at hG;obtain⟨g1,g2,hbG,hRn⟩:=hR9.put (i:=1) _ hG rfl rfl;obtain⟨a9,c9,rfl,_⟩:=z0c hRn.own;clear hG hbG hSS;refine lG 16 fun K hK=>?_
      go_wp2_with (at_builtin;refine z0b rfl (.tmp 57) (.tmp 71) 68 rfl _ _ _ rfl rfl happ ?_);refine hK _ _ ?_;clear hK;refine tA 17 ?_;refine lG 18 fun K hK=>?_
      go_wp2_with fail;refine hK _ _ ?_;clear hK;refine z1c (by kernel_rfl) ?_ _;go_wp2;go_roundw
      case rel=>exact⟨i+1,_,by omega,by go_num,hRn⟩
      case measure=>simp[intOf];omega
     ·have HIP:Hid (i=p):=(by omega:i=p);have hWr:=hR.words hWd6 (Nat.ne_of_lt hlt5);have hEr:=hE5.later (hbe.trans hR.low);obtain⟨aP,cP,rfl,HROW⟩:=rows3 (fun _=>rfl) hR.own;have hbz2:w5.heap.size<wr.heap.size:=(Array.getElem?_eq_some_iff.1 hR.blk).1;have hblk2:=hR.blk;have hlow2:=hR.low;have hres7:=(hR.kept _ (Nat.lt_trans (Nat.lt_trans hlt1 hlt5) hbz) (Nat.ne_of_lt (Nat.lt_trans hlt1 hlt5))).trans ((hbe.block _ (Nat.lt_trans hlt1 hlt5)).trans hres5);have HLOW:Hid (W6.heap.size<=wr.heap.size):=hR.low.size;clear hR hR0 hWd6 hWd5 hres5 hblk;have m1:3*(i:Int)<=3*(p+q):=by have:=HIP.out;omega
      have m0:(0:Int)<=3*(p:Int):=by omega
      have m2:3*(p:Int)<=3*(p+q):=by omega
      have m3:3*p<=3*(p+q):=by omega
      have m4:3*(p+q)<=cap-3:=by omega
      have hlt1r:w1.heap.size<wr.heap.size:=Nat.lt_trans hlt5 hbz2;obtain⟨W7,rfl⟩:∃W,W=wr:=⟨_,rfl⟩;have hR0:Rd 114 (fun v=>#[.string root,.slice aP i cP,v]) W7 W7 w5.heap.size (fun j=>[.int .i64 (nu ws (3+3*p+3*j)),.int .i64 (nu ws (3+3*p+3*j+1)),.int .i64 (nu ws (3+3*p+3*j+2))]) 0 (.slice none 0 0):=⟨hbz2,hblk2,World.ownsRow_nil _ _ _ _,Below.refl _ _,fun _ _ _=>rfl⟩;clear hblk2;by_cases hcp:cap-3=3*p
      ·go_wp2;generalize hL7:3*(p+q)-3*p=L7 at *;go_loopw [80] (fun y wr=>∃(j:Nat) (v:Value),j<=q/\y=.int .i64 j/\Rd 114 (fun v=>#[.string root,.slice aP i cP,v]) W7 wr w5.heap.size (fun j=>[.int .i64 (nu ws (3+3*p+3*j)),.int .i64 (nu ws (3+3*p+3*j+1)),.int .i64 (nu ws (3+3*p+3*j+2))]) j v) (fun y _=>q-(intOf y).toNat)
       case atStart=>exact⟨0,_,Nat.zero_le _,rfl,hR0⟩
       case round=>
        obtain⟨j,v,hj,rfl,hR⟩:=hrel;by_cases hlt:j<q
        ·exfalso;omega
        ·have HQQ:Hid (j=q):=(by omega:j=q);obtain⟨aQ,cQ,rfl,HROQ⟩:=rows3 (fun _=>rfl) hR.own;have d0:wr.cell? ⟨w5.heap.size,0,none⟩=some (.string root):=by simp[World.cell?,hR.blk]
         have d1:wr.cell? ⟨w5.heap.size,1,none⟩=some (.slice aP i cP):=by simp[World.cell?,hR.blk]
         have d2:wr.cell? ⟨w5.heap.size,2,none⟩=some (.slice aQ j cQ):=by simp[World.cell?,hR.blk]
         have hres8:=(hR.kept _ (Nat.lt_trans hlt1 hlt1r) (Nat.ne_of_lt (Nat.lt_trans hlt1 hlt5))).trans hres7;obtain⟨q0,q1,q2,f0,f1,f2⟩:=resAt hres8;have hEnd:Below w.heap.size w wr:=((hbW5.trans (hbe.mono hbW5.size)).trans (hlow2.mono hbW5.size)).trans (hR.low.mono hbW5.size);have hNB:=z5b hEnd (Nat.le_refl w.heap.size) (.string root) (.slice aP i cP) (.slice aQ j cQ);have HFIN:Hid (z5I (((wr.setCell ⟨w.heap.size,0,none⟩ (.string root)).setCell ⟨w.heap.size,1,none⟩ (.slice aP i cP)).setCell ⟨w.heap.size,2,none⟩ (.slice aQ j cQ)) ⟨aP,cP,aQ,cQ⟩ ⟨root,i,fun i=>wd ws (3+3*i),fun i=>nu ws (3+3*i+1),fun i=>nu ws (3+3*i+2),j,fun j=>nu ws (3+3*p+3*j),fun j=>nu ws (3+3*p+3*j+1),fun j=>nu ws (3+3*p+3*j+2)⟩):=by
          refine⟨⟨?_,?_⟩,?_,?_⟩
          ·rcases HROW with h|⟨bk,hbk,ha,hc,C,hC⟩
           ·exact .inl h
           ·have hn1:bk≠w5.heap.size:=by omega
            have hn2:bk≠w.heap.size:=by omega
            exact .inr ⟨bk,0,ha,fun k hk=>⟨by rw[Nat.zero_add];exact z1w (hR.cell (hc k hk 0 _ rfl) hn1) hn2 _ _ _,by rw[Nat.zero_add];exact z1w (hR.cell (hc k hk 1 _ rfl) hn1) hn2 _ _ _,by rw[Nat.zero_add];exact z1w (hR.cell (hc k hk 2 _ rfl) hn1) hn2 _ _ _⟩⟩
          ·rcases HROQ with h|⟨bk,hbk,ha,hc,C,hC⟩
           ·exact .inl h
           ·have hn2:bk≠w.heap.size:=by omega
            exact .inr ⟨bk,0,ha,fun k hk=>⟨by rw[Nat.zero_add];exact z1w (hc k hk 0 _ rfl) hn2 _ _ _,by rw[Nat.zero_add];exact z1w (hc k hk 1 _ rfl) hn2 _ _ _,by rw[Nat.zero_add];exact z1w (hc k hk 2 _ rfl) hn2 _ _ _⟩⟩
          ·rcases HROW with h|⟨bk,hbk,ha,hc,C,hC⟩
           ·exact .inl h
           ·have hn1:bk≠w5.heap.size:=by omega
            have hn2:bk≠w.heap.size:=by omega
            exact .inr ⟨bk,0,C,ha,(z6r hn2 _ _ _).trans ((hR.kept bk (Array.getElem?_eq_some_iff.1 hC).1 hn1).trans hC)⟩
          ·rcases HROQ with h|⟨bk,hbk,ha,hc,C,hC⟩
           ·exact .inl h
           ·have hn2:bk≠w.heap.size:=by omega
            exact .inr ⟨bk,0,C,ha,(z6r hn2 _ _ _).trans hC⟩
         have HIS:Hid (readW ws=⟨root,i,fun i=>wd ws (3+3*i),fun i=>nu ws (3+3*i+1),fun i=>nu ws (3+3*i+2),j,fun j=>nu ws (3+3*p+3*j),fun j=>nu ws (3+3*p+3*j+1),fun j=>nu ws (3+3*p+3*j+2)⟩):=by
          rw[<-HRT.out];have hip:=HIP.out;have hqq:=HQQ.out;subst hip;subst hqq;exact readW_yes (by have:=HL.out;omega) HMB.out HP.out HQ.out HL.out
         clear HROW HROQ hres7 hres8 hR hR0;go_wp2;refine bodyPost_ret (v:=.agg #[.string root,.slice aP i cP,.slice aQ j cQ]) (by simp[results,Tryz.results169,go_sem,q0,q1,q2]) rfl ?_;rw[HIS.out];exact⟨⟨aP,cP,aQ,cQ⟩,rfl,HFIN.out,hNB⟩
      ·go_wp2;generalize hL7:3*(p+q)-3*p=L7 at *;go_loopw [80] (fun y wr=>∃(j:Nat) (v:Value),j<=q/\y=.int .i64 j/\Rd 114 (fun v=>#[.string root,.slice aP i cP,v]) W7 wr w5.heap.size (fun j=>[.int .i64 (nu ws (3+3*p+3*j)),.int .i64 (nu ws (3+3*p+3*j+1)),.int .i64 (nu ws (3+3*p+3*j+2))]) j v) (fun y _=>q-(intOf y).toNat)
       case atStart=>exact⟨0,_,Nat.zero_le _,rfl,hR0⟩
       case round=>
        obtain⟨j,v,hj,rfl,hR⟩:=hrel;by_cases hlt:j<q
        ·have hWj:=hR.words hWr (Nat.ne_of_lt hlt5);have hEj:=hE5.later ((hbe.trans hlow2).trans hR.low);have x0:=hWj.at_ (3+3*p+3*j) (by omega);have x1:=hWj.at_ (3+3*p+3*j+1) (by omega);have x2:=hWj.at_ (3+3*p+3*j+2) (by omega);have z0:=hsz (3+3*p+3*j);have z1:=hsz (3+3*p+3*j+1);have z2:=hsz (3+3*p+3*j+2);have HV:Hid ([.int .i64 (numF (wd ws (3+3*p+3*j)).data.toList),.int .i64 (numF (wd ws (3+3*p+3*j+1)).data.toList),.int .i64 (numF (wd ws (3+3*p+3*j+2)).data.toList)]=(fun j=>[Value.int .i64 (nu ws (3+3*p+3*j)),.int .i64 (nu ws (3+3*p+3*j+1)),.int .i64 (nu ws (3+3*p+3*j+2))]) j):=rfl;have j0:(0:Int)<=3*(j:Int):=by omega
         have j1:3*(j:Int)<=(L7:Int):=by omega
         have j2:3*j<=L7:=by omega
         have j3:¬cap-3-3*p=3*j:=by omega
         have j4:L7<=cap-3-3*p:=by omega
         generalize ha:wd ws (3+3*p+3*j)=a at *;generalize hb:wd ws (3+3*p+3*j+1)=b at *;generalize hc:wd ws (3+3*p+3*j+2)=c at *;clear ha hb hc hWj hR0 hsz;obtain⟨av,cv,rfl,_⟩:=z0c hR.own;have hC:wr.cell? ⟨w5.heap.size,2,none⟩=some (.slice av j cv):=by simp[World.cell?,hR.blk]
         have k0:(0:Int)<((L7-3*j:Nat):Int):=by omega
         have k1:(1:Int)<((L7-3*j:Nat):Int):=by omega
         have k2:(2:Int)<((L7-3*j:Nat):Int):=by omega
         clear hL7 HROW;go_wp2;generalize hL:L7-3*j=L at *;have k4:0<L:=by omega
         have k5:L≠0:=by omega
         clear hL;have hSS:(fun w':World=>w'.cell? ⟨w5.heap.size,2,none⟩=some (.slice av j cv)/\w'.cell? ⟨w1.heap.size,3+3*p+3*j,none⟩=some (.string a)/\w'.cell? ⟨w1.heap.size,3+3*p+3*j+1,none⟩=some (.string b)/\w'.cell? ⟨w1.heap.size,3+3*p+3*j+2,none⟩=some (.string c)) wr.drew:=⟨hC,x0,x1,x2⟩;refine z0f (fun w':World=>w'.cell? ⟨w5.heap.size,2,none⟩=some (.slice av j cv)/\w'.cell? ⟨w1.heap.size,3+3*p+3*j,none⟩=some (.string a)/\w'.cell? ⟨w1.heap.size,3+3*p+3*j+1,none⟩=some (.string b)/\w'.cell? ⟨w1.heap.size,3+3*p+3*j+2,none⟩=some (.string c)) 16 19 (by kernel_rfl) rfl ?_;refine tW 0 hSS ?_;refine tW 2 hSS ?_;refine tW 3 hSS ?_;refine tW 6 hSS ?_;refine tW 7 hSS ?_;refine tW 10 hSS ?_;refine tW 11 hSS ?_;refine tR 1 [] hSS ?_;refine tR 4 [13,9,5] hSS ?_;refine tR 8 [13,9] hSS ?_;refine tR 12 [13] hSS ?_;refine oG 5 fun K hK=>?_
         go_wp2_with fail;refine(show Calls _ _ _ _ _ from z2T a wr.drew hEj.drew z0).mono ?_;rintro e w7 ⟨rfl,hb7⟩;replace hb7:=z0v hb7;have hE7:=hEj.later hb7;have hR7:=hR.later hb7;clear hSS;have hSS:(fun w':World=>w'.cell? ⟨w5.heap.size,2,none⟩=some (.slice av j cv)/\w'.cell? ⟨w1.heap.size,3+3*p+3*j,none⟩=some (.string a)/\w'.cell? ⟨w1.heap.size,3+3*p+3*j+1,none⟩=some (.string b)/\w'.cell? ⟨w1.heap.size,3+3*p+3*j+2,none⟩=some (.string c)) w7:=⟨cell_later hb7 hC,cell_later hb7 x0,cell_later hb7 x1,cell_later hb7 x2⟩;go_wp2_with fail;refine hK _ _ hSS ?_;clear hK hb7 hC x0 x1 x2;refine oG 9 fun K hK=>?_
         go_wp2_with fail;refine(show Calls _ _ _ _ _ from z2T b w7 hE7 z1).mono ?_;rintro e w8 ⟨rfl,hb8⟩;have hE8:=hE7.later hb8;have hR8:=hR7.later hb8;have hSS':=hSS;clear hSS;have hSS:(fun w':World=>w'.cell? ⟨w5.heap.size,2,none⟩=some (.slice av j cv)/\w'.cell? ⟨w1.heap.size,3+3*p+3*j,none⟩=some (.string a)/\w'.cell? ⟨w1.heap.size,3+3*p+3*j+1,none⟩=some (.string b)/\w'.cell? ⟨w1.heap.size,3+3*p+3*j+2,none⟩=some (.string c)) w8:=⟨cell_later hb8 hSS'.1,cell_later hb8 hSS'.2.1,cell_later hb8 hSS'.2.2.1,cell_later hb8 hSS'.2.2.2⟩;clear hSS';go_wp2_with fail;refine hK _ _ hSS ?_;clear hK hb8;refine oG 13 fun K hK=>?_
         go_wp2_with fail;refine(show Calls _ _ _ _ _ from z2T c w8 hE8 z2).mono ?_;rintro e w9 ⟨rfl,hb9⟩;have hR9:=hR8.later hb9;have hSS':=hSS;clear hSS;have hSS:(fun w':World=>w'.cell? ⟨w5.heap.size,2,none⟩=some (.slice av j cv)/\w'.cell? ⟨w1.heap.size,3+3*p+3*j,none⟩=some (.string a)/\w'.cell? ⟨w1.heap.size,3+3*p+3*j+1,none⟩=some (.string b)/\w'.cell? ⟨w1.heap.size,3+3*p+3*j+2,none⟩=some (.string c)) w9:=⟨cell_later hb9 hSS'.1,cell_later hb9 hSS'.2.1,cell_later hb9 hSS'.2.2.1,cell_later hb9 hSS'.2.2.2⟩;clear hSS';go_wp2_with fail;refine hK _ _ hSS ?_;clear hK hb9;refine tW 14 hSS ?_;refine oG 15 fun K hK=>?_
         go_wp2_with fail;refine hK _ _ ⟨cell_later ((Below.refl _ _).alloc (Nat.le_refl _) _) hSS.1,cell_later ((Below.refl _ _).alloc (Nat.le_refl _) _) hSS.2.1,cell_later ((Below.refl _ _).alloc (Nat.le_refl _) _) hSS.2.2.1,cell_later ((Below.refl _ _).alloc (Nat.le_refl _) _) hSS.2.2.2⟩ ?_;clear hK;obtain⟨v9,W9,happ,hG⟩:=growI3 (numF a.data.toList) (numF b.data.toList) (numF c.data.toList) hR9.low.size hR9.own (by omega);rw[HV.out]at hG;obtain⟨g1,g2,hbG,hRn⟩:=hR9.put (i:=2) _ hG rfl rfl;obtain⟨a9,c9,rfl,_⟩:=z0c hRn.own;clear hG hbG hSS;refine lG 16 fun K hK=>?_
         go_wp2_with (at_builtin;refine z0b rfl (.tmp 88) (.tmp 102) 69 rfl _ _ _ rfl rfl happ ?_);refine hK _ _ ?_;clear hK;refine tA 17 ?_;refine lG 18 fun K hK=>?_
         go_wp2_with fail;refine hK _ _ ?_;clear hK;refine z1c (by kernel_rfl) ?_ _;go_wp2;go_roundw
         case rel=>exact⟨j+1,_,by omega,by go_num,hRn⟩
         case measure=>simp[intOf];omega
        ·have HQQ:Hid (j=q):=(by omega:j=q);obtain⟨aQ,cQ,rfl,HROQ⟩:=rows3 (fun _=>rfl) hR.own;have d0:wr.cell? ⟨w5.heap.size,0,none⟩=some (.string root):=by simp[World.cell?,hR.blk]
         have d1:wr.cell? ⟨w5.heap.size,1,none⟩=some (.slice aP i cP):=by simp[World.cell?,hR.blk]
         have d2:wr.cell? ⟨w5.heap.size,2,none⟩=some (.slice aQ j cQ):=by simp[World.cell?,hR.blk]
         have hres8:=(hR.kept _ (Nat.lt_trans hlt1 hlt1r) (Nat.ne_of_lt (Nat.lt_trans hlt1 hlt5))).trans hres7;obtain⟨q0,q1,q2,f0,f1,f2⟩:=resAt hres8;have hEnd:Below w.heap.size w wr:=((hbW5.trans (hbe.mono hbW5.size)).trans (hlow2.mono hbW5.size)).trans (hR.low.mono hbW5.size);have hNB:=z5b hEnd (Nat.le_refl w.heap.size) (.string root) (.slice aP i cP) (.slice aQ j cQ);have HFIN:Hid (z5I (((wr.setCell ⟨w.heap.size,0,none⟩ (.string root)).setCell ⟨w.heap.size,1,none⟩ (.slice aP i cP)).setCell ⟨w.heap.size,2,none⟩ (.slice aQ j cQ)) ⟨aP,cP,aQ,cQ⟩ ⟨root,i,fun i=>wd ws (3+3*i),fun i=>nu ws (3+3*i+1),fun i=>nu ws (3+3*i+2),j,fun j=>nu ws (3+3*p+3*j),fun j=>nu ws (3+3*p+3*j+1),fun j=>nu ws (3+3*p+3*j+2)⟩):=by
          refine⟨⟨?_,?_⟩,?_,?_⟩
          ·rcases HROW with h|⟨bk,hbk,ha,hc,C,hC⟩
           ·exact .inl h
           ·have hn1:bk≠w5.heap.size:=by omega
            have hn2:bk≠w.heap.size:=by omega
            exact .inr ⟨bk,0,ha,fun k hk=>⟨by rw[Nat.zero_add];exact z1w (hR.cell (hc k hk 0 _ rfl) hn1) hn2 _ _ _,by rw[Nat.zero_add];exact z1w (hR.cell (hc k hk 1 _ rfl) hn1) hn2 _ _ _,by rw[Nat.zero_add];exact z1w (hR.cell (hc k hk 2 _ rfl) hn1) hn2 _ _ _⟩⟩
          ·rcases HROQ with h|⟨bk,hbk,ha,hc,C,hC⟩
           ·exact .inl h
           ·have hn2:bk≠w.heap.size:=by omega
            exact .inr ⟨bk,0,ha,fun k hk=>⟨by rw[Nat.zero_add];exact z1w (hc k hk 0 _ rfl) hn2 _ _ _,by rw[Nat.zero_add];exact z1w (hc k hk 1 _ rfl) hn2 _ _ _,by rw[Nat.zero_add];exact z1w (hc k hk 2 _ rfl) hn2 _ _ _⟩⟩
          ·rcases HROW with h|⟨bk,hbk,ha,hc,C,hC⟩
           ·exact .inl h
           ·have hn1:bk≠w5.heap.size:=by omega
            have hn2:bk≠w.heap.size:=by omega
            exact .inr ⟨bk,0,C,ha,(z6r hn2 _ _ _).trans ((hR.kept bk (Array.getElem?_eq_some_iff.1 hC).1 hn1).trans hC)⟩
          ·rcases HROQ with h|⟨bk,hbk,ha,hc,C,hC⟩
           ·exact .inl h
           ·have hn2:bk≠w.heap.size:=by omega
            exact .inr ⟨bk,0,C,ha,(z6r hn2 _ _ _).trans hC⟩
         have HIS:Hid (readW ws=⟨root,i,fun i=>wd ws (3+3*i),fun i=>nu ws (3+3*i+1),fun i=>nu ws (3+3*i+2),j,fun j=>nu ws (3+3*p+3*j),fun j=>nu ws (3+3*p+3*j+1),fun j=>nu ws (3+3*p+3*j+2)⟩):=by
          rw[<-HRT.out];have hip:=HIP.out;have hqq:=HQQ.out;subst hip;subst hqq;exact readW_yes (by have:=HL.out;omega) HMB.out HP.out HQ.out HL.out
         clear HROW HROQ hres7 hres8 hR hR0;go_wp2;refine bodyPost_ret (v:=.agg #[.string root,.slice aP i cP,.slice aQ j cQ]) (by simp[results,Tryz.results169,go_sem,q0,q1,q2]) rfl ?_;rw[HIS.out];exact⟨⟨aP,cP,aQ,cQ⟩,rfl,HFIN.out,hNB⟩
   ·have HR:Hid (readW ws=z1g):=readW_no (fun h=>by have:=h.2.2;rw[HP.out,HQ.out]at this;exact hsum this);go_wp2_with fail;refine HM.mono ?_;rintro e w4 ⟨rfl,rfl⟩;clear HM;have hresX:=hres3;clear hres3;obtain⟨q0,q1,q2,f0,f1,f2⟩:=resAt hresX;have hNB:=z5b hb3 (Nat.le_refl w.heap.size) (.string ⟨#[]⟩) (.slice none 0 0) (.slice none 0 0);clear hres hresX;go_wp2;refine bodyPost_ret (v:=.agg #[.string ⟨#[]⟩,.slice none 0 0,.slice none 0 0]) (by simp[results,Tryz.results169,go_sem,q0,q1,q2]) rfl ?_;rw[HR.out];exact⟨⟨none,0,none,0⟩,rfl,z5R _,hNB⟩
  ·have HR:Hid (readW ws=z1g):=readW_no (fun h=>by have:=h.2.1;rw[HP.out,HQ.out]at this;exact hm this);have hm2:z3f P Q=false:=by simpa using hm
   rw[hm2]at HM;clear hm hm2;go_wp2_with fail;refine HM.mono ?_;rintro e w4 ⟨rfl,rfl⟩;clear HM;have hresX:=hres3;clear hres3;obtain⟨q0,q1,q2,f0,f1,f2⟩:=resAt hresX;have hNB:=z5b hb3 (Nat.le_refl w.heap.size) (.string ⟨#[]⟩) (.slice none 0 0) (.slice none 0 0);clear hres hresX;go_wp2;refine bodyPost_ret (v:=.agg #[.string ⟨#[]⟩,.slice none 0 0,.slice none 0 0]) (by simp[results,Tryz.results169,go_sem,q0,q1,q2]) rfl ?_;rw[HR.out];exact⟨⟨none,0,none,0⟩,rfl,z5R _,hNB⟩
end
section
open Go.RowKit
theorem readE_fit(s:ByteArray)(hs:s.size<=1000000):EntFit (z7J s):=by
 have hsz:=fun i=>Nat.le_trans (wd_size s i) hs
 unfold z7J readW;split
 ·rename_i h;have hm:1<=nu (z3b s) 1/\nu (z3b s) 1<=6/\0<=nu (z3b s) 2/\nu (z3b s) 2<=36:=by
   have:=h.2.1;unfold z3f at this;simpa using this
  refine⟨?_,?_,?_,fun i _=>?_⟩
  ·show(wd (z3b s) 0).size<=maxLen;have:=hsz 0;unfold maxLen;omega
  ·show(nu (z3b s) 1).toNat<=maxLen;unfold maxLen;omega
  ·show(nu (z3b s) 2).toNat<=maxLen;unfold maxLen;omega
  ·show(wd (z3b s) _).size<=maxLen;have:=hsz (3+3*i);unfold maxLen;omega
 ·exact⟨by decide,by decide,by decide,fun i h=>absurd h (Nat.not_lt_zero _)⟩
theorem bytes_ne{T s:ByteArray}(h:T≠s):(T.toList==s.toList)=false:=by
 rw[beq_eq_false_iff_ne];intro h2;apply h;exact WideShapes.bytes_inj (by rwa [ByteArray.toList_eq,ByteArray.toList_eq]at h2)
theorem box_no_int{w:World}{g:Nat}(h:w.heap[g]?=some (.cells #[.string ⟨#[]⟩,.slice none 0 0,.slice none 0 0] 71 (0,0)))(o:Nat)(k:Int):w.cell? ⟨g,o,none⟩≠some (.int .i64 k):=by
 intro hc
 match o,hc with
 |0,hc=>simp[World.cell?,h]at hc
 |1,hc=>simp[World.cell?,h]at hc
 |2,hc=>simp[World.cell?,h]at hc
 |o+3,hc=>simp[World.cell?,h]at hc
theorem entAt_set3{w:World}{g:Nat}{v:EntV}{en:EntF}(hA:z5k w v en)(h:w.heap[g]?=some (.cells #[.string ⟨#[]⟩,.slice none 0 0,.slice none 0 0] 71 (0,0)))(a0 a1 a2:Value):z5k (((w.setCell ⟨g,0,none⟩ a0).setCell ⟨g,1,none⟩ a1).setCell ⟨g,2,none⟩ a2) v en:=by
 refine⟨?_,?_⟩
 ·rcases hA.parts with h0|⟨bk,o,ha,hc⟩
  ·exact .inl h0
  ·refine .inr ⟨bk,o,ha,fun i hi=>?_⟩;obtain⟨h0,h1,h2⟩:=hc i hi;have hne:bk≠g:=fun e=>box_no_int h _ _ (e ▸ h1)
   exact⟨z1w h0 hne _ _ _,z1w h1 hne _ _ _,z1w h2 hne _ _ _⟩
 ·rcases hA.pats with h0|⟨bk,o,ha,hc⟩
  ·exact .inl h0
  ·refine .inr ⟨bk,o,ha,fun i hi=>?_⟩;obtain⟨h0,h1,h2⟩:=hc i hi;have hne:bk≠g:=fun e=>box_no_int h _ _ (e ▸ h1)
   exact⟨z1w h0 hne _ _ _,z1w h1 hne _ _ _,z1w h2 hne _ _ _⟩
theorem entNew_set3{w:World}{g:Nat}{v:EntV}{en:EntF}(hA:z5I w v en)(h:w.heap[g]?=some (.cells #[.string ⟨#[]⟩,.slice none 0 0,.slice none 0 0] 71 (0,0)))(a0 a1 a2:Value):z5I (((w.setCell ⟨g,0,none⟩ a0).setCell ⟨g,1,none⟩ a1).setCell ⟨g,2,none⟩ a2) v en:=by
 have key:∀ {bk:Nat} {C:Array Value} {t:TypeId},t≠71->w.heap[bk]?=some (.cells C t (0,0))->(((w.setCell ⟨g,0,none⟩ a0).setCell ⟨g,1,none⟩ a1).setCell ⟨g,2,none⟩ a2).heap[bk]?=some (.cells C t (0,0)):=fun {bk C t} ht hC=>by
  have hne:bk≠g:=fun e=>by
   subst e;rw[h]at hC;injection hC with hC;injection hC with _ h2 _;exact ht h2.symm
  exact(z6r hne _ _ _).trans hC
 exact⟨entAt_set3 hA.here h _ _ _,hA.tP.imp id fun⟨bk,o,C,ha,hC⟩=>⟨bk,o,C,ha,key (by decide) hC⟩,hA.tQ.imp id fun⟨bk,o,C,ha,hC⟩=>⟨bk,o,C,ha,key (by decide) hC⟩⟩
theorem entParse_new(s:ByteArray)(w:World)(hE:Env w)(hs:s.size<=1000000) :
 Calls Tryz.prog 125 #[.string s] w fun e w'=>∃v,e=.returned (.tuple #[.agg (z1r v (z3A s).2),errV (z3A s).1])/\z5I w' v (z3A s).2/\Below w.heap.size w w':=by
 have hb0:Below w.heap.size w (w.alloc (.cells #[.string ⟨#[]⟩,.slice none 0 0,.slice none 0 0] 71)):=(Below.refl _ _).alloc (Nat.le_refl _) _;have hres:(w.alloc (.cells #[.string ⟨#[]⟩,.slice none 0 0,.slice none 0 0] 71)).heap[w.heap.size]?=some (.cells #[.string ⟨#[]⟩,.slice none 0 0,.slice none 0 0] 71 (0,0)):=Array.getElem?_push_size;have hz0:w.heap.size<(w.alloc (.cells #[.string ⟨#[]⟩,.slice none 0 0,.slice none 0 0] 71)).heap.size:=by simp
 have hE0:=hE.later hb0;have HF:=readE_fit s hs;have HPA:Hid (z3A s=if (z5m (z7J s)).1=0/\(z5m (z7J s)).2=s.data.toList then(0,z7J s)else(4,z1g)):=rfl;have HR:=entRead_any s _ hE0 hs;generalize hW:w.alloc (.cells #[.string ⟨#[]⟩,.slice none 0 0,.slice none 0 0] 71)=W0 at *;generalize z7J s=en at *;go_enter Tryz.func125,Tryz.ntmps125;go_wp2_with fail;refine(show Calls _ _ _ _ _ from HR).mono ?_;rintro e w1 ⟨v,rfl,hA1,hb1⟩;clear HR;have hbe:Below w1.heap.size w1 (w1.alloc (.cells (z1r v en) 71)):=(Below.refl _ _).alloc (Nat.le_refl _) _;have HT:=z7l v en _ (hA1.here.later hbe) HF ((hE0.later hb1).later hbe);have hres1:=(hb1.block _ hz0).trans hres;have hlt1:w.heap.size<w1.heap.size:=Nat.lt_of_lt_of_le hz0 hb1.size;have c0:(w1.alloc (.cells (z1r v en) 71)).cell? ⟨w1.heap.size,0,none⟩=some (.string en.root):=by simp[go_sem]
 have c1:(w1.alloc (.cells (z1r v en) 71)).cell? ⟨w1.heap.size,1,none⟩=some (.slice v.aP en.nP v.cP):=by simp[go_sem]
 have c2:(w1.alloc (.cells (z1r v en) 71)).cell? ⟨w1.heap.size,2,none⟩=some (.slice v.aQ en.nQ v.cQ):=by simp[go_sem]
 have hA2:=hA1.later hbe;have hbA:=(hb0.trans (hb1.mono hb0.size)).trans (hbe.mono (Nat.le_of_lt hlt1));have hres2:=(hbe.block _ hlt1).trans hres1;have hlt2:w.heap.size<(w1.alloc (.cells (z1r v en) 71)).heap.size:=by simp;omega
 clear hres hres1 hA1 hb1 hb0 hE0 hE hz0 hs;go_wp2_with fail;refine(show Calls _ _ _ _ _ from HT).mono ?_;rintro e w3 ⟨rfl,hb3⟩;clear HT;have hres3:=(hb3.block _ hlt2).trans hres2;have hb4:=hbA.trans (hb3.mono hbA.size);have hA3:=hA2.later hb3;have d0:=cell_later hb3 c0;have d1:=cell_later hb3 c1;have d2:=cell_later hb3 c2;obtain⟨q0,q1,q2,f0,f1,f2⟩:=resAt hres3;clear c0 c1 c2 hA2 hbA hres2 hbe hlt2 hb3;have hFin:=entNew_set3 hA3 hres3;generalize hTX:(z5m en).1=F at *;generalize hTL:(z5m en).2=L at *;clear hres3 hA3;by_cases h1:F=0
 ·subst h1;by_cases h2:L=s.data.toList
  ·have HIS:Hid (z3A s=(0,en)):=by rw[HPA.out,if_pos ⟨rfl,h2⟩];exact rfl
   have hTs:(⟨L.toArray⟩:ByteArray)=s:=by rw[h2]
   rw[hTs];have hse:(s.toList != s.toList)=false:=by simp
   have hNB:=z5b hb4 (Nat.le_refl w.heap.size) (.string en.root) (.slice v.aP en.nP v.cP) (.slice v.aQ en.nQ v.cQ);have hFN:=hFin (.string en.root) (.slice v.aP en.nP v.cP) (.slice v.aQ en.nQ v.cQ);clear hTs h2 HPA hTX hTL hFin;simp only[errV];go_wp2;refine bodyPost_ret (v:=.tuple #[.agg #[.string en.root,.slice v.aP en.nP v.cP,.slice v.aQ en.nQ v.cQ],.nilIface]) (by simp[results,Tryz.results125,go_sem,q0,q1,q2]) rfl ?_;rw[HIS.out];exact⟨v,rfl,hFN,hNB⟩
  ·have HIS:Hid (z3A s=(4,z1g)):=by rw[HPA.out,if_neg (fun h=>h2 h.2)];exact rfl
   have hne:=bytes_ne (T:=⟨L.toArray⟩) (s:=s) (fun h=>h2 (by rw[<-h]));have hNB:=z5b hb4 (Nat.le_refl w.heap.size) (.string ⟨#[]⟩) (.slice none 0 0) (.slice none 0 0);clear h2 HPA hTX hTL hFin;generalize (⟨L.toArray⟩:ByteArray)=T at *;simp only[errV];go_wp2;refine bodyPost_ret (v:=.tuple #[.agg #[.string ⟨#[]⟩,.slice none 0 0,.slice none 0 0],.iface 43 (.int .i64 4)]) (by simp[results,Tryz.results125,go_sem,q0,q1,q2]) rfl ?_;rw[HIS.out];exact⟨⟨none,0,none,0⟩,rfl,z5R _,hNB⟩
 ·have HIS:Hid (z3A s=(4,z1g)):=by rw[HPA.out,if_neg (fun h=>h1 h.1)];exact rfl
  obtain⟨f,rfl⟩:∃f,F=f+1:=⟨F-1,by omega⟩;have hNB:=z5b hb4 (Nat.le_refl w.heap.size) (.string ⟨#[]⟩) (.slice none 0 0) (.slice none 0 0);clear h1 HPA hTX hTL hFin;simp only[errV];generalize (((f+1:Nat):Int))=K at *;go_wp2;refine bodyPost_ret (v:=.tuple #[.agg #[.string ⟨#[]⟩,.slice none 0 0,.slice none 0 0],.iface 43 (.int .i64 4)]) (by simp[results,Tryz.results125,go_sem,q0,q1,q2]) rfl ?_;rw[HIS.out];exact⟨⟨none,0,none,0⟩,rfl,z5R _,hNB⟩
end
end Go.Proofs.YtbcpcbonlhlhpaaGreatDoor
