/- Parts, told: what tell of the console and partsText of the -/
import Derived.Test.YtbcpcbonlhlhpaaGreatDoorConsSmall
set_option maxRecDepth 100000
set_option maxHeartbeats 8000000
namespace Go.Proofs.YtbcpcbonlhlhpaaGreatDoor
section
open Go.RowKit Go.Maps
structure TellOk(n:Nat)(nm:Nat->ByteArray)(B:Nat->Int)(M:Nat->Nat)(X:Nat->Nat->Int):Prop where
 few:n<=6
 names:∀i,i<n->(nm i).size<=100
 many:∀i,i<n->M i<=40
 bases:∀i,i<n -> -9223372036854775807<=B i/\B i<=9223372036854775807
 words:∀i,i<n->∀j,j<M i -> -9223372036854775807<=X i j/\X i j<=9223372036854775807
theorem z4J {n:Int}(h:-9223372036854775807<=n/\n<=9223372036854775807):(Lib.itoa n).length<=20:=z1v n (by omega) (by omega)
theorem wordsT_len{X:Nat->Int}{M:Nat}(h:∀j,j<M -> -9223372036854775807<=X j/\X j<=9223372036854775807):(z3c X M).length<=21*M:=by
 induction M with
 |zero=>exact Nat.le_refl _
 |succ M ih=>
  have h1:=ih fun j hj=>h j (by omega)
  have h2:=z4J (h M (by omega));show(z3c X M++([32]++Lib.itoa (X M))).length<=_;simp only[List.length_append,List.length_singleton];omega
theorem partT_len{n:Nat}{nm:Nat->ByteArray}{B:Nat->Int}{M:Nat->Nat}{X:Nat->Nat->Int}(h:TellOk n nm B M X){i:Nat}(hi:i<n):(partT (nm i) (B i) (X i) (M i)).length<=1000:=by
 have h1:=h.names i hi;have h2:=z4J (h.bases i hi);have h3:=h.many i hi;have h4:=wordsT_len (h.words i hi);have h5:(nm i).data.toList.length=(nm i).size:=by simp
 unfold partT;simp only[List.length_append,List.length_singleton];omega
theorem z6b (nm:Nat->ByteArray)(B:Nat->Int)(X:Nat->Nat->Int)(M:Nat->Nat):∀i,(z1P nm B X M i).length=i
 |0=>rfl
 |i+1=>by
  show(z1P nm B X M i++[_]).length=i+1;rw[List.length_append,z6b nm B X M i];rfl
theorem partsT_mem{nm:Nat->ByteArray}{B:Nat->Int}{X:Nat->Nat->Int}{M:Nat->Nat}{x:List UInt8}:∀ {i:Nat},x∈z1P nm B X M i->∃j,j<i/\x=partT (nm j) (B j) (X j) (M j)
 |0,h=>by cases h
 |i+1,h=>by
  rcases List.mem_append.1 h with h|h
  ·obtain⟨j,hj,e⟩:=partsT_mem h;exact⟨j,by omega,e⟩
  ·rw[List.mem_singleton]at h;exact⟨i,by omega,h⟩
theorem z7E (sep:List UInt8)(L:Nat):∀r:List (List UInt8),(∀x∈r,x.length<=L)->(Lib.joinTail sep r).length<=r.length*(L+sep.length)
 | [],_=>by simp[Lib.joinTail]
 |x :: r,h=>by
  have h1:=h x (List.mem_cons_self ..);have h2:=z7E sep L r fun z hz=>h z (List.mem_cons_of_mem _ hz)
  have e:Lib.joinTail sep (x :: r)=sep++x++Lib.joinTail sep r:=by simp[Lib.joinTail]
  rw[e];simp only[List.length_append,List.length_cons];rw[Nat.add_mul];omega
theorem join_most(sep:List UInt8)(L:Nat)(ws:List (List UInt8))(h:∀x∈ws,x.length<=L):(Lib.join ws sep).length<=ws.length*(L+sep.length):=by
 cases ws with
 |nil=>rw[Lib.join_nil];exact Nat.zero_le _
 |cons x r=>
  have h1:=h x (List.mem_cons_self ..);have h2:=z7E sep L r fun z hz=>h z (List.mem_cons_of_mem _ hz)
  rw[Lib.join_cons,List.length_append,List.length_cons,Nat.add_mul];omega
theorem join_snoc(sep:List UInt8)(ws:List (List UInt8))(x:List UInt8)(h:ws ≠ []):Lib.join (ws++[x]) sep=Lib.join ws sep++(sep++x):=by
 cases ws with
 |nil=>exact absurd rfl h
 |cons y r=>
  rw[List.cons_append,Lib.join_cons,Lib.join_cons];have e:Lib.joinTail sep (r++[x])=Lib.joinTail sep r++(sep++x):=by simp[Lib.joinTail]
  rw[e,List.append_assoc]
theorem parts_join{n:Nat}{nm:Nat->ByteArray}{B:Nat->Int}{M:Nat->Nat}{X:Nat->Nat->Int}(h:TellOk n nm B M X){i:Nat}(hi:i<=n):(Lib.join (z1P nm B X M i) [59,32]).length<=6012:=by
 have h1:=join_most [59,32] 1000 (z1P nm B X M i) fun x hx=>by
  obtain⟨j,hj,rfl⟩:=partsT_mem hx;exact partT_len h (by omega)
 rw[z6b]at h1;have h2:=h.few;have h3:i*(1000 + [59,32].length)<=6*1002:=Nat.mul_le_mul (by omega) (by decide);omega
theorem joinS{B n:Nat}{w:World}{a:Option Addr}{c:Nat}{l:List (List UInt8)}(sep:ByteArray)(h:w.ownsRow B 9 1 (.slice a n c) n (z1A l))(h0:0<n)(hn:n<=1000)(hlen:(Lib.join l sep.data.toList).length<=100000) :
 Calls Tryz.prog 96 #[.slice a n c,.string sep] w fun e w'=>e=.returned (.string ⟨(Lib.join l sep.data.toList).toArray⟩)/\Below w.heap.size w w':=by
 have hl:l.length=n:=by have:=h.1;simpa[z1A]using this
 obtain⟨a',c',hv,hc⟩:=z0c h;injection hv with _ _ hcc;subst hcc;obtain⟨g,rfl,hB,hc0⟩:=z0K h (j:=0) (u:=.string ⟨(l[0]'(by omega)).toArray⟩) (by simp[z1A,hl,h0]);have hm:(l.map fun x=>(⟨x.toArray⟩:ByteArray)).map (fun x=>x.data.toList)=l:=by
  rw[List.map_map];exact(List.map_congr_left (fun x _=>by simp)).trans (List.map_id _)
 have:=Tryz.strings_Join g 0 c (l.map fun x=>(⟨x.toArray⟩:ByteArray)) sep w (fun j x hj=>by
  obtain⟨g',hg',_,hcj⟩:=z0K h (j:=j) (u:=.string x) (by
   rw[List.getElem?_map]at hj;unfold z1A;rw[List.getElem?_map];cases hx:l[j]? with
   |none=>rw[hx]at hj;simp at hj
   |some y=>rw[hx]at hj;simp at hj;simp[hj])
  injection hg' with hg';injection hg' with hg';rw[Nat.zero_add,hg'];exact hcj) (h.lt g rfl).2 (by simp;omega) (by simp;omega) (by rw[hm];exact Nat.le_trans hlen (by decide))
 rw[hm,List.length_map,hl]at this;exact this
theorem growStrs{B m:Nat}{w:World}{v:Value}{l:List (List UInt8)}(s:ByteArray)(x:List UInt8)(hx:s.data.toList=x)(hB:B<=w.heap.size)(h:w.ownsRow B 9 1 v m (z1A l))(hm:m<=1000) :
 ∃v' W,(Builtin.append_ #[22,22] 22 #[v,.slice (some ⟨w.heap.size,0,none⟩) 1 1]).run Tryz.prog (w.alloc (.cells #[.string s] 9))=.ok v' W/\W.ownsRow B 9 1 v' (m+1) (z1A (l++[x]))/\Below B w W/\(w.alloc (.cells #[.string s] 9)).grownBy W v.ownBlock:=by
 obtain⟨v',W,h1,h2⟩:=strGrow2 (.string s) rfl hB h (by omega);have e:z1A (l++[x])=z1A l++[.string s]:=by
  rw[z6B];have:(⟨x.toArray⟩:ByteArray)=s:=by rw[<-hx]
  simp[z1A,this]
 refine⟨v',W,h1,by rw[e];exact h2.own,?_,h2.grown⟩;exact((Below.refl B w).alloc hB _).trans (z4T (h.alloc _) (by simp;omega) h2.grown)
theorem z1t (l:List UInt8):(⟨l.toArray⟩:ByteArray).data.toList=l:=by simp
theorem z1W {t:ByteArray}{l:List UInt8}(h:t.data.toList=l):t.size=l.length:=by rw[<-h];simp
theorem part_head{s r:ByteArray}{b:Int}(hr:r.data.toList=Lib.itoa b):(s++⟨#[32]⟩++r++⟨#[58]⟩).data.toList=s.data.toList++[32]++Lib.itoa b++[58]++z3c (fun _=>0) 0:=by
 rw[<-hr];simp[z3c]
theorem part_word{t r:ByteArray}{p:List UInt8}{X:Nat->Int}{j:Nat}(ht:t.data.toList=p++z3c X j)(hr:r.data.toList=Lib.itoa (X j)):(t++(⟨#[32]⟩++r)).data.toList=p++z3c X (j+1):=by
 show _=p++(z3c X j++([32]++Lib.itoa (X j)));rw[<-List.append_assoc,<-ht,<-hr];simp
theorem part_word'{t r:ByteArray}{p:List UInt8}{X:Nat->Int}{j:Nat}(ht:t.data.toList=p++z3c X j)(hr:r.data.toList=Lib.itoa (X j)):(t++⟨#[32]⟩++r).data.toList=p++z3c X (j+1):=by
 rw[<-part_word ht hr];simp
theorem tell_any(a:Option Addr)(n c:Nat)(nm:Nat->ByteArray)(B:Nat->Int)(A:Nat->Option Addr)(M C:Nat->Nat)(X:Nat->Nat->Int)(w:World)(hE:Env w)(h:z7s w a n nm B A M C X)(hok:TellOk n nm B M X)(h0:0<n) :
 Calls Tryz.prog 107 #[.slice a n c] w fun e w'=>(∃t:ByteArray,e=.returned (.string t)/\t.data.toList=Lib.join (z1P nm B X M n) [59,32])/\Below w.heap.size w w':=by
 rcases h with h|⟨bk,o,rfl,hc⟩
 ·omega
 have hn6:=hok.few;go_enter Tryz.func107,Tryz.ntmps107;go_upto_block 0 with fail;go_wp2;go_loopw [3,11] (fun y3 y11 wr=>∃i:Nat,i<=n/\y11=.int .i64 i/\wr.ownsRow w.heap.size 9 1 y3 i (z1A (z1P nm B X M i))/\Below w.heap.size w wr) (fun _ y11 _=>n-(intOf y11).toNat)
 case atStart=>exact⟨0,Nat.zero_le _,rfl,World.ownsRow_nil _ _ _ _,Below.refl _ _⟩
 case round=>
  obtain⟨i,hi,rfl,hrow,hb⟩:=hrel;by_cases hlt:i<n
  ·obtain⟨z0,z1,z2,hw0⟩:=hc i hlt;have d0:=cell_later hb z0;have d1:=cell_later hb z1;have d2:=cell_later hb z2;have hrw:z1z wr (A i) (M i) fun j=>.int .i64 (X i j):=hw0.later hb
   have zn:=hok.names i hlt;have zm:=hok.many i hlt;have zb:=hok.bases i hlt;have zx:=hok.words i hlt;have hi0:(0:Int)<=(i:Int):=by omega
   have hi1:(i:Int)<(n:Int):=by omega
   have hP:z1P nm B X M (i+1)=z1P nm B X M i++[(nm i).data.toList++[32]++Lib.itoa (B i)++[58]++z3c (X i) (M i)]:=rfl;obtain⟨a3,c3,rfl,_⟩:=z0c hrow;have HC:Hid (∀i,i<n->w.cell? ⟨bk,o+i*3,none⟩=some (.string (nm i))/\w.cell? ⟨bk,o+i*3+1,none⟩=some (.int .i64 (B i))/\w.cell? ⟨bk,o+i*3+2,none⟩=some (.slice (A i) (M i) (C i))/\z1z w (A i) (M i) fun j=>.int .i64 (X i j)):=hc;clear hc z0 z1 z2 hw0;generalize hPP:z1P nm B X M (i+1)=PS at *;have HPS:Hid (z1P nm B X M (i+1)=PS):=hPP;clear hPP;generalize nm i=s at *;generalize B i=b at *;generalize M i=m at *;generalize A i=aw at *;generalize C i=cw at *;generalize X i=Y at *;have hbA:Below wr.heap.size wr (wr.alloc (.cells #[.string s,.int .i64 b,.slice aw m cw] 110)):=(Below.refl _ _).alloc (Nat.le_refl _) _;have hx:(wr.alloc (.cells #[.string s,.int .i64 b,.slice aw m cw] 110)).heap[wr.heap.size]?=some (.cells #[.string s,.int .i64 b,.slice aw m cw] 110 (0,0)):=Array.getElem?_push_size;have hrowA:=z0e hrow hbA;have hbw:=hb.trans (hbA.mono hb.size);have hrwA:=hrw.later hbA;clear hrow hb hrw hbA;go_upto_region 5 with fail;clear d0 d1 d2;generalize wr.alloc (.cells #[.string s,.int .i64 b,.slice aw m cw] 110)=W at *;generalize wr.heap.size=bb at *;have mkS:∀V:World,Below W.heap.size W V->(fun w':World=>w'.cell? ⟨bb,0,none⟩=some (.string s)/\w'.cell? ⟨bb,1,none⟩=some (.int .i64 b)/\w'.cell? ⟨bb,2,none⟩=some (.slice aw m cw)) V:=fun V hV=>by
    have h:=(hV.block _ (Array.getElem?_eq_some_iff.1 hx).1).trans hx;exact⟨by simp[World.cell?,h],by simp[World.cell?,h],by simp[World.cell?,h]⟩
   have hbd:=(Below.refl W.heap.size W).drew;have hSS:=mkS _ hbd;have HCT:=z6w b W.drew (hE.later (hbw.trans (hbd.mono hbw.size))) (by omega) (by omega);have y1:¬9223372036854775807<s.size+1:=by omega
   refine z0f (fun w':World=>w'.cell? ⟨bb,0,none⟩=some (.string s)/\w'.cell? ⟨bb,1,none⟩=some (.int .i64 b)/\w'.cell? ⟨bb,2,none⟩=some (.slice aw m cw)) 8 9 (by kernel_rfl) rfl ?_;generalize W.drew=W1 at *;refine tW 0 hSS ?_;refine tW 3 hSS ?_;refine tR 1 [] hSS ?_;refine tW 2 hSS ?_;refine tR 4 [] hSS ?_;refine oG 5 fun K hK=>?_
   go_wp2_with fail;refine(show Calls _ _ _ _ _ from HCT).mono ?_;rintro e W2 ⟨rfl,hb2⟩;clear HCT;have hr1:=z1t (Lib.itoa b);generalize (⟨(Lib.itoa b).toArray⟩:ByteArray)=r1 at *;have q1:r1.size<=20:=by rw[z1W hr1];exact z4J zb
   have hbd2:=hbd.trans (hb2.mono hbd.size);have hSS2:=mkS _ hbd2;clear hSS hb2;go_wp2;refine hK _ _ hSS2 ?_;clear hK;have hSS:=hSS2;clear hSS2;have y2:¬9223372036854775807<s.size+1+r1.size:=by omega
   have y3:¬9223372036854775807<s.size+1+r1.size+1:=by omega
   refine tW 6 hSS ?_;refine tW 7 hSS ?_;clear hSS;refine lG 8 fun K hK=>?_
   go_wp2;refine hK _ _ ?_;clear hK;refine z1c (by kernel_rfl) ?_ _;have HT0:Hid ((s++⟨#[32]⟩++r1++⟨#[58]⟩).data.toList=(s.data.toList++[32]++Lib.itoa b++[58])++z3c Y 0):=by
    have:=part_head (s:=s) hr1;exact this
   have hPL:(s.data.toList++[32]++Lib.itoa b++[58]).length<=150:=by
    have h1:=z4J zb;have h2:s.data.toList.length=s.size:=by simp
    simp only[List.length_append,List.length_singleton];omega
   obtain⟨c0,c1,c2⟩:=mkS _ hbd2;have hrowB:=z0e hrowA hbd2;have hbB:=hbw.trans (hbd2.mono hbw.size);have hrwB:=hrwA.later hbd2;clear y1 y2 y3 hr1 q1 c0 c1 hrowA hbw hrwA mkS hbd hbd2 hx;generalize s++⟨#[32]⟩++r1++⟨#[58]⟩=t0 at *;generalize s.data.toList++[32]++Lib.itoa b++[58]=PL at *;obtain⟨wq,rfl⟩:∃V,V=wr:=⟨_,rfl⟩;go_upto_block 2 with fail;clear c2;go_wp2;go_loopw [6,26] (fun y6 y26 wz=>∃(j:Nat) (t:ByteArray),j<=m/\y26=.int .i64 j/\y6=.string t/\Hid (t.data.toList=PL++z3c Y j)/\Below W2.heap.size W2 wz) (fun _ y26 _=>m-(intOf y26).toNat)
   case atStart=>exact⟨0,t0,Nat.zero_le _,rfl,rfl,HT0,Below.refl _ _⟩
   case round=>
    clear HT0;obtain⟨j,t,hj,rfl,rfl,HT,hbz⟩:=hrel;have hts:t.size<=1000:=by
     rw[z1W HT.out,List.length_append];have:=wordsT_len (X:=Y) (M:=j) fun k hk=>zx k (by omega)
     omega
    by_cases hlj:j<m
    ·rcases hrwB.later hbz with h|⟨bw,ow,rfl,hcw⟩
     ·omega
     have x0:wr.cell? ⟨bw,ow+j,none⟩=some (.int .i64 (Y j)):=hcw j hlj;have zj:=zx j hlj;have HCT:=z6w (Y j) wr (hE.later (hbB.trans (hbz.mono hbB.size))) (by omega) (by omega);have hj0:(0:Int)<=(j:Int):=by omega
     have hj1:(j:Int)<(m:Int):=by omega
     have HPW:=fun(r:ByteArray)=>part_word (t:=t) (r:=r) (X:=Y) (j:=j) HT.out
     clear hcw HT;generalize hyj:Y j=yj at *;clear hyj;go_wp2_with fail;refine(show Calls _ _ _ _ _ from HCT).mono ?_;rintro e W3 ⟨rfl,hb3⟩;clear HCT x0;have hr1:=z1t (Lib.itoa yj);generalize (⟨(Lib.itoa yj).toArray⟩:ByteArray)=r1 at *;have q1:r1.size<=20:=by rw[z1W hr1];exact z4J zj
     have HN:Hid ((t++(⟨#[32]⟩++r1)).data.toList=PL++z3c Y (j+1)):=HPW r1 hr1;clear HPW hr1;go_wp2;go_roundw
     case rel=>exact⟨j+1,_,by omega,by go_num,rfl,HN,hbz.trans (hb3.mono hbz.size)⟩
     case measure=>simp[intOf];omega
    ·obtain rfl:j=m:=by omega
     have hrowC:=z0e hrowB hbz;have hbC:=hbB.trans (hbz.mono hbB.size);obtain⟨v9,W9,happ,hown,hbg,_⟩:=growStrs t (PL++z3c Y j) HT.out hbC.size hrowC (by omega);rw[<-hP]at hown;have hb9:=hbC.trans hbg;obtain⟨a9,c9,rfl,_⟩:=z0c hown;rw[<-HPS.out]at hown;clear hrowC hbC hrowB hbB hbz HT hbg hP HPS;go_wp2_with (at_builtin;refine z0b rfl (.tmp 36) (.tmp 38) 22 rfl _ _ _ rfl rfl happ ?_);go_wp2;go_roundw
     case rel=>exact⟨i+1,by omega,by go_num,hown,hb9⟩
     case measure=>simp[intOf];omega
  ·obtain rfl:i=n:=by omega
   obtain⟨a3,c3,rfl,_⟩:=z0c hrow;have hjl:=parts_join hok (Nat.le_refl i);have HJ:=joinS ⟨#[59,32]⟩ hrow h0 (by omega) (show(Lib.join (z1P nm B X M i) [59,32]).length<=100000 by omega);have HJ':Calls Tryz.prog 96 #[.slice a3 i c3,.string ⟨#[59,32]⟩] wr fun e w'=>e=.returned (.string ⟨(Lib.join (z1P nm B X M i) [59,32]).toArray⟩)/\Below wr.heap.size wr w':=HJ
   have HL:=z1t (Lib.join (z1P nm B X M i) [59,32]);generalize (⟨(Lib.join (z1P nm B X M i) [59,32]).toArray⟩:ByteArray)=t at *;have HLH:Hid (t.data.toList=Lib.join (z1P nm B X M i) [59,32]):=HL;clear HJ HL hrow hc hok hjl;go_wp2_with fail;refine(show Calls _ _ _ _ _ from HJ').mono ?_;rintro e W2 ⟨rfl,hb2⟩;clear HJ';go_wp2;go_ret;exact⟨⟨_,rfl,HLH.out⟩,hb.trans (hb2.mono hb.size)⟩
end
section
open Go.RowKit Go.Maps
theorem z1p (F:Nat)(w:World)(h:F<=1000) :
 Calls Tryz.prog 11 #[.int .i64 (F:Int)] w fun e w'=>(∃t:ByteArray,e=.returned (.string t)/\t.data.toList=z1h F)/\Below w.heap.size w w':=by
 have HD:=z0U (F:Int) (by omega) (by omega) w;go_enter Tryz.func11,Tryz.ntmps11;go_wp2_with fail;refine(show Calls _ _ _ _ _ from HD).mono ?_;rintro e w1 ⟨⟨t,rfl,ht⟩,hb⟩;clear HD;have hsz:t.size<=20:=by rw[z1W ht];exact z4J (by omega)
 have HT:Hid (((⟨#[101,114,114,111,114,32]⟩:ByteArray)++t).data.toList=z1h F):=by
  show((⟨#[101,114,114,111,114,32]⟩:ByteArray)++t).data.toList=[101,114,114,111,114,32]++Lib.itoa (F:Int);rw[<-ht];simp
 clear ht;go_wp2;go_ret;exact⟨⟨_,rfl,HT.out⟩,hb⟩
theorem z5f (F:Nat)(w:World)(h:F<=1000) :
 Calls Tryz.prog 18 #[.int .i64 (F:Int)] w fun e w'=>(∃t:ByteArray,e=.returned (.string t)/\t.data.toList=z5z F)/\Below w.heap.size w w':=by
 by_cases h0:F=0
 ·subst h0;go_enter Tryz.func18,Tryz.ntmps18;go_wp2;go_ret;exact⟨⟨_,rfl,rfl⟩,Below.refl _ _⟩
 ·have HF:=z1p F w h;have hp:(0:Int)<(F:Int):=by omega
  have e:z5z F=z1h F:=by unfold z5z;rw[if_neg h0]
  rw[e];go_enter Tryz.func18,Tryz.ntmps18;go_wp2_with fail;refine(show Calls _ _ _ _ _ from HF).mono ?_;rintro e w1 ⟨⟨t,rfl,ht⟩,hb⟩;clear HF;go_wp2;go_ret;exact⟨⟨_,rfl,ht⟩,hb⟩
def z5q (l:List (List UInt8))(sep:List UInt8):List UInt8:=if l=[]then [45]else Lib.join l sep
theorem joined_any(B:Nat)(a:Option Addr)(n c:Nat)(l:List (List UInt8))(sep:ByteArray)(w:World)(h:w.ownsRow B 9 1 (.slice a n c) n (z1A l))(hn:n<=60)(hl:∀x∈l,x.length<=1000)(hs:sep.size<=2) :
 Calls Tryz.prog 13 #[.slice a n c,.string sep] w fun e w'=>(∃t:ByteArray,e=.returned (.string t)/\t.data.toList=z5q l sep.data.toList)/\w'=w:=by
 have hlen:l.length=n:=by have:=h.1;simpa[z1A]using this
 have hsl:sep.data.toList.length<=2:=by simpa using hs
 have HSM:Hid (∀i,(Lib.join (l.take i) sep.data.toList).length<=61000):=fun i=>by
  have h1:=join_most sep.data.toList 1000 (l.take i) fun x hx=>hl x (List.mem_of_mem_take hx)
  have h2:(l.take i).length*(1000+sep.data.toList.length)<=60*1002:=Nat.mul_le_mul (by rw[List.length_take];omega) (by omega);show(Lib.join (l.take i) sep.data.toList).length<=61000;omega
 have HAT:Hid (∀i (hi:i<n),∃s:ByteArray,s.size<=1000/\(∃g,a=some ⟨g,0,none⟩/\w.cell? ⟨g,i,none⟩=some (.string s))/\l.take (i+1)=l.take i++[s.data.toList]):=fun i hi=>by
  have hi':i<l.length:=by omega
  obtain⟨g,hg,_,hcl⟩:=z0K h (j:=i) (u:=.string ⟨(l[i]).toArray⟩) (by simp[z1A,hi']);refine⟨⟨(l[i]).toArray⟩,?_,⟨g,hg,hcl⟩,?_⟩
  ·have:=hl l[i] (List.getElem_mem hi');show(l[i]).toArray.size<=1000;simpa using this
  ·rw[List.take_add_one,List.getElem?_eq_getElem hi'];simp
 have HEND:Hid (l.take n=l):=by
  show l.take n=l;rw[<-hlen,List.take_length]
 have HNE:Hid (n≠0->l ≠ []):=fun h0 e=>h0 (by rw[<-hlen,e];rfl)
 have HE0:Hid (n=0->l=[]):=fun h0=>List.eq_nil_of_length_eq_zero (by omega)
 clear h hl hlen;go_enter Tryz.func13,Tryz.ntmps13;go_wp2;go_loopw [5,6] (fun y5 y6 wr=>∃(i:Nat) (t:ByteArray),i<=n/\y6=.int .i64 i/\y5=.string t/\Hid (t.data.toList=Lib.join (l.take i) sep.data.toList)/\wr=w) (fun _ y6 _=>n-(intOf y6).toNat)
 case atStart=>exact⟨0,⟨#[]⟩,Nat.zero_le _,rfl,rfl,rfl,rfl⟩
 case round=>
  obtain⟨i,t,hi,rfl,rfl,HT,hw⟩:=hrel;replace hw:=hw.symm;subst hw;have zt:t.size<=61000:=by rw[z1W HT.out];exact HSM.out i
  by_cases hlt:i<n
  ·obtain⟨s,zs,⟨g,ha,x0⟩,htk⟩:=HAT.out i hlt;subst ha;have hi0:(0:Int)<=(i:Int):=by omega
   have hi1:(i:Int)<(n:Int):=by omega
   by_cases hz:i=0
   ·subst hz;have HN:Hid ((t++s).data.toList=Lib.join (l.take (0+1)) sep.data.toList):=by
     have e:t.data.toList=[]:=HT.out;show(t++s).data.toList=_;rw[htk];simp[e,Lib.join_one]
    clear HT htk;go_wp2;go_roundw
    case rel=>exact⟨0+1,_,by omega,by go_num,rfl,HN,trivial⟩
    case measure=>simp[intOf];omega
   ·have hpos:(0:Int)<(i:Int):=by omega
    have HN:Hid ((t++sep++s).data.toList=Lib.join (l.take (i+1)) sep.data.toList):=by
     show(t++sep++s).data.toList=_;rw[htk,join_snoc _ _ _ (fun e=>by
      have:=congrArg List.length htk;rw[e]at this;have h3:(l.take i).length=0:=by rw[e];rfl
      have h4:(l.take (i+1)).length=1:=by simpa using this
      rw[List.length_take]at h3 h4;omega),<-HT.out]
     simp
    clear HT htk;go_wp2;go_roundw
    case rel=>exact⟨i+1,_,by omega,by go_num,rfl,HN,trivial⟩
    case measure=>simp[intOf];omega
  ·obtain rfl:i=n:=by omega
   have e:=HT.out;rw[HEND.out]at e;by_cases hz:i=0
   ·have HEL:Hid (([45]:List UInt8)=z5q l sep.data.toList):=by
     show([45]:List UInt8)=z5q l sep.data.toList;unfold z5q;rw[if_pos (HE0.out hz)]
    subst hz;clear HT HAT HSM e HE0;go_wp2;go_ret;exact⟨⟨_,rfl,HEL.out⟩,rfl⟩
   ·have hz':((i:Int)==0)=false:=by rw[beq_eq_false_iff_ne];omega
    have HL:Hid (t.data.toList=z5q l sep.data.toList):=by
     show t.data.toList=z5q l sep.data.toList;unfold z5q;rw[if_neg (HNE.out hz),e]
    clear HT HAT HSM e;go_wp2;go_ret;exact⟨⟨_,rfl,HL.out⟩,rfl⟩
theorem partsText_any(a:Option Addr)(n c:Nat)(nm:Nat->ByteArray)(B:Nat->Int)(A:Nat->Option Addr)(M C:Nat->Nat)(X:Nat->Nat->Int)(w:World)(h:z7s w a n nm B A M C X)(hok:TellOk n nm B M X)(h0:0<n) :
 Calls Tryz.prog 25 #[.slice a n c] w fun e w'=>(∃t:ByteArray,e=.returned (.string t)/\t.data.toList=Lib.join (z1P nm B X M n) [59,32])/\Below w.heap.size w w':=by
 rcases h with h|⟨bk,o,rfl,hc⟩
 ·omega
 have hn6:=hok.few;go_enter Tryz.func25,Tryz.ntmps25;go_upto_block 0 with fail;go_wp2;go_loopw [3,4] (fun y3 y4 wr=>∃i:Nat,i<=n/\y4=.int .i64 i/\wr.ownsRow w.heap.size 9 1 y3 i (z1A (z1P nm B X M i))/\Below w.heap.size w wr) (fun _ y4 _=>n-(intOf y4).toNat)
 case atStart=>exact⟨0,Nat.zero_le _,rfl,World.ownsRow_nil _ _ _ _,Below.refl _ _⟩
 case round=>
  obtain⟨i,hi,rfl,hrow,hb⟩:=hrel;by_cases hlt:i<n
  ·obtain⟨z0,z1,z2,hw0⟩:=hc i hlt;have d0:=cell_later hb z0;have d1:=cell_later hb z1;have d2:=cell_later hb z2;have hrw:z1z wr (A i) (M i) fun j=>.int .i64 (X i j):=hw0.later hb
   have zn:=hok.names i hlt;have zm:=hok.many i hlt;have zb:=hok.bases i hlt;have zx:=hok.words i hlt;have hi0:(0:Int)<=(i:Int):=by omega
   have hi1:(i:Int)<(n:Int):=by omega
   have hP:z1P nm B X M (i+1)=z1P nm B X M i++[(nm i).data.toList++[32]++Lib.itoa (B i)++[58]++z3c (X i) (M i)]:=rfl;obtain⟨a3,c3,rfl,_⟩:=z0c hrow;have HC:Hid (∀i,i<n->w.cell? ⟨bk,o+i*3,none⟩=some (.string (nm i))/\w.cell? ⟨bk,o+i*3+1,none⟩=some (.int .i64 (B i))/\w.cell? ⟨bk,o+i*3+2,none⟩=some (.slice (A i) (M i) (C i))/\z1z w (A i) (M i) fun j=>.int .i64 (X i j)):=hc;clear hc z0 z1 z2 hw0;generalize hPP:z1P nm B X M (i+1)=PS at *;have HPS:Hid (z1P nm B X M (i+1)=PS):=hPP;clear hPP;generalize nm i=s at *;generalize B i=b at *;generalize M i=m at *;generalize A i=aw at *;generalize C i=cw at *;generalize X i=Y at *;go_upto_region 5 with fail;have mkS:∀V:World,Below wr.heap.size wr V->(fun w':World=>w'.cell? ⟨bk,o+i*3,none⟩=some (.string s)/\w'.cell? ⟨bk,o+i*3+1,none⟩=some (.int .i64 b)/\w'.cell? ⟨bk,o+i*3+2,none⟩=some (.slice aw m cw)) V:=fun V hV=>⟨cell_later hV d0,cell_later hV d1,cell_later hV d2⟩
   have hbd:=(Below.refl wr.heap.size wr).drew;have hSS:=mkS _ hbd;have HCT:=z0U b (by omega) (by omega) wr.drew;have y1:¬9223372036854775807<s.size+1:=by omega
   clear d0 d1 d2;refine z0f (fun w':World=>w'.cell? ⟨bk,o+i*3,none⟩=some (.string s)/\w'.cell? ⟨bk,o+i*3+1,none⟩=some (.int .i64 b)/\w'.cell? ⟨bk,o+i*3+2,none⟩=some (.slice aw m cw)) 14 15 (by kernel_rfl) rfl ?_;generalize wr.drew=W1 at *;refine tW 0 hSS ?_;refine tW 1 hSS ?_;refine tW 2 hSS ?_;refine tW 3 hSS ?_;refine tW 6 hSS ?_;refine tW 7 hSS ?_;refine tW 8 hSS ?_;refine tW 9 hSS ?_;refine tR 4 [] hSS ?_;refine tW 5 hSS ?_;refine tR 10 [] hSS ?_;refine oG 11 fun K hK=>?_
   go_wp2_with fail;refine(show Calls _ _ _ _ _ from HCT).mono ?_;rintro e W2 ⟨⟨r1,rfl,hr1⟩,hb2⟩;clear HCT;have q1:r1.size<=20:=by rw[z1W hr1];exact z4J zb
   have hbd2:=hbd.trans (hb2.mono hbd.size);have hSS2:=mkS _ hbd2;clear hSS hb2;go_wp2;refine hK _ _ hSS2 ?_;clear hK;have hSS:=hSS2;clear hSS2;have y2:¬9223372036854775807<s.size+1+r1.size:=by omega
   have y3:¬9223372036854775807<s.size+1+r1.size+1:=by omega
   refine tW 12 hSS ?_;refine tW 13 hSS ?_;clear hSS;refine lG 14 fun K hK=>?_
   go_wp2;refine hK _ _ ?_;clear hK;refine z1c (by kernel_rfl) ?_ _;have HT0:Hid ((s++⟨#[32]⟩++r1++⟨#[58]⟩).data.toList=(s.data.toList++[32]++Lib.itoa b++[58])++z3c Y 0):=by
    have:=part_head (s:=s) hr1;exact this
   have hPL:(s.data.toList++[32]++Lib.itoa b++[58]).length<=150:=by
    have h1:=z4J zb;have h2:s.data.toList.length=s.size:=by simp
    simp only[List.length_append,List.length_singleton];omega
   have c2:=(mkS _ hbd2).2.2;have hrowB:=z0e hrow hbd2;have hbB:=hb.trans (hbd2.mono hb.size);have hrwB:=hrw.later hbd2;clear y1 y2 y3 hr1 q1 hrow hb hrw mkS hbd hbd2;generalize s++⟨#[32]⟩++r1++⟨#[58]⟩=t0 at *;generalize s.data.toList++[32]++Lib.itoa b++[58]=PL at *;obtain⟨wq,rfl⟩:∃V,V=wr:=⟨_,rfl⟩;go_upto_block 2 with fail;go_wp2;go_loopw [5,6] (fun y5 y6 wz=>∃(j:Nat) (t:ByteArray),j<=m/\y6=.int .i64 j/\y5=.string t/\Hid (t.data.toList=PL++z3c Y j)/\Below W2.heap.size W2 wz) (fun _ y6 _=>m-(intOf y6).toNat)
   case atStart=>exact⟨0,t0,Nat.zero_le _,rfl,rfl,HT0,Below.refl _ _⟩
   case round=>
    clear HT0;obtain⟨j,t,hj,rfl,rfl,HT,hbz⟩:=hrel;have hts:t.size<=1000:=by
     rw[z1W HT.out,List.length_append];have:=wordsT_len (X:=Y) (M:=j) fun k hk=>zx k (by omega)
     omega
    have c2z:=cell_later hbz c2;by_cases hlj:j<m
    ·rcases hrwB.later hbz with h|⟨bw,ow,rfl,hcw⟩
     ·omega
     have x0:wr.cell? ⟨bw,ow+j,none⟩=some (.int .i64 (Y j)):=hcw j hlj;have zj:=zx j hlj;have HCT:=z0U (Y j) (by omega) (by omega) wr;have hj0:(0:Int)<=(j:Int):=by omega
     have hj1:(j:Int)<(m:Int):=by omega
     have HPW:=fun(r:ByteArray)=>part_word' (t:=t) (r:=r) (X:=Y) (j:=j) HT.out
     clear hcw HT;generalize hyj:Y j=yj at *;clear hyj;go_wp2_with fail;refine(show Calls _ _ _ _ _ from HCT).mono ?_;rintro e W3 ⟨⟨r1,rfl,hr1⟩,hb3⟩;clear HCT x0;have q1:r1.size<=20:=by rw[z1W hr1];exact z4J zj
     have HN:Hid ((t++⟨#[32]⟩++r1).data.toList=PL++z3c Y (j+1)):=HPW r1 hr1;clear HPW hr1 c2z;go_wp2;go_roundw
     case rel=>exact⟨j+1,_,by omega,by go_num,rfl,HN,hbz.trans (hb3.mono hbz.size)⟩
     case measure=>simp[intOf];omega
    ·obtain rfl:j=m:=by omega
     have hrowC:=z0e hrowB hbz;have hbC:=hbB.trans (hbz.mono hbB.size);obtain⟨v9,W9,happ,hown,hbg,_⟩:=growStrs t (PL++z3c Y j) HT.out hbC.size hrowC (by omega);rw[<-hP]at hown;have hb9:=hbC.trans hbg;obtain⟨a9,c9,rfl,_⟩:=z0c hown;rw[<-HPS.out]at hown;clear hrowC hbC hrowB hbB HT hbg hP HPS;go_wp2_with (at_builtin;refine z0b rfl (.tmp 49) (.tmp 51) 22 rfl _ _ _ rfl rfl happ ?_);go_wp2;go_roundw
     case rel=>exact⟨i+1,by omega,by go_num,hown,hb9⟩
     case measure=>simp[intOf];omega
  ·obtain rfl:i=n:=by omega
   obtain⟨a3,c3,rfl,_⟩:=z0c hrow;have HJ:=joined_any w.heap.size a3 i c3 (z1P nm B X M i) ⟨#[59,32]⟩ wr hrow (by omega) (fun x hx=>by
    obtain⟨j,hj,rfl⟩:=partsT_mem hx;exact partT_len hok hj) (by decide)
   have HE:Hid (z5q (z1P nm B X M i) [59,32]=Lib.join (z1P nm B X M i) [59,32]):=by
    show z5q (z1P nm B X M i) [59,32]=_;unfold z5q;rw[if_neg];intro e;have:=z6b nm B X M i;rw[e]at this;simp at this;omega
   clear hrow hc hok;go_wp2_with fail;refine(show Calls _ _ _ _ _ from HJ).mono ?_;rintro e W2 ⟨⟨t,rfl,ht⟩,hw2⟩;subst hw2;clear HJ;go_wp2;go_ret;exact⟨⟨_,rfl,ht.trans HE.out⟩,hb⟩
end
section
open Go.RowKit Go.Maps
theorem seqF_le{a b N:Nat}(h:a<=N)(h':b<=N):seqF a b<=N:=by unfold seqF;split <;> assumption
theorem z5H {g:Nat->Nat}{N:Nat}(h:∀i,g i<=N):∀k,z0a g k<=N
 |0=>Nat.zero_le _
 |k+1=>seqF_le (z5H h k) (h k)
theorem nameF_le(l:List UInt8):z0r l<=10:=by unfold z0r;split;decide;split <;> decide
theorem parseF_le(s:ByteArray):(z0k s).1<=10:=by unfold z0k;split;exact(by decide:2<=10);split;exact(by decide:0<=10);exact(by decide:4<=10)
theorem rdD_le(D:DataW Unit)(T:ByteArray->ByteArray)(s:ByteArray):(rdD D T s).1<=10:=by
 unfold rdD;split
 ·exact parseF_le _
 ·exact(by decide:5<=10)
theorem writeF_le(D:DataW Unit)(k:Nat)(s t:ByteArray):writeF D k s t<=10:=by
 unfold writeF;refine seqF_le (nameF_le _) ?_;split
 ·decide
 ·split <;> decide
theorem dropE_le(E:Nat->EntF)(k:Nat)(n:ByteArray):(z2F E k n).1<=10:=by
 unfold z2F;split
 ·exact(by decide:5<=10)
 ·exact(by decide:0<=10)
theorem entF_le(e:EntF):entF e<=10:=by
 unfold entF;refine seqF_le (nameF_le _) (seqF_le (by split <;> decide) (seqF_le (z5H (fun i=>?_) _) (z5H (fun i=>?_) _)))
 ·unfold z0P;refine seqF_le (nameF_le _) ?_;split
  ·decide
  ·split <;> decide
 ·unfold z1d;split <;> decide
theorem putE_le(E:Nat->EntF)(k:Nat)(e:EntF):(putE E k e).1<=10:=by
 unfold putE;split
 ·exact entF_le e
 ·split
  ·exact(by decide:0<=10)
  ·split
   ·exact(by decide:2<=10)
   ·exact(by decide:0<=10)
theorem placeF_le(ns:Nat)(sz:Nat->Int)(nt:Nat)(tf tm:Nat->Int):z1S ns sz nt tf tm<=10:=by
 unfold z1S;split
 ·decide
 ·split
  ·decide
  ·split <;> decide
theorem allF_le(n:Nat)(O:Nat->ObjF)(P Q:ByteArray->Int)(nb:Nat)(B:Nat->Int):allF n O P Q nb B<=10:=by
 unfold allF;split
 ·decide
 ·split
  ·decide
  ·exact z5H (fun i=>z5H (fun k=>by
    unfold tieW;rcases hangF_le ((O i).tKind k) (B i) ((O i).tAt k) ((O i).tAdd k) (whereF O P Q B i k)with h|h|h <;> rw[h] <;> decide) _) _
theorem reckIs_le{D:DataW Unit}{T:ByteArray->ByteArray}{root:ByteArray}{F:Nat}(h:ReckIs (rdD D T) root F):F<=10:=by
 cases h with
 |of i h hf=>
  cases h with
  |bad=>exact rdD_le _ _ _
  |ok=>decide
 |bases m B h hb hf=>
  cases hb with
  |bad=>exact placeF_le _ _ _ _ _
  |full=>decide
  |ok=>decide
 |all m B P Q h hb hz hP he hf=>rw[<-he];exact allF_le _ _ _ _ _ _
theorem rBuilt_le{E:Nat->EntF}{k:Nat}{D:DataW Unit}{T:ByteArray->ByteArray}{S:ByteArray->Int}{root:ByteArray}{F:Nat}{r:(Nat->EntF)×Nat}(h:RBuilt E k (rdD D T) S root F r):F<=10:=by
 cases h with
 |bad F h hf=>exact reckIs_le h
 |put m Bs P Q h=>exact putE_le _ _ _
theorem dec_more{n d:Nat}(hd:d<10)(hn:0<n):Lib.decDigits (10*n+d)=Lib.decDigits n++[UInt8.ofNat (48+d)]:=by
 rw[Lib.decDigits,dif_neg (by omega),show(10*n+d) / 10=n by omega,show(10*n+d) % 10=d by omega]
theorem dig_of{x:UInt8}(h:z2n x=true):∃d:Fin 10,x=UInt8.ofNat (48+d.val)/\x.toNat-48=d.val:=by
 simp only[z2n,Bool.and_eq_true,decide_eq_true_eq]at h;refine⟨⟨x.toNat-48,by omega⟩,?_,rfl⟩;show x=UInt8.ofNat (48+(x.toNat-48));rw[show 48+(x.toNat-48)=x.toNat by omega];simp
theorem ofNat_zero(d:Fin 10):UInt8.ofNat (48+d.val)=48 ↔ d.val=0:=by
 revert d;decide
theorem val_itoa{l:List UInt8}(hd:l.all z2n=true)(h1:1<=l.length)(hz:¬(l.head? = some 48/\1<l.length))(h3:l.length<=3):l=Lib.decDigits (val l)/\val l<=999:=by
 match l,h1,h3,hd,hz with
 | [x],_,_,hd,hz=>
  have hx:z2n x=true:=by simpa using hd
  obtain⟨d,e,ev⟩:=dig_of hx;have hv:val [x]=d.val:=by simp[val,ev]
  have hd10:=d.isLt;rw[hv];exact⟨by rw[Lib.decDigits_one hd10,e],by omega⟩
 | [x,y],_,_,hd,hz=>
  have hx:z2n x=true/\z2n y=true:=by simpa using hd
  obtain⟨d,e,ev⟩:=dig_of hx.1;obtain⟨d',e',ev'⟩:=dig_of hx.2;have hv:val [x,y]=10*d.val+d'.val:=by simp[val,ev,ev']
  have hne:d.val≠0:=fun h0=>hz ⟨by rw[e,(ofNat_zero d).2 h0];rfl,by simp⟩
  have hd10:=d.isLt;have hd11:=d'.isLt;rw[hv];exact⟨by rw[dec_more hd11 (by omega),Lib.decDigits_one hd10,e,e'];rfl,by omega⟩
 | [x,y,z],_,_,hd,hz=>
  have hx:z2n x=true/\z2n y=true/\z2n z=true:=by simpa using hd
  obtain⟨d,e,ev⟩:=dig_of hx.1;obtain⟨d',e',ev'⟩:=dig_of hx.2.1;obtain⟨d2,e2,ev2⟩:=dig_of hx.2.2;have hv:val [x,y,z]=10*(10*d.val+d'.val)+d2.val:=by simp[val,ev,ev',ev2]
  have hne:d.val≠0:=fun h0=>hz ⟨by rw[e,(ofNat_zero d).2 h0];rfl,by simp⟩
  have hd10:=d.isLt;have hd11:=d'.isLt;have hd12:=d2.isLt;rw[hv];exact⟨by rw[dec_more hd12 (by omega),dec_more hd11 (by omega),Lib.decDigits_one hd10,e,e',e2];rfl,by omega⟩
theorem val_ge{l:List UInt8}(hz:∃x r,l=x :: r/\z2n x=true/\x≠48)(h4:4<=l.length)(hd:l.all z2n=true):1000<=val l:=by
 have key:∀(r:List UInt8) (a:Nat),a*10 ^ r.length<=r.foldl (fun n b=>10*n+(b.toNat-48)) a:=fun r=>by
  induction r with
  |nil=>intro a;simp
  |cons b r ih=>
   intro a;rw[List.foldl_cons,List.length_cons,Nat.pow_succ];refine Nat.le_trans ?_ (ih (10*a+(b.toNat-48)));have:a*(10 ^ r.length*10)=(10*a)*10 ^ r.length:=by rw[Nat.mul_comm (10 ^ r.length) 10,<-Nat.mul_assoc,Nat.mul_comm a 10]
   rw[this];exact Nat.mul_le_mul_right _ (by omega)
 obtain⟨x,r,rfl,hx,hne⟩:=hz;have h1:1<=x.toNat-48:=by
  simp only[z2n,Bool.and_eq_true,decide_eq_true_eq]at hx;have:x.toNat≠48:=fun e=>hne (UInt8.toNat_inj.1 (e.trans rfl))
  omega
 have h2:=key r (x.toNat-48);have h3:10 ^ 3<=10 ^ r.length:=Nat.pow_le_pow_right (by omega) (by simp at h4;omega);have h5:10 ^ r.length<=(x.toNat-48)*10 ^ r.length:=Nat.le_mul_of_pos_left _ (by omega);unfold val;rw[List.foldl_cons];have e:10*0+(x.toNat-48)=x.toNat-48:=by omega
 rw[e];have:(10:Nat) ^ 3=1000:=by decide
 omega
theorem numK_iff(l:List UInt8):numK l=true ↔ ∃n:Nat,n<=999/\l=Lib.itoa (n:Int):=by
 constructor
 ·intro h;unfold numK at h;cases hr:z1I l with
  |none=>rw[hr]at h;cases h
  |some m=>
   rw[hr]at h;simp only[Bool.and_eq_true,decide_eq_true_eq]at h;unfold z1I at hr;split at hr
   ·cases hr
   ·rename_i hc;split at hr
    ·rename_i hd;injection hr with hr;by_cases hneg:(magR l).length<l.length
     ·rw[if_pos hneg]at hr;exfalso;have hv0:val (magR l)=0:=by omega
      have hne:magR l ≠ []:=fun e=>hc (.inl (by rw[e];decide))
      obtain⟨x,r,er⟩:=List.exists_cons_of_ne_nil hne;have hx:z2n x=true:=by rw[er]at hd;simp at hd;exact hd.1
      by_cases hx0:x=48
      ·have h1:1<=(magR l).length:=by rw[er];simp
       exact hc (.inr (.inr ⟨by rw[er,hx0];rfl,by omega⟩))
      ·have h1:1<=x.toNat-48:=by
        simp only[z2n,Bool.and_eq_true,decide_eq_true_eq]at hx;have:x.toNat≠48:=fun e=>hx0 (UInt8.toNat_inj.1 (e.trans rfl))
        omega
       by_cases h4:4<=(magR l).length
       ·have:=val_ge ⟨x,r,er,hx,hx0⟩ h4 hd;omega
       ·obtain⟨e1,e2⟩:=val_itoa hd (by rw[er];simp) (fun h=>hx0 (by rw[er]at h;simpa using h.1)) (by omega);rw[hv0]at e1;have:magR l=[48]:=by rw[e1,Lib.decDigits_one (by decide)];rfl
        rw[this]at er;injection er with er _;exact hx0 er.symm
     ·rw[if_neg hneg]at hr;have hm:magR l=l:=by
       unfold magR at hneg ⊢;split
       ·rename_i hh;rw[if_pos hh]at hneg;exfalso;cases l with
        |nil=>cases hh
        |cons x r=>simp at hneg
       ·rfl
      rw[hm]at hr hc hd;have hne:l ≠ []:=fun e=>hc (.inl (by rw[e];decide))
      obtain⟨x,r,er⟩:=List.exists_cons_of_ne_nil hne;have hx:z2n x=true:=by rw[er]at hd;simp at hd;exact hd.1
      have h3:l.length<=3:=by
       by_cases h4:4<=l.length
       ·exfalso;have hx0:x≠48:=fun e=>hc (.inr (.inr ⟨by rw[er,e];rfl,by omega⟩))
        have:=val_ge ⟨x,r,er,hx,hx0⟩ h4 hd;omega
       ·omega
      obtain⟨e1,e2⟩:=val_itoa hd (by rw[er];simp) (fun h=>hc (.inr (.inr h))) h3;refine⟨val l,e2,?_⟩;rw[Lib.itoa_nonneg];exact e1
    ·cases hr
 ·rintro⟨n,hn,rfl⟩;unfold numK;rw[refNum_itoa (n:Int) (by omega) (by omega)];simp only[Bool.and_eq_true,decide_eq_true_eq];omega
theorem itoa_threeK{n:Int}(h0:0<=n)(hl:(Lib.itoa n).length<=3):n<=999:=by
 obtain⟨u,rfl⟩:∃u:Nat,n=u:=⟨n.toNat,by omega⟩;rw[Lib.itoa_nonneg,Lib.decDigits_length]at hl;by_cases h:u<1000
 ·omega
 ·exfalso;have k:∀u:Nat,10<=u->Lib.nDigits u=Lib.nDigits (u / 10)+1:=fun u hu=>by rw[Lib.nDigits,dif_neg (by omega)]
  have p:∀u:Nat,1<=Lib.nDigits u:=fun u=>by rw[Lib.nDigits];split <;> omega
  rw[k u (by omega),k (u / 10) (by omega),k (u / 10 / 10) (by omega)]at hl;have:=p (u / 10 / 10 / 10);omega
end
end Go.Proofs.YtbcpcbonlhlhpaaGreatDoor
