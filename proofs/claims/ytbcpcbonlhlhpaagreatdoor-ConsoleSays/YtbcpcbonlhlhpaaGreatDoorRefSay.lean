/- What EntryText of the document returns, of every entry that -/
import Derived.Test.YtbcpcbonlhlhpaaGreatDoorRefDrop
set_option maxRecDepth 100000
set_option maxHeartbeats 16000000
namespace Go.Proofs.YtbcpcbonlhlhpaaGreatDoor
section
open Go.RowKit
theorem z6A (ws:List (List UInt8))(x:List UInt8)(h:ws ≠ []):Lib.join (ws++[x]) [32]=Lib.join ws [32]++([32]++x):=by
 cases ws with
 |nil=>exact absurd rfl h
 |cons a r=>
  rw[List.cons_append,Lib.join_cons,Lib.join_cons];simp[Lib.joinTail]
theorem join_three(ws:List (List UInt8))(x y z:List UInt8)(h:ws ≠ []):Lib.join (ws++[x,y,z]) [32]=Lib.join ws [32]++[32]++x++[32]++y++[32]++z:=by
 rw[show ws++[x,y,z]=((ws++[x])++[y])++[z] by simp,z6A _ _ (by simp),z6A _ _ (by simp),z6A _ _ h];simp
theorem head_text(e:EntF)(r s:ByteArray)(hr:r.data.toList=Lib.itoa (e.nP:Int))(hs:s.data.toList=Lib.itoa (e.nQ:Int)):(e.root++⟨#[32]⟩++r++⟨#[32]⟩++s).data.toList=Lib.join (z2c e++catW (z2s e) 0) [32]:=by
 show _=Lib.join ([e.root.data.toList,Lib.itoa e.nP,Lib.itoa e.nQ]++[]) [32];rw[List.append_nil,<-hr,<-hs,show [e.root.data.toList,r.data.toList,s.data.toList]=([e.root.data.toList]++[r.data.toList])++[s.data.toList] by simp,z6A _ _ (by simp),z6A _ _ (by simp),Lib.join_one];simp
theorem part_text(e:EntF)(i:Nat)(t r s:ByteArray)(h:t.data.toList=Lib.join (z2c e++catW (z2s e) i) [32])(hr:r.data.toList=Lib.itoa (e.pStamp i))(hs:s.data.toList=Lib.itoa (e.pBase i)):(t++⟨#[32]⟩++e.pName i++⟨#[32]⟩++r++⟨#[32]⟩++s).data.toList=Lib.join (z2c e++catW (z2s e) (i+1)) [32]:=by
 show _=Lib.join (z2c e++(catW (z2s e) i++[(e.pName i).data.toList,Lib.itoa (e.pStamp i),Lib.itoa (e.pBase i)])) [32];rw[<-List.append_assoc,join_three _ _ _ _ (by simp[z2c]),<-h,<-hr,<-hs];simp
theorem pat_text(e:EntF)(i:Nat)(t r s u:ByteArray)(h:t.data.toList=Lib.join (z2c e++catW (z2s e) e.nP++catW (patW e) i) [32])(hr:r.data.toList=Lib.itoa (e.qPart i))(hs:s.data.toList=Lib.itoa (e.qAt i))(hu:u.data.toList=Lib.itoa (e.qWord i)):(t++⟨#[32]⟩++r++⟨#[32]⟩++s++⟨#[32]⟩++u).data.toList=Lib.join (z2c e++catW (z2s e) e.nP++catW (patW e) (i+1)) [32]:=by
 show _=Lib.join (z2c e++catW (z2s e) e.nP++(catW (patW e) i++[Lib.itoa (e.qPart i),Lib.itoa (e.qAt i),Lib.itoa (e.qWord i)])) [32];rw[<-List.append_assoc,join_three _ _ _ _ (by simp[z2c]),<-h,<-hr,<-hs,<-hu];simp
theorem catW_sub{g:Nat->List (List UInt8)}{x:List UInt8}{i n:Nat}(hi:i<=n)(h:x∈catW g i):x∈catW g n:=by
 induction n with
 |zero=>obtain rfl:i=0:=by omega
        exact h
 |succ n ih=>
  by_cases e:i=n+1
  ·subst e;exact h
  ·exact List.mem_append_left _ (ih (by omega))
theorem text_small{e:EntF}(h:z7q e){i j:Nat}(hi:i<=e.nP)(hj:j<=e.nQ){t:ByteArray}(ht:t.data.toList=Lib.join (z2c e++catW (z2s e) i++catW (patW e) j) [32]):t.size<=3000:=by
 have hs:=z3X h;have h1:=h.nP;have h2:=h.nQ;have hl:=(z3P (z2c e++catW (z2s e) i++catW (patW e) j) (fun x hx=>hs x (by
  unfold entW;rcases List.mem_append.1 hx with hx|hx
  ·rcases List.mem_append.1 hx with hx|hx
   ·exact List.mem_append_left _ (List.mem_append_left _ hx)
   ·exact List.mem_append_left _ (List.mem_append_right _ (catW_sub hi hx))
  ·exact List.mem_append_right _ (catW_sub hj hx)))).1
 have hn:(z2c e++catW (z2s e) i++catW (patW e) j).length=3+3*i+3*j:=by
  rw[List.length_append,List.length_append,z3E (fun _=>rfl),z3E (fun _=>rfl)];rfl
 rw[hn]at hl;rw[z2l ht];omega
theorem z7i (v:EntV)(en:EntF)(w:World)(h:z5k w v en)(h0:entF en=0) :
 Calls Tryz.prog 27 #[.agg (z1r v en)] w fun e w'=>(∃t:ByteArray,e=.returned (.string t)/\t.data.toList=z0D en)/\Below w.heap.size w w':=by
 have hok:=z5t h0;have hsh:=z3X hok;obtain⟨aP,cP,aQ,cQ⟩:=v;have hb0:Below w.heap.size w (w.alloc (.cells #[.string en.root,.slice aP en.nP cP,.slice aQ en.nQ cQ] 71)):=(Below.refl _ _).alloc (Nat.le_refl _) _;have e0:(w.alloc (.cells #[.string en.root,.slice aP en.nP cP,.slice aQ en.nQ cQ] 71)).cell? ⟨w.heap.size,0,none⟩=some (.string en.root):=by simp[go_sem]
 have e1:(w.alloc (.cells #[.string en.root,.slice aP en.nP cP,.slice aQ en.nQ cQ] 71)).cell? ⟨w.heap.size,1,none⟩=some (.slice aP en.nP cP):=by simp[go_sem]
 have e2:(w.alloc (.cells #[.string en.root,.slice aP en.nP cP,.slice aQ en.nQ cQ] 71)).cell? ⟨w.heap.size,2,none⟩=some (.slice aQ en.nQ cQ):=by simp[go_sem]
 have hp:RowE (w.alloc (.cells #[.string en.root,.slice aP en.nP cP,.slice aQ en.nQ cQ] 71)) aP en.nP en.pName en.pStamp en.pBase:=h.parts.later hb0;have hq:z6m (w.alloc (.cells #[.string en.root,.slice aP en.nP cP,.slice aQ en.nQ cQ] 71)) aQ en.nQ en.qPart en.qAt en.qWord:=h.pats.later hb0;have n1:=hok.nP;have n2:=hok.nQ;have HSM:Hid (∀(i j:Nat) (t:ByteArray),i<=en.nP->j<=en.nQ->t.data.toList=Lib.join (z2c en++catW (z2s en) i++catW (patW en) j) [32]->t.size<=3000):=fun i j t hi hj ht=>text_small hok hi hj ht
 have HNM:Hid (∀i,i<en.nP->(en.pName i).size<=20):=fun i hi=>by
  have:=hsh (en.pName i).data.toList (List.mem_of_getElem? (z7y en (j:=0) hi (by decide)));simpa using this
 have HRT:Hid (en.root.size<=20):=by
  have:=hsh en.root.data.toList (List.mem_of_getElem? (entW_head en (j:=0) (by decide)));show en.root.size<=20;simpa using this
 have HW:Hid (∀i,i<en.nQ -> -9223372036854775807<=en.qWord i/\en.qWord i<=9223372036854775807 /\ -9223372036854775807<=en.qPart i/\en.qPart i<=9223372036854775807 /\ -9223372036854775807<=en.qAt i/\en.qAt i<=9223372036854775807):=fun i hi=>by
  have:=hok.pats i hi;omega
 have HST:Hid (∀i,i<en.nP -> -9223372036854775807<=en.pStamp i/\en.pStamp i<=9223372036854775807 /\ -9223372036854775807<=en.pBase i/\en.pBase i<=9223372036854775807):=fun i hi=>by
  have:=hok.parts i hi;omega
 clear h hsh hok h0;go_enter Tryz.func27,Tryz.ntmps27;unfold z1r;go_upto_region 1 with fail;generalize w.alloc (.cells #[.string en.root,.slice aP en.nP cP,.slice aQ en.nQ cQ] 71)=W at *;generalize hbw:w.heap.size=bw at *;have HBW:Hid (w.heap.size=bw):=hbw;clear hbw;have mkS:∀X:World,Below W.heap.size W X->(fun w':World=>w'.cell? ⟨bw,0,none⟩=some (.string en.root)/\w'.cell? ⟨bw,1,none⟩=some (.slice aP en.nP cP)/\w'.cell? ⟨bw,2,none⟩=some (.slice aQ en.nQ cQ)) X:=fun X hX=>⟨cell_later hX e0,cell_later hX e1,cell_later hX e2⟩
 have hbd:=(Below.refl W.heap.size W).drew;have hSS:=mkS _ hbd;refine z0f (fun w':World=>w'.cell? ⟨bw,0,none⟩=some (.string en.root)/\w'.cell? ⟨bw,1,none⟩=some (.slice aP en.nP cP)/\w'.cell? ⟨bw,2,none⟩=some (.slice aQ en.nQ cQ)) 14 15 (by kernel_rfl) rfl ?_;generalize W.drew=X1 at *;have zr:=HRT.out;have y1:¬9223372036854775807<en.root.size+1:=by omega
 refine tW 0 hSS ?_;refine tW 3 hSS ?_;refine tW 9 hSS ?_;refine tR 1 [] hSS ?_;refine tW 2 hSS ?_;refine tR 4 [] hSS ?_;refine tW 5 hSS ?_;refine tR 10 [] hSS ?_;refine tW 11 hSS ?_;refine oG 6 fun K hK=>?_
 go_wp2_with fail;refine(show Calls _ _ _ _ _ from z0U (en.nP:Int) (by omega) (by omega) X1).mono ?_;rintro e X2 ⟨⟨r1,rfl,hr1⟩,hb2⟩;have z1:r1.size<=20:=by rw[z2l hr1];exact z1v _ (by omega) (by omega)
 have hbd2:=hbd.trans (hb2.mono hbd.size);have hSS2:=mkS _ hbd2;clear hSS hb2;go_wp2;refine hK _ _ hSS2 ?_;clear hK;have hSS:=hSS2;clear hSS2;have y2:¬9223372036854775807<en.root.size+1+r1.size:=by omega
 have y3:¬9223372036854775807<en.root.size+1+r1.size+1:=by omega
 refine tW 7 hSS ?_;refine tW 8 hSS ?_;refine oG 12 fun K hK=>?_
 go_wp2_with fail;refine(show Calls _ _ _ _ _ from z0U (en.nQ:Int) (by omega) (by omega) X2).mono ?_;rintro e X3 ⟨⟨r2,rfl,hr2⟩,hb3⟩;have z2:r2.size<=20:=by rw[z2l hr2];exact z1v _ (by omega) (by omega)
 have hbd3:=hbd2.trans (hb3.mono hbd2.size);have hSS3:=mkS _ hbd3;clear hSS hb3;go_wp2;refine hK _ _ hSS3 ?_;clear hK;have hSS:=hSS3;clear hSS3;have y4:¬9223372036854775807<en.root.size+1+r1.size+1+r2.size:=by omega
 refine tW 13 hSS ?_;clear hSS;refine lG 14 fun K hK=>?_
 go_wp2;refine hK _ _ ?_;clear hK;refine z1c (by kernel_rfl) ?_ _;have HT0:Hid ((en.root++⟨#[32]⟩++r1++⟨#[32]⟩++r2).data.toList=Lib.join (z2c en++catW (z2s en) 0) [32]):=head_text en r1 r2 hr1 hr2;clear hr1 hr2 y1 y2 y3 y4 zr z1 z2 mkS hbd hbd2;generalize en.root++⟨#[32]⟩++r1++⟨#[32]⟩++r2=t0 at *;go_wp2;go_loopw [3,4] (fun y3 y4 wr=>∃(i:Nat) (t:ByteArray),i<=en.nP/\y4=.int .i64 i/\y3=.string t/\Hid (t.data.toList=Lib.join (z2c en++catW (z2s en) i) [32])/\Below W.heap.size W wr) (fun _ y4 _=>en.nP-(intOf y4).toNat)
 case atStart=>exact⟨0,t0,Nat.zero_le _,rfl,rfl,HT0,hbd3⟩
 case round=>
  clear HT0 hbd3;obtain⟨i,t,hi,rfl,rfl,HT,hb⟩:=hrel;have f1:=cell_later hb e1;by_cases hlt:i<en.nP
  ·rcases hp.later hb with h0|⟨bk,o,rfl,hc⟩
   ·omega
   obtain⟨x0,x1,x2⟩:=hc i hlt;have hi0:(0:Int)<=(i:Int):=by omega
   have hi1:(i:Int)<(en.nP:Int):=by omega
   have zt:=HSM.out i 0 t hi (Nat.zero_le _) (by show t.data.toList=Lib.join (z2c en++catW (z2s en) i++[]) [32];rw[List.append_nil];exact HT.out);have zn:=HNM.out i hlt;obtain⟨g1,g2,g3,g4⟩:=HST.out i hlt;have HPT:=fun(r s:ByteArray)=>part_text en i t r s HT.out
   clear hc hp;go_upto_region 5 with fail;have mkS:∀X:World,Below wr.heap.size wr X->(fun w':World=>w'.cell? ⟨bw,1,none⟩=some (.slice (some ⟨bk,o,none⟩) en.nP cP)/\w'.cell? ⟨bk,o+i*3,none⟩=some (.string (en.pName i))/\w'.cell? ⟨bk,o+i*3+1,none⟩=some (.int .i64 (en.pStamp i))/\w'.cell? ⟨bk,o+i*3+2,none⟩=some (.int .i64 (en.pBase i))) X:=fun X hX=>⟨cell_later hX f1,cell_later hX x0,cell_later hX x1,cell_later hX x2⟩
   have hbd:=(Below.refl wr.heap.size wr).drew;have hSS:=mkS _ hbd;refine z0f (fun w':World=>w'.cell? ⟨bw,1,none⟩=some (.slice (some ⟨bk,o,none⟩) en.nP cP)/\w'.cell? ⟨bk,o+i*3,none⟩=some (.string (en.pName i))/\w'.cell? ⟨bk,o+i*3+1,none⟩=some (.int .i64 (en.pStamp i))/\w'.cell? ⟨bk,o+i*3+2,none⟩=some (.int .i64 (en.pBase i))) 27 28 (by kernel_rfl) rfl ?_;generalize wr.drew=X1 at *;generalize hnm:en.pName i=nm at *;generalize hst:en.pStamp i=st at *;generalize hbs:en.pBase i=bs at *;clear hnm hst hbs f1 x0 x1 x2 HT;have y1:¬9223372036854775807<t.size+1:=by omega
   have y2:¬9223372036854775807<t.size+1+nm.size:=by omega
   have y3:¬9223372036854775807<t.size+1+nm.size+1:=by omega
   refine tW 0 hSS ?_;refine tW 1 hSS ?_;refine tW 2 hSS ?_;refine tW 4 hSS ?_;refine tW 10 hSS ?_;refine tW 12 hSS ?_;refine tW 19 hSS ?_;refine tW 21 hSS ?_;refine tR 3 [] hSS ?_;refine tW 5 hSS ?_;refine tW 6 hSS ?_;refine tR 7 [] hSS ?_;refine tW 8 hSS ?_;refine tW 9 hSS ?_;refine tR 11 [] hSS ?_;refine tW 13 hSS ?_;refine tW 14 hSS ?_;refine tR 15 [] hSS ?_;refine tR 20 [] hSS ?_;refine tW 22 hSS ?_;refine tW 23 hSS ?_;refine tR 24 [] hSS ?_;refine oG 16 fun K hK=>?_
   go_wp2_with fail;refine(show Calls _ _ _ _ _ from z0U st (by omega) (by omega) X1).mono ?_;rintro e X2 ⟨⟨r1,rfl,hr1⟩,hb2⟩;have z1:r1.size<=20:=by rw[z2l hr1];exact z1v _ (by omega) (by omega)
   have hbd2:=hbd.trans (hb2.mono hbd.size);have hSS2:=mkS _ hbd2;clear hSS hb2;go_wp2;refine hK _ _ hSS2 ?_;clear hK;have hSS:=hSS2;clear hSS2;have y4:¬9223372036854775807<t.size+1+nm.size+1+r1.size:=by omega
   have y5:¬9223372036854775807<t.size+1+nm.size+1+r1.size+1:=by omega
   refine tW 17 hSS ?_;refine tW 18 hSS ?_;refine oG 25 fun K hK=>?_
   go_wp2_with fail;refine(show Calls _ _ _ _ _ from z0U bs (by omega) (by omega) X2).mono ?_;rintro e X3 ⟨⟨r2,rfl,hr2⟩,hb3⟩;have z2:r2.size<=20:=by rw[z2l hr2];exact z1v _ (by omega) (by omega)
   have hbd3:=hbd2.trans (hb3.mono hbd2.size);have hSS3:=mkS _ hbd3;clear hSS hb3;go_wp2;refine hK _ _ hSS3 ?_;clear hK;have hSS:=hSS3;clear hSS3;have y6:¬9223372036854775807<t.size+1+nm.size+1+r1.size+1+r2.size:=by omega
   refine tW 26 hSS ?_;clear hSS;refine lG 27 fun K hK=>?_
   go_wp2;refine hK _ _ ?_;clear hK;refine z1c (by kernel_rfl) ?_ _;have HT1:Hid ((t++⟨#[32]⟩++nm++⟨#[32]⟩++r1++⟨#[32]⟩++r2).data.toList=Lib.join (z2c en++catW (z2s en) (i+1)) [32]):=HPT r1 r2 hr1 hr2;have hbe:=hb.trans (hbd3.mono hb.size);clear hr1 hr2 y1 y2 y3 y4 y5 y6 z1 z2 mkS hbd hbd2 hbd3 HPT;go_wp2;go_roundw
   case rel=>exact⟨i+1,_,by omega,by go_num,rfl,HT1,hbe⟩
   case measure=>simp[intOf];omega
  ·obtain rfl:i=en.nP:=by omega
   have HT2:Hid (t.data.toList=Lib.join (z2c en++catW (z2s en) en.nP++catW (patW en) 0) [32]):=by
    show t.data.toList=Lib.join (z2c en++catW (z2s en) en.nP++[]) [32];rw[List.append_nil];exact HT.out
   clear HT hp;go_wp2;go_loopw [3,5] (fun y3 y5 wx=>∃(j:Nat) (t:ByteArray),j<=en.nQ/\y5=.int .i64 j/\y3=.string t/\Hid (t.data.toList=Lib.join (z2c en++catW (z2s en) en.nP++catW (patW en) j) [32])/\Below W.heap.size W wx) (fun _ y5 _=>en.nQ-(intOf y5).toNat)
   case atStart=>exact⟨0,t,Nat.zero_le _,rfl,rfl,HT2,hb⟩
   case round=>
    clear HT2 hb f1;obtain⟨j,t,hj,rfl,rfl,HT,hb⟩:=hrel;have f2:=cell_later hb e2;by_cases hlt:j<en.nQ
    ·rcases hq.later hb with h0|⟨bk,o,rfl,hc⟩
     ·omega
     obtain⟨x0,x1,x2⟩:=hc j hlt;have hj0:(0:Int)<=(j:Int):=by omega
     have hj1:(j:Int)<(en.nQ:Int):=by omega
     have zt:=HSM.out en.nP j t (Nat.le_refl _) hj HT.out;obtain⟨g1,g2,g3,g4,g5,g6⟩:=HW.out j hlt;have HPT:=fun(r s u:ByteArray)=>pat_text en j t r s u HT.out
     clear hc hq;go_upto_region 9 with fail;have mkS:∀X:World,Below wr.heap.size wr X->(fun w':World=>w'.cell? ⟨bw,2,none⟩=some (.slice (some ⟨bk,o,none⟩) en.nQ cQ)/\w'.cell? ⟨bk,o+j*3,none⟩=some (.int .i64 (en.qPart j))/\w'.cell? ⟨bk,o+j*3+1,none⟩=some (.int .i64 (en.qAt j))/\w'.cell? ⟨bk,o+j*3+2,none⟩=some (.int .i64 (en.qWord j))) X:=fun X hX=>⟨cell_later hX f2,cell_later hX x0,cell_later hX x1,cell_later hX x2⟩
     have hbd:=(Below.refl wr.heap.size wr).drew;have hSS:=mkS _ hbd;refine z0f (fun w':World=>w'.cell? ⟨bw,2,none⟩=some (.slice (some ⟨bk,o,none⟩) en.nQ cQ)/\w'.cell? ⟨bk,o+j*3,none⟩=some (.int .i64 (en.qPart j))/\w'.cell? ⟨bk,o+j*3+1,none⟩=some (.int .i64 (en.qAt j))/\w'.cell? ⟨bk,o+j*3+2,none⟩=some (.int .i64 (en.qWord j))) 28 29 (by kernel_rfl) rfl ?_;generalize wr.drew=X1 at *;generalize hnm:en.qPart j=qa at *;generalize hst:en.qAt j=qb at *;generalize hbs:en.qWord j=qc at *;clear hnm hst hbs f2 x0 x1 x2 HT;have y1:¬9223372036854775807<t.size+1:=by omega
     refine tW 0 hSS ?_;refine tW 1 hSS ?_;refine tW 2 hSS ?_;refine tW 4 hSS ?_;refine tW 11 hSS ?_;refine tW 13 hSS ?_;refine tW 20 hSS ?_;refine tW 22 hSS ?_;refine tR 3 [] hSS ?_;refine tW 5 hSS ?_;refine tW 6 hSS ?_;refine tR 7 [] hSS ?_;refine tR 12 [] hSS ?_;refine tW 14 hSS ?_;refine tW 15 hSS ?_;refine tR 16 [] hSS ?_;refine tR 21 [] hSS ?_;refine tW 23 hSS ?_;refine tW 24 hSS ?_;refine tR 25 [] hSS ?_;refine oG 8 fun K hK=>?_
     go_wp2_with fail;refine(show Calls _ _ _ _ _ from z0U qa (by omega) (by omega) X1).mono ?_;rintro e X2 ⟨⟨r1,rfl,hr1⟩,hb2⟩;have z1:r1.size<=20:=by rw[z2l hr1];exact z1v _ (by omega) (by omega)
     have hbd2:=hbd.trans (hb2.mono hbd.size);have hSS2:=mkS _ hbd2;clear hSS hb2;go_wp2;refine hK _ _ hSS2 ?_;clear hK;have hSS:=hSS2;clear hSS2;have y4:¬9223372036854775807<t.size+1+r1.size:=by omega
     have y5:¬9223372036854775807<t.size+1+r1.size+1:=by omega
     refine tW 9 hSS ?_;refine tW 10 hSS ?_;refine oG 17 fun K hK=>?_
     go_wp2_with fail;refine(show Calls _ _ _ _ _ from z0U qb (by omega) (by omega) X2).mono ?_;rintro e X3 ⟨⟨r2,rfl,hr2⟩,hb3⟩;have z2:r2.size<=20:=by rw[z2l hr2];exact z1v _ (by omega) (by omega)
     have hbd3:=hbd2.trans (hb3.mono hbd2.size);have hSS3:=mkS _ hbd3;clear hSS hb3;go_wp2;refine hK _ _ hSS3 ?_;clear hK;have hSS:=hSS3;clear hSS3;have y6:¬9223372036854775807<t.size+1+r1.size+1+r2.size:=by omega
     have y7:¬9223372036854775807<t.size+1+r1.size+1+r2.size+1:=by omega
     refine tW 18 hSS ?_;refine tW 19 hSS ?_;refine oG 26 fun K hK=>?_
     go_wp2_with fail;refine(show Calls _ _ _ _ _ from z0U qc (by omega) (by omega) X3).mono ?_;rintro e X4 ⟨⟨r3,rfl,hr3⟩,hb4⟩;have z3:r3.size<=20:=by rw[z2l hr3];exact z1v _ (by omega) (by omega)
     have hbd4:=hbd3.trans (hb4.mono hbd3.size);have hSS4:=mkS _ hbd4;clear hSS hb4;go_wp2;refine hK _ _ hSS4 ?_;clear hK;have hSS:=hSS4;clear hSS4;have y8:¬9223372036854775807<t.size+1+r1.size+1+r2.size+1+r3.size:=by omega
     refine tW 27 hSS ?_;clear hSS;refine lG 28 fun K hK=>?_
     go_wp2;refine hK _ _ ?_;clear hK;refine z1c (by kernel_rfl) ?_ _;have HT1:Hid ((t++⟨#[32]⟩++r1++⟨#[32]⟩++r2++⟨#[32]⟩++r3).data.toList=Lib.join (z2c en++catW (z2s en) en.nP++catW (patW en) (j+1)) [32]):=HPT r1 r2 r3 hr1 hr2 hr3;have hbe:=hb.trans (hbd4.mono hb.size);clear hr1 hr2 hr3 y1 y4 y5 y6 y7 y8 z1 z2 z3 mkS hbd hbd2 hbd3 hbd4 HPT;go_wp2;go_roundw
     case rel=>exact⟨j+1,_,by omega,by go_num,rfl,HT1,hbe⟩
     case measure=>simp[intOf];omega
    ·obtain rfl:j=en.nQ:=by omega
     have zt:=HSM.out en.nP en.nQ t (Nat.le_refl _) (Nat.le_refl _) HT.out;have HTL:Hid ((t++⟨#[10]⟩).data.toList=z0D en):=by
      show _=Lib.join (z2c en++catW (z2s en) en.nP++catW (patW en) en.nQ) [32]++[10];rw[<-HT.out];simp
     have hbf:Below bw w wr:=hb0.trans (hb.mono (by have:=hb0.size;have:=HBW.out;omega));clear HT hq;go_wp2;go_ret;refine⟨⟨_,rfl,HTL.out⟩,?_⟩;rw[HBW.out];exact hbf
end
section
open Go.RowKit Go.Maps
abbrev rsessC(q m:Nat)(t:ByteArray):Array Value:=#[.pointer (some ⟨q,0,none⟩),.pointer (some ⟨m,0,none⟩),.string t]
structure RSAt(w0 W:World)(z m q:Nat)(vl:Value)(V:Nat->EntV)(L:List z0u)(st:CSt):Prop where
 sess:W.heap[z]?=some (.cells (rsessC q m st.text) 39 (0,0))
 shelf:z1R W w0.heap.size w0.heap.size m vl st.k V st.E
 files:RAt w0.heap.size W q L st.kf
 agree:z3I st.D L
 below:Below w0.heap.size w0 W
structure RLow(w0:World)(z m q:Nat):Prop where
 sess:w0.heap.size<=z
 shelf:w0.heap.size<=m
 files:w0.heap.size<=q
abbrev tsSay:List (Option TypeId):=[some 39,some 33,some 37]
section
variable {w0 W W':World} {z m q:Nat} {vl:Value} {V:Nat->EntV} {L:List z0u} {st:CSt}
theorem RSAt.lt(h:RSAt w0 W z m q vl V L st):z<W.heap.size:=(Array.getElem?_eq_some_iff.1 h.sess).1
theorem RSAt.c0(h:RSAt w0 W z m q vl V L st):W.cell? ⟨z,0,none⟩=some (.pointer (some ⟨q,0,none⟩)):=by simp[World.cell?,h.sess]
theorem RSAt.c1(h:RSAt w0 W z m q vl V L st):W.cell? ⟨z,1,none⟩=some (.pointer (some ⟨m,0,none⟩)):=by simp[World.cell?,h.sess]
theorem RSAt.c2(h:RSAt w0 W z m q vl V L st):W.cell? ⟨z,2,none⟩=some (.string st.text):=by simp[World.cell?,h.sess]
theorem RSAt.f2(h:RSAt w0 W z m q vl V L st):W.frozen? ⟨z,2,none⟩=false:=by simp[World.frozen?,h.sess]
theorem RSAt.later(h:RSAt w0 W z m q vl V L st)(hb:Below W.heap.size W W'):RSAt w0 W' z m q vl V L st:=
 ⟨(hb.block _ h.lt).trans h.sess,h.shelf.later h.below.size hb,h.files.later hb,h.agree,h.below.trans (hb.mono h.below.size)⟩
theorem RSAt.put(h:RSAt w0 W z m q vl V L st)(hlo:RLow w0 z m q)(x:ByteArray):RSAt w0 (W.setCell ⟨z,2,none⟩ (.string x)) z m q vl V L {st with text:=x}:=by
 have ho:=Only.set h.sess 2 (.string x);have hb:Below w0.heap.size W (W.setCell ⟨z,2,none⟩ (.string x)):=⟨rfl,rfl,rfl,by simp[World.setCell],fun k hk=>Below.heap_setCell _ _ _ _ (Nat.ne_of_lt (Nat.lt_of_lt_of_le hk hlo.sess))⟩;exact⟨heap_setCell W z 2 _ _ _ h.sess,h.shelf.only ho hb (by decide) (by decide) (by decide) (by decide),h.files.only ho (by decide) (by decide),h.agree,h.below.trans hb⟩
theorem RSAt.turn(h:RSAt w0 W z m q vl V L st)(hlo:RLow w0 z m q){D':DataW Unit}{kf':Nat}{L':List z0u}(hT:Turned q q W W')(hF:RAt w0.heap.size W' q L' kf')(hA:z3I D' L'):RSAt w0 W' z m q vl V L' {st with D:=D',kf:=kf'}:=by
 have ho:=Only.of_turnedQ hT h.files;have hb:=hT.below h.below.size hlo.files hlo.files;exact⟨ho.block _ _ h.sess (by simp[z5l,tsRF]),h.shelf.only ho hb (by decide) (by decide) (by decide) (by decide),hF,hA,h.below.trans hb⟩
theorem RSAt.grow(h:RSAt w0 W z m q vl V L st)(hlo:RLow w0 z m q){E':Nat->EntF}{k':Nat}{vl':Value}{V':Nat->EntV}(hG:W.grownBy W' (some m))(hS:z1R W' w0.heap.size w0.heap.size m vl' k' V' E'):RSAt w0 W' z m q vl' V' L {st with E:=E',k:=k'}:=by
 have ho:=Only.of_grown hG h.shelf;have hb:Below w0.heap.size W W':=⟨hG.os,hG.tape,hG.output,hG.size,fun j hj=>hG.block j (Nat.lt_of_lt_of_le hj h.below.size) (fun e=>by injection e with e;have:=hlo.shelf;omega)⟩;exact⟨ho.block _ _ h.sess (by simp[z5l,tsRS]),hS,h.files.only ho (by decide) (by decide),h.agree,h.below.trans hb⟩
theorem RSAt.len(h:RSAt w0 W z m q vl V L st){i:Nat}(hw:Well st i):L.length<=6:=by
 obtain⟨w,bm,n,hr⟩:=hw.real;rw[h.agree.length hw.inv hr];exact hw.inv.size
end
def z1O (w0:World)(z m q:Nat)(st':CSt)(V0 W':World):Prop:=(∃vl V L,RSAt w0 W' z m q vl V L st')/\Only tsSay V0 W'
theorem z3u {w w':World}(h:Below w.heap.size w w'):Only tsSay w w':=(Only.of_below h).widen (by decide)
theorem z1O.later{w0 V0 W W':World}{z m q:Nat}{st:CSt}(h:z1O w0 z m q st V0 W)(hb:Below W.heap.size W W'):z1O w0 z m q st V0 W':=by
 obtain⟨⟨vl,V,L,h1⟩,h2⟩:=h;exact⟨⟨vl,V,L,h1.later hb⟩,h2.trans (z3u hb)⟩
def Says(e:Ending)(a:List UInt8):Prop:=∃t:ByteArray,e=.returned (.string t)/\t.data.toList=a
theorem z0I {w:World}{B b cap j:Nat}{ws:List (List UInt8)}{x:List UInt8}(h:w.ownsRow B 9 1 (.slice (some ⟨b,0,none⟩) ws.length cap) ws.length (strC ws))(hj:ws[j]?=some x):w.cell? ⟨b,j,none⟩=some (.string ⟨x.toArray⟩):=by
 obtain⟨g,hg,_,hc⟩:=z0K h (j:=j) (u:=.string ⟨x.toArray⟩) (by unfold strC;rw[List.getElem?_map,hj];rfl);injection hg with hg;injection hg with hg;subst hg;exact hc
theorem sayOne_any(w0 W:World)(z m q:Nat)(vl:Value)(V:Nat->EntV)(L:List z0u)(st:CSt)(i:Nat)(line:ByteArray)(h:RSAt w0 W z m q vl V L st)(hlo:RLow w0 z m q)(hw:Well st i)(hsz:line.size<=60)(hb:(32:UInt8) ∉ line.data.toList) :
 Calls Tryz.prog 7 #[.pointer (some ⟨z,0,none⟩),.string line] W fun e W'=>Says e (sayC st (z2h line.data.toList)).2/\z1O w0 z m q (sayC st (z2h line.data.toList)).1 W W':=by
 have HW:=z2b line W (by omega);rw[words_one hb]at HW;have h60:¬(60:Int)<(line.size:Int):=by omega
 have hL6:=h.len hw;have hone:(([line.data.toList].length:Nat):Int)=1:=rfl;generalize hwl:[line.data.toList].length=n1 at HW;have hn1:(n1:Int)=1:=by rw[<-hwl];rfl
 have g1:¬(1:Int)<(n1:Int):=by omega
 have g2:((n1:Int)==1)=true:=by rw[beq_iff_eq];exact hn1
 have HF4:=fun V=>z1p 4 V (by decide)
 have HF4':∀V:World,Calls Tryz.prog 11 #[.int .i64 4] V fun e w'=>(∃t:ByteArray,e=.returned (.string t)/\t.data.toList=z1h 4)/\Below V.heap.size V w':=HF4
 clear hone hwl HF4 hn1;by_cases k1:line.data.toList=cClear
 ·have e1:=z0Q k1;have hc:z2h line.data.toList=.clear:=by unfold z2h;rw[if_pos k1]
  rw[hc];have HHF:Hid (∀V1,Below W.heap.size W V1->z1O w0 z m q (sayC st .clear).1 W (V1.setCell ⟨z,2,none⟩ (.string ⟨#[]⟩))):=fun V1 hb1=>⟨⟨vl,V,L,(h.later hb1).put hlo ⟨#[]⟩⟩,(z3u hb1).trans ((Only.set (h.later hb1).sess 2 _).widen (by decide))⟩
  clear hc k1 HF4';go_enter Tryz.func7,Tryz.ntmps7;go_wp2_with fail;refine(show Calls _ _ _ _ _ from HW).mono ?_;rintro e w1 ⟨⟨b,cap,rfl,_⟩,hb1⟩;clear HW;have c2:=(h.later hb1).c2;have f2:=(h.later hb1).f2;have HH:=HHF.out w1 hb1;have HHX:Hid (z1O w0 z m q (sayC st .clear).1 W (w1.setCell ⟨z,2,none⟩ (.string ⟨#[]⟩))):=HH;clear HH HHF;go_wp2;go_ret;exact⟨⟨_,rfl,rfl⟩,HHX.out⟩
 have e1:=z0h k1;by_cases k3:line.data.toList=cList
 ·have e3:=z0Q k3;have k2:line.data.toList≠cObject:=by rw[k3];decide
  have hc:z2h line.data.toList=.list:=by unfold z2h;rw[if_neg k1,if_neg k2,if_pos k3]
  rw[hc];have hnames:Hid (L.map (fun f=>Value.string f.nm)=z1A (z3L st.D)/\L.length=(z3L st.D).length):=by
   obtain⟨w',bm,n',hr⟩:=hw.real;have hn:=h.agree.names hw.inv hr;refine⟨?_,by rw[hn,List.length_map]⟩;rw[hn];unfold z1A;rw[List.map_map];exact List.map_congr_left fun f _=>rfl
  have HL:=fun V1 (hV:Below W.heap.size W V1)=>listR_any w0.heap.size V1 q L st.kf (h.later hV).files (by omega)
  have HHF:Hid (∀V1,Below W.heap.size W V1->z1O w0 z m q (sayC st .list).1 W V1):=fun V1 hb1=>⟨⟨vl,V,L,h.later hb1⟩,z3u hb1⟩
  have HSH:Hid (∀x∈z3L st.D,x.length<=8):=fun x hx=>names_short hw.real hw.names hx
  clear hc k1 k2 k3 HF4';go_enter Tryz.func7,Tryz.ntmps7;go_wp2_with fail;refine(show Calls _ _ _ _ _ from HW).mono ?_;rintro e w1 ⟨⟨b,cap,rfl,_⟩,hb1⟩;clear HW;have c0:=(h.later hb1).c0;have HL1:=HL w1 hb1;clear HL;go_wp2_with fail;refine(show Calls _ _ _ _ _ from HL1).mono ?_;rintro e w2 ⟨⟨v,rfl,hown⟩,hb2⟩;clear HL1 c0;rw[hnames.out.1]at hown;obtain⟨a,c,rfl,_⟩:=z0c hown;have HJ:=joined_any _ a L.length c (z3L st.D) ⟨#[32]⟩ w2 hown (by omega) (fun x hx=>Nat.le_trans (HSH.out x hx) (by decide)) (by decide);have HH:=HHF.out w2 (hb1.trans (hb2.mono hb1.size));have HHX:Hid (z1O w0 z m q (sayC st .list).1 W w2):=HH;clear hown HH HHF hnames;go_wp2_with fail;refine(show Calls _ _ _ _ _ from HJ).mono ?_;rintro e w3 ⟨⟨t,rfl,ht⟩,hw3⟩;subst w3;clear HJ;go_wp2;go_ret;exact⟨⟨_,rfl,ht⟩,HHX.out⟩
 have e3:=z0h k3;by_cases k4:line.data.toList=cRoots
 ·have e4:=z0Q k4;have k2:line.data.toList≠cObject:=by rw[k4];decide
  have hc:z2h line.data.toList=.roots:=by unfold z2h;rw[if_neg k1,if_neg k2,if_neg k3,if_pos k4]
  rw[hc];have HL:=fun V1 (hV:Below W.heap.size W V1)=>refRoots_any V1 w0.heap.size w0.heap.size m st.k vl V st.E (h.later hV).shelf (h.later hV).below.size
  have HHF:Hid (∀V1,Below W.heap.size W V1->z1O w0 z m q (sayC st .roots).1 W V1):=fun V1 hb1=>⟨⟨vl,V,L,h.later hb1⟩,z3u hb1⟩
  have HSH:Hid (∀x∈z5E st.E st.k,x.length<=8):=fun x hx=>roots_short hw.good hx
  have hk3:=hw.good.few;clear hc k1 k2 k3 k4 HF4';go_enter Tryz.func7,Tryz.ntmps7;go_wp2_with fail;refine(show Calls _ _ _ _ _ from HW).mono ?_;rintro e w1 ⟨⟨b,cap,rfl,_⟩,hb1⟩;clear HW;have c1:=(h.later hb1).c1;have HL1:=HL w1 hb1;clear HL;go_wp2_with fail;refine(show Calls _ _ _ _ _ from HL1).mono ?_;rintro e w2 ⟨v,rfl,hown,hb2⟩;clear HL1 c1;rw[roots_strs]at hown;obtain⟨a,c,rfl,_⟩:=z0c hown;have HJ:=joined_any _ a st.k c (z5E st.E st.k) ⟨#[32]⟩ w2 hown (by omega) (fun x hx=>Nat.le_trans (HSH.out x hx) (by decide)) (by decide);have HH:=HHF.out w2 (hb1.trans (hb2.mono hb1.size));have HHX:Hid (z1O w0 z m q (sayC st .roots).1 W w2):=HH;clear hown HH HHF;go_wp2_with fail;refine(show Calls _ _ _ _ _ from HJ).mono ?_;rintro e w3 ⟨⟨t,rfl,ht⟩,hw3⟩;subst w3;clear HJ;go_wp2;go_ret;exact⟨⟨_,rfl,ht⟩,HHX.out⟩
 have e4:=z0h k4;by_cases k2:line.data.toList=cObject
 ·have e2:=z0Q k2;have hc:z2h line.data.toList=.object:=by unfold z2h;rw[if_neg k1,if_pos k2]
  rw[hc];have HP:=fun V1=>z7j st.text V1
  have hle:=parseF_le st.text;have hAns:(sayC st .object).2=if (z0k st.text).1=0 then Lib.itoa (((z0k st.text).2.nW:Nat):Int)++manyT else z1h (z0k st.text).1:=rfl
  have hfew:(z0k st.text).1=0->(z0k st.text).2.nW<=40:=fun h0=>by
   unfold z0k at h0 ⊢;split
   ·exact(by decide:z0d.nW<=40)
   ·split
    ·rename_i hh;have h1:=hh.1;unfold z1X at h1;split at h1
     ·rename_i ho;exact(objOk ho).nW
     ·exact absurd h1 (by assumption)
    ·exact(by decide:z0d.nW<=40)
  generalize z0k st.text=PF at *;obtain⟨F,o⟩:=PF;dsimp only at *;have HHF:Hid (∀V1,Below W.heap.size W V1->z1O w0 z m q (sayC st .object).1 W V1):=fun V1 hb1=>⟨⟨vl,V,L,h.later hb1⟩,z3u hb1⟩
  clear hc k1 k2 k3 k4 HF4';go_enter Tryz.func7,Tryz.ntmps7;go_wp2_with fail;refine(show Calls _ _ _ _ _ from HW).mono ?_;rintro e w1 ⟨⟨b,cap,rfl,_⟩,hb1⟩;clear HW;have c2:=(h.later hb1).c2;have HP1:=HP w1;clear HP;go_wp2_with fail;refine(show Calls _ _ _ _ _ from HP1).mono ?_;rintro e w2 ⟨⟨v,rfl,hA,_⟩,hb2⟩;clear HP1 c2;have hbx:Below w2.heap.size w2 (w2.alloc (.cells #[.slice v.aN o.nN v.cN,.slice v.aW o.nW v.cW,.slice v.aS o.nS v.cS,.slice v.aT o.nT v.cT] 56)):=(Below.refl _ _).alloc (Nat.le_refl _) _;have x1:(w2.alloc (.cells #[.slice v.aN o.nN v.cN,.slice v.aW o.nW v.cW,.slice v.aS o.nS v.cS,.slice v.aT o.nT v.cT] 56)).cell? ⟨w2.heap.size,1,none⟩=some (.slice v.aW o.nW v.cW):=by simp[go_sem]
  have hb3:=(hb1.trans (hb2.mono hb1.size)).trans (hbx.mono (Nat.le_trans hb1.size hb2.size));unfold ObjV.cells;clear hA;by_cases h0:F=0
  ·have hn40:=hfew h0;have HAN:Hid ((sayC st .object).2=Lib.itoa ((o.nW:Nat):Int)++manyT):=by show(sayC st .object).2=_;rw[hAns,if_pos h0]
   have HD:=z0U ((o.nW:Nat):Int) (by omega) (by omega) (w2.alloc (.cells #[.slice v.aN o.nN v.cN,.slice v.aW o.nW v.cW,.slice v.aS o.nS v.cS,.slice v.aT o.nT v.cT] 56));subst h0;have hF0:¬(0:Int)<((0:Nat):Int):=by omega
   clear hAns hfew;go_wp2_with fail;refine(show Calls _ _ _ _ _ from HD).mono ?_;rintro e w4 ⟨⟨t,rfl,ht⟩,hb4⟩;clear HD x1;have hts:t.size<=20:=by rw[z1W ht];exact z4J (by omega)
   have HT:Hid ((t++⟨#[32,119,111,114,100,115]⟩).data.toList=(sayC st .object).2):=by
    show(t++⟨#[32,119,111,114,100,115]⟩).data.toList=_;rw[HAN.out,<-ht];simp
   have HH:=HHF.out w4 (hb3.trans (hb4.mono hb3.size));clear ht HAN;go_wp2;go_ret;exact⟨⟨_,rfl,HT.out⟩,HH⟩
  ·have HAN:Hid ((sayC st .object).2=z1h F):=by show(sayC st .object).2=_;rw[hAns,if_neg h0]
   have HFF:=z1p F (w2.alloc (.cells #[.slice v.aN o.nN v.cN,.slice v.aW o.nW v.cW,.slice v.aS o.nS v.cS,.slice v.aT o.nT v.cT] 56)) (by omega);have hpos:(0:Int)<(F:Int):=by omega
   clear hAns hfew h0;go_wp2_with fail;refine(show Calls _ _ _ _ _ from HFF).mono ?_;rintro e w4 ⟨⟨t,rfl,ht⟩,hb4⟩;clear HFF x1;have HT:Hid (t.data.toList=(sayC st .object).2):=ht.trans HAN.out.symm;have HH:=HHF.out w4 (hb3.trans (hb4.mono hb3.size));clear ht HAN;go_wp2;go_ret;exact⟨⟨_,rfl,HT.out⟩,HH⟩
 have e2:=z0h k2;have hc:z2h line.data.toList=.bad:=by unfold z2h;rw[if_neg k1,if_neg k2,if_neg k3,if_neg k4]
 rw[hc];have HHF:Hid (∀V1,Below W.heap.size W V1->z1O w0 z m q (sayC st .bad).1 W V1):=fun V1 hb1=>⟨⟨vl,V,L,h.later hb1⟩,z3u hb1⟩
 clear hc k1 k2 k3 k4;go_enter Tryz.func7,Tryz.ntmps7;go_wp2_with fail;refine(show Calls _ _ _ _ _ from HW).mono ?_;rintro e w1 ⟨⟨b,cap,rfl,_⟩,hb1⟩;clear HW;go_wp2_with fail;refine(show Calls _ _ _ _ _ from HF4' _).mono ?_;rintro e w2 ⟨⟨t,rfl,ht⟩,hb2⟩;clear HF4';have HH:=HHF.out w2 (hb1.trans (hb2.mono hb1.size));have HT:Hid (t.data.toList=(sayC st .bad).2):=ht;clear ht;go_wp2;go_ret;exact⟨⟨_,rfl,HT.out⟩,HH⟩
end
end Go.Proofs.YtbcpcbonlhlhpaaGreatDoor
