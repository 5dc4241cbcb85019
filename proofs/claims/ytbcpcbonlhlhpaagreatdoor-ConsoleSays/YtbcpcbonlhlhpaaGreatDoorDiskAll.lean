/- What Write of package disk does, of any disk; all else -/
import Derived.Test.YtbcpcbonlhlhpaaGreatDoorDiskAdd
namespace Go.Proofs.YtbcpcbonlhlhpaaGreatDoor
section
open Go.RowKit
set_option maxHeartbeats 4000000
set_option maxRecDepth 100000
def padB(t:List UInt8):List UInt8:=t++List.replicate (64-t.length) 0
theorem padB_len{t:List UInt8}(h:t.length<=64):(padB t).length=64:=by simp[padB];omega
def DSt.put(s:DSt)(i:Nat)(d:List UInt8):DSt:={s.at i ⟨(s.K i).kept,z1Y (s.K i).late s.next++[(s.next,d)]⟩with next:=(s.next+1) % 64}
theorem write_bound(w:World)(B p bs n:Nat)(s:DSt)(v:Nat->Value)(at':Int)(t:ByteArray)(h:z0m w B p bs n s v)(hf:¬(0<=at'/\at'<n)∨64<t.size)(ht:t.size<=maxLen) :
 Calls Tryz.prog 59 #[.pointer (some ⟨p,0,none⟩),.int .i64 at',.string t] w fun e w'=>e=.returned (errV 1)/\w'=w:=by
 have HH:=has_any w B p bs n s v at' h;unfold maxLen at ht;clear h;by_cases h1:0<=at'/\at'<n
 ·have hdec:(decide (0<=at')&&decide (at'<n))=true:=by simp;exact h1
  rw[hdec]at HH;have h2:64<t.size:=by
   rcases hf with hf|hf
   ·exact absurd h1 hf
   ·exact hf
  have h3:(64:Int)<(t.size:Int):=by omega
  clear hdec h1 hf h2;go_enter Tryz.func59,Tryz.ntmps59;go_wp2_with fail;refine HH.mono ?_;rintro e w1 ⟨rfl,rfl⟩;clear HH;go_wp2;go_ret;exact⟨rfl,rfl⟩
 ·have hdec:(decide (0<=at')&&decide (at'<n))=false:=by simp;omega
  rw[hdec]at HH;clear hdec h1 hf;go_enter Tryz.func59,Tryz.ntmps59;go_wp2_with fail;refine HH.mono ?_;rintro e w1 ⟨rfl,rfl⟩;clear HH;go_wp2;go_ret;exact⟨rfl,rfl⟩
theorem write_falls(w:World)(B p bs n:Nat)(s:DSt)(v:Nat->Value)(i:Nat)(t:ByteArray)(h:z0m w B p bs n s v)(hi:i<n)(ht:t.size<=64)(hf:s.falls=true) :
 Calls Tryz.prog 59 #[.pointer (some ⟨p,0,none⟩),.int .i64 (i:Int),.string t] w fun e w'=>e=.returned (errV 9)/\z0m w' B p bs n s.fell v/\Spun B w w':=by
 have HH:=has_any w B p bs n s v (i:Int) h;have HS:=step_falls w B p bs n s v h hf;have hdec:(decide (0<=(i:Int))&&decide ((i:Int)<(n:Int)))=true:=by simp;exact hi
 rw[hdec]at HH;have h3:¬(64:Int)<(t.size:Int):=by omega
 have q9:errV 9=.iface 43 (.int .i64 9):=rfl;clear h hdec;rw[q9]at HS;go_enter Tryz.func59,Tryz.ntmps59;go_wp2_with fail;refine HH.mono ?_;rintro e w1 ⟨rfl,rfl⟩;clear HH;go_wp2_with fail;refine HS.mono ?_;rintro e w2 ⟨rfl,hD,hS⟩;clear HS;go_wp2;go_ret;exact⟨rfl,hD,hS⟩
def z3O:List UInt8:=List.replicate 64 0
theorem z5W:z3O.length=64:=by simp[z3O]
theorem build_late(w:World)(b:Int):(Instr.build 174 #[(0,.int .u64 b)]).run Tryz.prog w=.ok (.agg (.int .u64 b :: z0B (z3O)).toArray) w:=by kernel_rfl
def bdLate(l:Array (Nat×Value)):Sem Value:=Instr.build 174 l
theorem bdLate_eq(l:Array (Nat×Value)):Instr.build 174 l=bdLate l:=rfl
theorem pad_filled(w:World)(b:Nat)(t:ByteArray)(ht:t.size<=64):(w.alloc (.cells (z0t (b,z3O)).toArray 174)).setCells w.heap.size 1 (z0B t.data.toList)=w.alloc (.cells (z0t (b,padB t.data.toList)).toArray 174):=by
 have hl:t.data.toList.length=t.size:=by simp
 rw[z6t w _ _ _ 1 _ (by simp[z0t,z5W];omega)];congr 3;have e1:(z0t (b,z3O)).toArray.toList=.int .u64 (b:Int) :: z0B (z3O):=rfl;rw[e1];have e2:z0t (b,padB t.data.toList)=.int .u64 (b:Int) :: (z0B t.data.toList++z0B (List.replicate (64-t.data.toList.length) 0)):=by
  simp[z0t,padB,z0B]
 rw[e2];simp only[List.take_succ_cons,List.take_zero,bytesV_length,List.cons_append,List.nil_append];rw[Nat.add_comm 1,List.drop_succ_cons];congr 2;unfold z0B z3O;rw[<-List.map_drop,List.drop_replicate]
attribute [local go_sem ↓] ldLate_eq bdLate_eq
attribute [local go_sem ↓] Go.wp_at_zero Go.wp_at_succ
theorem write_goes(w:World)(B p bs n:Nat)(s:DSt)(v:Nat->Value)(i:Nat)(t:ByteArray)(h:z0m w B p bs n s v)(hi:i<n)(ht:t.size<=64)(hf:s.falls=false)(hl:s.left<=9223372036854775807) :
 Calls Tryz.prog 59 #[.pointer (some ⟨p,0,none⟩),.int .i64 (i:Int),.string t] w fun e w'=>e=.returned .nilIface/\(∃v',z0m w' B p bs n (s.stepped.put i (padB t.data.toList)) v')/\Spun B w w':=by
 have HH:=has_any w B p bs n s v (i:Int) h;have HS:=step_goes w B p bs n s v h hf hl;have hdec:(decide (0<=(i:Int))&&decide ((i:Int)<(n:Int)))=true:=by simp;exact hi
 rw[hdec]at HH;have h3:¬(64:Int)<(t.size:Int):=by omega
 have hfew:=h.few;obtain⟨Z,hal,hZ⟩:=late_zero;have hbl:∀(W:World) (b:Nat),(bdLate #[(0,.int .u64 (b:Int))]).run Tryz.prog W=.ok (.agg (z0t (b,z3O)).toArray) W:=fun W b=>build_late W b
 clear h hdec;go_enter Tryz.func59,Tryz.ntmps59;go_wp2_with fail;refine HH.mono ?_;rintro e w1 ⟨rfl,rfl⟩;clear HH;go_wp2_with fail;refine HS.mono ?_;rintro e w2 ⟨rfl,hD,hS⟩;clear HS;have c0:=hD.c0;have c1:=hD.c1;have HL:Hid ((z0t (s.stepped.next,z3O)).length=65):=by show(z0t (s.stepped.next,z3O)).length=65;simp[z0t,z5W]
 have hcp:∀ty,(Builtin.copy_ #[102,9] ty #[.slice (some ⟨w2.heap.size,1,none⟩) 64 64,.string t]).run Tryz.prog (w2.alloc (.cells (z0t (s.stepped.next,z3O)).toArray 174))=.ok (goInt t.size) (w2.alloc (.cells (z0t (s.stepped.next,padB t.data.toList)).toArray 174)):=fun ty=>by
  rw[<-pad_filled w2 s.stepped.next t ht];have hth:=there_new w2 174 (z0t (s.stepped.next,z3O)).toArray;refine Go.run_copy_string _ _ _ _ 5 _ _ _ _ t Tryz.underlying102 (fun w=>by kernel_rfl) ht (fun j hj=>?_) (fun j hj=>?_)
  ·have:=(hth (1+j) (by simp[z0t,z5W];omega)).1
   rwa [Nat.zero_add]at this
  ·have:=(hth (1+j) (by simp[z0t,z5W];omega)).2
   rwa [Nat.zero_add]at this
 generalize hN:s.stepped.next=nx at *
 go_wp2_with (first
  |(refine z3k rfl 174 (.tmp 8) (.tmp 28) rfl w2 Z rfl (z0t (nx,z3O)) rfl rfl (hZ.trans HL.out.symm) (z2a HL.out) (z4W _) ?_))
 have hpl:=padB_len (t:=t.data.toList) (by simpa using ht);have hnx:nx<64:=by rw[<-hN];exact hD.nx
 have hb3:Below w2.heap.size w2 (w2.alloc (.cells (z0t (nx,padB t.data.toList)).toArray 174)):=(Below.refl _ _).alloc (Nat.le_refl _) _;have hD3:z0m (w2.alloc (.cells (z0t (nx,padB t.data.toList)).toArray 174)).drew B p bs n s.stepped v:=(hD.later hb3).later (Below.refl _ _).drew;have hS3:Spun B w1 (w2.alloc (.cells (z0t (nx,padB t.data.toList)).toArray 174)).drew:=hS.trans (Spun.of (by have:=hD.bp;have:=hD.lt;omega) ((hb3.trans ((Below.refl _ _).drew))));have c03:=cell_later hb3 c0;have HA:=add_any _ B p bs n s.stepped v i nx (padB t.data.toList) hD3 hi hnx hpl;have hnr:(w2.alloc (.cells (z0t (nx,padB t.data.toList)).toArray 174)).rangeAt w2.heap.size 0 (z0t (nx,padB t.data.toList)):=z4O w2 _ _ 0 _ (fun j u hj=>by rw[Nat.zero_add];exact hj);have l1:(ldLate (.pointer (some ⟨w2.heap.size,0,none⟩))).run Tryz.prog (w2.alloc (.cells (z0t (nx,padB t.data.toList)).toArray 174)).drew=.ok (.agg (z0t (nx,padB t.data.toList)).toArray) (w2.alloc (.cells (z0t (nx,padB t.data.toList)).toArray 174)).drew:=
  run_loadAt_mid _ _ _ _ _ _ (by simpa using hnr) Tryz.underlying174 rfl (z2a (z4f hpl))
 have HN:Hid (s.stepped.next=nx):=hN;generalize hcs:(z0t (nx,padB t.data.toList))=cs at *;generalize hW:w2.alloc (.cells cs.toArray 174)=W at *;have hi0:(0:Int)<=(i:Int):=by omega
 have hi1:(i:Int)<(n:Int):=by omega
 clear hcp hbl HL hD hD3 hnr hb3 c0 c1 hS hN hZ hal hcs hW h3;go_region_law (first
  |(go_simp;go_at_call 86;refine HA.mono ?_;rintro e w4 ⟨rfl,⟨v4,hD4⟩,hS4⟩))
 all_goals
  have c1:=hD4.c1;have fz:=hD4.fz 1;have hnn:(s.stepped.at i ⟨(s.stepped.K i).kept,z1Y (s.stepped.K i).late nx++[(nx,padB t.data.toList)]⟩).next=nx:=HN.out
  rw[hnn]at c1;have hD5:z0m (w4.setCell ⟨p,1,none⟩ (.int .u64 (((nx+1) % 64:Nat):Int))) B p bs n (s.stepped.put i (padB t.data.toList)) v4:=by
   refine hD4.put (fun k hk=>Below.heap_setCell _ _ _ _ hk) ?_ ?_ ?_ hD4.lo
   ·rw[z1i _ hD4.blk];simp only[DSt.put,HN.out];rfl
   ·simp only[DSt.put,HN.out]
   ·simp only[DSt.put];omega
  have hS5:=(hS3.trans hS4).trans (Spun.set (i:=1) hD4.blk hD4.bp (.inl rfl) (.int .u64 (((nx+1) % 64:Nat):Int)));have en:((((nx+1) % 64:Nat):Int))=((nx:Int)+1) % 64:=by omega
  rw[en]at hD5 hS5;clear hD4 HA hnn en;go_wp2;go_ret;exact⟨rfl,⟨_,hD5⟩,hS5⟩
end
section
open Go.RowKit
def Disk(w:World)(B p n:Nat)(s:DSt):Prop:=IsDisk w B p n s/\s.left<=9223372036854775807
theorem Disk.later{w w':World}{B p n:Nat}{s:DSt}(h:Disk w B p n s)(hb:Below w.heap.size w w'):Disk w' B p n s:=⟨h.1.later hb,h.2⟩
theorem Disk.ok{w:World}{B p n:Nat}{s:DSt}(h:Disk w B p n s){i:Nat}(hi:i<n):SecOk (s.K i):=by
 obtain⟨⟨bs,v,h⟩,_⟩:=h;exact h.ok i hi
theorem Disk.base{w:World}{B p n:Nat}{s:DSt}(h:Disk w B p n s):B<=w.heap.size:=by
 obtain⟨⟨bs,v,h⟩,_⟩:=h;have:=h.bp;have:=h.lt;omega
theorem Disk.other{w w':World}{B p n:Nat}{s:DSt}(h:Disk w B p n s)(hk:∀(k:Nat) (o:Obj),w.heap[k]?=some o->DiskTy o->w'.heap[k]?=some o):Disk w' B p n s:=by
 obtain⟨⟨bs,v,h⟩,hl⟩:=h;obtain⟨C,hC⟩:=h.sec;have hb:=hk bs _ hC ⟨_,_,_,rfl,.inr (.inl rfl)⟩;refine⟨⟨bs,v,hk p _ h.blk ⟨_,_,_,rfl,.inl rfl⟩,⟨C,hb⟩,?_,h.ok,?_,h.apart,h.bp,h.bb,h.nx,h.lo,h.few⟩,hl⟩
 ·intro i hi j u hj;exact(World.cell?_of_block (a:=⟨bs,i*65+j,none⟩) (hb.trans hC.symm)).trans (h.cells i hi j u hj)
 ·intro i hi;refine z5X (h.rows i hi) (fun k e=>?_);obtain⟨c,hc⟩:=z3C (h.rows i hi) e;exact(hk k _ hc ⟨_,_,_,rfl,.inr (.inr rfl)⟩).trans hc.symm
def DSt.writeF(s:DSt)(n:Nat)(at':Int)(t:ByteArray):Nat:=if ¬(0<=at'/\at'<n)∨64<t.size then 1 else if s.falls=true then 9 else 0
def DSt.wrote(s:DSt)(n:Nat)(at':Int)(t:ByteArray):DSt:=if ¬(0<=at'/\at'<n)∨64<t.size then s else if s.falls=true then s.fell else s.stepped.put at'.toNat (padB t.data.toList)
theorem stepped_left{s:DSt}(h:s.left<=9223372036854775807):s.stepped.left<=9223372036854775807:=by
 unfold DSt.stepped;split <;> simp <;> omega
theorem z5Z (w:World)(B p n:Nat)(s:DSt)(at':Int)(t:ByteArray)(h:Disk w B p n s)(ht:t.size<=maxLen) :
 Calls Tryz.prog 59 #[.pointer (some ⟨p,0,none⟩),.int .i64 at',.string t] w fun e w'=>e=.returned (errV (s.writeF n at' t))/\Disk w' B p n (s.wrote n at' t)/\Spun B w w':=by
 obtain⟨⟨bs,v,h⟩,hl⟩:=h;unfold DSt.writeF DSt.wrote;by_cases h1:¬(0<=at'/\at'<n)∨64<t.size
 ·rw[if_pos h1,if_pos h1];exact(write_bound w B p bs n s v at' t h h1 ht).mono fun e w' ⟨he,hw⟩=>⟨he,by rw[hw];exact⟨⟨bs,v,h⟩,hl⟩,by rw[hw];exact Spun.refl _ _⟩
 ·rw[if_neg h1,if_neg h1];obtain⟨i,rfl⟩:=Int.eq_ofNat_of_zero_le (show 0<=at' by omega);by_cases h2:s.falls=true
  ·rw[if_pos h2,if_pos h2];exact(write_falls w B p bs n s v i t h (by omega) (by omega) h2).mono fun e w' ⟨he,hd,hs⟩=>⟨he,⟨⟨bs,v,hd⟩,hl⟩,hs⟩
  ·rw[if_neg h2,if_neg h2];exact(write_goes w B p bs n s v i t h (by omega) (by omega) (by simpa using h2) hl).mono fun e w' ⟨he,⟨v',hd⟩,hs⟩=>⟨he,⟨⟨bs,v',by rw[Int.toNat_natCast];exact hd⟩,stepped_left hl⟩,hs⟩
def DSt.flushF(s:DSt):Nat:=if s.falls=true then 9 else 0
def DSt.flushed(s:DSt):DSt:=if s.falls=true then s.fell else s.stepped.settled 18446744073709551615
theorem z7z (w:World)(B p n:Nat)(s:DSt)(h:Disk w B p n s) :
 Calls Tryz.prog 61 #[.pointer (some ⟨p,0,none⟩)] w fun e w'=>e=.returned (errV s.flushF)/\Disk w' B p n s.flushed/\Spun B w w':=by
 obtain⟨⟨bs,v,h⟩,hl⟩:=h;unfold DSt.flushF DSt.flushed;by_cases h2:s.falls=true
 ·rw[if_pos h2,if_pos h2];exact(flush_falls w B p bs n s v h h2).mono fun e w' ⟨he,hd,hs⟩=>⟨he,⟨⟨bs,v,hd⟩,hl⟩,hs⟩
 ·rw[if_neg h2,if_neg h2];exact(flush_goes w B p bs n s v h (by simpa using h2) hl).mono fun e w' ⟨he,⟨v',hd⟩,hs⟩=>⟨he,⟨⟨bs,v',hd⟩,stepped_left hl⟩,hs⟩
def DSt.readT(s:DSt)(n:Nat)(at':Int):ByteArray:=if s.readF n at'=0 then⟨(s.K at'.toNat).now.toArray⟩else⟨#[]⟩
theorem diskRead_any(w:World)(B p n:Nat)(s:DSt)(at':Int)(h:Disk w B p n s) :
 Calls Tryz.prog 121 #[.pointer (some ⟨p,0,none⟩),.int .i64 at'] w fun e w'=>e=.returned (.tuple #[.string (s.readT n at'),errV (s.readF n at')])/\Below w.heap.size w w':=by
 obtain⟨⟨bs,v,h⟩,_⟩:=h;unfold DSt.readT;by_cases h0:s.readF n at'=0
 ·rw[if_pos h0,h0];unfold DSt.readF at h0;by_cases hd:s.down=true
  ·rw[if_pos hd]at h0;cases h0
  ·rw[if_neg hd]at h0;by_cases h1:0<=at'/\at'<n
   ·obtain⟨i,rfl⟩:=Int.eq_ofNat_of_zero_le h1.1;rw[Int.toNat_natCast];exact read_ok w B p bs n s v i h (by simpa using hd) (by omega)
   ·rw[if_neg h1]at h0;cases h0
 ·rw[if_neg h0];exact(read_bad w B p bs n s v at' h h0).mono fun e w' ⟨he,hw⟩=>⟨he,by rw[hw];exact Below.refl _ _⟩
def DSt.again(s:DSt)(keep:Int):DSt:={s.settled keep with down:=false,left:=-1}
theorem diskRestart_any(w:World)(B p n:Nat)(s:DSt)(keep:Int)(h:Disk w B p n s) :
 Calls Tryz.prog 72 #[.pointer (some ⟨p,0,none⟩),.int .u64 keep] w fun e w'=>e=.returned (.tuple #[])/\Disk w' B p n (s.again keep)/\Spun B w w':=by
 obtain⟨⟨bs,v,h⟩,_⟩:=h;exact(restart_any w B p bs n s v keep h).mono fun e w' ⟨he,⟨v',hd⟩,hs⟩=>⟨he,⟨⟨bs,v',hd⟩,by show(-1:Int)<=_;decide⟩,hs⟩
theorem diskNew_any(w:World)(n:Nat)(h1:1<=n)(h2:n<=120) :
 Calls Tryz.prog 30 #[.int .i64 (n:Int)] w fun e w'=>∃p,e=.returned (.tuple #[.pointer (some ⟨p,0,none⟩),.nilIface])/\Disk w' w.heap.size p n DSt.fresh/\Below w.heap.size w w':=
 (newDisk_ok w n h1 h2).mono fun e w' ⟨p,he,hd,hb⟩=>⟨p,he,⟨hd,by decide⟩,hb⟩
theorem z6u (w:World)(B p n:Nat)(s:DSt)(h:Disk w B p n s) :
 Calls Tryz.prog 44 #[.pointer (some ⟨p,0,none⟩)] w fun e w'=>e=.returned (.int .i64 n)/\w'=w:=by
 obtain⟨⟨bs,v,h⟩,_⟩:=h;exact sectors_any w B p bs n s v h
end
end Go.Proofs.YtbcpcbonlhlhpaaGreatDoor
