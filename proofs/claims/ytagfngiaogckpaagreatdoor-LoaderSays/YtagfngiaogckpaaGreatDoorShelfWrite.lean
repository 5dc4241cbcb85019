/- What textOf of package shelf returns, of entries that may be: their lines; what readBody returns, of a disk that isn't down: what stands in a body, but for the noughts at its end. The head of a shelf, as a text of one sector. What readHead of package shelf returns, of any disk: the head that stands in its first sector, or the number of the error. What writeHead of package shelf does, of any disk. -/
import Derived.Test.YtagfngiaogckpaaGreatDoorDiskAll
import Derived.Test.YtagfngiaogckpaaGreatDoorEntText
import Derived.Test.YtagfngiaogckpaaGreatDoorBuildUse
import Derived.Lib.TrimByte
import Derived.Test.YtagfngiaogckpaaGreatDoorEarly
namespace Go.Proofs.YtagfngiaogckpaaGreatDoor
open Go.RowKit
theorem EntOk.fit {e : EntF} (h : EntOk e) : EntFit e := by
 have hm : (1000 : Nat) <= maxLen := by decide
 have h1 := h.nP
 have h2 := h.nQ
 refine ⟨?_,by omega,by omega,fun i hi => ?_⟩
 ·have := nameF_len h.root
  have e1 : e.root.size = e.root.data.toList.length := by simp
  omega
 ·have := nameF_len (h.parts i hi).1
  have e1 : (e.pName i).size = (e.pName i).data.toList.length := by simp
  omega
set_option maxRecDepth 100000 in
set_option maxHeartbeats 4000000 in
theorem textOf_any (a : Option Addr) (k c : Nat) (V : Nat -> EntV) (E : Nat -> EntF) (w : World) (hE : Env w) (hk : k <= 3) (hok : ∀ i,i < k -> entF (E i) = 0) (hr : EntsRow w a k V E) :
 Calls Tryz.prog 79 #[.slice a k c] w fun e w' => e = .returned (.tuple #[.string ⟨(linesE E k).toArray⟩,.nilIface]) /\ Below w.heap.size w w' := by
 have hS := built_start w
 have q0 : errV 0 = .nilIface := rfl
 go_enter Tryz.func79,Tryz.ntmps79
 go_wp2
 go_loopw [11] (fun y wr => ∃ i : Nat,i <= k /\ y = .int .i64 i /\ Built w wr (linesE E i)) (fun y _ => k - (intOf y).toNat)
 case atStart => exact ⟨0,Nat.zero_le _,rfl,hS⟩
 case round =>
  clear hS
  obtain ⟨i,hi,rfl,hS⟩ := hrel
  by_cases hlt : i < k
  ·rcases hr with h0 | ⟨bk,o,rfl,hc⟩
   ·omega
   obtain ⟨c0,c1,c2,hA⟩ := (hc i hlt).later hS.below
   have hOk := entOk (hok i hlt)
   have hl1 := lineE_len hOk
   have hl2 : (linesE E i).length <= 2256 := linesE_len (by omega) (fun j hj => entOk (hok j (by omega)))
   have hb0 : Below wr.heap.size wr (wr.alloc (.cells (entCs (V i) (E i)) 48)) := (Below.refl _ _).alloc (Nat.le_refl _) _
   have HT := entText_any (V i) (E i) _ (hA.later hb0) hOk.fit ((hE.later hS.below).later hb0)
   rw [textE_ok (hok i hlt),q0] at HT
   have d0 : (wr.alloc (.cells (entCs (V i) (E i)) 48)).cell? ⟨wr.heap.size,0,none⟩ = some (.string (E i).root) := by simp [go_sem]
   have d1 : (wr.alloc (.cells (entCs (V i) (E i)) 48)).cell? ⟨wr.heap.size,1,none⟩ = some (.slice (V i).aP (E i).nP (V i).cP) := by simp [go_sem]
   have d2 : (wr.alloc (.cells (entCs (V i) (E i)) 48)).cell? ⟨wr.heap.size,2,none⟩ = some (.slice (V i).aQ (E i).nQ (V i).cQ) := by simp [go_sem]
   have hi0 : (0 : Int) <= (i : Int) := by omega
   have hi1 : (i : Int) < (k : Int) := by omega
   have HL : Hid (linesE E (i + 1) = linesE E i ++ lineE (E i)) := rfl
   have hsz := ba_size (lineE (E i))
   have HD : Hid ((⟨(lineE (E i)).toArray⟩ : ByteArray).data.toList = lineE (E i)) := ba_mk _
   unfold entCs at HT hb0 d0 d1 d2
   generalize lineE (E i) = ln at *
   generalize (⟨ln.toArray⟩ : ByteArray) = T at *
   clear hc hOk
   go_wp2_with fail
   refine (show Calls _ _ _ _ _ from HT).mono ?_
   rintro e w2 ⟨rfl,hb2⟩
   clear HT d0 d1 d2 c0 c1 c2
   have hb3 := hb0.trans (hb2.mono hb0.size)
   have HWS := writeString_any w.heap.size w.heap.size (linesE E i) T w2 (isBuilder_later hS.is hb3) (by omega) (by omega) (Nat.le_trans hS.below.size hb3.size)
   go_wp2_with fail
   refine (show Calls _ _ _ _ _ from HWS).mono ?_
   rintro e w3 ⟨rfl,hb4⟩
   have hN : Built w w3 (linesE E (i + 1)) := by
    have := hS.more hb3 hb4
    rw [HD.out] at this
    rw [HL.out]
    exact this
   clear HWS hb2 hb3 hb4 hS
   go_wp2
   go_roundw
   case rel => exact ⟨i + 1,by omega,by go_num,hN⟩
   case measure => simp [intOf]; omega
  ·have e : i = k := by omega
   subst e
   have HG := Tryz.Builder_String_any w.heap.size w.heap.size (linesE E i) wr hS.is hS.below.size
   go_wp2_with fail
   refine (show Calls _ _ _ _ _ from HG).mono ?_
   rintro e w6 ⟨rfl,hb6⟩
   clear HG
   go_wp2
   go_ret2
   exact ⟨rfl,hS.below.trans hb6⟩
def bodyN (s : DSt) (b q : Nat) : List UInt8 := catTo (fun i => (s.K (1 + b * 55 + i)).now) q
set_option maxRecDepth 100000 in
set_option maxHeartbeats 4000000 in
theorem readBody_any (w : World) (B p n : Nat) (s : DSt) (b q : Nat) (h : Disk w B p n s) (hup : s.down = false) (hn : 112 <= n) (hb : b <= 1) (hq : q <= 55) (hnow : ∀ i,i < n -> (s.K i).now.length = 64) :
 Calls Tryz.prog 68 #[.pointer (some ⟨p,0,none⟩),.agg #[.int .i64 (b : Int),.int .i64 (q : Int)]] w fun e w' => e = .returned (.tuple #[.string ⟨(Lib.trimRightB (bodyN s b q) 0).toArray⟩,.nilIface]) /\ Below w.heap.size w w' := by
 have hb0 : Below w.heap.size w (w.alloc (.cells #[.int .i64 (b : Int),.int .i64 (q : Int)] 116)) := (Below.refl _ _).alloc (Nat.le_refl _) _
 have d0 : (w.alloc (.cells #[.int .i64 (b : Int),.int .i64 (q : Int)] 116)).cell? ⟨w.heap.size,0,none⟩ = some (.int .i64 (b : Int)) := by simp [go_sem]
 have d1 : (w.alloc (.cells #[.int .i64 (b : Int),.int .i64 (q : Int)] 116)).cell? ⟨w.heap.size,1,none⟩ = some (.int .i64 (q : Int)) := by simp [go_sem]
 have q0 : errV 0 = .nilIface := rfl
 have hbi : (b : Int) <= 1 := by omega
 have hbi0 : (0 : Int) <= (b : Int) := by omega
 have hb55 : b * 55 <= 55 := by omega
 have hlen : ∀ i,i <= q -> (bodyN s b i).length <= 3520 := fun i hi => by
  have := catTo_le (fun i => (s.K (1 + b * 55 + i)).now) 64 q i hi (fun j hj => by rw [hnow _ (by omega)]; exact Nat.le_refl _)
  unfold bodyN
  omega
 generalize hW : w.alloc (.cells #[.int .i64 (b : Int),.int .i64 (q : Int)] 116) = W at *
 have hS := built_start W
 have d1' := cell_later hS.below d1
 go_enter Tryz.func68,Tryz.ntmps68
 go_wp2
 go_loopw [12] (fun y wr => ∃ i : Nat,i <= q /\ y = .int .i64 i /\ Built W wr (bodyN s b i)) (fun y _ => q - (intOf y).toNat)
 case atStart => exact ⟨0,Nat.zero_le _,rfl,hS⟩
 case round =>
  clear hS d1'
  obtain ⟨i,hi,rfl,hS⟩ := hrel
  have hbr := hb0.trans (hS.below.mono hb0.size)
  by_cases hlt : i < q
  ·have f0 := cell_later hS.below d0
   have hl := hlen i hi
   have hi0 : (0 : Int) <= (i : Int) := by omega
   have hi1 : (i : Int) < (q : Int) := by omega
   have hi2 : (i : Int) < 55 := by omega
   have hin : 1 + b * 55 + i < n := by omega
   have HA := start_any (b : Int) wr hbi0 hbi
   have HR := diskRead_any wr B p n s (1 + (b : Int) * 55 + (i : Int)) (h.later hbr)
   have eF : s.readF n (1 + (b : Int) * 55 + (i : Int)) = 0 := by unfold DSt.readF; rw [hup,if_neg (by decide),if_pos (by omega)]
   have eT : s.readT n (1 + (b : Int) * 55 + (i : Int)) = ⟨(s.K (1 + b * 55 + i)).now.toArray⟩ := by
    unfold DSt.readT
    rw [if_pos eF,show (1 + (b : Int) * 55 + (i : Int)).toNat = 1 + b * 55 + i by omega]
   rw [eF,eT,q0] at HR
   clear eF eT
   have HL : Hid (bodyN s b (i + 1) = bodyN s b i ++ (s.K (1 + b * 55 + i)).now) := rfl
   have hsz := ba_size (s.K (1 + b * 55 + i)).now
   rw [hnow _ hin] at hsz
   have HD : Hid ((⟨(s.K (1 + b * 55 + i)).now.toArray⟩ : ByteArray).data.toList = (s.K (1 + b * 55 + i)).now) := ba_mk _
   generalize (s.K (1 + b * 55 + i)).now = ln at *
   generalize (⟨ln.toArray⟩ : ByteArray) = T at *
   go_wp2_with fail
   refine (show Calls _ _ _ _ _ from HA).mono ?_
   rintro e w2 ⟨rfl,hw2⟩
   subst hw2
   clear HA
   go_wp2_with fail
   refine (show Calls _ _ _ _ _ from HR).mono ?_
   rintro e w2 ⟨rfl,hb2⟩
   clear HR f0
   have HWS := writeString_any W.heap.size W.heap.size (bodyN s b i) T w2 (isBuilder_later hS.is hb2) (by omega) (by omega) (Nat.le_trans hS.below.size hb2.size)
   go_wp2_with fail
   refine (show Calls _ _ _ _ _ from HWS).mono ?_
   rintro e w3 ⟨rfl,hb4⟩
   have hN : Built W w3 (bodyN s b (i + 1)) := by
    have := hS.more hb2 hb4
    rw [HD.out] at this
    rw [HL.out]
    exact this
   clear HWS hb2 hb4 hS
   go_wp2
   go_roundw
   case rel => exact ⟨i + 1,by omega,by go_num,hN⟩
   case measure => simp [intOf]; omega
  ·have e : i = q := by omega
   subst e
   have HG := Tryz.Builder_String_any W.heap.size W.heap.size (bodyN s b i) wr hS.is hS.below.size
   have hl := hlen i (Nat.le_refl _)
   have hsz := ba_size (bodyN s b i)
   have HTR := fun w' => Tryz.strings_TrimRight_one ⟨(bodyN s b i).toArray⟩ 0 (by decide) w' (by omega)
   rw [ba_mk] at HTR
   generalize (⟨(bodyN s b i).toArray⟩ : ByteArray) = T at *
   go_wp2_with fail
   refine (show Calls _ _ _ _ _ from HG).mono ?_
   rintro e w6 ⟨rfl,hb6⟩
   clear HG
   have HT6 := HTR w6
   clear HTR
   go_wp2_with fail
   refine (show Calls _ _ _ _ _ from HT6).mono ?_
   rintro e w7 ⟨rfl,hw7⟩
   subst hw7
   go_wp2
   go_ret2
   exact ⟨rfl,hb0.trans ((hS.below.trans hb6).mono hb0.size)⟩
abbrev markL : List UInt8 := [109,97,114,108,105,110,115,112,105,107,101,32,115,104,101,108,102,32]
def headT (b s : UInt8) : List UInt8 := markL ++ [b,s] ++ List.replicate 44 0
theorem rep44 : Lib.repeatL [(0 : UInt8)] 44 = List.replicate 44 0 := by decide +kernel
set_option maxRecDepth 100000 in
set_option maxHeartbeats 2000000 in
theorem headText_any (b s : Nat) (w : World) (hb : b < 256) (hs : s < 256) :
 Calls Tryz.prog 65 #[.agg #[.int .i64 b,.int .i64 s]] w fun e w' => e = .returned (.string ⟨(headT b.toUInt8 s.toUInt8).toArray⟩) /\ Below w.heap.size w w' := by
 have HR := fun W => Tryz.strings_Repeat ⟨#[0]⟩ 44 W (by decide) (by decide)
 have hb1 : (b : Int) < 256 := by omega
 have hs1 : (s : Int) < 256 := by omega
 have hb0 : (0 : Int) <= (b : Int) := by omega
 have hs0 : (0 : Int) <= (s : Int) := by omega
 have hcv : ∀ (src dst : TypeId),Tryz.prog.underlying src = some (.slice 5) -> Tryz.prog.underlying dst = some .string -> (convert src dst (.slice (some ⟨w.heap.size + 1,0,none⟩) 2 2)).run Tryz.prog ((w.alloc (.cells #[.int .i64 b,.int .i64 s] 116)).alloc (.cells #[.int .u8 b,.int .u8 s] 5)) = .ok (.string ⟨[b.toUInt8,s.toUInt8].toArray⟩) ((w.alloc (.cells #[.int .i64 b,.int .i64 s] 116)).alloc (.cells #[.int .u8 b,.int .u8 s] 5)) := fun src dst hs' hd' => by
  have := run_convert_bytes_back (P := Tryz.prog) ((w.alloc (.cells #[.int .i64 b,.int .i64 s] 116)).alloc (.cells #[.int .u8 b,.int .u8 s] 5)) src dst 5 ⟨w.heap.size + 1,0,none⟩ 2 [b.toUInt8,s.toUInt8] hs' Tryz.underlying5 hd' (fun j hj => by
   match j,hj with
   | 0,_ => simp [go_sem,Addr.add]; omega
   | 1,_ => simp [go_sem,Addr.add]; omega
   | j + 2,hj => exact absurd hj (by simp))
  simpa using this
 have hcv2 := hcv _ _ Tryz.underlying153 Tryz.underlying9
 have HT : Hid (headT b.toUInt8 s.toUInt8 = markL ++ [b.toUInt8,s.toUInt8] ++ Lib.repeatL [(0 : UInt8)] 44) := by rw [rep44]; rfl
 clear hcv
 go_enter Tryz.func65,Tryz.ntmps65
 go_wp2_with fail
 refine (show Calls _ _ _ _ _ from HR _).mono ?_
 rintro e w2 ⟨rfl,hb2⟩
 clear HR hcv2
 go_wp2
 go_ret
 refine ⟨?_,(((Below.refl _ w).alloc (Nat.le_refl _) _).alloc (by simp) _).trans (hb2.mono (by simp; omega))⟩
 rw [HT.out]
 refine congrArg (fun x => Ending.returned (Value.string x)) (WideShapes.bytes_inj ?_)
 simp
def headOf (t : List UInt8) : Option (UInt8 × UInt8) :=
 if (t.getD 18 0).toNat <= 1 /\ (t.getD 19 0).toNat <= 55 /\ headT (t.getD 18 0) (t.getD 19 0) = t then some (t.getD 18 0,t.getD 19 0) else none
def readHeadF (s : DSt) (n : Nat) : Nat × UInt8 × UInt8 :=
 if s.readF n 0 ≠ 0 then (s.readF n 0,0,0) else if n < 112 then (4,0,0) else match headOf (s.K 0).now with | some (b,q) => (0,b,q) | none => (4,0,0)
theorem box2 {w : World} {g : Nat} {a b : Value} {t : TypeId} (h : w.heap[g]? = some (.cells #[a,b] t (0,0))) : w.cell? ⟨g,0,none⟩ = some a /\ w.cell? ⟨g,1,none⟩ = some b /\ w.frozen? ⟨g,0,none⟩ = false /\ w.frozen? ⟨g,1,none⟩ = false :=
 ⟨by simp [World.cell?,h],by simp [World.cell?,h],by simp [World.frozen?,h],by simp [World.frozen?,h]⟩
theorem below2 {B g : Nat} {w w' : World} (h : Below B w w') (hg : B <= g) (a0 a1 : Value) : Below B w ((w'.setCell ⟨g,0,none⟩ a0).setCell ⟨g,1,none⟩ a1) :=
 h.trans ⟨rfl,rfl,rfl,by simp [World.setCell],fun k hk => (Below.heap_setCell _ _ _ _ (Nat.ne_of_lt (Nat.lt_of_lt_of_le hk hg))).trans (Below.heap_setCell _ _ _ _ (Nat.ne_of_lt (Nat.lt_of_lt_of_le hk hg)))⟩
theorem wrap_u8 (x : UInt8) : IntKind.i64.wrap (x.toNat : Int) = (x.toNat : Int) := by
 have := x.toNat_lt
 exact IntWalk.i64_in _ ⟨by omega,by omega⟩
theorem wrap_u8' (x : UInt8) : wrap64 (x.toNat : Int) = (x.toNat : Int) := by
 have h := x.toNat_lt
 generalize x.toNat = k at *
 unfold wrap64
 omega
theorem byte_at (l : List UInt8) {i : Nat} (h : i < (⟨l.toArray⟩ : ByteArray).size) : (⟨l.toArray⟩ : ByteArray)[i] = l.getD i 0 := by
 have h2 : i < l.length := h
 rw [List.getD_eq_getElem?_getD,List.getElem?_eq_getElem h2]
 rfl
theorem errV_num {f : Nat} (h : f ≠ 0) : ∃ n : Int,errV f = .iface 82 (.int .i64 n) := by
 cases f with
 | zero => exact absurd rfl h
 | succ f => exact ⟨_,rfl⟩
set_option maxRecDepth 100000 in
set_option maxHeartbeats 4000000 in
theorem readHead_any (w : World) (B p n : Nat) (s : DSt) (h : Disk w B p n s) (hnow : (s.K 0).now.length = 64) :
 Calls Tryz.prog 67 #[.pointer (some ⟨p,0,none⟩)] w fun e w' => e = .returned (.tuple #[.agg #[.int .i64 ((readHeadF s n).2.1.toNat : Int),.int .i64 ((readHeadF s n).2.2.toNat : Int)],errV (readHeadF s n).1]) /\ Below w.heap.size w w' := by
 have hb0 : Below w.heap.size w (w.alloc (.cells #[.int .i64 0,.int .i64 0] 116)) := (Below.refl _ _).alloc (Nat.le_refl _) _
 have hres : (w.alloc (.cells #[.int .i64 0,.int .i64 0] 116)).heap[w.heap.size]? = some (.cells #[.int .i64 0,.int .i64 0] 116 (0,0)) := Array.getElem?_push_size
 have hz : w.heap.size < (w.alloc (.cells #[.int .i64 0,.int .i64 0] 116)).heap.size := by simp
 have h1 := h.later hb0
 have HR := diskRead_any _ B p n s 0 h1
 generalize hW : w.alloc (.cells #[.int .i64 0,.int .i64 0] 116) = W at *
 by_cases hF : s.readF n 0 = 0
 ·have hT : s.readT n 0 = ⟨(s.K 0).now.toArray⟩ := by unfold DSt.readT; rw [if_pos hF]; rfl
  have q0e : errV 0 = .nilIface := rfl
  rw [hF,q0e,hT] at HR
  have HH : Hid (readHeadF s n = if n < 112 then (4,0,0) else match headOf (s.K 0).now with | some (b,q) => (0,b,q) | none => (4,0,0)) := by unfold readHeadF; rw [if_neg (by simp [hF])]; exact rfl
  have HS := fun W (hb : Below w.heap.size w W) => diskSectors_any W B p n s (h.later hb)
  generalize hTT : (⟨(s.K 0).now.toArray⟩ : ByteArray) = T at HR
  have hTs : T.size = 64 := by rw [<- hTT]; show (s.K 0).now.toArray.size = 64; simp [hnow]
  go_enter Tryz.func67,Tryz.ntmps67
  go_wp2_with fail
  refine (show Calls _ _ _ _ _ from HR).mono ?_
  rintro e w2 ⟨rfl,hb2⟩
  clear HR
  have hbA := hb0.trans (hb2.mono hb0.size)
  have hz2 : w.heap.size < w2.heap.size := Nat.lt_of_lt_of_le hz hb2.size
  have hres2 := (hb2.block _ hz).trans hres
  have HS2 := HS w2 hbA
  clear HS hb2 hres hz
  by_cases hn : n < 112
  ·have HE : Hid (readHeadF s n = (4,0,0)) := by rw [HH.out,if_pos hn]; exact rfl
   have hn' : (n : Int) < 112 := by omega
   obtain ⟨q0,q1,f0,f1⟩ := box2 hres2
   have hNB := below2 hbA (Nat.le_refl w.heap.size) (.int .i64 0) (.int .i64 0)
   clear HH
   go_wp2_with fail
   refine (show Calls _ _ _ _ _ from HS2).mono ?_
   rintro e w3 ⟨rfl,hw3⟩
   subst hw3
   clear HS2
   go_wp2
   refine bodyPost_ret (v := .tuple #[.agg #[.int .i64 0,.int .i64 0],.iface 82 (.int .i64 4)]) (by simp [results,Tryz.results67,go_sem,q0,q1]) rfl ?_
   rw [HE.out]
   exact ⟨rfl,hNB⟩
  ·have hn' : ¬ (n : Int) < 112 := by omega
   have h18 : 18 < T.size := by omega
   have h19 : 19 < T.size := by omega
   go_wp2_with fail
   refine (show Calls _ _ _ _ _ from HS2).mono ?_
   rintro e w3 ⟨rfl,hw3⟩
   subst hw3
   clear HS2
   go_wp2
   refine wp_region_G (fun _ => True) 8 9 (by kernel_rfl) rfl ?_
   have hSS : (fun _ : World => True) w3.drew := trivial
   refine tW 0 hSS ?_
   refine tW 1 hSS ?_
   refine tW 2 hSS ?_
   refine tW 3 hSS ?_
   refine tW 4 hSS ?_
   refine tW 5 hSS ?_
   refine tW 6 hSS ?_
   refine oG 7 fun K hK => ?_
   go_wp2_with fail
   refine hK _ _ trivial ?_
   clear hK
   refine lG 8 fun K hK => ?_
   go_wp2_with fail
   refine hK _ _ ?_
   clear hK
   refine doneG (by kernel_rfl) ?_ _
   have hw8 := wrap_u8 T[18]
   have hw9 := wrap_u8 T[19]
   have hv8 := wrap_u8' T[18]
   have hv9 := wrap_u8' T[19]
   have g18 : T[18] = (s.K 0).now.getD 18 0 := by subst hTT; exact byte_at _ h18
   have g19 : T[19] = (s.K 0).now.getD 19 0 := by subst hTT; exact byte_at _ h19
   simp only [hw8,hw9,hv8,hv9]
   clear hw8 hw9 hv8 hv9
   generalize T[18] = x8 at *
   generalize T[19] = x9 at *
   have G18 : Hid (x8 = (s.K 0).now.getD 18 0) := g18
   have G19 : Hid (x9 = (s.K 0).now.getD 19 0) := g19
   have HNL : Hid (T.data.toList = (s.K 0).now) := by rw [<- hTT]; exact rfl
   clear g18 g19
   have hbx : Below w3.heap.size w3 (w3.alloc (.cells #[.int .i64 (x8.toNat : Int),.int .i64 (x9.toNat : Int)] 116)).drew := ((Below.refl _ _).alloc (Nat.le_refl _) _).drew
   have hbB := hbA.trans (hbx.mono (Nat.le_of_lt hz2))
   have hres4 := (hbx.block _ hz2).trans hres2
   have d0 : (w3.alloc (.cells #[.int .i64 (x8.toNat : Int),.int .i64 (x9.toNat : Int)] 116)).drew.cell? ⟨w3.heap.size,0,none⟩ = some (.int .i64 (x8.toNat : Int)) := by simp [go_sem]
   have d1 : (w3.alloc (.cells #[.int .i64 (x8.toNat : Int),.int .i64 (x9.toNat : Int)] 116)).drew.cell? ⟨w3.heap.size,1,none⟩ = some (.int .i64 (x9.toNat : Int)) := by simp [go_sem]
   have hlt8 := x8.toNat_lt
   have hlt9 := x9.toNat_lt
   have hz4 : w.heap.size < (w3.alloc (.cells #[.int .i64 (x8.toNat : Int),.int .i64 (x9.toNat : Int)] 116)).drew.heap.size := by simp; omega
   have hno : ¬ (x8.toNat <= 1 /\ x9.toNat <= 55 /\ headT x8 x9 = T.data.toList) -> readHeadF s n = (4,0,0) := fun hh => by
    rw [HH.out,if_neg hn]
    unfold headOf
    rw [<- G18.out,<- G19.out,<- HNL.out,if_neg hh]
   have hyes : (x8.toNat <= 1 /\ x9.toNat <= 55 /\ headT x8 x9 = T.data.toList) -> readHeadF s n = (0,x8,x9) := fun hh => by
    rw [HH.out,if_neg hn]
    unfold headOf
    rw [<- G18.out,<- G19.out,<- HNL.out,if_pos hh]
   have HNO : Hid (¬ (x8.toNat <= 1 /\ x9.toNat <= 55 /\ headT x8 x9 = T.data.toList) -> readHeadF s n = (4,0,0)) := hno
   have HYES : Hid ((x8.toNat <= 1 /\ x9.toNat <= 55 /\ headT x8 x9 = T.data.toList) -> readHeadF s n = (0,x8,x9)) := hyes
   clear hno hyes hTT hTs hres2 hbA
   generalize (w3.alloc (.cells #[.int .i64 (x8.toNat : Int),.int .i64 (x9.toNat : Int)] 116)).drew = w4 at *
   by_cases k1 : (1 : Int) < (x8.toNat : Int)
   ·have HE : Hid (readHeadF s n = (4,0,0)) := HNO.out (fun hh => by omega)
    obtain ⟨q0,q1,f0,f1⟩ := box2 hres4
    have hNB := below2 hbB (Nat.le_refl w.heap.size) (.int .i64 0) (.int .i64 0)
    clear HH
    go_wp2
    refine bodyPost_ret (v := .tuple #[.agg #[.int .i64 0,.int .i64 0],.iface 82 (.int .i64 4)]) (by simp [results,Tryz.results67,go_sem,q0,q1]) rfl ?_
    rw [HE.out]
    exact ⟨rfl,hNB⟩
   by_cases k2 : (55 : Int) < (x9.toNat : Int)
   ·have HE : Hid (readHeadF s n = (4,0,0)) := HNO.out (fun hh => by omega)
    obtain ⟨q0,q1,f0,f1⟩ := box2 hres4
    have hNB := below2 hbB (Nat.le_refl w.heap.size) (.int .i64 0) (.int .i64 0)
    clear HH
    go_wp2
    refine bodyPost_ret (v := .tuple #[.agg #[.int .i64 0,.int .i64 0],.iface 82 (.int .i64 4)]) (by simp [results,Tryz.results67,go_sem,q0,q1]) rfl ?_
    rw [HE.out]
    exact ⟨rfl,hNB⟩
   have HT := headText_any x8.toNat x9.toNat w4 (by omega) (by omega)
   have u8 : x8.toNat.toUInt8 = x8 := by simp
   have u9 : x9.toNat.toUInt8 = x9 := by simp
   rw [u8,u9] at HT
   clear u8 u9
   go_wp2_with fail
   refine (show Calls _ _ _ _ _ from HT).mono ?_
   rintro e w5 ⟨rfl,hb5⟩
   clear HT
   have hres5 := (hb5.block _ hz4).trans hres4
   have hbC := hbB.trans (hb5.mono hbB.size)
   have e0 := cell_later hb5 d0
   have e1 := cell_later hb5 d1
   obtain ⟨q0,q1,f0,f1⟩ := box2 hres5
   clear d0 d1 hbB hres4 hres5 HH
   by_cases hEq : (⟨(headT x8 x9).toArray⟩ : ByteArray) = T
   ·have HE : Hid (readHeadF s n = (0,x8,x9)) := HYES.out ⟨by omega,by omega,by rw [<- hEq]⟩
    have hNB := below2 hbC (Nat.le_refl w.heap.size) (.int .i64 (x8.toNat : Int)) (.int .i64 (x9.toNat : Int))
    rw [hEq]
    clear hEq
    go_wp2
    refine bodyPost_ret (v := .tuple #[.agg #[.int .i64 (x8.toNat : Int),.int .i64 (x9.toNat : Int)],.nilIface]) (by simp [results,Tryz.results67,go_sem,q0,q1]) rfl ?_
    rw [HE.out]
    exact ⟨rfl,hNB⟩
   ·have HE : Hid (readHeadF s n = (4,0,0)) := HNO.out (fun hh => hEq (by rw [hh.2.2]))
    have hNB := below2 hbC (Nat.le_refl w.heap.size) (.int .i64 0) (.int .i64 0)
    generalize (⟨(headT x8 x9).toArray⟩ : ByteArray) = U at *
    have hne : (U.toList == T.toList) = false := by rw [toList_beq]; exact decide_eq_false hEq
    clear hEq
    go_wp2
    refine bodyPost_ret (v := .tuple #[.agg #[.int .i64 0,.int .i64 0],.iface 82 (.int .i64 4)]) (by simp [results,Tryz.results67,go_sem,q0,q1]) rfl ?_
    rw [HE.out]
    exact ⟨rfl,hNB⟩
 ·have HE : Hid (readHeadF s n = (s.readF n 0,0,0)) := by unfold readHeadF; rw [if_pos hF]; exact rfl
  obtain ⟨z,hzz⟩ := errV_num hF
  rw [hzz] at HR
  generalize s.readT n 0 = T at *
  go_enter Tryz.func67,Tryz.ntmps67
  go_wp2_with fail
  refine (show Calls _ _ _ _ _ from HR).mono ?_
  rintro e w2 ⟨rfl,hb2⟩
  clear HR
  obtain ⟨q0,q1,f0,f1⟩ := box2 ((hb2.block _ hz).trans hres)
  have hNB := below2 (hb0.trans (hb2.mono hb0.size)) (Nat.le_refl w.heap.size) (.int .i64 0) (.int .i64 0)
  go_wp2
  refine bodyPost_ret (v := .tuple #[.agg #[.int .i64 0,.int .i64 0],.iface 82 (.int .i64 z)]) (by simp [results,Tryz.results67,go_sem,q0,q1]) rfl ?_
  rw [HE.out,hzz]
  exact ⟨rfl,hNB⟩
def headB (b q : UInt8) : ByteArray := ⟨(headT b q).toArray⟩
theorem headB_size (b q : UInt8) : (headB b q).size = 64 := by
 show (headT b q).toArray.size = 64
 simp [headT]
def DSt.headF (s : DSt) (n : Nat) (b q : UInt8) : Nat := if s.writeF n 0 (headB b q) = 0 then (s.wrote n 0 (headB b q)).flushF else s.writeF n 0 (headB b q)
def DSt.headed (s : DSt) (n : Nat) (b q : UInt8) : DSt := if s.writeF n 0 (headB b q) = 0 then (s.wrote n 0 (headB b q)).flushed else s.wrote n 0 (headB b q)
set_option maxRecDepth 100000 in
set_option maxHeartbeats 2000000 in
theorem writeHead_any (w : World) (B p n : Nat) (s : DSt) (b q : UInt8) (h : Disk w B p n s) :
 Calls Tryz.prog 48 #[.pointer (some ⟨p,0,none⟩),.agg #[.int .i64 (b.toNat : Int),.int .i64 (q.toNat : Int)]] w fun e w' => e = .returned (errV (s.headF n b q)) /\ Disk w' B p n (s.headed n b q) /\ Spun B w w' := by
 have hb0 : Below w.heap.size w (w.alloc (.cells #[.int .i64 (b.toNat : Int),.int .i64 (q.toNat : Int)] 116)) := (Below.refl _ _).alloc (Nat.le_refl _) _
 have HT := headText_any b.toNat q.toNat (w.alloc (.cells #[.int .i64 (b.toNat : Int),.int .i64 (q.toNat : Int)] 116)) b.toNat_lt q.toNat_lt
 have u8 : b.toNat.toUInt8 = b := by simp
 have u9 : q.toNat.toUInt8 = q := by simp
 rw [u8,u9] at HT
 have eT : (⟨(headT b q).toArray⟩ : ByteArray) = headB b q := rfl
 rw [eT] at HT
 have hS := headB_size b q
 unfold DSt.headF DSt.headed
 generalize headB b q = T at *
 have h1 := h.later hb0
 have hB := h.base
 clear u8 u9 eT
 by_cases hF : s.writeF n 0 T = 0
 ·rw [if_pos hF,if_pos hF]
  go_enter Tryz.func48,Tryz.ntmps48
  go_wp2_with fail
  refine (show Calls _ _ _ _ _ from HT).mono ?_
  rintro e w2 ⟨rfl,hb2⟩
  clear HT
  have hb3 := hb0.trans (hb2.mono hb0.size)
  have HW := diskWrite_any w2 B p n s 0 T (h.later hb3) (by rw [hS]; decide)
  clear hb0 hb2 h1
  rw [hF] at HW
  have q0 : errV 0 = .nilIface := rfl
  rw [q0] at HW
  clear hF
  go_wp2_with fail
  refine (show Calls _ _ _ _ _ from HW).mono ?_
  rintro e w4 ⟨rfl,hD,hSp⟩
  clear HW
  have hSp2 := (Spun.of hB hb3).trans hSp
  have HFl := diskFlush_any w4 B p n _ hD
  go_wp2_with fail
  refine (show Calls _ _ _ _ _ from HFl).mono ?_
  rintro e w5 ⟨rfl,hD5,hS5⟩
  clear HFl
  go_wp2
  go_ret
  exact ⟨rfl,hD5,hSp2.trans hS5⟩
 ·rw [if_neg hF,if_neg hF]
  obtain ⟨z,hz⟩ := errV_num hF
  rw [hz]
  go_enter Tryz.func48,Tryz.ntmps48
  go_wp2_with fail
  refine (show Calls _ _ _ _ _ from HT).mono ?_
  rintro e w2 ⟨rfl,hb2⟩
  clear HT
  have hb3 := hb0.trans (hb2.mono hb0.size)
  have HW := diskWrite_any w2 B p n s 0 T (h.later hb3) (by rw [hS]; decide)
  clear hb0 hb2 h1
  rw [hz] at HW
  clear hF hz
  go_wp2_with fail
  refine (show Calls _ _ _ _ _ from HW).mono ?_
  rintro e w4 ⟨rfl,hD,hSp⟩
  clear HW
  have hSp2 := (Spun.of hB hb3).trans hSp
  go_wp2
  go_ret
  exact ⟨rfl,hD,hSp2⟩
end Go.Proofs.YtagfngiaogckpaaGreatDoor
