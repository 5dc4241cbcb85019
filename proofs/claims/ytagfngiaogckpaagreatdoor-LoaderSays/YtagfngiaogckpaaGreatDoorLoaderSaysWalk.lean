/- What is said of chapter 12: the law LoaderSays returns true, for all acts; memory that was there stays as it was. -/
import Derived.Test.YtagfngiaogckpaaGreatDoorFiledWalk
namespace Go.Proofs.YtagfngiaogckpaaGreatDoor
open Go.RowKit Go.Maps
theorem getE_few {E : Nat -> EntF} {k : Nat} (root : ByteArray) (h : ShelfOk E k) : (getE E k root).2.nP <= 1000 := by
 unfold getE
 split
 ·exact (by decide : emptyE.nP <= 1000)
 ·obtain ⟨j,_,hj,_,hfj⟩ := findF_some _ 0 rfl (show 0 <= findF E root k 0 by omega)
  rw [hfj]
  have h1 := (h.ent hj).nP
  exact show (E j).nP <= 1000 by omega
theorem roots_rowL {w : World} {B k : Nat} {v : Value} {E : Nat -> EntF} (h : w.ownsRow B 9 1 v k (joinC (rootC E) k)) : ∃ a c,v = .slice a k c /\ RowAt w a k fun i => .string (E i).root := by
 obtain ⟨a,c,e,hr⟩ := rowsR h
 exact ⟨a,c,e,hr.imp id fun ⟨bk,ha,hc⟩ => ⟨bk,0,ha,fun i hi => by rw [Nat.zero_add]; exact hc i hi⟩⟩
structure LSays (w wr : World) (B p m q l g pf bm : Nat) (s : DSt) (vl : Value) (k : Nat) (V : Nat -> EntV) (E : Nat -> EntF) (D : DataW Unit) (L : List FileR) (kf : Nat) : Prop where
 disk : Disk wr B p 112 s
 stands : Stands s 112 E k
 calm : s.left = -1
 ref : RShelf wr w.heap.size w.heap.size m vl k V E
 loader : LoaderAt wr l pf g
 shelf : ShelfAt wr g p
 both : Both w.heap.size wr pf bm q D L kf
 names : NamesOk D
 pos : StampsPos D
 held : ∀ i,i < k -> Held D kf (E i)
 below : Below w.heap.size w wr
theorem LSays.later {w wr w' : World} {B p m q l g pf bm : Nat} {s : DSt} {vl : Value} {k : Nat} {V : Nat -> EntV} {E : Nat -> EntF} {D : DataW Unit} {L : List FileR} {kf : Nat} (h : LSays w wr B p m q l g pf bm s vl k V E D L kf) (hb : Below wr.heap.size wr w') : LSays w w' B p m q l g pf bm s vl k V E D L kf :=
 { h with disk := h.disk.later hb,ref := h.ref.later h.below.size hb,loader := h.loader.later hb,shelf := h.shelf.later hb,both := h.both.later hb,below := h.below.trans (hb.mono h.below.size) }
theorem build_tie {s s' : DSt} {n : Nat} {E : Nat -> EntF} {k : Nat} {D : DataW Unit} {kf : Nat} {T : ByteArray -> ByteArray} {S : ByteArray -> Int} {root : ByteArray} {e : Ending} (h : BuildEnd s n E k (rdD D T) S root s' e) (hSt : Stands s n E k) (hl : s.left = -1) (hI : Inv D kf) (hT : Texts D T) (hS : Stamps D S) (hH : ∀ i,i < k -> Held D kf (E i)) :
 ∃ (F : Nat) (r : (Nat -> EntF) × Nat),e = .returned (errV F) /\ s'.left = -1 /\ Stands s' n r.1 r.2 /\ (∀ i,i < r.2 -> Held D kf (r.1 i)) /\ ∀ F' r',RBuilt E k (rdD D T) S root F' r' -> F' = F /\ r' = r := by
 cases h with
 | bad F h1 hf hs =>
  subst hs
  refine ⟨F,(E,k),rfl,hl,hSt,hH,fun F' r' hB => ?_⟩
  cases hB with
  | bad F' h2 hf2 => exact ⟨h2.unique h1,rfl⟩
  | put m Bs P Q h2 => exact (h1.not h2).elim
 | put m Bs P Q e h1 hp =>
  obtain ⟨he,hl',hSt'⟩ := hp.calm hSt hl putE_kept
  refine ⟨_,(putE E k (madeE (rdD D T) S root m Bs (patsAt (rdD D T) root m Bs P Q))).2,he,hl',hSt',held_putE hH (Held.new hI hT hS h1),fun F' r' hB => ?_⟩
  cases hB with
  | bad F' h2 hf2 => exact (h2.not h1).elim
  | put m' Bs' P' Q' h2 =>
   obtain ⟨rfl,rfl,rfl,rfl⟩ := h2.unique h1
   exact ⟨rfl,rfl⟩
theorem rload_which {w : World} {B0 : Nat} {rd : ByteArray -> Nat × ObjF} {root : ByteArray} {u v : Value} {F : Nat} (h : RLoadEnd w B0 rd root (.returned (.tuple #[u,v,.int .i64 (F : Int)]))) :
 (F ≠ 0 /\ u = .slice none 0 0 /\ ReckIs rd root F) ∨ (F = 0 /\ ∃ m Bs P Q A C,Reckoned rd root m Bs P Q /\ RPs w B0 u m (nmAt rd root) Bs A (fun i => (obAt rd root i).nW) C (boundW rd root m Bs P Q)) := by
 generalize hE : Ending.returned (.tuple #[u,v,.int .i64 (F : Int)]) = e at h
 cases h with
 | bad F' h hf =>
  simp only [Ending.returned.injEq,Value.tuple.injEq,Array.mk.injEq,List.cons.injEq,Value.int.injEq,and_true,true_and] at hE
  obtain ⟨rfl,_,h3⟩ := hE
  have : F = F' := by omega
  subst this
  exact .inl ⟨hf,rfl,h⟩
 | ok m Bs P Q u' v' A C h hu hv =>
  simp only [Ending.returned.injEq,Value.tuple.injEq,Array.mk.injEq,List.cons.injEq,Value.int.injEq,and_true,true_and] at hE
  obtain ⟨rfl,_,h3⟩ := hE
  exact .inr ⟨by omega,m,Bs,P,Q,A,C,h,hu⟩
abbrev kwWrite : ByteArray := ⟨#[119,114,105,116,101]⟩
abbrev kwRemove : ByteArray := ⟨#[114,101,109,111,118,101]⟩
set_option maxRecDepth 100000 in
set_option maxHeartbeats 16000000 in
theorem loads_any (w : World) (hE : Env w) : Calls Tryz.prog 4 #[] w fun e w' => e = .returned (.bool true) /\ Below w.heap.size w w' := by
 have HS := lawShelved_any w (fun _ => emptyE) hE
 go_enter Tryz.func4,Tryz.ntmps4
 go_wp2_with fail
 refine (show Calls _ _ _ _ _ from HS).mono ?_
 rintro e w1 ⟨p,g0,rfl,_,_,⟨s,hD1,hSt,hl⟩,hb1⟩
 clear HS
 have HN := new_any w1
 go_wp2_with fail
 refine (show Calls _ _ _ _ _ from HN).mono ?_
 rintro e w2 ⟨pf,bm,rfl,hp,hbm,hF2,hb2⟩
 clear HN
 have hD2 := hD1.later hb2
 have hb2' := hb1.trans (hb2.mono hb1.size)
 have hp' : w.heap.size <= pf := Nat.le_trans hb1.size hp
 have hbm' : w.heap.size <= bm := Nat.le_trans hb1.size hbm
 have HW := write_any w2 pf bm (.map []) 0 bnA zzT hF2 (by decide) (by simp [Maps.size])
 rw [write_ia] at HW
 clear hD1 hb1 hb2 hp hbm
 go_wp2_with fail
 refine (show Calls _ _ _ _ _ from HW).mono ?_
 rintro e w3 ⟨rfl,hyes,_,hT3⟩
 clear HW
 have hF3 : FilesAt w3 pf bm fia 1 := hyes rfl
 have hD3 := hD2.turned hF2 hT3
 have hb3 := hb2'.trans (hT3.below hb2'.size hp' hbm')
 have HL := loaderNew_any w3 w.heap.size p 112 pf s (fun _ => emptyE) 0 hD3 hSt (hE.later hb3)
 rw [show errV 0 = .nilIface from rfl]
 clear hyes hT3 hD2 hF2 hb2'
 go_wp2_with fail
 refine (show Calls _ _ _ _ _ from HL).mono ?_
 rintro e w4 ⟨l,g,rfl,_,hl4,hg4,hb4⟩
 clear HL
 have hD4 := hD3.later hb4
 have hF4 := hF3.later hb4
 have hb4' := hb3.trans (hb4.mono hb3.size)
 obtain ⟨T,hT⟩ := texts_some fia
 obtain ⟨S,hS⟩ := stamps_some fia
 obtain ⟨P,Q,hR,hbd,hnW,_⟩ := reck_one (rd_ia hT)
 have HL1 := loaderLoad_any w4 w.heap.size p 112 l g pf bm s (fun _ => emptyE) 0 fia 1 T S bnA hD4 hSt hl4 hg4 (hE.later hb4') hF4 inv_ia hT hS (by decide)
 have hg0 : getE (fun _ => emptyE) 0 bnA = (false,emptyE) := if_pos (by rw [findF_end (by decide)]; decide)
 clear hD3 hF3 hb3 hb4
 go_wp2_with fail
 refine (show Calls _ _ _ _ _ from HL1).mono ?_
 rintro e w5 ⟨hLE,hb5⟩
 clear HL1
 obtain ⟨u1,F1,_,_,rfl,_,_,_,hLd1⟩ := loads_flag hLE inv_ia hT hS (fun i hi => absurd hi (Nat.not_lt_zero _))
 obtain ⟨rfl,_⟩ := hLd1.good hR
 rw [hg0]
 dsimp only [Bool.false_and]
 rw [show errV 0 = .nilIface from rfl]
 have hD5 := hD4.later hb5
 have hF5 := hF4.later hb5
 have hl5 := hl4.later hb5
 have hg5 := hg4.later hb5
 have hb5' := hb4'.trans (hb5.mono hb4'.size)
 have hN : NamesOk fia := fun x hx => by
  by_cases e : x = bnA
  ·subst e; decide
  ·rw [has_put_other (fun q => e (keyB_inj' q))] at hx
   simp [Maps.has] at hx
 have hP : StampsPos fia := StampsPos.put Inv.empty StampsPos.empty
 have HB := loaderBuild_any w5 w.heap.size p 112 l g pf bm s (fun _ => emptyE) 0 fia 1 T S bnA hD5 hSt hl5 hg5 (hE.later hb5') hF5 inv_ia hN hP hT hS (by decide) (by decide)
 clear hLE hLd1 hD4 hF4 hl4 hg4 hb4' hb5
 go_wp2_with fail
 refine (show Calls _ _ _ _ _ from HB).mono ?_
 rintro e w6 ⟨s6,hBE,hD6,hS6⟩
 clear HB
 have hb6 := hb5'.trans hS6.below
 have hF6 := hF5.spun hS6
 have hl6 := hl5.spun hS6
 have hg6 := hg5.spun hS6
 cases hBE with
 | bad F h1 hf hs => exact (h1.not hR).elim
 | put m Bs P' Q' e h1 hpu =>
  obtain ⟨rfl,rfl,rfl,rfl⟩ := h1.unique hR
  have hEF := made_entF (S := S) inv_ia hN hP hS (by decide) h1
  have hfr := made_fresh (S := S) inv_ia h1
  have hheld := held_putE (D := fia) (kf := 1) (E := fun _ => emptyE) (k := 0) (fun i hi => absurd hi (Nat.not_lt_zero _)) (Held.new inv_ia hT hS h1)
  generalize hen : madeE (rdD fia T) S bnA 1 (fun _ => 0) (patsAt (rdD fia T) bnA 1 (fun _ => 0) P' Q') = en at *
  have hrt : en.root = bnA := by rw [<- hen]; rfl
  have er : putE (fun _ => emptyE) 0 en = (0,addV (fun _ => emptyE) 0 en,1) := putE_add hEF (by rw [findF_end (by decide)]; decide) (by decide)
  obtain ⟨he,hl',hSt6⟩ := hpu.calm hSt hl putE_kept
  subst he
  have hget : getE (putE (fun _ => emptyE) 0 en).2.1 (putE (fun _ => emptyE) 0 en).2.2 bnA = (true,en) := by
   rw [<- hrt]
   exact getE_put rfl (by rw [er]) hSt6.good.once
  rw [er] at hSt6 hget hheld
  dsimp only at hSt6 hget hheld
  rw [er]
  dsimp only
  rw [show errV 0 = .nilIface from rfl]
  have HL2 := loaderLoad_any w6 w.heap.size p 112 l g pf bm s6 _ 1 fia 1 T S bnA hD6 hSt6 hl6 hg6 (hE.later hb6) hF6 inv_ia hT hS (by decide)
  clear hpu hEF er hS6 hD5 hF5 hl5 hg5 hb5'
  go_wp2_with fail
  refine (show Calls _ _ _ _ _ from HL2).mono ?_
  rintro e w7 ⟨hLE,hb7⟩
  clear HL2
  obtain ⟨u2,F2,w7',B7,rfl,_,_,hb7',hLd2⟩ := loads_flag hLE inv_ia hT hS hheld
  obtain ⟨rfl,g2,A2,C2,G2,hPI⟩ := hLd2.good hR
  rw [hget]
  dsimp only
  rw [hfr]
  rw [show (true && true) = true from rfl,show errV 0 = .nilIface from rfl]
  have hb8 := hb6.trans (hb7.mono hb6.size)
  obtain ⟨au,cu,rfl,_,hrow0⟩ := parts_row hPI
  have hrow := hrow0.later hb7'
  rcases hrow with h0 | ⟨bu,ou,rfl,hcu⟩
  ·cases h0
  obtain ⟨_,_,c2,hrw⟩ := hcu 0 (by decide)
  dsimp only at c2 hrw
  have HS0 := fun W => same_nil 0 W
  have hrw1 : RowAt w7 (A2 0) 1 fun _ => .int .i64 3 := by
   rw [hnW] at hrw
   rcases hrw with h0 | ⟨bw,ow,ha,hc⟩
   ·cases h0
   ·exact .inr ⟨bw,ow,ha,fun i hi => by
     obtain rfl : i = 0 := by omega
     rw [hc 0 (by decide)]; show some (Value.int .i64 _) = some (Value.int .i64 3); rw [hbd]⟩
  rw [hnW] at c2
  have HSN := fun (W : World) (hW : Below w7.heap.size w7 W) (a4 : Option Addr) (hr4 : RowAt W a4 1 fun _ => .int .i64 3) => sameNumbers_any (fun _ => 3) (fun _ => 3) 1 1 (A2 0) a4 (C2 0) 1 W (by decide) (hrw1.later hW) hr4
  clear hLE hLd2 hPI hrow0 hcu hrw hbd hT hS hR h1 hfr hheld hget hSt6 hb7 hb7' hrt hen hg0
  go_wp2_with fail
  refine (show Calls _ _ _ _ _ from HS0 _).mono ?_
  rintro e w8 ⟨rfl,rfl⟩
  go_wp2_with fail
  refine (show Calls _ _ _ _ _ from HS0 _).mono ?_
  rintro e w8 ⟨rfl,rfl⟩
  go_wp2_with fail
  refine (show Calls _ _ _ _ _ from HS0 _).mono ?_
  rintro e w8 ⟨rfl,rfl⟩
  go_wp2_with fail
  refine (HSN _ ((Below.refl _ _).alloc (Nat.le_refl _) _) _ (.inr ⟨_,_,rfl,fun i hi => ?_⟩)).mono ?_
  ·obtain rfl : i = 0 := by omega
   simp [go_sem]
  rintro e w9 ⟨rfl,kq,rfl⟩
  go_wp2
  go_ret
  exact ⟨ret_bool (by simp [eqTo]),below_drewN (hb8.alloc hb8.size _) _⟩
set_option maxRecDepth 100000 in
set_option maxHeartbeats 32000000 in
theorem loaderSays_walk (a : Option Addr) (n c : Nat) (X : Nat -> ActF) (w : World) (hE : Env w) (hr : ActsRow w a n X) (hf : ∀ i,i < n -> ActFit (X i)) :
 Calls Tryz.prog 3 #[.slice a n c] w fun e w' => e = .returned (.bool true) /\ Below w.heap.size w w' := by
 have HC := loads_any w hE
 go_enter Tryz.func3,Tryz.ntmps3
 go_wp2_with fail
 refine (show Calls _ _ _ _ _ from HC).mono ?_
 rintro e w1 ⟨rfl,hb1⟩
 clear HC
 have HL := lightActs_any a n c 40 X w1 (by decide) (hr.later hb1) hf
 go_wp2_with fail
 refine (show Calls _ _ _ _ _ from HL).mono ?_
 rintro e w2 ⟨⟨b,rfl,hlb⟩,hb2'⟩
 have hb2 := hb1.trans (hb2'.mono hb1.size)
 clear HL hb2' hb1 hf
 cases b with
 | false =>
  clear hlb hr
  go_wp2
  go_ret
  exact ⟨rfl,hb2⟩
 | true =>
 obtain ⟨h40,hsz⟩ := hlb rfl
 clear hlb
 have HS := lawShelved_any w2 (fun _ => emptyE) (hE.later hb2)
 go_wp2_with fail
 refine (show Calls _ _ _ _ _ from HS).mono ?_
 rintro e w3 ⟨p,g0,rfl,_,_,⟨s,hD3,hSt,hl⟩,hb3⟩
 clear HS
 have hBw := hb2.size
 generalize w2.heap.size = B at *
 have hb3' := hb2.trans (hb3.mono hBw)
 have HN := new_any w3
 clear hb3 hb2
 go_wp2_with fail
 refine (show Calls _ _ _ _ _ from HN).mono ?_
 rintro e w4 ⟨pf,bm,rfl,hp,hbm,hF4,hb4⟩
 clear HN
 have hD4 := hD3.later hb4
 have hb4' := hb3'.trans (hb4.mono hb3'.size)
 have hpf : w.heap.size <= pf := Nat.le_trans hb3'.size hp
 have hbmw : w.heap.size <= bm := Nat.le_trans hb3'.size hbm
 have HLn := loaderNew_any w4 B p 112 pf s (fun _ => emptyE) 0 hD4 hSt (hE.later hb4')
 clear hD3 hb3' hb4 hp hbm
 go_wp2_with fail
 refine (show Calls _ _ _ _ _ from HLn).mono ?_
 rintro e w5 ⟨l,g,rfl,_,hl5,hg5,hb5⟩
 clear HLn
 have hb5' := hb4'.trans (hb5.mono hb4'.size)
 have hbx : Below w5.heap.size w5 (w5.alloc (.cells #[.slice none 0 0,.int .i64 0] 39)) := (Below.refl _ _).alloc (Nat.le_refl _) _
 have hbl : (w5.alloc (.cells #[.slice none 0 0,.int .i64 0] 39)).heap[w5.heap.size]? = some (.cells #[.slice none 0 0,.int .i64 0] 39 (0,0)) := Array.getElem?_push_size
 have hB6 : Both w.heap.size (w5.alloc (.cells #[.slice none 0 0,.int .i64 0] 39)) pf bm w5.heap.size (.map []) [] 0 := ⟨(hF4.later hb5).later hbx,⟨hb5'.size,.slice none 0 0,hbl,World.ownsRow_nil _ _ _ _⟩,Inv.empty,Agree.empty,by omega⟩
 have hD6 := (hD4.later hb5).later hbx
 have hl6 := hl5.later hbx
 have hg6 := hg5.later hbx
 have hb6 := hb5'.trans (hbx.mono hb5'.size)
 have hqB : w.heap.size <= w5.heap.size := hb5'.size
 have hBq : B <= (w5.alloc (.cells #[.slice none 0 0,.int .i64 0] 39)).heap.size := hD6.base
 clear hD4 hF4 hl5 hg5 hb5 hbx hbl hb5' hb4'
 go_upto_region 12 with fail
 generalize w5.alloc (.cells #[.slice none 0 0,.int .i64 0] 39) = w6 at *
 generalize w5.heap.size = q at *
 have hbx : Below w6.heap.size w6 (w6.alloc (.cells #[.slice none 0 0] 43)) := (Below.refl _ _).alloc (Nat.le_refl _) _
 have hbl : (w6.alloc (.cells #[.slice none 0 0] 43)).heap[w6.heap.size]? = some (.cells #[.slice none 0 0] 43 (0,0)) := Array.getElem?_push_size
 have hS7 : LSays w (w6.alloc (.cells #[.slice none 0 0] 43)) B p w6.heap.size q l g pf bm s (.slice none 0 0) 0 (fun _ => ⟨none,0,none,0⟩) (fun _ => emptyE) (.map []) [] 0 :=
  ⟨hD6.later hbx,hSt,hl,⟨hbl,⟨World.ownsRow_nil _ _ _ _,fun i hi => absurd hi (Nat.not_lt_zero _)⟩,by decide,fun i _ hi => absurd hi (Nat.not_lt_zero _)⟩,hl6.later hbx,hg6.later hbx,hB6.later hbx,NamesOk.empty,StampsPos.empty,fun i hi => absurd hi (Nat.not_lt_zero _),hb6.trans (hbx.mono hb6.size)⟩
 have hBm : w.heap.size <= w6.heap.size := hb6.size
 clear hD6 hSt hl hl6 hg6 hB6 hbx hbl hb6 hBq
 go_upto_block 0 with fail
 generalize w6.alloc (.cells #[.slice none 0 0] 43) = w7 at *
 generalize w6.heap.size = m at *
 go_wp2
 go_loopw [7,11] (fun y7 y11 wr => ∃ (i l g : Nat) (s : DSt) (vl : Value) (k : Nat) (V : Nat -> EntV) (E : Nat -> EntF) (D : DataW Unit) (L : List FileR) (kf : Nat),i <= n /\ y11 = .int .i64 i /\ y7 = .pointer (some ⟨l,0,none⟩) /\ kf <= i /\ LSays w wr B p m q l g pf bm s vl k V E D L kf) (fun _ y11 _ => n - (intOf y11).toNat)
 case atStart => exact ⟨0,l,g,s,_,0,_,_,_,_,0,Nat.zero_le _,rfl,rfl,Nat.le_refl _,hS7⟩
 case round =>
  clear hS7
  obtain ⟨i,l,g,s,vl,k,V,E,D,L,kf,hi,rfl,rfl,hkf,hSA⟩ := hrel
  by_cases hlt : i < n
  ·have hb := hSA.below
   have hr2 := hr.later hb
   rcases hr2 with h0 | ⟨bk,o,hao,hc⟩
   ·omega
   have H := hc i hlt
   obtain ⟨hz1,hz2⟩ := hsz i hlt
   have hml : (X i).s.size <= maxLen := by simp only [maxLen]; omega
   subst hao
   generalize X i = x at *
   have d0 := H.c0
   have d1 := H.c1
   have d2 := H.c2
   have d3 := H.c3
   have d4 := H.c4
   have d5 := H.c5
   have d6 := H.c6
   have d7 := H.c7
   have hi0 : (0 : Int) <= (i : Int) := by omega
   have hi1 : (i : Int) < (n : Int) := by omega
   have hbA : Below wr.heap.size wr (wr.alloc (.cells (actCs x) 50)) := (Below.refl _ _).alloc (Nat.le_refl _) _
   have hCp : ActCopy (wr.alloc (.cells (actCs x) 50)) wr.heap.size x := ⟨heap_alloc_new _ _⟩
   have cK := hCp.c0
   have hSA1 := hSA.later hbA
   clear hc H hr hSA hbA hb hsz
   go_upto_block 2 with fail
   clear d0 d1 d2 d3 d4 d5 d6 d7 cK
   generalize wr.alloc (.cells (actCs x) 50) = A1 at *
   generalize wr.heap.size = b8 at *
   go_cut [7,13,14,15,16,17,18,19,20,21] from 71 to 169 (fun y7 y13 _ _ _ _ _ _ _ _ wc => ∃ (l g : Nat) (s : DSt) (vl : Value) (k : Nat) (V : Nat -> EntV) (E : Nat -> EntF) (D : DataW Unit) (L : List FileR) (kf : Nat),y7 = .pointer (some ⟨l,0,none⟩) /\ y13 = .bool true /\ kf <= i + 1 /\ LSays w wc B p m q l g pf bm s vl k V E D L kf)
   case first =>
    have hL6 : L.length <= 1000 := by have := hSA1.both.len; omega
    by_cases hk1 : x.kind = kwWrite
    ·have e1 : (x.kind.toList == [119,114,105,116,101]) = true := by rw [hk1,ByteArray.toList_eq]; rfl
     have hSA2 := hSA1.later (Below.refl _ A1).drew
     have hCp2 := hCp.later (Below.refl _ A1).drew
     have hz6 : Maps.size D <= 1000 := by have := hSA2.both.inv.size; omega
     obtain ⟨F,hFw⟩ : ∃ F,writeF D kf x.s x.t = F := ⟨_,rfl⟩
     have hFr : writeRF L kf x.s x.t = F := (hSA2.both.agree.fault hSA2.both.inv hSA2.both.f.own hSA2.both.most x.s x.t).symm.trans hFw
     have HW := write_any A1.drew pf bm D kf x.s x.t hSA2.both.f hml hz6
     have HWR := fun W (hW : RAt w.heap.size W q L kf) (hWB : w.heap.size <= W.heap.size) => writeR_any w.heap.size W q L kf x.s x.t hW hL6 hWB hml hSA2.both.most
     rw [hFw] at HW
     rw [hFr] at HWR
     have hdi := doneD_inv (X := fun _ => x) (q := (D,kf)) hSA2.both.inv 1
     obtain ⟨hdn,hdk⟩ := doneD_more (X := fun _ => x) (q := (D,kf)) hSA2.names 1
     have hdp := doneD_pos (X := fun _ => x) (q := (D,kf)) hSA2.both.inv hSA2.pos 1
     have hdh : ∀ j,j < k -> Held (doneD (D,kf) (fun _ => x) 1).1 (doneD (D,kf) (fun _ => x) 1).2 (E j) := fun j hj => (hSA2.held j hj).step fun D0 k0 h => h.done (q := (D,kf)) hSA2.both.inv 1
     have hdo : F = 0 -> doneD (D,kf) (fun _ => x) 1 = (D.put (keyB x.s) (fileD x.t.data.toList ((kf : Int) + 1)),kf + 1) := fun h0 => by
      show actD (D,kf) x = _
      unfold actD
      rw [if_pos (show x.kind = kWrite from hk1),if_pos (show writeF D kf x.s x.t = 0 from hFw.trans h0)]
     have HDO : Hid (F = 0 -> doneD (D,kf) (fun _ => x) 1 = (D.put (keyB x.s) (fileD x.t.data.toList ((kf : Int) + 1)),kf + 1)) := hdo
     have HF0 : Hid (writeF D kf x.s x.t = F) := hFw
     clear hFw hFr hdo hk1 hSA1 hCp
     have mkS : ∀ W : World,ActCopy W b8 x -> (fun w' : World => w'.cell? ⟨b8,1,none⟩ = some (.string x.s) /\ w'.cell? ⟨b8,2,none⟩ = some (.string x.t)) W := fun W h => ⟨h.c1,h.c2⟩
     have hSS := mkS _ hCp2
     go_upto_region 23 with fail
     refine wp_region_G (fun w' : World => w'.cell? ⟨b8,1,none⟩ = some (.string x.s) /\ w'.cell? ⟨b8,2,none⟩ = some (.string x.t)) 11 14 (by kernel_rfl) rfl ?_
     generalize A1.drew = A2 at *
     refine tW 0 hSS ?_
     refine tW 1 hSS ?_
     refine tW 3 hSS ?_
     refine tW 6 hSS ?_
     refine tW 7 hSS ?_
     refine tW 9 hSS ?_
     refine tR 2 [5] hSS ?_
     refine tR 4 [5] hSS ?_
     refine tR 8 [] hSS ?_
     refine tR 10 [] hSS ?_
     clear hSS
     refine oG 5 fun K hK => ?_
     go_wp2_with fail
     refine (show Calls _ _ _ _ _ from HW).mono ?_
     rintro e w6 ⟨rfl,hFy,hFn,hT6⟩
     clear HW
     have ho6 := Only.of_turned hT6 hSA2.both.f
     have hb6 := hSA2.below.trans (hT6.below hSA2.below.size hpf hbmw)
     have hbl6 := hT6.below hSA2.below.size hpf hbmw
     have hR6 := hSA2.both.r.only ho6 (by decide) (by decide)
     have hCp6 := hCp2.only ho6 (by decide)
     have hD6 := hSA2.disk.only ho6 (by decide) (by decide) (by decide)
     have hl6 := hSA2.loader.only ho6 (by decide)
     have hg6 := hSA2.shelf.only ho6 (by decide)
     have hRS6 := hSA2.ref.only ho6 hbl6 (by decide) (by decide) (by decide) (by decide)
     have HRF := HWR w6 hR6 hb6.size
     have hSS6 := mkS _ hCp6
     clear HWR hCp2 mkS hT6 ho6 hbl6
     go_wp2
     refine hK _ _ hSS6 ?_
     clear hK hSS6
     refine lG 11 fun K hK => ?_
     go_wp2_with fail
     refine (show Calls _ _ _ _ _ from HRF).mono ?_
     rintro e w7 ⟨rfl,hRy,hRn,hT7⟩
     clear HRF
     have ho7 := Only.of_turnedQ hT7 hR6
     have hbl7 := hT7.below hb6.size hqB hqB
     have hb7 := hb6.trans hbl7
     have HFIN : Hid (∃ (D' : DataW Unit) (L' : List FileR) (kf' : Nat),kf' <= i + 1 /\ LSays w w7 B p m q l g pf bm s vl k V E D' L' kf') := by
      by_cases h0 : F = 0
      ·have e := HDO.out h0
       rw [e] at hdi hdn hdk hdp hdh
       exact ⟨_,_,_,by dsimp only at hdk; omega,⟨hD6.only ho7 (by decide) (by decide) (by decide),hSA2.stands,hSA2.calm,hRS6.only ho7 hbl7 (by decide) (by decide) (by decide) (by decide),hl6.only ho7 (by decide),hg6.only ho7 (by decide),
        ⟨(hFy h0).only ho7 (by decide) (by decide),hRy h0,hdi.1,hSA2.both.agree.put hSA2.both.inv x.s x.t _,by have := (writeF_ok (HF0.out.trans h0)).2.2; omega⟩,hdn,hdp,hdh,hb7⟩⟩
      ·exact ⟨D,L,kf,by omega,⟨hD6.only ho7 (by decide) (by decide) (by decide),hSA2.stands,hSA2.calm,hRS6.only ho7 hbl7 (by decide) (by decide) (by decide) (by decide),hl6.only ho7 (by decide),hg6.only ho7 (by decide),
        ⟨(hFn h0).only ho7 (by decide) (by decide),hRn h0,hSA2.both.inv,hSA2.both.agree,hSA2.both.most⟩,hSA2.names,hSA2.pos,hSA2.held,hb7⟩⟩
     have HSm := same_alike F w7
     clear hSA2 hFy hFn hRy hRn hT7 ho7 hb6 hb7 hbl7 hR6 hCp6 hD6 hl6 hg6 hRS6 hdi hdn hdk hdp hdh HDO HF0
     go_wp2
     refine hK _ _ ?_
     clear hK
     refine lG 12 fun K hK => ?_
     go_wp2_with fail
     refine (show Calls _ _ _ _ _ from HSm).mono ?_
     rintro e w8 ⟨rfl,hw8⟩
     subst w8
     clear HSm
     go_wp2
     refine hK _ _ ?_
     clear hK
     refine tA 13 ?_
     refine doneG (by kernel_rfl) ?_ _
     go_wp2
     go_meet
     obtain ⟨D',L',kf',hk',hLS⟩ := HFIN.out
     exact ⟨l,g,s,vl,k,V,E,D',L',kf',rfl,rfl,hk',hLS⟩
    have e1 : (x.kind.toList == [119,114,105,116,101]) = false := by have := kind_no hk1; rwa [show kwWrite.toList = [119,114,105,116,101] by rw [ByteArray.toList_eq]] at this
    by_cases hk2 : x.kind = kwRemove
    ·have e2 : (x.kind.toList == [114,101,109,111,118,101]) = true := by rw [hk2,ByteArray.toList_eq]; rfl
     have hSA2 := hSA1.later (Below.refl _ A1).drew
     have hCp2 := hCp.later (Below.refl _ A1).drew
     obtain ⟨F,hFw⟩ : ∃ F : Nat,F = if Maps.has D (keyB x.s) = true then 0 else 5 := ⟨_,rfl⟩
     have hgone : (if (delR x.s L).length = L.length then (5 : Int) else 0) = ((F : Nat) : Int) := by
      rw [hFw,hSA2.both.agree.gone hSA2.both.inv x.s]
      by_cases z : (delR x.s L).length = L.length
      ·rw [if_pos z,if_pos z]; rfl
      ·rw [if_neg z,if_neg z]; rfl
     have HGO : Hid ((if (delR x.s L).length = L.length then (5 : Int) else 0) = ((F : Nat) : Int)) := hgone
     have HW := remove_any A1.drew pf bm D kf x.s hSA2.both.f hml F hFw
     have HWR := fun W (hW : RAt w.heap.size W q L kf) (hWB : w.heap.size <= W.heap.size) => removeR_any w.heap.size W q L kf x.s hW hL6 hWB
     have hdi := doneD_inv (X := fun _ => x) (q := (D,kf)) hSA2.both.inv 1
     obtain ⟨hdn,hdk⟩ := doneD_more (X := fun _ => x) (q := (D,kf)) hSA2.names 1
     have hdp := doneD_pos (X := fun _ => x) (q := (D,kf)) hSA2.both.inv hSA2.pos 1
     have hdh : ∀ j,j < k -> Held (doneD (D,kf) (fun _ => x) 1).1 (doneD (D,kf) (fun _ => x) 1).2 (E j) := fun j hj => (hSA2.held j hj).step fun D0 k0 h => h.done (q := (D,kf)) hSA2.both.inv 1
     have hdo : doneD (D,kf) (fun _ => x) 1 = (D.del (keyB x.s),kf) := by
      show actD (D,kf) x = _
      unfold actD
      rw [if_neg (show ¬ x.kind = kWrite from hk1),if_pos (show x.kind = kRemove from hk2)]
     rw [hdo] at hdi hdn hdp hdh
     clear hFw hdo hk1 hk2 hSA1 hCp hgone hdk
     have mkS : ∀ W : World,ActCopy W b8 x -> (fun w' : World => w'.cell? ⟨b8,1,none⟩ = some (.string x.s)) W := fun W h => h.c1
     have hSS := mkS _ hCp2
     go_upto_region 25 with fail
     refine wp_region_G (fun w' : World => w'.cell? ⟨b8,1,none⟩ = some (.string x.s)) 7 10 (by kernel_rfl) rfl ?_
     generalize A1.drew = A2 at *
     refine tW 0 hSS ?_
     refine tW 1 hSS ?_
     refine tW 4 hSS ?_
     refine tW 5 hSS ?_
     refine tR 2 [3] hSS ?_
     refine tR 6 [] hSS ?_
     clear hSS
     refine oG 3 fun K hK => ?_
     go_wp2_with fail
     refine (show Calls _ _ _ _ _ from HW).mono ?_
     rintro e w6 ⟨rfl,hF6,hT6⟩
     clear HW
     have ho6 := Only.of_turned hT6 hSA2.both.f
     have hbl6 := hT6.below hSA2.below.size hpf hbmw
     have hb6 := hSA2.below.trans hbl6
     have hR6 := hSA2.both.r.only ho6 (by decide) (by decide)
     have hCp6 := hCp2.only ho6 (by decide)
     have hD6 := hSA2.disk.only ho6 (by decide) (by decide) (by decide)
     have hl6 := hSA2.loader.only ho6 (by decide)
     have hg6 := hSA2.shelf.only ho6 (by decide)
     have hRS6 := hSA2.ref.only ho6 hbl6 (by decide) (by decide) (by decide) (by decide)
     have HRF := HWR w6 hR6 hb6.size
     have hSS6 := mkS _ hCp6
     clear HWR hCp2 mkS hT6 ho6 hbl6
     go_wp2
     refine hK _ _ hSS6 ?_
     clear hK hSS6
     refine lG 7 fun K hK => ?_
     go_wp2_with fail
     refine (show Calls _ _ _ _ _ from HRF).mono ?_
     rintro e w7 ⟨he7,hRy,hT7⟩
     clear HRF
     rw [HGO.out] at he7
     subst he7
     have ho7 := Only.of_turnedQ hT7 hR6
     have hbl7 := hT7.below hb6.size hqB hqB
     have hb7 := hb6.trans hbl7
     have HFIN : Hid (LSays w w7 B p m q l g pf bm s vl k V E (D.del (keyB x.s)) (delR x.s L) kf) :=
      ⟨hD6.only ho7 (by decide) (by decide) (by decide),hSA2.stands,hSA2.calm,hRS6.only ho7 hbl7 (by decide) (by decide) (by decide) (by decide),hl6.only ho7 (by decide),hg6.only ho7 (by decide),
       ⟨hF6.only ho7 (by decide) (by decide),hRy,hdi.1,hSA2.both.agree.del x.s,hSA2.both.most⟩,hdn,hdp,hdh,hb7⟩
     have HSm := same_alike F w7
     clear hSA2 hF6 hRy hT7 ho7 hb6 hb7 hbl7 hR6 hCp6 hD6 hl6 hg6 hRS6 hdi hdn hdp hdh HGO
     go_wp2
     refine hK _ _ ?_
     clear hK
     refine lG 8 fun K hK => ?_
     go_wp2_with fail
     refine (show Calls _ _ _ _ _ from HSm).mono ?_
     rintro e w8 ⟨rfl,hw8⟩
     subst w8
     clear HSm
     go_wp2
     refine hK _ _ ?_
     clear hK
     refine tA 9 ?_
     refine doneG (by kernel_rfl) ?_ _
     go_wp2
     go_meet
     exact ⟨l,g,s,vl,k,V,E,_,_,kf,rfl,rfl,by omega,HFIN.out⟩
    have e2 : (x.kind.toList == [114,101,109,111,118,101]) = false := by have := kind_no hk2; rwa [show kwRemove.toList = [114,101,109,111,118,101] by rw [ByteArray.toList_eq]] at this
    obtain ⟨T,hT⟩ := texts_some D
    obtain ⟨S,hS⟩ := stamps_some D
    by_cases hk3 : x.kind = kBuild
    ·have e3 : (x.kind.toList == [98,117,105,108,100]) = true := by rw [hk3,ByteArray.toList_eq]; rfl
     have hSA2 := hSA1.later (Below.refl _ A1).drew
     have hCp2 := hCp.later (Below.refl _ A1).drew
     have HBU := loaderBuild_any A1.drew B p 112 l g pf bm s E k D kf T S x.s hSA2.disk hSA2.stands hSA2.loader hSA2.shelf (hE.later hSA2.below) hSA2.both.f hSA2.both.inv hSA2.names hSA2.pos hT hS (by omega) hml
     have HREF := fun (W : World) (hW : RShelf W w.heap.size w.heap.size m vl k V E) (hRW : RAt w.heap.size W q L kf) => refBuild_any w.heap.size w.heap.size w.heap.size W m q vl k V E L kf D T S x.s hW (Nat.le_refl _) hBm hRW hL6 hSA2.both.agree hSA2.both.inv hSA2.names hSA2.pos (by omega) hT hS
     clear hk1 hk2 hk3 hSA1 hCp
     have mkS : ∀ W : World,ActCopy W b8 x -> (fun w' : World => w'.cell? ⟨b8,1,none⟩ = some (.string x.s)) W := fun W h => h.c1
     have hSS := mkS _ hCp2
     go_upto_region 27 with fail
     refine wp_region_G (fun w' : World => w'.cell? ⟨b8,1,none⟩ = some (.string x.s)) 8 11 (by kernel_rfl) rfl ?_
     generalize A1.drew = A2 at *
     refine tW 0 hSS ?_
     refine tW 1 hSS ?_
     refine tW 4 hSS ?_
     refine tW 5 hSS ?_
     refine tW 6 hSS ?_
     refine tR 2 [3] hSS ?_
     refine tR 7 [] hSS ?_
     clear hSS
     refine oG 3 fun K hK => ?_
     go_wp2_with fail
     refine (show Calls _ _ _ _ _ from HBU).mono ?_
     rintro e w6 ⟨s',hBE,hD6,hS6⟩
     clear HBU
     obtain ⟨F,r,he,hl',hSt6,hH6,hTie⟩ := build_tie hBE hSA2.stands hSA2.calm hSA2.both.inv hT hS hSA2.held
     subst he
     have ho6 := Only.of_spun hS6
     have hbl6 := hS6.below.mono hBw
     have hb6 := hSA2.below.trans hbl6
     have hR6 := hSA2.both.r.only ho6 (by decide) (by decide)
     have hF6 := hSA2.both.f.only ho6 (by decide) (by decide)
     have hCp6 := hCp2.only ho6 (by decide)
     have hl6 := hSA2.loader.only ho6 (by decide)
     have hg6 := hSA2.shelf.only ho6 (by decide)
     have hRS6 := hSA2.ref.only ho6 hbl6 (by decide) (by decide) (by decide) (by decide)
     have HRF := HREF w6 hRS6 hR6
     have hSS6 := mkS _ hCp6
     clear HREF hCp2 mkS hS6 ho6 hbl6 hBE
     go_wp2
     refine hK _ _ hSS6 ?_
     clear hK hSS6
     refine lG 8 fun K hK => ?_
     go_wp2_with fail
     refine (show Calls _ _ _ _ _ from HRF).mono ?_
     rintro e w7 ⟨F',r',rfl,hRB,⟨vl',V',hR7⟩,hG7⟩
     clear HRF
     obtain ⟨rfl,rfl⟩ := hTie F' r' hRB
     have ho7 := Only.of_grown hG7 hRS6
     have hbl7 : Below w.heap.size w6 w7 := ⟨hG7.os,hG7.tape,hG7.output,hG7.size,fun j hj => hG7.block j (Nat.lt_of_lt_of_le hj hb6.size) (fun e => by injection e with e; omega)⟩
     have hb7 := hb6.trans hbl7
     have HFIN : Hid (LSays w w7 B p m q l g pf bm s' vl' r'.2 V' r'.1 D L kf) :=
      ⟨hD6.only ho7 (by decide) (by decide) (by decide),hSt6,hl',hR7,hl6.only ho7 (by decide),hg6.only ho7 (by decide),
       ⟨hF6.only ho7 (by decide) (by decide),hR6.only ho7 (by decide) (by decide),hSA2.both.inv,hSA2.both.agree,hSA2.both.most⟩,hSA2.names,hSA2.pos,hH6,hb7⟩
     have HSm := same_alike F' w7
     clear hSA2 hF6 hR7 hG7 ho7 hb6 hb7 hbl7 hR6 hCp6 hD6 hl6 hg6 hRS6 hRB hTie hH6 hSt6 hl' hT hS
     go_wp2
     refine hK _ _ ?_
     clear hK
     refine lG 9 fun K hK => ?_
     go_wp2_with fail
     refine (show Calls _ _ _ _ _ from HSm).mono ?_
     rintro e w8 ⟨rfl,hw8⟩
     subst w8
     clear HSm
     go_wp2
     refine hK _ _ ?_
     clear hK
     refine tA 10 ?_
     refine doneG (by kernel_rfl) ?_ _
     go_wp2
     go_meet
     exact ⟨l,g,s',vl',_,V',_,D,L,kf,rfl,rfl,by omega,HFIN.out⟩
    have e3 : (x.kind.toList == [98,117,105,108,100]) = false := by have := kind_no hk3; rwa [show kBuild.toList = [98,117,105,108,100] by rw [ByteArray.toList_eq]] at this
    by_cases hk4 : x.kind = kDrop
    ·have e4 : (x.kind.toList == [100,114,111,112]) = true := by rw [hk4,ByteArray.toList_eq]; rfl
     have hSA2 := hSA1.later (Below.refl _ A1).drew
     have hCp2 := hCp.later (Below.refl _ A1).drew
     have HBU := loaderDrop_any A1.drew B p 112 l pf g s E k x.s hSA2.disk hSA2.stands hSA2.loader hSA2.shelf (hE.later hSA2.below)
     have HREF := fun (W : World) (hW : RShelf W w.heap.size w.heap.size m vl k V E) => refDrop_any W w.heap.size w.heap.size m k vl V E x.s hW (Nat.le_refl _) hBm
     have HKEP : Hid ((dropE E k x.s).1 ≠ 0 -> (dropE E k x.s).2 = (E,k)) := dropE_kept
     have HHE : Hid (∀ i,i < (dropE E k x.s).2.2 -> Held D kf ((dropE E k x.s).2.1 i)) := held_dropE hSA2.held
     generalize hR0 : dropE E k x.s = r at HBU HREF HKEP HHE
     clear hR0
     clear hk1 hk2 hk3 hk4 hSA1 hCp
     have mkS : ∀ W : World,ActCopy W b8 x -> (fun w' : World => w'.cell? ⟨b8,1,none⟩ = some (.string x.s)) W := fun W h => h.c1
     have hSS := mkS _ hCp2
     go_upto_region 29 with fail
     refine wp_region_G (fun w' : World => w'.cell? ⟨b8,1,none⟩ = some (.string x.s)) 7 10 (by kernel_rfl) rfl ?_
     generalize A1.drew = A2 at *
     refine tW 0 hSS ?_
     refine tW 1 hSS ?_
     refine tW 4 hSS ?_
     refine tW 5 hSS ?_
     refine tR 2 [3] hSS ?_
     refine tR 6 [] hSS ?_
     clear hSS
     refine oG 3 fun K hK => ?_
     go_wp2_with fail
     refine (show Calls _ _ _ _ _ from HBU).mono ?_
     rintro e w6 ⟨s',hPE,hD6,hS6⟩
     clear HBU
     obtain ⟨he,hl',hSt6⟩ := hPE.calm hSA2.stands hSA2.calm HKEP.out
     subst he
     have ho6 := Only.of_spun hS6
     have hbl6 := hS6.below.mono hBw
     have hb6 := hSA2.below.trans hbl6
     have hR6 := hSA2.both.r.only ho6 (by decide) (by decide)
     have hF6 := hSA2.both.f.only ho6 (by decide) (by decide)
     have hCp6 := hCp2.only ho6 (by decide)
     have hl6 := hSA2.loader.only ho6 (by decide)
     have hg6 := hSA2.shelf.only ho6 (by decide)
     have hRS6 := hSA2.ref.only ho6 hbl6 (by decide) (by decide) (by decide) (by decide)
     have HRF := HREF w6 hRS6
     have hSS6 := mkS _ hCp6
     clear HREF hCp2 mkS hS6 ho6 hbl6 hPE HKEP
     go_wp2
     refine hK _ _ hSS6 ?_
     clear hK hSS6
     refine lG 7 fun K hK => ?_
     go_wp2_with fail
     refine (show Calls _ _ _ _ _ from HRF).mono ?_
     rintro e w7 ⟨rfl,⟨vl',V',hR7⟩,hG7⟩
     clear HRF
     have ho7 := Only.of_grown hG7 hRS6
     have hbl7 : Below w.heap.size w6 w7 := ⟨hG7.os,hG7.tape,hG7.output,hG7.size,fun j hj => hG7.block j (Nat.lt_of_lt_of_le hj hb6.size) (fun e => by injection e with e; omega)⟩
     have hb7 := hb6.trans hbl7
     have HFIN : Hid (LSays w w7 B p m q l g pf bm s' vl' r.2.2 V' r.2.1 D L kf) :=
      ⟨hD6.only ho7 (by decide) (by decide) (by decide),hSt6,hl',hR7,hl6.only ho7 (by decide),hg6.only ho7 (by decide),
       ⟨hF6.only ho7 (by decide) (by decide),hR6.only ho7 (by decide) (by decide),hSA2.both.inv,hSA2.both.agree,hSA2.both.most⟩,hSA2.names,hSA2.pos,HHE.out,hb7⟩
     have HSm := same_alike r.1 w7
     clear hSA2 hF6 hR7 hG7 ho7 hb6 hb7 hbl7 hR6 hCp6 hD6 hl6 hg6 hRS6 hSt6 hl' hT hS HHE
     obtain ⟨rn,rE,rk⟩ := r
     dsimp only at HSm HFIN
     go_wp2
     refine hK _ _ ?_
     clear hK
     refine lG 8 fun K hK => ?_
     go_wp2_with fail
     refine (show Calls _ _ _ _ _ from HSm).mono ?_
     rintro e w8 ⟨rfl,hw8⟩
     subst w8
     clear HSm
     go_wp2
     refine hK _ _ ?_
     clear hK
     refine tA 9 ?_
     refine doneG (by kernel_rfl) ?_ _
     go_wp2
     go_meet
     exact ⟨l,g,s',vl',rk,V',rE,D,L,kf,rfl,rfl,by omega,HFIN.out⟩
    have e4 : (x.kind.toList == [100,114,111,112]) = false := by have := kind_no hk4; rwa [show kDrop.toList = [100,114,111,112] by rw [ByteArray.toList_eq]] at this
    by_cases hk5 : x.kind = kOpen
    ·have e5 : (x.kind.toList == [111,112,101,110]) = true := by rw [hk5,ByteArray.toList_eq]; rfl
     have HO := loaderNew_any A1 B p 112 pf s E k hSA1.disk hSA1.stands (hE.later hSA1.below)
     clear hk1 hk2 hk3 hk4 hk5 hT hS
     go_wp2_with fail
     refine (show Calls _ _ _ _ _ from HO).mono ?_
     rintro e w6 ⟨l6,g6,rfl,_,hl6,hg6,hb6⟩
     clear HO
     have HFIN : Hid (LSays w w6 B p m q l6 g6 pf bm s vl k V E D L kf) := { hSA1.later hb6 with loader := hl6,shelf := hg6 }
     clear hSA1 hCp hl6 hg6 hb6
     go_wp2
     go_meet
     exact ⟨l6,g6,s,vl,k,V,E,D,L,kf,rfl,rfl,by omega,HFIN.out⟩
    have e5 : (x.kind.toList == [111,112,101,110]) = false := by have := kind_no hk5; rwa [show kOpen.toList = [111,112,101,110] by rw [ByteArray.toList_eq]] at this
    have c1 := hCp.c1
    have HLD := loaderLoad_any A1 B p 112 l g pf bm s E k D kf T S x.s hSA1.disk hSA1.stands hSA1.loader hSA1.shelf (hE.later hSA1.below) hSA1.both.f hSA1.both.inv hT hS hml
    clear hk1 hk2 hk3 hk4 hk5
    go_wp2_with fail
    refine (show Calls _ _ _ _ _ from HLD).mono ?_
    rintro e w6 ⟨hLE,hb6⟩
    clear HLD c1
    obtain ⟨u1,F1,wx,Bx,rfl,hkp,_,hbx,hLd⟩ := loads_flag hLE hSA1.both.inv hT hS hSA1.held
    have hSA6 := hSA1.later hb6
    have hCp6 := hCp.later hb6
    have c1 := hCp6.c1
    have HRL := refLoad_any w.heap.size w.heap.size w.heap.size w6 m q vl k V E L kf D T S x.s hSA6.ref hSA6.below.size hSA6.both.r hL6 hSA6.both.agree hSA6.both.inv hT hS (getE_few x.s hSA6.stands.good)
    have hfew := rd_few (T := T) hSA6.both.inv
    have hlim : ∀ mm Bs P Q,Reckoned (rdD D T) x.s mm Bs P Q -> mm <= 6 /\ (∀ i,i < mm -> (obAt (rdD D T) x.s i).nW <= 1000) := fun mm Bs P Q hR => by
     have hSc := (scope_of hR.of hfew).1
     exact ⟨hSc.few,fun i hi => by
      have := (rd_ok (D := D) (T := T) (s := nmAt (rdD D T) x.s i) (by rw [hSc.read i hi])).nW
      show (rdD D T (nmAt (rdD D T) x.s i)).2.nW <= 1000
      omega⟩
    clear hLE hSA1 hCp hb6 hT hS hfew
    have hfl : (!staleTo D S (getE E k x.s).2.pName (getE E k x.s).2.pStamp (getE E k x.s).2.nP && decide (0 < (getE E k x.s).2.nP)) = freshE D S (getE E k x.s).2 := rfl
    rw [hfl] at HRL
    clear hfl
    obtain ⟨fl,hfl⟩ : ∃ fl,((getE E k x.s).1 && freshE D S (getE E k x.s).2) = fl := ⟨_,rfl⟩
    rw [hfl] at HRL hkp
    rw [hfl]
    clear hfl
    obtain ⟨ev,hev⟩ : ∃ ev,errV F1 = ev := ⟨_,rfl⟩
    rw [hev]
    generalize rdD D T = rd at *
    go_wp2_with fail
    refine (show Calls _ _ _ _ _ from HRL).mono ?_
    rintro e w7 ⟨⟨u2,v2,F2,B2,rfl,hRL⟩,hb7⟩
    clear HRL c1
    have hSA7 := hSA6.later hb7
    have HFIN : Hid (∀ W,Below w7.heap.size w7 W -> LSays w W B p m q l g pf bm s vl k V E D L kf) := fun W hW => hSA7.later hW
    have hb67 := hb7
    rcases hLd.which with ⟨hF,rfl,hRk⟩ | ⟨rfl,mm,Bs,P,Q,g1,A,C,G,hRk,hPI⟩
    ·rcases rload_which hRL with ⟨hF2,rfl,hRk2⟩ | ⟨_,m2,B2',P2,Q2,A2,C2,hRk2,_⟩
     ·obtain rfl := hRk.unique hRk2
      have hfl := hkp hF
      subst hfl
      obtain ⟨z,hz⟩ := errV_num hF
      have HSm := fun W => same_alike F1 W
      rw [hz] at hev HSm
      subst hev
      have HSP := fun W => sameParts_none none none 0 0 W
      clear hLd hRL hRk hRk2 hlim hkp hSA6 hSA7 hz hF hF2 hbx
      go_wp2_with fail
      refine (show Calls _ _ _ _ _ from HSm _).mono ?_
      rintro e w8 ⟨rfl,hw8⟩
      subst w8
      clear HSm
      go_wp2_with fail
      refine (show Calls _ _ _ _ _ from HSP _).mono ?_
      rintro e w8 ⟨rfl,kk,rfl⟩
      clear HSP
      go_wp2
      go_meet
      exact ⟨l,g,s,vl,k,V,E,D,L,kf,rfl,rfl,by omega,HFIN.out _ (below_drewN (Below.refl _ _) _)⟩
     ·exact (hRk.not hRk2).elim
    ·rcases rload_which hRL with ⟨_,_,hRk2⟩ | ⟨rfl,m2,B2',P2,Q2,A2,C2,hRk2,hRP⟩
     ·exact (hRk2.not hRk).elim
     ·obtain ⟨rfl,rfl,rfl,rfl⟩ := hRk2.unique hRk
      obtain ⟨hm6,hnw⟩ := hlim m2 B2' P2 Q2 hRk2
      obtain ⟨au,cu,rfl,_,hrow⟩ := parts_row hPI
      obtain ⟨au2,cu2,rfl,_,hrow2⟩ := hRP.rows
      have hrow7 := (hrow.later hbx).later hb67
      have HSP := sameParts_true m2 (nmAt rd x.s) B2' _ _ au au2 cu cu2 A A2 C C2 w7 (by omega) hnw hrow7 hrow2
      obtain rfl : ev = .nilIface := hev.symm
      have HSm := fun W => same_nil 0 W
      clear hLd hRL hRk hRk2 hlim hkp hSA6 hSA7 hPI hRP hrow hrow2 hrow7 hnw hev hbx
      go_wp2_with fail
      refine (show Calls _ _ _ _ _ from HSm _).mono ?_
      rintro e w8 ⟨rfl,rfl⟩
      clear HSm
      go_wp2_with fail
      refine (show Calls _ _ _ _ _ from HSP).mono ?_
      rintro e w8 ⟨rfl,kk,rfl⟩
      clear HSP
      cases fl with
      | true =>
       go_wp2
       go_meet
       exact ⟨l,g,s,vl,k,V,E,D,L,kf,rfl,rfl,by omega,HFIN.out _ (below_drewN (Below.refl _ _) _)⟩
      | false =>
       go_wp2
       go_meet
       exact ⟨l,g,s,vl,k,V,E,D,L,kf,rfl,rfl,by omega,HFIN.out _ (below_drewN (Below.refl _ _) _)⟩
   case rest =>
    obtain ⟨l,g,s,vl,k,V,E,D,L,kf,rfl,rfl,hkf2,hS⟩ := hcut
    clear hSA1 hCp
    have HR1 := loaderRoots_any wc B p 112 l pf g s E k hS.disk hS.stands hS.loader hS.shelf (hE.later hS.below)
    go_wp2_with fail
    refine (show Calls _ _ _ _ _ from HR1).mono ?_
    rintro e w13 ⟨vr,rfl,hOw1,hb13⟩
    clear HR1
    have hS13 := hS.later hb13
    obtain ⟨ar,cr,rfl,hRow1⟩ := roots_rowL hOw1
    have HR2 := refRoots_any w13 w.heap.size w.heap.size m k vl V E hS13.ref hS13.below.size
    clear hS hb13 hOw1
    go_wp2_with fail
    refine (show Calls _ _ _ _ _ from HR2).mono ?_
    rintro e w14 ⟨vs,rfl,hOw2,hb14⟩
    clear HR2
    have hS14 := hS13.later hb14
    obtain ⟨az,cz,rfl,hRow2⟩ := roots_rowL hOw2
    have hk3 := hS14.stands.good.few
    have HST := sameTexts_true _ _ k ar az cr cz w14 (by omega) (hRow1.later hb14) hRow2 (fun _ _ => rfl)
    clear hS13 hOw2 hb14 hRow1 hRow2
    go_wp2_with fail
    refine (show Calls _ _ _ _ _ from HST).mono ?_
    rintro e w15 ⟨rfl,kd,rfl⟩
    clear HST
    have hS15 := hS14.later (below_drewN (Below.refl _ w14) kd)
    clear hS14
    generalize w14.drewN kd = w15 at *
    go_wp2
    go_roundw
    case rel => exact ⟨i + 1,l,g,s,vl,k,V,E,D,L,kf,by omega,by go_num,rfl,by omega,hS15⟩
    case measure => simp [intOf]; omega
  ·obtain rfl : i = n := by omega
   have hb := hSA.below
   clear hSA hr
   go_wp2
   go_ret
   exact ⟨rfl,hb⟩
end Go.Proofs.YtagfngiaogckpaaGreatDoor
