/- A copy of an act that a law has laid; 'same' of two numbers that are alike. What stays where only blocks of certain kinds have turned: disks, loaders, shelves, files, the document's files and shelf, a law's copy of an act. What SameNumbers returns, for every two lists of numbers: whether they are alike; memory stays as it was. Plain words on the closed fact bound: two files, of which the first one needs the second one; what is reckoned for the first one. The closed fact bound returns true; memory that was there stays as it was. Plain words on the closed fact ready: one file of one word, that is its own base and three; what is reckoned of it. Plain words on closed facts of one file: its one word is its own base and three; what is reckoned of it. What a kept entry is worth, in plain words: it was made of files as they were; whatever was written since has a later stamp: so where the stamps are those of now, the files read as they did. What is kept is as good as new, in plain words: what Use answers of an entry that was made of files as they were, and whose stamps are those of now, is what Load answers. play: acts on files and a loader, whatever they are: every entry that is kept was made of files as they were; a disk that falls leaves one of two such shelves. ready returns files, a loader and a disk, with nothing in them; memory that was there stays as it was. What SameParts returns, of two lists of parts that are alike: true; memory stays as it was. What number returns of an error of package api: its number; memory stays as it was. What is kept is as good as new: what TopKept returns, for every row of acts and every root: true; memory that was there stays as it was. What Load of a loader answers, with the word on how: by what is kept just where there is an entry of that root whose stamps are those of now. What Get answers behind a Drop, in plain words: nothing of what was dropped; of all others what it answered ahead of it. -/
import Derived.Test.YtagfngiaogckpaaGreatDoorShelfActs
import Derived.Deep.CutBlock
namespace Go.Proofs.YtagfngiaogckpaaGreatDoor
open Go.RowKit
abbrev actCs (x : ActF) : Array Value := #[.string x.kind,.string x.s,.string x.t,.int .i64 x.a,.int .u64 x.k,.string x.root,.slice x.pa x.pn x.pc,.slice x.qa x.qn x.qc]
structure ActCopy (w : World) (b : Nat) (x : ActF) : Prop where
 blk : w.heap[b]? = some (.cells (actCs x) 50 (0,0))
theorem ActCopy.c0 {w : World} {b : Nat} {x : ActF} (h : ActCopy w b x) : w.cell? ⟨b,0,none⟩ = some (.string x.kind) := by simp [World.cell?,h.blk]
theorem ActCopy.c1 {w : World} {b : Nat} {x : ActF} (h : ActCopy w b x) : w.cell? ⟨b,1,none⟩ = some (.string x.s) := by simp [World.cell?,h.blk]
theorem ActCopy.lt {w : World} {b : Nat} {x : ActF} (h : ActCopy w b x) : b < w.heap.size := (Array.getElem?_eq_some_iff.1 h.blk).1
theorem ActCopy.later {w w' : World} {b : Nat} {x : ActF} (h : ActCopy w b x) (hb : Below w.heap.size w w') : ActCopy w' b x := ⟨(hb.block b h.lt).trans h.blk⟩
theorem same_alike (a : Nat) (w : World) : Calls Tryz.prog 9 #[errV a,.int .i64 (a : Int)] w fun e w' => e = .returned (.bool true) /\ w' = w :=
 (same_errV a a w).mono fun e w' ⟨he,hw⟩ => ⟨by rw [he]; simp,hw.symm⟩
theorem kind_no {a b : ByteArray} (h : a ≠ b) : (a.toList == b.toList) = false := by
 rw [beq_eq_false_iff_ne]
 intro z
 apply h
 rw [ByteArray.toList_eq,ByteArray.toList_eq] at z
 exact WideShapes.bytes_inj z
end Go.Proofs.YtagfngiaogckpaaGreatDoor
namespace Go.Proofs.YtagfngiaogckpaaGreatDoor
open Go.RowKit Go.Maps
def kindO : Obj -> Option TypeId
 | .cells _ t _ => some t
 | _ => none
structure Only (ts : List (Option TypeId)) (w w' : World) : Prop where
 block : ∀ (k : Nat) (o : Obj),w.heap[k]? = some o -> kindO o ∉ ts -> w'.heap[k]? = some o
abbrev tsDisk : List (Option TypeId) := [some 112,some 194,some 191]
abbrev tsFiles : List (Option TypeId) := [some 79,none]
abbrev tsRF : List (Option TypeId) := [some 39]
abbrev tsRS : List (Option TypeId) := [some 43]
theorem Only.of_spun {B : Nat} {w w' : World} (h : Spun B w w') : Only tsDisk w w' := ⟨fun k o hk ho => h.block k o hk (fun ⟨c,t,f,e,ht⟩ => ho (by
 subst e
 rcases ht with rfl | rfl | rfl <;> simp [kindO,tsDisk]))⟩
theorem Only.of_turned {p bm : Nat} {w w' : World} {D : DataW Unit} {k : Nat} (h : Turned p bm w w') (hF : FilesAt w p bm D k) : Only tsFiles w w' := ⟨fun q o hq ho => (h.block q (Array.getElem?_eq_some_iff.1 hq).1
 (fun e => ho (by
   subst e
   rw [hF.blk] at hq
   injection hq with hq
   subst hq
   simp [kindO,tsFiles]))
 (fun e => ho (by
   subst e
   obtain ⟨es,clock,hb,_⟩ := hF.own
   rw [hb] at hq
   injection hq with hq
   subst hq
   simp [kindO,tsFiles]))).trans hq⟩
theorem Only.of_turnedQ {B q : Nat} {w w' : World} {L : List FileR} {k : Nat} (h : Turned q q w w') (hR : RAt B w q L k) : Only tsRF w w' := by
 obtain ⟨v,hv,_⟩ := hR.blk
 have key : ∀ (j : Nat) (o : Obj),w.heap[j]? = some o -> kindO o ∉ tsRF -> j ≠ q := fun j o hj ho e => ho (by
  subst e
  rw [hv] at hj
  injection hj with hj
  subst hj
  simp [kindO,tsRF])
 exact ⟨fun j o hj ho => (h.block j (Array.getElem?_eq_some_iff.1 hj).1 (key j o hj ho) (key j o hj ho)).trans hj⟩
theorem Only.of_grown {B0 B m : Nat} {w w' : World} {vl : Value} {k : Nat} {V : Nat -> EntV} {E : Nat -> EntF} (h : w.grownBy w' (some m)) (hR : RShelf w B0 B m vl k V E) : Only tsRS w w' := ⟨fun j o hj ho => (h.block j (Array.getElem?_eq_some_iff.1 hj).1 (fun e => ho (by
 injection e with e
 subst e
 rw [hR.blk] at hj
 injection hj with hj
 subst hj
 simp [kindO,tsRS]))).trans hj⟩
theorem Disk.only {w w' : World} {B p n : Nat} {s : DSt} {ts : List (Option TypeId)} (h : Disk w B p n s) (hs : Only ts w w') (h1 : some 112 ∉ ts) (h2 : some 194 ∉ ts) (h3 : some 191 ∉ ts) : Disk w' B p n s :=
 h.other fun q o hq ⟨c,t,f,e,ht⟩ => hs.block q o hq (by
  subst e
  rcases ht with rfl | rfl | rfl
  ·exact h1
  ·exact h2
  ·exact h3)
theorem LoaderAt.only {w w' : World} {l f g : Nat} {ts : List (Option TypeId)} (h : LoaderAt w l f g) (hs : Only ts w w') (h1 : some 81 ∉ ts) : LoaderAt w' l f g := hs.block _ _ h h1
theorem ShelfAt.only {w w' : World} {g p : Nat} {ts : List (Option TypeId)} (h : ShelfAt w g p) (hs : Only ts w w') (h1 : some 118 ∉ ts) : ShelfAt w' g p := hs.block _ _ h h1
theorem FilesAt.only {w w' : World} {p bm : Nat} {D : DataW Unit} {k : Nat} {ts : List (Option TypeId)} (h : FilesAt w p bm D k) (hs : Only ts w w') (h1 : some 79 ∉ ts) (h2 : none ∉ ts) : FilesAt w' p bm D k := by
 refine ⟨hs.block _ _ h.blk h1,?_⟩
 obtain ⟨es,clock,hb,F,hn,hD⟩ := h.own
 exact ⟨es,clock,hs.block _ _ hb h2,F,hn,hD⟩
theorem owns_only {w w' : World} {B s n : Nat} {e : TypeId} {v : Value} {xs : List Value} {ts : List (Option TypeId)} (h : w.ownsRow B e s v n xs) (hs : Only ts w w') (h1 : some e ∉ ts) : w'.ownsRow B e s v n xs := own_kept h fun k hk => by
 obtain ⟨c,hc⟩ := own_type h hk
 rw [hc]
 exact hs.block k _ hc h1
theorem RAt.only {B q : Nat} {w w' : World} {L : List FileR} {k : Nat} {ts : List (Option TypeId)} (h : RAt B w q L k) (hs : Only ts w w') (h1 : some 39 ∉ ts) (h2 : some 90 ∉ ts) : RAt B w' q L k := by
 obtain ⟨v,hv,hr⟩ := h.blk
 exact ⟨h.lo,v,hs.block _ _ hv h1,owns_only hr hs h2⟩
theorem RShelf.only {w w' : World} {B0 B m : Nat} {v : Value} {k : Nat} {V : Nat -> EntV} {E : Nat -> EntF} {ts : List (Option TypeId)} (h : RShelf w B0 B m v k V E) (hs : Only ts w w') (hb : Below B0 w w') (h1 : some 43 ∉ ts) (h2 : some 48 ∉ ts) (h3 : some 108 ∉ ts) (h4 : some 144 ∉ ts) : RShelf w' B0 B m v k V E :=
 ⟨hs.block _ _ h.blk h1,⟨owns_only h.own.row hs h2,fun i hi => (h.own.ins i hi).keeps ⟨fun j hj => hb.block j hj,fun j C t ht hj => by
  rw [hj]
  refine hs.block j _ hj ?_
  rcases ht with rfl | rfl
  ·exact h3
  ·exact h4⟩⟩,h.few,h.once⟩
theorem ActCopy.only {w w' : World} {b : Nat} {x : ActF} {ts : List (Option TypeId)} (h : ActCopy w b x) (hs : Only ts w w') (h1 : some 50 ∉ ts) : ActCopy w' b x := ⟨hs.block _ _ h.blk h1⟩
theorem ActCopy.c2 {w : World} {b : Nat} {x : ActF} (h : ActCopy w b x) : w.cell? ⟨b,2,none⟩ = some (.string x.t) := by simp [World.cell?,h.blk]
end Go.Proofs.YtagfngiaogckpaaGreatDoor
namespace Go.Proofs.YtagfngiaogckpaaGreatDoor
open Go.RowKit
theorem bool_ret {a b : Bool} (h : a = b) : Ending.returned (.bool a) = .returned (.bool b) := by rw [h]
theorem sameNumbers_zero (a c : Option Addr) (ca cb : Nat) (w : World) :
 Calls Tryz.prog 24 #[.slice a 0 ca,.slice c 0 cb] w fun e w' => e = .returned (.bool true) /\ ∃ k,w' = w.drewN k := by
 go_enter Tryz.func24,Tryz.ntmps24
 go_wp2
 refine wp_loop_rounds 1 ?_
 rw [rounds_succ]
 go_wp2
 go_ret
 exact ⟨rfl,0,rfl⟩
set_option maxHeartbeats 400000 in
theorem sameNumbers_some (f g : Nat -> Int) (n : Nat) (bx ox cx bY oY cy : Nat) (w : World) (hm : n <= 1000000000)
 (hx : ∀ i,i < n -> w.cell? ⟨bx,ox + i,none⟩ = some (.int .i64 (f i)))
 (hy : ∀ i,i < n -> w.cell? ⟨bY,oY + i,none⟩ = some (.int .i64 (g i))) :
 Calls Tryz.prog 24 #[.slice (some ⟨bx,ox,none⟩) n cx,.slice (some ⟨bY,oY,none⟩) n cy] w fun e w' => e = .returned (.bool (eqTo f g n)) /\ ∃ k,w' = w.drewN k := by
 go_enter Tryz.func24,Tryz.ntmps24
 go_wp2
 go_loopw [5] (fun i wr => ∃ k j : Nat,k <= n /\ i = .int .i64 k /\ wr = w.drewN j /\ Hid (eqTo f g k = true)) (fun i _ => n - (intOf i).toNat)
 case atStart => exact ⟨0,0,Nat.zero_le _,rfl,rfl,rfl⟩
 case round =>
  obtain ⟨k,j,hk,rfl,rfl,HK⟩ := hrel
  by_cases hlt : k < n
  ·have hxk := hx k hlt
   have hyk := hy k hlt
   by_cases he : f k = g k
   ·have hne : (f k != g k) = false := bne_eq_false_iff_eq.2 he
    have HE : Hid (f k = g k) := he
    clear he hx hy
    go_wp2
    go_quiet (fail)
    go_wp2
    go_roundw
    case rel => exact ⟨k + 1,j + nq,by omega,by go_num,rfl,eqTo_succ HK.out HE.out⟩
    case measure => simp [intOf]; omega
   ·have hne : (f k != g k) = true := bne_iff_ne.2 he
    have HE : Hid (eqTo f g n = false) := eqTo_stop he hlt
    clear he hx hy
    go_wp2
    go_quiet (fail)
    go_wp2
    go_ret
    exact ⟨bool_ret HE.out.symm,j + nq,by rw [World.drewN_drewN]⟩
  ·have hkn : k = n := by omega
   subst hkn
   clear hx hy
   go_wp2
   go_ret
   exact ⟨bool_ret HK.out.symm,j,rfl⟩
set_option maxHeartbeats 400000 in
theorem sameNumbers_other (a c : Option Addr) (n m ca cb : Nat) (w : World) (hm : n ≠ m) :
 Calls Tryz.prog 24 #[.slice a n ca,.slice c m cb] w fun e w' => e = .returned (.bool false) /\ ∃ k,w' = w.drewN k := by
 have hne : ((n : Int) != (m : Int)) = true := bne_iff_ne.2 (by omega)
 clear hm
 go_enter Tryz.func24,Tryz.ntmps24
 go_wp2
 go_ret
 exact ⟨rfl,0,rfl⟩
theorem sameNumbers_any (f g : Nat -> Int) (n m : Nat) (a c : Option Addr) (ca cb : Nat) (w : World) (hm : n <= 1000000000)
 (hx : RowAt w a n fun i => .int .i64 (f i)) (hy : RowAt w c m fun i => .int .i64 (g i)) :
 Calls Tryz.prog 24 #[.slice a n ca,.slice c m cb] w fun e w' => e = .returned (.bool (decide (n = m) && eqTo f g n)) /\ ∃ k,w' = w.drewN k := by
 by_cases h : n = m
 ·subst h
  rcases hx with h0 | ⟨b,o,rfl,hx⟩
  ·subst h0
   refine (sameNumbers_zero a c ca cb w).mono ?_
   rintro e w' ⟨rfl,hw⟩
   exact ⟨rfl,hw⟩
  ·rcases hy with h0 | ⟨b',o',rfl,hy⟩
   ·subst h0
    refine (sameNumbers_zero _ c ca cb w).mono ?_
    rintro e w' ⟨rfl,hw⟩
    exact ⟨rfl,hw⟩
   ·refine (sameNumbers_some f g n b o ca b' o' cb w hm hx hy).mono ?_
    rintro e w' ⟨rfl,hw⟩
    exact ⟨bool_ret (by simp),hw⟩
 ·refine (sameNumbers_other a c n m ca cb w h).mono ?_
  rintro e w' ⟨rfl,hw⟩
  exact ⟨bool_ret (by simp [h]),hw⟩
end Go.Proofs.YtagfngiaogckpaaGreatDoor
namespace Go.Proofs.YtagfngiaogckpaaGreatDoor
open Go.RowKit Go.Maps
abbrev bnA : ByteArray := ⟨#[97]⟩
theorem itoa_zero : Lib.itoa 0 = [48] := by
 unfold Lib.itoa
 rw [if_neg (by decide),Lib.decDigits_one (by decide)]
 rfl
theorem parse_is {o : ObjF} {t : ByteArray} (ho : objF o = 0) (hl : textL o = t.data.toList) (hn : ¬ 1200 < t.data.toList.length) : (parseF t).1 = 0 /\ SameO (parseF t).2 o := by
 have he : textF o = (0,t.data.toList) := by
  unfold textF
  rw [if_pos ho,hl,if_neg hn]
 exact parse_text (by rw [he]) (by rw [he])
theorem BasesAre.sizes {m : Nat} {sz sz' tf tm b : Nat -> Int} {nt : Nat} (h : BasesAre m sz nt tf tm 0 b) (e : ∀ i,i < m -> sz i = sz' i) : BasesAre m sz' nt tf tm 0 b := by
 obtain ⟨h0,hl⟩ := h.laid rfl
 have h0' : placeF m sz' nt tf tm = 0 := by
  rw [<- h0]
  unfold placeF
  rw [anyTo_congr (p := fun i => decide (sz' i < 1 ∨ 40 < sz' i)) (q := fun i => decide (sz i < 1 ∨ 40 < sz i)) fun i hi => by rw [e i hi]]
 refine .ok _ h0' fun j hj => ?_
 obtain ⟨k,hk,hb⟩ := hl j hj
 refine ⟨k,hk,?_⟩
 rw [<- e j hj]
 exact hb.congr fun i hi => ⟨rfl,by
  unfold heldF
  split
  ·rfl
  ·show roundF (sz (i - nt)) = roundF (sz' (i - nt))
   rw [e _ (by omega)]⟩
end Go.Proofs.YtagfngiaogckpaaGreatDoor
namespace Go.Proofs.YtagfngiaogckpaaGreatDoor
open Go.RowKit Go.Maps
abbrev zzT : ByteArray := ⟨#[119,111,114,100,32,53,10,98,97,115,101,32,48,32,51,10]⟩
abbrev zzO : ObjF := addTie (addWord emptyO 5) 0 1 3 ⟨#[]⟩ false
theorem itoa_five : Lib.itoa 5 = [53] := by
 unfold Lib.itoa
 rw [if_neg (by decide),Lib.decDigits_one (by decide)]
 rfl
theorem itoa_three : Lib.itoa 3 = [51] := by
 unfold Lib.itoa
 rw [if_neg (by decide),Lib.decDigits_one (by decide)]
 rfl
theorem parse_zz : (parseF zzT).1 = 0 /\ SameO (parseF zzT).2 zzO := by
 refine parse_is (by decide) ?_ (by decide)
 show (([] : List UInt8) ++ ([] ++ lineL false [[119,111,114,100],Lib.itoa 5]) ++ [] ++ ([] ++ lineL false [[98,97,115,101],Lib.itoa 0,Lib.itoa 3])) = _
 rw [itoa_zero,itoa_five,itoa_three]
 rfl
theorem bases_zz : BasesAre 1 (fun _ => 1) 0 (fun _ => 0) (fun _ => 0) 0 (fun _ => 0) := by
 refine .ok _ (by decide) fun j hj => ?_
 obtain rfl : j = 0 := by omega
 exact ⟨0,by decide,by decide,by decide,fun j hj => by omega⟩
theorem write_ia : writeF (.map []) 0 bnA zzT = 0 := by decide
abbrev fia : DataW Unit := DataW.put (.map []) (keyB bnA) (fileD zzT.data.toList (((0 : Nat) : Int) + 1))
theorem inv_ia : Inv fia 1 := Inv.put Inv.empty write_ia
theorem has_ia : Maps.has fia (keyB bnA) = true := has_put_same ⟨[],rfl⟩ (keyB_key bnA) _
theorem rd_ia {T : ByteArray -> ByteArray} (hT : Texts fia T) : rdD fia T bnA = parseF zzT := by
 have h2 : fia.atKey (keyB bnA) (fileD [] 0) = fileD zzT.data.toList (((0 : Nat) : Int) + 1) := atKey_put_same ⟨[],rfl⟩ (keyB_key bnA) _ _
 have h3 := hT.is bnA zzT _ has_ia h2
 unfold rdD
 rw [if_pos has_ia,<- h3]
theorem of_one {rd : ByteArray -> Nat × ObjF} {n : ByteArray} (hA : rd n = parseF zzT) : OfIs rd n 0 1 /\ nmAt rd n 0 = n := by
 have e0 : nmAt rd n 0 = n := rfl
 have hn1 : namesAt rd n 1 = [n] := by
  show joinL [n] (needsTo (rd n).2 (rd n).2.nN) = _
  rw [hA,parse_zz.2.nN]
  rfl
 refine ⟨.ok 1 (fun j hj => ?_) (by rw [hn1]; rfl),e0⟩
 obtain rfl : j = 0 := by omega
 exact ⟨by simp [namesAt],by rw [e0,hA]; exact parse_zz.1⟩
theorem reck_one {rd : ByteArray -> Nat × ObjF} {n : ByteArray} (hA : rd n = parseF zzT) : ∃ P Q,Reckoned rd n 1 (fun _ => 0) P Q /\ boundW rd n 1 (fun _ => 0) P Q 0 0 = 3 /\ (obAt rd n 0).nW = 1 /\ (patsAt rd n 1 (fun _ => 0) P Q) = [(0,0,3)] := by
 obtain ⟨hO,e0⟩ := of_one hA
 have o0 : obAt rd n 0 = (parseF zzT).2 := by show (rd (nmAt rd n 0)).2 = _; rw [e0,hA]
 have sA := parse_zz.2
 obtain ⟨P,Q,hP⟩ := finds_some (symsF 1 (obAt rd n))
 have t0 := sA.ties 0 (by decide)
 have hw : whereF (obAt rd n) P Q (fun _ => 0) 0 0 = some 0 := by
  unfold whereF
  rw [o0,t0.2.1]
  rw [if_pos (by decide)]
 have ht : tieW (obAt rd n) P Q (fun _ => 0) 0 0 = (0,3) := by
  unfold tieW
  rw [hw,o0,t0.2.1,t0.1,t0.2.2.1]
  decide
 have n0 : (obAt rd n 0).nT = 1 := by rw [o0,sA.nT]; rfl
 have hp : patsAt rd n 1 (fun _ => 0) P Q = [(0,0,3)] := by
  show [] ++ patsOf (obAt rd n) P Q (fun _ => 0) 0 (obAt rd n 0).nT = _
  rw [n0]
  show [] ++ ([] ++ [(0,(obAt rd n 0).tAt 0,(tieW (obAt rd n) P Q (fun _ => 0) 0 0).2)]) = _
  rw [ht,o0,t0.1]
  rfl
 refine ⟨P,Q,⟨hO,bases_zz.sizes fun i hi => ?_,fun _ _ => rfl,hP,?_⟩,?_,?_,hp⟩
 ·obtain rfl : i = 0 := by omega
  show (1 : Int) = ((obAt rd n 0).nW : Int)
  rw [o0,sA.nW]; rfl
 ·unfold allF
  rw [if_neg (by decide),if_neg (by decide)]
  show seqF 0 (faultTo (fun k => (tieW (obAt rd n) P Q (fun _ => 0) 0 k).1) (obAt rd n 0).nT) = 0
  rw [n0]
  show seqF 0 (seqF 0 (tieW (obAt rd n) P Q (fun _ => 0) 0 0).1) = 0
  rw [ht]
  decide
 ·unfold boundW
  rw [hp]
  show (if pP [(0,0,3)] 0 = ((0 : Nat) : Int) /\ pT [(0,0,3)] 0 = ((0 : Nat) : Int) then pV [(0,0,3)] 0 else _) = 3
  rw [if_pos (by decide)]
  decide
 ·rw [o0,sA.nW]; rfl
structure Since (D0 : DataW Unit) (k0 : Nat) (D : DataW Unit) (k : Nat) : Prop where
 le : k0 <= k
 was : ∀ x t n,Maps.has D (keyB x) = true -> D.atKey (keyB x) (fileD [] 0) = fileD t n -> n <= (k0 : Int) -> Maps.has D0 (keyB x) = true /\ D0.atKey (keyB x) (fileD [] 0) = fileD t n
theorem Since.refl (D : DataW Unit) (k : Nat) : Since D k D k := ⟨Nat.le_refl _,fun _ _ _ h ha _ => ⟨h,ha⟩⟩
theorem Since.put {D0 D : DataW Unit} {k0 k : Nat} {s : ByteArray} {t : List UInt8} (hI : Inv D k) (h : Since D0 k0 D k) : Since D0 k0 (D.put (keyB s) (fileD t ((k : Int) + 1))) (k + 1) := ⟨Nat.le_succ_of_le h.le,fun x t' n hx ha hn => by
 by_cases e : x = s
 ·subst e
  rw [atKey_put_same hI.tidy.isMap (keyB_key x)] at ha
  have := fileD_stamp ha
  have := h.le
  omega
 ·rw [has_put_other (fun q => e (keyB_inj' q))] at hx
  rw [atKey_put_other (fun q => e (keyB_inj' q))] at ha
  exact h.was x t' n hx ha hn⟩
theorem Since.del {D0 D : DataW Unit} {k0 k : Nat} {s : ByteArray} (h : Since D0 k0 D k) : Since D0 k0 (D.del (keyB s)) k := ⟨h.le,fun x t' n hx ha hn => by
 by_cases e : x = s
 ·subst e; rw [has_del_same] at hx; cases hx
 ·rw [has_del_other (fun q => e (keyB_inj' q))] at hx
  rw [atKey_del_other (fun q => e (keyB_inj' q))] at ha
  exact h.was x t' n hx ha hn⟩
theorem Since.done {D0 : DataW Unit} {k0 : Nat} {q : DataW Unit × Nat} {X : Nat -> ActF} (hI : Inv q.1 q.2) (h : Since D0 k0 q.1 q.2) (m : Nat) : Since D0 k0 (doneD q X m).1 (doneD q X m).2 := by
 induction m with
 | zero => exact h
 | succ m ih =>
  have hIm := (doneD_inv (X := X) (q := q) hI m).1
  show Since D0 k0 (actD (doneD q X m) (X m)).1 (actD (doneD q X m) (X m)).2
  unfold actD
  by_cases h1 : (X m).kind = kWrite
  ·rw [if_pos h1]
   by_cases h2 : writeF (doneD q X m).1 (doneD q X m).2 (X m).s (X m).t = 0
   ·rw [if_pos h2]; exact ih.put hIm
   ·rw [if_neg h2]; exact ih
  ·rw [if_neg h1]
   by_cases h2 : (X m).kind = kRemove
   ·rw [if_pos h2]; exact ih.del
   ·rw [if_neg h2]; exact ih
structure Made (D : DataW Unit) (k : Nat) (e : EntF) (D0 : DataW Unit) (k0 : Nat) (T0 : ByteArray -> ByteArray) (S0 : ByteArray -> Int) (m : Nat) (B : Nat -> Int) (P Q : ByteArray -> Int) : Prop where
 since : Since D0 k0 D k
 inv : Inv D0 k0
 texts : Texts D0 T0
 stamps : Stamps D0 S0
 reck : Reckoned (rdD D0 T0) e.root m B P Q
 same : SameE e (madeE (rdD D0 T0) S0 e.root m B (patsAt (rdD D0 T0) e.root m B P Q))
def Held (D : DataW Unit) (k : Nat) (e : EntF) : Prop := ∃ D0 k0 T0 S0 m B P Q,Made D k e D0 k0 T0 S0 m B P Q
theorem Held.step {D D' : DataW Unit} {k k' : Nat} {e : EntF} (h : Held D k e) (f : ∀ D0 k0,Since D0 k0 D k -> Since D0 k0 D' k') : Held D' k' e := by
 obtain ⟨D0,k0,T0,S0,m,B,P,Q,h⟩ := h
 exact ⟨D0,k0,T0,S0,m,B,P,Q,{ h with since := f _ _ h.since }⟩
theorem any_false {f : Nat -> Bool} {n : Nat} (h : anyTo f n = false) : ∀ i,i < n -> f i = false := by
 induction n with
 | zero => intro i hi; omega
 | succ n ih =>
  intro i hi
  simp only [anyTo,Bool.or_eq_false_iff] at h
  by_cases e : i = n
  ·subst e; exact h.2
  ·exact ih h.1 i (by omega)
theorem ofIs_read {rd : ByteArray -> Nat × ObjF} {root : ByteArray} {F m : Nat} (h : OfIs rd root F m) (hF : F = 0) : ReadTo rd root m := by
 cases h with
 | bad i h hi hf => exact absurd hF hf
 | ok i h hi => exact h
theorem Made.reads {D : DataW Unit} {k : Nat} {e : EntF} {D0 : DataW Unit} {k0 : Nat} {T0 : ByteArray -> ByteArray} {S0 : ByteArray -> Int} {m : Nat} {B : Nat -> Int} {P Q : ByteArray -> Int} (h : Made D k e D0 k0 T0 S0 m B P Q) {T : ByteArray -> ByteArray} {S : ByteArray -> Int} (hI : Inv D k) (hT : Texts D T) (hS : Stamps D S) (hst : staleTo D S (nmAt (rdD D0 T0) e.root) (fun j => S0 (nmAt (rdD D0 T0) e.root j)) m = false) :
 ∀ j,j < m -> rdD D T (nmAt (rdD D0 T0) e.root j) = rdD D0 T0 (nmAt (rdD D0 T0) e.root j) := by
 intro j hj
 have h1 := any_false hst j hj
 simp only [Bool.not_eq_false',Bool.and_eq_true,decide_eq_true_eq] at h1
 obtain ⟨hh,hs⟩ := h1
 have hrd := (ofIs_read h.reck.of rfl j hj).2
 generalize nmAt (rdD D0 T0) e.root j = x at *
 obtain ⟨n,hn⟩ := texts_at hI hT hh
 have hn1 : n = S0 x := (hS.is x _ n hh hn).trans hs
 have h0 : Maps.has D0 (keyB x) = true -> n <= (k0 : Int) := fun h2 => by
  obtain ⟨t,n',ha,hle⟩ := h.inv.st _ h2
  have := h.stamps.is x t n' h2 ha
  omega
 by_cases h2 : Maps.has D0 (keyB x) = true
 ·obtain ⟨_,ha⟩ := h.since.was x _ n hh hn (h0 h2)
  have ht := h.texts.is x (T x) n h2 ha
  unfold rdD
  rw [if_pos hh,if_pos h2,ht]
 ·rw [show rdD D0 T0 x = (5,emptyO) by unfold rdD; rw [if_neg h2]] at hrd
  cases hrd
theorem Held.new {D : DataW Unit} {k : Nat} {T : ByteArray -> ByteArray} {S : ByteArray -> Int} {root : ByteArray} {m : Nat} {B : Nat -> Int} {P Q : ByteArray -> Int} (hI : Inv D k) (hT : Texts D T) (hS : Stamps D S) (h : Reckoned (rdD D T) root m B P Q) : Held D k (madeE (rdD D T) S root m B (patsAt (rdD D T) root m B P Q)) :=
 ⟨D,k,T,S,m,B,P,Q,Since.refl D k,hI,hT,hS,h,SameE.refl _⟩
theorem putF_pats {X : Nat -> Nat -> Int} {p p' t t' v v' : Nat -> Int} {n : Nat} (e : ∀ k,k < n -> p k = p' k /\ t k = t' k /\ v k = v' k) (i j : Nat) : putF X p t v n i j = putF X p' t' v' n i j := by
 induction n with
 | zero => rfl
 | succ n ih =>
  simp only [putF]
  rw [ih fun k hk => e k (by omega),(e n (by omega)).1,(e n (by omega)).2.1,(e n (by omega)).2.2]
theorem PartsIn.base {w : World} {B0 : Nat} {v : Value} {n : Nat} {nm : Nat -> ByteArray} {B B' : Nat -> Int} {M : Nat -> Nat} {X : Nat -> Nat -> Int} {g : Nat} {A : Nat -> Option Addr} {C G : Nat -> Nat} (h : PartsIn w B0 v n nm B M X g A C G) (e : ∀ i,i < n -> B i = B' i) : PartsIn w B0 v n nm B' M X g A C G :=
 ⟨h.out,by
  have := h.own
  rwa [joinC_congr (g := partC nm B A M C) (h := partC nm B' A M C) fun i hi => by unfold partC; rw [e i hi]] at this⟩
theorem held_putE {D : DataW Unit} {kf k : Nat} {E : Nat -> EntF} {en : EntF} (h : ∀ i,i < k -> Held D kf (E i)) (he : Held D kf en) : ∀ i,i < (putE E k en).2.2 -> Held D kf ((putE E k en).2.1 i) := by
 have key : ∀ j n,(∀ i,i < n -> i ≠ j -> i < k) -> ∀ i,i < n -> Held D kf (addV E j en i) := fun j n hn i hi => by
  unfold addV
  by_cases e : i = j
  ·rw [if_pos e]; exact he
  ·rw [if_neg e]; exact h i (hn i hi e)
 unfold putE
 split
 ·exact h
 ·split
  ·exact key _ _ fun i hi _ => hi
  ·split
   ·exact h
   ·exact key _ _ fun i hi e => by
     have : i < k + 1 := hi
     omega
theorem held_dropE {D : DataW Unit} {kf k : Nat} {E : Nat -> EntF} {root : ByteArray} (h : ∀ i,i < k -> Held D kf (E i)) : ∀ i,i < (dropE E k root).2.2 -> Held D kf ((dropE E k root).2.1 i) := by
 unfold dropE
 split
 ·exact h
 ·intro i hi
  have hi' : i < k - 1 := hi
  show Held D kf (cutV E _ i)
  unfold cutV
  split
  ·exact h i (by omega)
  ·exact h (i + 1) (by omega)
theorem errV_zero {F : Nat} (h : errV F = .nilIface) : F = 0 := by
 cases F with
 | zero => rfl
 | succ n => cases h
theorem kept_load {w : World} {B0 : Nat} {D : DataW Unit} {kf : Nat} {T : ByteArray -> ByteArray} {S : ByteArray -> Int} {re en : EntF} {u : Value} {F : Nat} {root : ByteArray} (hI : Inv D kf) (hT : Texts D T) (hS : Stamps D S) (hH : Held D kf re) (hr : re.root = root) (hs : SameE en re)
 (hf : (!staleTo D S en.pName en.pStamp en.nP && decide (0 < en.nP)) = true) (hu : UseEnd w B0 D S (rdD D T) en.nP en.pName en.pStamp en.pBase en.nQ en.qPart en.qAt en.qWord (.returned (.tuple #[u,errV F]))) : LoadEnd w B0 (rdD D T) root (.returned (.tuple #[u,errV F])) /\ F = 0 := by
 obtain ⟨D0,k0,T0,S0,m,B,P,Q,hM⟩ := hH
 subst hr
 have hSE := hs.trans hM.same
 have e1 : en.nP = m := hSE.nP
 have e2 : en.nQ = (patsAt (rdD D0 T0) re.root m B P Q).length := hSE.nQ
 have e3 : ∀ i,i < m -> en.pName i = nmAt (rdD D0 T0) re.root i /\ en.pStamp i = S0 (nmAt (rdD D0 T0) re.root i) /\ en.pBase i = B i := hSE.parts
 have e4 : ∀ i,i < (patsAt (rdD D0 T0) re.root m B P Q).length -> en.qPart i = pP (patsAt (rdD D0 T0) re.root m B P Q) i /\ en.qAt i = pT (patsAt (rdD D0 T0) re.root m B P Q) i /\ en.qWord i = pV (patsAt (rdD D0 T0) re.root m B P Q) i := hSE.pats
 have hst0 : staleTo D S (nmAt (rdD D0 T0) re.root) (fun j => S0 (nmAt (rdD D0 T0) re.root j)) m = false := by
  have h0 : staleTo D S en.pName en.pStamp en.nP = false := by
   cases e : staleTo D S en.pName en.pStamp en.nP with
   | false => rfl
   | true => rw [e] at hf; cases hf
  rw [e1] at h0
  rw [<- h0]
  unfold staleTo
  exact anyTo_congr fun i hi => by rw [(e3 i hi).1,(e3 i hi).2.1]
 have hrd := hM.reads hI hT hS hst0
 obtain ⟨h1,h2,h3⟩ := reckoned_same hM.reck hrd
 have hO : ∀ i,i < m -> rdD D T (en.pName i) = rdD D T (nmAt (rdD D T) re.root i) := fun i hi => by rw [(e3 i hi).1,(h3 i hi).1]
 have hok : ∀ j,j < m -> ObjOk (obAt (rdD D T) re.root j) := fun j hj => rd_ok (ofIs_read h1.of rfl j hj).2
 have hpo := pats_ok (O := obAt (rdD D T) re.root) (P := P) (Q := Q) (B := B) (m := m) hok
 rw [<- h2] at e2 e4
 generalize hE : Ending.returned (.tuple #[u,errV F]) = e at hu
 cases hu with
 | stale h => rw [hf] at h; cases h
 | bad i hi h0 hb =>
  have hi' : i < m := by rw [<- e1]; exact hi
  rw [hO i hi'] at hb
  exact absurd (ofIs_read h1.of rfl i hi').2 hb
 | lay e h h0 hl =>
  cases hl with
  | bad hbd =>
   obtain ⟨k,hk,hbk⟩ := hbd
   have hk' : k < (patsAt (rdD D T) re.root m B P Q).length := by rw [<- e2]; exact hk
   have hp : patOk m (fun i => (obAt (rdD D T) re.root i).nW) (pP (patsAt (rdD D T) re.root m B P Q) k) (pT (patsAt (rdD D T) re.root m B P Q) k) = true := hpo k hk'
   dsimp only at hbk
   rw [e1,(e4 k hk').1,(e4 k hk').2.1] at hbk
   unfold patOk at hbk hp
   dsimp only at hbk hp
   rw [Bool.and_eq_true] at hp
   obtain ⟨hp1,hp2⟩ := hp
   have hlt : (pP (patsAt (rdD D T) re.root m B P Q) k).toNat < m := by
    unfold isPlaceF at hp1
    simp only [Bool.and_eq_true,decide_eq_true_eq] at hp1
    omega
   rw [hp1,hO _ hlt,hp2] at hbk
   cases hbk
  | ok u2 g A C G h5 ho hu2 =>
   have hPI : PartsIn w B0 u2 en.nP en.pName en.pBase (fun i => (rdD D T (en.pName i)).2.nW) (putF (fun i j => (rdD D T (en.pName i)).2.words j) en.qPart en.qAt en.qWord en.nQ) g A C G := ⟨ho,hu2⟩
   rw [e1,e2] at hPI
   have hPJ := (hPI.base (B' := B) fun i hi => (e3 i hi).2.2).congr (nm' := nmAt (rdD D T) re.root) (M' := fun i => (obAt (rdD D T) re.root i).nW) (X' := boundW (rdD D T) re.root m B P Q) fun i hi =>
    ⟨(e3 i hi).1.trans (h3 i hi).1.symm,by rw [hO i hi],fun j => (putF_pats e4 i j).trans (putF_same (fun j => by rw [hO i hi]) _ _)⟩
   have hF : F = 0 := errV_zero (by
    injection hE with hE
    injection hE with hE
    have := congrArg (fun a : Array Value => a[1]?) hE
    simpa using this)
   exact ⟨.ok m B P Q u2 g A C G h1 hPJ,hF⟩
theorem ret2 {u u' v v' : Value} (h : Ending.returned (.tuple #[u,v]) = .returned (.tuple #[u',v'])) : u = u' /\ v = v' := by
 simpa using h
theorem LoadEnd.good {w : World} {B0 : Nat} {rd : ByteArray -> Nat × ObjF} {root : ByteArray} {u : Value} {F m : Nat} {B : Nat -> Int} {P Q : ByteArray -> Int} (h : LoadEnd w B0 rd root (.returned (.tuple #[u,errV F]))) (hR : Reckoned rd root m B P Q) :
 F = 0 /\ ∃ g A C G,PartsIn w B0 u m (nmAt rd root) B (fun i => (obAt rd root i).nW) (boundW rd root m B P Q) g A C G := by
 generalize hE : Ending.returned (.tuple #[u,errV F]) = e at h
 cases h with
 | bad F' h hf => exact (h.not hR).elim
 | ok m' B' P' Q' u' g A C G h hu =>
  obtain ⟨rfl,rfl,rfl,rfl⟩ := h.unique hR
  obtain ⟨rfl,h2⟩ := ret2 hE
  exact ⟨errV_zero h2,g,A,C,G,hu⟩
theorem errV_inj {F F' : Nat} (h : errV F = errV F') : F = F' := by
 cases F with
 | zero => cases F' with
  | zero => rfl
  | succ n => cases h
 | succ n => cases F' with
  | zero => cases h
  | succ m =>
   have h1 : ((n + 1 : Nat) : Int) = ((m + 1 : Nat) : Int) := by
    injection h with _ h
    injection h
   omega
theorem LoadEnd.which {w : World} {B0 : Nat} {rd : ByteArray -> Nat × ObjF} {root : ByteArray} {u : Value} {F : Nat} (h : LoadEnd w B0 rd root (.returned (.tuple #[u,errV F]))) :
 (F ≠ 0 /\ u = .slice none 0 0 /\ ReckIs rd root F) ∨ (F = 0 /\ ∃ m B P Q g A C G,Reckoned rd root m B P Q /\ PartsIn w B0 u m (nmAt rd root) B (fun i => (obAt rd root i).nW) (boundW rd root m B P Q) g A C G) := by
 generalize hE : Ending.returned (.tuple #[u,errV F]) = e at h
 cases h with
 | bad F' h hf =>
  obtain ⟨rfl,h2⟩ := ret2 hE
  obtain rfl := errV_inj h2
  exact .inl ⟨hf,rfl,h⟩
 | ok m' B' P' Q' u' g A C G h hu =>
  obtain ⟨rfl,h2⟩ := ret2 hE
  exact .inr ⟨errV_zero h2,m',B',P',Q',g,A,C,G,h,hu⟩
structure KeptAt (w wc : World) (B p pf bm l g : Nat) (s : DSt) (E : Nat -> EntF) (k : Nat) (D : DataW Unit) (kf : Nat) : Prop where
 disk : Disk wc B p 112 s
 stands : Stands s 112 E k
 files : FilesAt wc pf bm D kf
 inv : Inv D kf
 names : NamesOk D
 pos : StampsPos D
 held : ∀ i,i < k -> Held D kf (E i)
 loader : LoaderAt wc l pf g
 shelf : ShelfAt wc g p
 below : Below w.heap.size w wc
structure FallAt (w wc : World) (B p pf bm : Nat) (s : DSt) (E : Nat -> EntF) (k : Nat) (E' : Nat -> EntF) (k' : Nat) (D : DataW Unit) (kf : Nat) : Prop where
 disk : Disk wc B p 112 s
 split : Split s 112 E k E' k'
 files : FilesAt wc pf bm D kf
 inv : Inv D kf
 names : NamesOk D
 pos : StampsPos D
 held : ∀ i,i < k -> Held D kf (E i)
 held' : ∀ i,i < k' -> Held D kf (E' i)
 below : Below w.heap.size w wc
abbrev kBuild : ByteArray := ⟨#[98,117,105,108,100]⟩
abbrev kDrop : ByteArray := ⟨#[100,114,111,112]⟩
abbrev kOpen : ByteArray := ⟨#[111,112,101,110]⟩
end Go.Proofs.YtagfngiaogckpaaGreatDoor
namespace Go.Proofs.YtagfngiaogckpaaGreatDoor
open Go.RowKit
theorem eqTo_self (f : Nat -> Int) : ∀ n,eqTo f f n = true
 | 0 => rfl
 | n + 1 => eqTo_succ (eqTo_self f n) rfl
theorem sameParts_none (a a' : Option Addr) (c c' : Nat) (w : World) :
 Calls Tryz.prog 20 #[.slice a 0 c,.slice a' 0 c'] w fun e w' => e = .returned (.bool true) /\ ∃ k,w' = w.drewN k := by
 go_enter Tryz.func20,Tryz.ntmps20
 go_wp2
 refine wp_loop_rounds 1 ?_
 rw [rounds_succ]
 go_wp2
 go_ret
 exact ⟨rfl,0,rfl⟩
set_option maxRecDepth 100000 in
set_option maxHeartbeats 2000000 in
theorem sameParts_true (n : Nat) (nm : Nat -> ByteArray) (B : Nat -> Int) (M : Nat -> Nat) (X : Nat -> Nat -> Int) (a a' : Option Addr) (c c' : Nat) (A A' : Nat -> Option Addr) (C C' : Nat -> Nat) (w : World) (hn : n <= 1000) (hM : ∀ i,i < n -> M i <= 1000)
 (hx : PartRow w a n nm B A M C X) (hy : PartRow w a' n nm B A' M C' X) :
 Calls Tryz.prog 20 #[.slice a n c,.slice a' n c'] w fun e w' => e = .returned (.bool true) /\ ∃ k,w' = w.drewN k := by
 rcases hx with h0 | ⟨bx,ox,rfl,hx⟩
 ·subst h0
  exact sameParts_none a a' c c' w
 rcases hy with h0 | ⟨bY,oY,rfl,hy⟩
 ·subst h0
  exact sameParts_none _ a' c c' w
 have hnn : ((n : Int) != (n : Int)) = false := by simp
 go_enter Tryz.func20,Tryz.ntmps20
 go_wp2
 clear hnn
 go_loopw [5] (fun i wr => ∃ k j : Nat,k <= n /\ i = .int .i64 k /\ wr = w.drewN j) (fun i _ => n - (intOf i).toNat)
 case atStart => exact ⟨0,0,Nat.zero_le _,rfl,rfl⟩
 case round =>
  obtain ⟨k,j,hk,rfl,hwr⟩ := hrel
  by_cases hlt : k < n
  ·have hbw : Below w.heap.size w wr := by rw [hwr]; exact below_drewN (Below.refl _ _) j
   have x0 := cell_later hbw (hx k hlt).1
   have x1 := cell_later hbw (hx k hlt).2.1
   have x2 := cell_later hbw (hx k hlt).2.2.1
   have xr := (hx k hlt).2.2.2.later hbw
   have y0 := cell_later hbw (hy k hlt).1
   have y1 := cell_later hbw (hy k hlt).2.1
   have y2 := cell_later hbw (hy k hlt).2.2.1
   have yr := (hy k hlt).2.2.2.later hbw
   have hMk := hM k hlt
   have Hwr : Hid (wr = w.drewN j) := hwr
   clear hx hy hbw hwr
   have HS : ∀ q : Nat,Calls Tryz.prog 24 #[.slice (A k) (M k) (C k),.slice (A' k) (M k) (C' k)] (wr.drewN q) fun e w' => e = .returned (.bool true) /\ ∃ m,w' = (wr.drewN q).drewN m := fun q => by
    have := sameNumbers_any (X k) (X k) (M k) (M k) (A k) (A' k) (C k) (C' k) (wr.drewN q) (by omega) (xr.drewN q) (yr.drewN q)
    rwa [show (decide (M k = M k) && eqTo (X k) (X k) (M k)) = true by rw [decide_eq_true rfl,Bool.true_and]; exact eqTo_self (X k) (M k)] at this
   have hsn : ((nm k).toList != (nm k).toList) = false := by simp
   have hsb : (B k != B k) = false := by simp
   clear xr yr
   go_wp2
   go_quiet (exact Calls.quiet_of (HS _))
   clear HS
   go_wp2
   go_quiet (fail)
   go_wp2
   go_roundw
   case rel =>
    rw [Hwr.out]
    simp only [World.drewN_drewN]
    exact ⟨k + 1,_,by omega,by go_num,rfl⟩
   case measure => simp [intOf]; omega
  ·clear hx hy
   go_wp2
   go_ret
   exact ⟨rfl,j,rfl⟩
end Go.Proofs.YtagfngiaogckpaaGreatDoor
namespace Go.Proofs.YtagfngiaogckpaaGreatDoor
open Go.RowKit Go.Maps
theorem getE_is {E : Nat -> EntF} {k : Nat} {root : ByteArray} (hg : (getE E k root).1 = true) : ∃ j,j < k /\ (E j).root = root /\ (getE E k root).2 = E j := by
 unfold getE at hg ⊢
 split at hg
 ·cases hg
 ·rename_i hn
  obtain ⟨j,_,hj,hr,hfj⟩ := findF_some _ 0 rfl (show 0 <= findF E root k 0 by omega)
  rw [if_neg hn,hfj]
  exact ⟨j,hj,hr,rfl⟩
def freshE (D : DataW Unit) (S : ByteArray -> Int) (e : EntF) : Bool := !staleTo D S e.pName e.pStamp e.nP && decide (0 < e.nP)
theorem freshE_same {D : DataW Unit} {S : ByteArray -> Int} {a b : EntF} (h : SameE a b) : freshE D S a = freshE D S b := by
 have e : staleTo D S a.pName a.pStamp b.nP = staleTo D S b.pName b.pStamp b.nP := anyTo_congr fun i hi => by rw [(h.parts i hi).1,(h.parts i hi).2.1]
 unfold freshE
 rw [h.nP,e]
theorem loads_flag {w : World} {B0 : Nat} {D : DataW Unit} {kf : Nat} {T : ByteArray -> ByteArray} {S : ByteArray -> Int} {E : Nat -> EntF} {k : Nat} {root : ByteArray} {e : Ending} (h : LoadsEnd w B0 D S (rdD D T) root (getE E k root) e) (hI : Inv D kf) (hT : Texts D T) (hS : Stamps D S) (hH : ∀ i,i < k -> Held D kf (E i)) :
 ∃ (u : Value) (F : Nat) (w1 : World) (B1 : Nat),e = .returned (.tuple #[u,.bool ((getE E k root).1 && freshE D S (getE E k root).2),errV F]) /\ (F ≠ 0 -> ((getE E k root).1 && freshE D S (getE E k root).2) = false) /\ B0 <= B1 /\ Below w1.heap.size w1 w /\ LoadEnd w1 B1 (rdD D T) root (.returned (.tuple #[u,errV F])) := by
 cases h with
 | kept en u F w1 B1 hB hw hr hs hf hu =>
  have hfl : ((getE E k root).1 && freshE D S (getE E k root).2) = true := by rw [hr,<- freshE_same hs]; exact hf
  obtain ⟨j,hj,hjr,hje⟩ := getE_is hr
  have hs' := hs
  rw [hje] at hs'
  obtain ⟨h1,h2⟩ := kept_load hI hT hS (hH j hj) hjr hs' hf hu
  subst hw
  rw [hfl]
  exact ⟨u,F,w1,B1,by rw [decide_eq_true h2],fun h => absurd h2 h,hB,(Below.refl _ w1).drew,h1⟩
 | new u F B1 hB hr hl =>
  have hfl : ((getE E k root).1 && freshE D S (getE E k root).2) = false := by
   rcases hr with hr | ⟨en,hs,hf⟩
   ·rw [hr]; rfl
   ·rw [<- freshE_same hs]
    have : freshE D S en = false := hf
    rw [this,Bool.and_false]
  rw [hfl]
  exact ⟨u,F,w,B1,rfl,fun _ => rfl,hB,Below.refl _ _,hl⟩
end Go.Proofs.YtagfngiaogckpaaGreatDoor
namespace Go.Proofs.YtagfngiaogckpaaGreatDoor
open Go.RowKit
theorem getE_some {E : Nat -> EntF} {root : ByteArray} {k j : Nat} (ho : ∀ i j,i < k -> j < k -> (E i).root = (E j).root -> i = j) (hj : j < k) (hr : (E j).root = root) : getE E k root = (true,E j) := by
 have h0 : ¬ findF E root k 0 < 0 := fun h => by
  have := findF_none _ 0 rfl h
  exact this j (Nat.zero_le _) hj hr
 obtain ⟨i,_,hi,hir,hf⟩ := findF_some _ 0 rfl (show 0 <= findF E root k 0 by omega)
 obtain rfl := ho i j hi hj (hir.trans hr.symm)
 unfold getE
 rw [if_neg h0,hf]
 rfl
end Go.Proofs.YtagfngiaogckpaaGreatDoor
