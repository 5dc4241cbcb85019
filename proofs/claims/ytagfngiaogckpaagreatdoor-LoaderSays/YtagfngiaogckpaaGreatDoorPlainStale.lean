/- The document's shelf: what its Put and Drop do; all else stays as it was. What Get and Roots of the document's shelf return: the entry of that root, the roots in their order; memory that was there stays as it was. Plain words: what is reckoned for a root hangs only on the files of those who belong to it. Plain words on files that read as they did but for one name. Plain words on the stamps of files that are as they were but for one name; what Make returns over them. Plain words on entries that are fresh, and on such that aren't: files whose names may be names, stamps that tell that a file was written. -/
import Derived.Test.YtagfngiaogckpaaGreatDoorShelfDel
import Derived.Test.YtagfngiaogckpaaGreatDoorRefEntFault
import Derived.Test.YtagfngiaogckpaaGreatDoorRefEntry
namespace Go.Proofs.YtagfngiaogckpaaGreatDoor
open Go.RowKit
structure RShelf (w : World) (B0 B m : Nat) (v : Value) (k : Nat) (V : Nat -> EntV) (E : Nat -> EntF) : Prop where
 blk : w.heap[m]? = some (.cells #[v] 43 (0,0))
 own : EntsOwn w B0 B v k V E
 few : k <= 3
 once : ∀ i j,i < k -> j < k -> (E i).root = (E j).root -> i = j
theorem RShelf.lt {w : World} {B0 B m : Nat} {v : Value} {k : Nat} {V : Nat -> EntV} {E : Nat -> EntF} (h : RShelf w B0 B m v k V E) : m < w.heap.size := (Array.getElem?_eq_some_iff.1 h.blk).1
theorem RShelf.cell {w : World} {B0 B m : Nat} {v : Value} {k : Nat} {V : Nat -> EntV} {E : Nat -> EntF} (h : RShelf w B0 B m v k V E) : w.cell? ⟨m,0,none⟩ = some v := by simp [World.cell?,h.blk]
theorem RShelf.later {w w' : World} {B0 B m : Nat} {v : Value} {k : Nat} {V : Nat -> EntV} {E : Nat -> EntF} (h : RShelf w B0 B m v k V E) (hB : B0 <= w.heap.size) (hb : Below w.heap.size w w') : RShelf w' B0 B m v k V E :=
 ⟨(hb.block _ h.lt).trans h.blk,h.own.later hB hb,h.few,h.once⟩
theorem EntsOwn.other {w w' : World} {B0 B m : Nat} {v : Value} {k : Nat} {V : Nat -> EntV} {E : Nat -> EntF} {C : Array Value} {t : TypeId} {f : Nat × Nat} (h : EntsOwn w B0 B v k V E) (hm : w.heap[m]? = some (.cells C t f)) (ht : t ≠ 108 /\ t ≠ 144 /\ t ≠ 48) (hB : B0 <= m) (hB1 : B0 <= w.heap.size) (hg : w.grownBy w' (some m)) : EntsOwn w' B0 B v k V E := by
 have hne : ∀ (q : Nat) (C' : Array Value) (t' : TypeId),w.heap[q]? = some (.cells C' t' (0,0)) -> t' ≠ t -> q ≠ m := fun q C' t' hq hn e => by
  subst e
  rw [hm] at hq
  injection hq with hq
  injection hq with _ h2 _
  exact hn h2.symm
 refine h.keeps ⟨fun q hq => hg.block q (by omega) (fun e => by injection e; omega),fun q C' t' ht' hq => hg.block q (Array.getElem?_eq_some_iff.1 hq).1 (fun e => ?_)⟩ (fun b e => ?_)
 ·injection e with e
  exact hne q C' t' hq (by rcases ht' with rfl | rfl; exact fun e => ht.1 e.symm; exact fun e => ht.2.1 e.symm) e
 ·obtain ⟨C',hC'⟩ := own_kind h.row e
  exact hg.block b (Array.getElem?_eq_some_iff.1 hC').1 (fun e => by injection e with e; exact hne b C' _ hC' (fun e => ht.2.2 e.symm) e)
theorem grown_set {w W : World} (hb : Below w.heap.size w W) (m : Nat) (v : Value) : w.grownBy (W.setCell ⟨m,0,none⟩ v) (some m) :=
 ⟨hb.os,hb.tape,hb.output,by simp [World.setCell]; exact hb.size,fun k hk hne => (Below.heap_setCell _ _ _ _ (fun e => hne (by rw [show k = m from e]))).trans (hb.block k hk)⟩
theorem RShelf.stored {W : World} {B0 B B1 m : Nat} {v0 v : Value} {k : Nat} {V : Nat -> EntV} {E : Nat -> EntF} (hm : W.heap[m]? = some (.cells #[v0] 43 (0,0))) (hE : EntsOwn W B0 B1 v k V E) (hB : B <= B1) (hB0 : B0 <= m) (hBW : B0 <= W.heap.size) (hk : k <= 3) (ho : ∀ i j,i < k -> j < k -> (E i).root = (E j).root -> i = j) :
 RShelf (W.setCell ⟨m,0,none⟩ v) B0 B m v k V E := by
 have h1 := hE.other hm (by decide) hB0 hBW (grownBy_setCell' W m v)
 exact ⟨heap_set0 _ hm,⟨own_lower h1.row hB,h1.ins⟩,hk,ho⟩
theorem findF_first {E : Nat -> EntF} {root : ByteArray} {k j : Nat} (hj : j < k) (hr : (E j).root = root) (h : ∀ i,i < j -> (E i).root ≠ root) : findF E root k 0 = (j : Int) := by
 have key : ∀ (d i : Nat),i + d = j -> findF E root k i = (j : Int) := fun d => by
  induction d with
  | zero => intro i hi; obtain rfl : i = j := by omega
            exact findF_hit hj hr
  | succ d ih => intro i hi; rw [findF_miss (by omega) (h i (by omega))]; exact ih (i + 1) (by omega)
 exact key j 0 (by omega)
theorem findF_no {E : Nat -> EntF} {root : ByteArray} {k : Nat} (h : ∀ i,i < k -> (E i).root ≠ root) : findF E root k 0 = -1 := by
 have key : ∀ (d i : Nat),i + d = k -> findF E root k i = -1 := fun d => by
  induction d with
  | zero => intro i hi; exact findF_end (by omega)
  | succ d ih => intro i hi; rw [findF_miss (by omega) (h i (by omega))]; exact ih (i + 1) (by omega)
 exact key k 0 (by omega)
theorem joinC_put {f : Nat -> List Value} {i : Nat} {x : List Value} : ∀ {m : Nat},joinC f i ++ x ++ joinC (fun q => f (q + (i + 1))) m = joinC (addV f i x) (i + 1 + m)
 | 0 => by
  show joinC f i ++ x ++ [] = joinC (addV f i x) i ++ addV f i x i
  rw [List.append_nil]
  congr 1
  ·exact joinC_congr fun j hj => by unfold addV; rw [if_neg (by omega)]
  ·unfold addV; rw [if_pos rfl]
 | m + 1 => by
  show joinC f i ++ x ++ (joinC (fun q => f (q + (i + 1))) m ++ f (m + (i + 1))) = joinC (addV f i x) (i + 1 + m) ++ addV f i x (i + 1 + m)
  rw [<- List.append_assoc,joinC_put]
  congr 1
  unfold addV
  rw [if_neg (by omega)]
  congr 1
  omega
theorem entL_add (V : Nat -> EntV) (E : Nat -> EntF) (i : Nat) (x : EntV) (e : EntF) : addV (entL V E) i [.string e.root,.slice x.aP e.nP x.cP,.slice x.aQ e.nQ x.cQ] = entL (addV V i x) (addV E i e) := by
 funext j
 by_cases h : j = i <;> simp [addV,entL,h]
theorem EntsOwn.set {w : World} {B0 B g c k i : Nat} {V : Nat -> EntV} {E : Nat -> EntF} {x : EntV} {e : EntF} (h : EntsOwn w B0 B (.slice (some ⟨g,0,none⟩) k c) k V E) (hB : B0 <= B) (hi : i < k) (hx : EntIn w B0 x e) :
 EntsOwn (set3 w g (i * 3) (.string e.root) (.slice x.aP e.nP x.cP) (.slice x.aQ e.nQ x.cQ)) B0 B (.slice (some ⟨g,0,none⟩) k c) k (addV V i x) (addV E i e) /\ w.grownBy (set3 w g (i * 3) (.string e.root) (.slice x.aP e.nP x.cP) (.slice x.aQ e.nQ x.cQ)) (some g) := by
 obtain ⟨h1,h2⟩ := owns_segment [.string e.root,.slice x.aP e.nP x.cP,.slice x.aQ e.nQ x.cQ] (i * 3) w _ h.row (by rw [h.row.1]; simp; omega)
 obtain ⟨C,hC⟩ := own_kind h.row (k := g) rfl
 have hk : Keeps B0 w (set3 w g (i * 3) (.string e.root) (.slice x.aP e.nP x.cP) (.slice x.aQ e.nQ x.cQ)) := set3_keeps hC (Nat.le_trans hB (h.row.lt g rfl).1) _ _ _
 refine ⟨⟨?_,fun j hj => ?_⟩,h2⟩
 ·have e1 : (joinC (entL V E) k).take (i * 3) ++ [.string e.root,.slice x.aP e.nP x.cP,.slice x.aQ e.nQ x.cQ] ++ (joinC (entL V E) k).drop (i * 3 + [Value.string e.root,.slice x.aP e.nP x.cP,.slice x.aQ e.nQ x.cQ].length) = joinC (entL (addV V i x) (addV E i e)) k := by
   rw [show i * 3 + [Value.string e.root,.slice x.aP e.nP x.cP,.slice x.aQ e.nQ x.cQ].length = (i + 1) * 3 by simp; omega,joinC_take (fun _ => rfl) (by omega),joinC_drop (fun _ => rfl) (by omega),joinC_put,<- entL_add]
   congr 1
   omega
  rw [<- e1]
  exact h1
 ·unfold addV
  split
  ·exact hx.keeps hk
  ·exact (h.ins j hj).keeps hk
set_option maxRecDepth 100000 in
set_option maxHeartbeats 8000000 in
theorem refPut_any (w : World) (B0 B m k : Nat) (vl : Value) (V : Nat -> EntV) (E : Nat -> EntF) (v : EntV) (en : EntF) (h : RShelf w B0 B m vl k V E) (hB0 : B0 <= B) (hBm : B <= m) (hA : EntIn w B0 v en) (hf : EntFit en) :
 Calls Tryz.prog 37 #[.pointer (some ⟨m,0,none⟩),.agg (entCs v en)] w fun e w' => e = .returned (.int .i64 (((putE E k en).1 : Nat) : Int)) /\ (∃ vl' V',RShelf w' B0 B m vl' (putE E k en).2.2 V' (putE E k en).2.1) /\ w.grownBy w' (some m) := by
 have hlt := h.lt
 have hBw : B0 <= w.heap.size := by omega
 have hb0 : Below w.heap.size w (w.alloc (.cells (entCs v en) 48)) := (Below.refl _ _).alloc (Nat.le_refl _) _
 have hX0 := EntBox.new w v en
 have HC := refEntFault_any v en _ (hA.here.later hb0) hf
 have h1 := h.later (by omega) hb0
 have hA1 := hA.keeps (Keeps.of_below (by omega) hb0)
 have c0 := hX0.c0
 have c1 := hX0.c1
 have c2 := hX0.c2
 have gb : ∀ w',Below w.heap.size w w' -> w.grownBy w' (some m) := fun w' hb => ⟨hb.os,hb.tape,hb.output,hb.size,fun k hk _ => hb.block k hk⟩
 have hsz : w.heap.size <= (w.alloc (.cells (entCs v en) 48)).heap.size := hb0.size
 unfold entCs at *
 generalize hW : w.alloc (.cells #[.string en.root,.slice v.aP en.nP v.cP,.slice v.aQ en.nQ v.cQ] 48) = W at *
 by_cases hF : entF en = 0
 ·rw [hF] at HC
  go_enter Tryz.func37,Tryz.ntmps37
  go_wp2_with fail
  refine (show Calls _ _ _ _ _ from HC).mono ?_
  rintro e w1 ⟨rfl,hb1⟩
  clear HC
  have hX1 := hX0.later hb1
  have h2 := h1.later (by omega) hb1
  have hA2 := hA1.keeps (Keeps.of_below (by omega) hb1)
  have hbA := hb0.trans (hb1.mono hb0.size)
  have mc := h2.cell
  obtain ⟨a,c,rfl,hRow⟩ := h2.own.ents
  have hk3 := h.few
  have hlen : (joinC (entL V E) k).length = k * 3 := h2.own.row.1
  obtain ⟨v1,W1,happ,hGr⟩ := append_from 41 48 3 64 (.agg #[.string ⟨#[]⟩,.slice none 0 0,.slice none 0 0]) (by kernel_rfl) (by kernel_rfl) (by rfl) (by decide) w1.heap.size w1 (.slice none 0 0) 0 [] (World.ownsRow_nil _ _ _ _) a k c (joinC (entL V E) k) hlen
   (by
     rcases rows3 (fun _ => rfl) h2.own.row with ⟨a',c',e,hr⟩
     cases e
     rcases hr with h0 | ⟨bk,_,ha,hc,_⟩
     ·exact .inl h0
     ·refine .inr ⟨bk,0,ha,fun j u hj => ?_⟩
      have hjl := (List.getElem?_eq_some_iff.1 hj).1
      have hd : j / 3 < k := by omega
      have := hc (j / 3) hd (j % 3) u (by rw [<- joinC_at (s := 3) (fun _ _ => rfl) hd (Nat.mod_lt _ (by decide)),show j / 3 * 3 + j % 3 = j by omega]; exact hj)
      rw [show j / 3 * 3 + j % 3 = j by omega] at this
      rw [Nat.zero_add]
      exact this) (entL_one V E k) (Nat.le_refl _) (by omega) (by decide)
  rw [Nat.zero_add,List.nil_append] at hGr
  have hBw1 : B0 <= w1.heap.size := Nat.le_trans hBw hbA.size
  have hBW1 : B0 <= W1.heap.size := Nat.le_trans hBw1 hGr.below.size
  have hk1 : Keeps B0 w1 W1 := Keeps.of_below hBw1 hGr.below
  have hEO1 : EntsOwn W1 B0 w1.heap.size v1 k V E := ⟨hGr.own,fun i hi => (h2.own.ins i hi).keeps hk1⟩
  have h3 := h2.later hBw1 hGr.below
  have hX2 := hX1.later hGr.below
  have hA3 := hA2.keeps hk1
  have hbB := hbA.trans (hGr.below.mono hbA.size)
  have hszW : w.heap.size < W.heap.size := by rw [<- hW]; simp
  have hszA : w.heap.size < w1.heap.size := Nat.lt_of_lt_of_le hszW hb1.size
  obtain ⟨a1,c1',rfl,hRow1⟩ := hEO1.ents
  clear hX1 h2 hA2 hk1 hRow h1 hA1 hX0 c0 c1 c2
  go_wp2_with (at_builtin; refine list_run rfl (.const (.slice none 0 0)) (.tmp 16) 41 rfl (.slice none 0 0) (.slice a k c) _ rfl rfl happ ?_)
  clear happ mc
  go_loopw [7] (fun y wr => ∃ i : Nat,i <= k /\ y = .int .i64 i /\ Hid (∀ j,j < i -> (E j).root ≠ en.root) /\ Below W1.heap.size W1 wr) (fun y _ => k - (intOf y).toNat)
  case atStart => exact ⟨0,Nat.zero_le _,rfl,fun j hj => absurd hj (Nat.not_lt_zero _),Below.refl _ _⟩
  case round =>
   obtain ⟨i,hi,rfl,HN,hbr⟩ := hrel
   have hX3 := hX2.later hbr
   have h4 := h3.later hBW1 hbr
   have hEO2 := hEO1.later hBW1 hbr
   have hA4 := hA3.keeps (Keeps.of_below hBW1 hbr)
   have hbC := hbB.trans (hbr.mono hbB.size)
   by_cases hlti : i < k
   ·rcases hRow1.later hbr with h0 | ⟨bk,o,rfl,hc⟩
    ·omega
    obtain ⟨y0,_,_,_⟩ := hc i hlti
    obtain rfl : o = 0 := by
     rcases hEO2.row.2 with ⟨h0,_⟩ | ⟨g',cap',cur,e,_⟩
     ·cases h0
     ·cases e; rfl
    have x0 := hX3.c0
    rw [Nat.zero_add] at y0
    have hi0 : (0 : Int) <= (i : Int) := by omega
    have hi1 : (i : Int) < (k : Int) := by omega
    go_wp2
    have hSS : (fun w' : World => w'.cell? ⟨bk,i * 3,none⟩ = some (.string (E i).root) /\ w'.cell? ⟨w.heap.size,0,none⟩ = some (.string en.root)) wr.drew := ⟨y0,x0⟩
    have hbD : Below W1.heap.size W1 wr.drew := hbr.drew
    have hbE : Below wr.heap.size wr wr.drew := (Below.refl _ _).drew
    have h5 := h4.later (Nat.le_trans hBw hbC.size) hbE
    have hEO3 := hEO2.later (Nat.le_trans hBw hbC.size) hbE
    have hA5 := hA4.keeps (Keeps.of_below (Nat.le_trans hBw hbC.size) hbE)
    have hbF := hbC.trans (hbE.mono hbC.size)
    have hX4 := hX3.later hbE
    clear h4 hEO2 hA4 y0 x0 hX3 hc
    refine wp_region_G (fun w' : World => w'.cell? ⟨bk,i * 3,none⟩ = some (.string (E i).root) /\ w'.cell? ⟨w.heap.size,0,none⟩ = some (.string en.root)) 7 8 (by kernel_rfl) rfl ?_
    generalize wr.drew = w5 at *
    refine tW 0 hSS ?_
    refine tW 1 hSS ?_
    refine tW 2 hSS ?_
    refine tW 3 hSS ?_
    refine tW 5 hSS ?_
    refine tR 4 [] hSS ?_
    refine tR 6 [] hSS ?_
    refine lG 7 fun K hK => ?_
    by_cases he : (E i).root = en.root
    ·have hb : ((E i).root.toList == en.root.toList) = true := by rw [he]; simp
     have HP : Hid (putE E k en = (0,addV E i en,k)) := putE_set hF (findF_first hlti he HN.out)
     obtain ⟨hEO4,hG4⟩ := hEO3.set hBw1 hlti hA5
     have hbk : w1.heap.size <= bk := (hEO3.row.lt bk rfl).1
     have hbl : w5.heap[m]? = some (.cells #[.slice a k c] 43 (0,0)) := h5.blk
     have hbl2 := (hG4.block m h5.lt (fun e => by injection e; omega)).trans hbl
     have hbG := set3_below (o := i * 3) hbF (Nat.le_trans (Nat.le_of_lt hszA) hbk) (.string en.root) (.slice v.aP en.nP v.cP) (.slice v.aQ en.nQ v.cQ)
     have hRS := RShelf.stored (B := B) hbl2 hEO4 (by omega) (by omega) (Nat.le_trans hBw hbG.size) h.few (fun p q hp hq hpq => h.once p q hp hq (by
      have er : ∀ j,(addV E i en j).root = (E j).root := fun j => by
       unfold addV
       split
       ·rename_i e'; rw [e',he]
       ·rfl
      rw [er p,er q] at hpq
      exact hpq))
     have hGW := grown_set hbG m (.slice (some ⟨bk,0,none⟩) k c1')
     obtain ⟨C,hC⟩ := own_kind hEO3.row (k := bk) rfl
     have hfr : ∀ q,w5.frozen? ⟨bk,q,none⟩ = false := fun q => by simp [World.frozen?,hC]
     have fr0 := hfr (i * 3)
     have fr1 := hfr (i * 3 + 1)
     have fr2 := hfr (i * 3 + 2)
     have mf : w5.frozen? ⟨m,0,none⟩ = false := by simp [World.frozen?,hbl]
     have mc := h5.cell
     have hcell : ∀ q,q < k * 3 -> ∃ u,w5.cell? ⟨bk,q,none⟩ = some u := fun q hq => ⟨_,by rw [hEO3.row.cellAt q hq,List.getElem?_eq_getElem (by rw [hEO3.row.1]; exact hq)]⟩
     obtain ⟨u0,e0⟩ := hcell (i * 3) (by omega)
     obtain ⟨u1,e1⟩ := hcell (i * 3 + 1) (by omega)
     obtain ⟨u2,e2⟩ := hcell (i * 3 + 2) (by omega)
     have x0 := hX4.c0
     have x1 := hX4.c1
     have x2 := hX4.c2
     have hmb : m ≠ bk := by omega
     unfold set3 at hRS hGW
     clear hfr hcell hEO3 hEO4 hG4 hbl2 he
     go_wp2
     refine hK _ _ ?_
     clear hK
     refine doneG (by kernel_rfl) ?_ _
     go_wp2
     go_ret
     rw [HP.out]
     exact ⟨rfl,⟨_,_,hRS⟩,hGW⟩
    ·have hb : ((E i).root.toList == en.root.toList) = false := by rw [toList_beq]; exact decide_eq_false he
     have HN2 : Hid (∀ j,j < i + 1 -> (E j).root ≠ en.root) := fun j hj => by
      by_cases e : j = i
      ·subst e; exact he
      ·exact HN.out j (by omega)
     clear he
     go_wp2
     refine hK _ _ ?_
     clear hK
     refine doneG (by kernel_rfl) ?_ _
     go_wp2
     go_roundw
     case rel => exact ⟨i + 1,by omega,by go_num,HN2,hbD⟩
     case measure => simp [intOf]; omega
   ·obtain rfl : i = k := by omega
    have hno := findF_no HN.out
    by_cases hk : i = 3
    ·subst hk
     have HP : Hid (putE E 3 en = (2,E,3)) := putE_many hF (by omega)
     go_wp2
     go_ret
     rw [HP.out]
     exact ⟨rfl,⟨_,_,h4⟩,gb _ hbC⟩
    ·have HP : Hid (putE E i en = (0,addV E i en,i + 1)) := putE_add hF (by omega) hk
     have hk' : ((i : Int) == 3) = false := by simp; omega
     obtain ⟨v',W6,happ,hG6⟩ := growE (.string en.root) (.slice v.aP en.nP v.cP) (.slice v.aQ en.nQ v.cQ) rfl rfl rfl (Nat.le_trans hGr.below.size hbr.size : w1.heap.size <= wr.heap.size) hEO2.row (by omega)
     have hkp : Keeps B0 wr W6 := (Keeps.of_below (w := wr) (Nat.le_trans hBw hbC.size) ((Below.refl _ wr).alloc (Nat.le_refl _) (.cells #[.string en.root,.slice v.aP en.nP v.cP,.slice v.aQ en.nQ v.cQ] 48))).trans (Keeps.grown (w := wr.alloc (.cells #[.string en.root,.slice v.aP en.nP v.cP,.slice v.aQ en.nQ v.cQ] 48)) hBw1 (by have := hbC.size; simp; omega) (hEO2.row.alloc _) (by decide) hG6.grown)
     have hEO6 := EntsOwn.added (V := V) (E := E) (k := i) (x := v) (e := en) (fun j hj => (hEO2.ins j hj).keeps hkp) (hA4.keeps hkp) hG6.own
     have hb6 : Below w1.heap.size w1 W6 := ((hGr.below.trans (hbr.mono hGr.below.size)).trans (((Below.refl _ wr).alloc (Nat.le_refl _) _).mono (Nat.le_trans hGr.below.size hbr.size))).trans hG6.below
     have hbZ := hbA.trans (hb6.mono hbA.size)
     have hbl : W6.heap[m]? = some (.cells #[.slice a i c] 43 (0,0)) := by
      have e1 := hb6.block m (by omega)
      have e2 := ((hGr.below.trans (hbr.mono hGr.below.size)).block m (by omega : m < w1.heap.size))
      exact e1.trans (e2.symm.trans h4.blk)
     obtain ⟨g',cap',rfl⟩ := ownsRow_succ hEO6.row
     have hRS := RShelf.stored (B := B) hbl hEO6 (by omega) (by omega) (Nat.le_trans hBw hbZ.size) (by omega) (fun p q hp hq hpq => by
      unfold addV at hpq
      split at hpq
      ·split at hpq
       ·omega
       ·exact absurd hpq.symm (HN.out q (by omega))
      ·split at hpq
       ·exact absurd hpq (HN.out p (by omega))
       ·exact h.once p q (by omega) (by omega) hpq)
     have hGW := grown_set hbZ m (.slice (some ⟨g',0,none⟩) (i + 1) cap')
     have mf : W6.frozen? ⟨m,0,none⟩ = false := by simp [World.frozen?,hbl]
     have mc : W6.cell? ⟨m,0,none⟩ = some (.slice a i c) := by simp [World.cell?,hbl]
     have x0 := hX3.c0
     have x1 := hX3.c1
     have x2 := hX3.c2
     clear hno hEO6 hEO2 h4
     go_wp2_with (at_builtin; refine list_run rfl (.tmp 44) (.tmp 46) 41 rfl (.slice a1 i c1') (.slice (some ⟨wr.heap.size,0,none⟩) 1 1) _ rfl rfl happ ?_)
     go_ret
     rw [HP.out]
     exact ⟨rfl,⟨_,_,hRS⟩,hGW⟩
 ·have HP : Hid (putE E k en = (entF en,E,k)) := putE_bad hF
  generalize entF en = F at *
  have hpos : (0 : Int) < (F : Int) := by omega
  go_enter Tryz.func37,Tryz.ntmps37
  go_wp2_with fail
  refine (show Calls _ _ _ _ _ from HC).mono ?_
  rintro e w1 ⟨rfl,hb1⟩
  clear HC
  have hbA := hb0.trans (hb1.mono hb0.size)
  go_wp2
  go_ret
  rw [HP.out]
  exact ⟨rfl,⟨_,_,h1.later (by omega) hb1⟩,gb _ hbA⟩
set_option maxRecDepth 100000 in
set_option maxHeartbeats 4000000 in
theorem refGet_any (w : World) (B0 B m k : Nat) (vl : Value) (V : Nat -> EntV) (E : Nat -> EntF) (root : ByteArray) (h : RShelf w B0 B m vl k V E) (hB0 : B0 <= w.heap.size) :
 Calls Tryz.prog 43 #[.pointer (some ⟨m,0,none⟩),.string root] w fun e w' => ∃ v,e = .returned (.tuple #[.agg (entCs v (getE E k root).2),.bool (getE E k root).1]) /\ EntAt w' v (getE E k root).2 /\ Below w.heap.size w w' := by
 have hb0 : Below w.heap.size w (w.alloc (.cells #[.string ⟨#[]⟩,.slice none 0 0,.slice none 0 0] 48)) := (Below.refl _ _).alloc (Nat.le_refl _) _
 have hres : (w.alloc (.cells #[.string ⟨#[]⟩,.slice none 0 0,.slice none 0 0] 48)).heap[w.heap.size]? = some (.cells #[.string ⟨#[]⟩,.slice none 0 0,.slice none 0 0] 48 (0,0)) := Array.getElem?_push_size
 have h1 := h.later hB0 hb0
 have hB1 : B0 <= (w.alloc (.cells #[.string ⟨#[]⟩,.slice none 0 0,.slice none 0 0] 48)).heap.size := Nat.le_trans hB0 hb0.size
 obtain ⟨a,c,rfl,hRow⟩ := h1.own.ents
 have mc := h1.cell
 have hk3 := h.few
 have hIns : ∀ i,i < k -> EntIn _ B0 (V i) (E i) := h1.own.ins
 have hlow : ∀ i,i < k -> ∀ a0 a1 a2,EntAt ((((w.alloc (.cells #[.string ⟨#[]⟩,.slice none 0 0,.slice none 0 0] 48)).setCell ⟨w.heap.size,0,none⟩ a0).setCell ⟨w.heap.size,1,none⟩ a1).setCell ⟨w.heap.size,2,none⟩ a2) (V i) (E i) := fun i hi a0 a1 a2 =>
  (((hIns i hi).keeps (set3_keeps (o := 0) hres (B := B0) hB0 a0 a1 a2))).here
 obtain ⟨q0,q1,q2,f0,f1,f2⟩ := resAt hres
 have hN := below3 hb0 (Nat.le_refl w.heap.size)
 generalize hW : w.alloc (.cells #[.string ⟨#[]⟩,.slice none 0 0,.slice none 0 0] 48) = W0 at *
 clear h1 hIns
 go_enter Tryz.func43,Tryz.ntmps43
 go_wp2
 go_loopw [6] (fun y wr => ∃ i : Nat,i <= k /\ y = .int .i64 i /\ wr = W0 /\ ∀ j,j < i -> (E j).root ≠ root) (fun y _ => k - (intOf y).toNat)
 case atStart => exact ⟨0,Nat.zero_le _,rfl,rfl,fun j hj => absurd hj (Nat.not_lt_zero _)⟩
 case round =>
  obtain ⟨i,hi,rfl,rfl,hno⟩ := hrel
  by_cases hlt : i < k
  ·rcases hRow with h0 | ⟨bk,o,rfl,hc⟩
   ·omega
   obtain ⟨c0,c1,c2,_⟩ := hc i hlt
   have hi0 : (0 : Int) <= (i : Int) := by omega
   have hi1 : (i : Int) < (k : Int) := by omega
   by_cases he : (E i).root = root
   ·have hb' : ((E i).root.toList == root.toList) = true := by rw [he]; simp
    have HGE : Hid (getE E k root = (true,E i)) := by show getE E k root = _; unfold getE; rw [if_neg (by rw [findF_first hlt he hno]; omega),findF_first hlt he hno]; rfl
    have hA := hlow i hlt (.string (E i).root) (.slice (V i).aP (E i).nP (V i).cP) (.slice (V i).aQ (E i).nQ (V i).cQ)
    have hNB := hN (.string (E i).root) (.slice (V i).aP (E i).nP (V i).cP) (.slice (V i).aQ (E i).nQ (V i).cQ)
    clear hc he hlow hN
    generalize E i = en at *
    generalize V i = x at *
    go_wp2
    refine bodyPost_ret (v := .tuple #[.agg #[.string en.root,.slice x.aP en.nP x.cP,.slice x.aQ en.nQ x.cQ],.bool true]) (by simp [results,Tryz.results43,go_sem,q0,q1,q2]) rfl ?_
    rw [HGE.out]
    exact ⟨x,rfl,hA,hNB⟩
   ·have hb' : ((E i).root.toList == root.toList) = false := by rw [toList_beq]; exact decide_eq_false he
    have hno' : ∀ j,j < i + 1 -> (E j).root ≠ root := fun j hj => by
     by_cases e : j = i
     ·subst e; exact he
     ·exact hno j (by omega)
    clear hc he hlow hN
    go_wp2
    go_roundw
    case rel => exact ⟨i + 1,by omega,by go_num,by first | rfl | trivial,hno'⟩
    case measure => simp [intOf]; omega
  ·obtain rfl : i = k := by omega
   have HGE : Hid (getE E i root = (false,emptyE)) := if_pos (by rw [findF_no hno]; decide)
   have hNB := hN (.string ⟨#[]⟩) (.slice none 0 0) (.slice none 0 0)
   clear hlow hN hno
   go_wp2
   refine bodyPost_ret (v := .tuple #[.agg #[.string ⟨#[]⟩,.slice none 0 0,.slice none 0 0],.bool false]) (by simp [results,Tryz.results43,go_sem,q0,q1,q2]) rfl ?_
   rw [HGE.out]
   exact ⟨⟨none,0,none,0⟩,rfl,⟨.inl rfl,.inl rfl⟩,hNB⟩
set_option maxRecDepth 100000 in
set_option maxHeartbeats 4000000 in
theorem refRoots_any (w : World) (B0 B m k : Nat) (vl : Value) (V : Nat -> EntV) (E : Nat -> EntF) (h : RShelf w B0 B m vl k V E) (hB0 : B0 <= w.heap.size) :
 Calls Tryz.prog 23 #[.pointer (some ⟨m,0,none⟩)] w fun e w' => ∃ v,e = .returned v /\ w'.ownsRow w.heap.size 9 1 v k (joinC (rootC E) k) /\ Below w.heap.size w w' := by
 obtain ⟨a,c,rfl,hRow⟩ := h.own.ents
 have hk3 := h.few
 go_enter Tryz.func23,Tryz.ntmps23
 go_wp2
 go_loopw [3,4] (fun y3 y4 wr => ∃ (i : Nat) (v : Value),i <= k /\ y4 = .int .i64 i /\ y3 = v /\ wr.ownsRow w.heap.size 9 1 v i (joinC (rootC E) i) /\ Below w.heap.size w wr) (fun _ y4 _ => k - (intOf y4).toNat)
 case atStart => exact ⟨0,_,Nat.zero_le _,rfl,rfl,World.ownsRow_nil _ _ _ _,Below.refl _ _⟩
 case round =>
  obtain ⟨i,v,hi,rfl,rfl,hOw,hb⟩ := hrel
  have mc := (h.later hB0 hb).cell
  obtain ⟨av,cv,rfl⟩ : ∃ av cv,u3 = .slice av i cv := by
   obtain ⟨av,cv,e,_⟩ := owns_shape hOw
   exact ⟨av,cv,e⟩
  by_cases hlt : i < k
  ·rcases hRow.later hb with h0 | ⟨bk,o,rfl,hc⟩
   ·omega
   obtain ⟨c0,c1,c2,_⟩ := hc i hlt
   have hi0 : (0 : Int) <= (i : Int) := by omega
   have hi1 : (i : Int) < (k : Int) := by omega
   obtain ⟨v',W5,happ,hGr⟩ := growStr (E i).root hb.size hOw (by omega)
   have hb5 : Below w.heap.size w W5 := (hb.alloc hb.size _).trans hGr.below
   have hOw5 : W5.ownsRow w.heap.size 9 1 v' (i + 1) (joinC (rootC E) (i + 1)) := hGr.own
   obtain ⟨g',cap',rfl⟩ := ownsRow_succ hOw5
   clear hc hOw hGr
   go_wp2_with (at_builtin; refine list_run rfl (.tmp 14) (.tmp 23) 64 rfl (.slice av i cv) (.slice (some ⟨wr.heap.size,0,none⟩) 1 1) _ rfl rfl happ ?_)
   go_roundw
   case rel => exact ⟨i + 1,_,by omega,by go_num,rfl,hOw5,hb5⟩
   case measure => simp [intOf]; omega
  ·obtain rfl : i = k := by omega
   have HF : Hid (∃ v',Ending.returned (.slice av i cv) = .returned v' /\ wr.ownsRow w.heap.size 9 1 v' i (joinC (rootC E) i) /\ Below w.heap.size w wr) := ⟨_,rfl,hOw,hb⟩
   clear hOw
   go_wp2
   go_ret
   exact HF.out
end Go.Proofs.YtagfngiaogckpaaGreatDoor
namespace Go.Proofs.YtagfngiaogckpaaGreatDoor
open Go.RowKit Go.Maps
theorem names_same {rd rd' : ByteArray -> Nat × ObjF} {root : ByteArray} {m : Nat} (e : ∀ j,j < m -> rd' (nmAt rd root j) = rd (nmAt rd root j)) : ∀ i,i <= m -> namesAt rd' root i = namesAt rd root i
 | 0,_ => rfl
 | i + 1,hi => by
  have ih := names_same e i (by omega)
  have he : rd' (nmAt rd root i) = rd (nmAt rd root i) := e i (by omega)
  have hn : nmAt rd' root i = nmAt rd root i := by unfold nmAt; rw [ih]
  show joinL (namesAt rd' root i) (needsTo (rd' (nmAt rd' root i)).2 (rd' (nmAt rd' root i)).2.nN) = joinL (namesAt rd root i) (needsTo (rd (nmAt rd root i)).2 (rd (nmAt rd root i)).2.nN)
  rw [ih,hn,he]
theorem nm_same {rd rd' : ByteArray -> Nat × ObjF} {root : ByteArray} {m : Nat} (e : ∀ j,j < m -> rd' (nmAt rd root j) = rd (nmAt rd root j)) {i : Nat} (hi : i <= m) : nmAt rd' root i = nmAt rd root i := by
 unfold nmAt; rw [names_same e i hi]
theorem ob_same {rd rd' : ByteArray -> Nat × ObjF} {root : ByteArray} {m : Nat} (e : ∀ j,j < m -> rd' (nmAt rd root j) = rd (nmAt rd root j)) {i : Nat} (hi : i < m) : obAt rd' root i = obAt rd root i := by
 show (rd' (nmAt rd' root i)).2 = (rd (nmAt rd root i)).2
 rw [nm_same e (by omega),e i hi]
theorem of_same {rd rd' : ByteArray -> Nat × ObjF} {root : ByteArray} {m : Nat} (h : OfIs rd root 0 m) (e : ∀ j,j < m -> rd' (nmAt rd root j) = rd (nmAt rd root j)) : OfIs rd' root 0 m := by
 generalize hF : (0 : Nat) = F at h
 cases h with
 | bad _ _ _ hf => exact absurd hF.symm hf
 | ok _ h hi =>
  refine .ok m (fun j hj => ?_) (by rw [names_same e m (Nat.le_refl _)]; exact hi)
  rw [names_same e j (by omega),nm_same e (by omega),e j hj]
  exact h j hj
theorem bases_same {m : Nat} {sz sz' b : Nat -> Int} {F : Nat} (h : BasesAre m sz 0 (fun _ => 0) (fun _ => 0) F b) (e : ∀ i,i < m -> sz i = sz' i) : BasesAre m sz' 0 (fun _ => 0) (fun _ => 0) F b := by
 have hp : placeF m sz 0 (fun _ => 0) (fun _ => 0) = placeF m sz' 0 (fun _ => 0) (fun _ => 0) := by
  unfold placeF
  rw [anyTo_congr (p := fun i => decide (sz i < 1 ∨ 40 < sz i)) (q := fun i => decide (sz' i < 1 ∨ 40 < sz' i)) fun i hi => by rw [e i hi]]
 have hh : ∀ i,i < m -> ∀ j,j < 0 + i -> heldF (fun _ => 0) 0 b j = heldF (fun _ => 0) 0 b j /\ heldF (fun _ => 0) 0 (fun j => roundF (sz j)) j = heldF (fun _ => 0) 0 (fun j => roundF (sz' j)) j := fun i hi j hj => ⟨rfl,by
  unfold heldF
  rw [if_neg (by omega),if_neg (by omega)]
  show roundF (sz (j - 0)) = roundF (sz' (j - 0))
  rw [e _ (by omega)]⟩
 have hl : ∀ i,i < m -> Laid (fun _ => 0) (fun _ => 0) 0 sz b i -> Laid (fun _ => 0) (fun _ => 0) 0 sz' b i := fun i hi ⟨k,hk,hb⟩ => ⟨k,hk,by rw [<- e i hi]; exact hb.congr (hh i hi)⟩
 cases h with
 | bad _ h => rw [hp] at h ⊢; exact .bad _ h
 | full _ i h hi hl' hn => exact .full _ i (by rw [<- hp]; exact h) hi (fun j hj => hl j (by omega) (hl' j hj)) (by unfold LaidNot; rw [<- e i hi]; exact NoBase.congr hn (hh i hi))
 | ok _ h hl' => exact .ok _ (by rw [<- hp]; exact h) fun j hj => hl j hj (hl' j hj)
theorem hit_same {m : Nat} {O O' : Nat -> ObjF} (e : ∀ i,i < m -> O' i = O i) {s : ByteArray} {i k : Nat} (h : Hit (symsF m O) s i k) : Hit (symsF m O') s i k /\ (symsF m O').wk i k = (symsF m O).wk i k := by
 obtain ⟨h1,h2,h3⟩ := h
 have h1' : i < m := h1
 refine ⟨⟨h1,?_,?_⟩,?_⟩
 ·show k < (O' i).nS
  rw [e i h1']; exact h2
 ·show (O' i).sName k = s
  rw [e i h1']; exact h3
 ·show (O' i).sWeak k = (O i).sWeak k
  rw [e i h1']
theorem found_same {m : Nat} {O O' : Nat -> ObjF} (e : ∀ i,i < m -> O' i = O i) {s : ByteArray} {p q : Int} (h : IsFound (symsF m O) s p q) : IsFound (symsF m O') s p q := by
 have e' : ∀ i,i < m -> O i = O' i := fun i hi => (e i hi).symm
 cases h with
 | strong i k h hw hb => exact .strong i k (hit_same e h).1 (by rw [(hit_same e h).2]; exact hw) fun a b hh hbf => by rw [(hit_same e (hit_same e' hh).1).2]; exact hb a b (hit_same e' hh).1 hbf
 | weak i k h hf hw => exact .weak i k (hit_same e h).1 (fun a b hh => hf a b (hit_same e' hh).1) fun a b hh => by rw [(hit_same e (hit_same e' hh).1).2]; exact hw a b (hit_same e' hh).1
 | none h => exact .none fun a b hh => h a b (hit_same e' hh).1
theorem finds_same {m : Nat} {O O' : Nat -> ObjF} (e : ∀ i,i < m -> O' i = O i) {P Q : ByteArray -> Int} (h : Finds (symsF m O) P Q) : Finds (symsF m O') P Q := ⟨fun s => found_same e (h.is s)⟩
theorem tie_same {m : Nat} {O O' : Nat -> ObjF} (e : ∀ i,i < m -> O' i = O i) {P Q : ByteArray -> Int} (h : Finds (symsF m O) P Q) (B : Nat -> Int) {i : Nat} (hi : i < m) (k : Nat) : tieW O' P Q B i k = tieW O P Q B i k := by
 unfold tieW whereF
 rw [e i hi]
 split
 ·rfl
 ·split
  ·rename_i hp
   rcases h.shape ((O i).tName k) with ⟨h1,_⟩ | ⟨x,y,h1,h2,h3,_,_⟩
   ·rw [h1] at hp; omega
   ·rw [h1,h2,Int.toNat_natCast,e x h3]
  ·rfl
theorem patsOf_same {m : Nat} {O O' : Nat -> ObjF} (e : ∀ i,i < m -> O' i = O i) {P Q : ByteArray -> Int} (h : Finds (symsF m O) P Q) (B : Nat -> Int) {i : Nat} (hi : i < m) (k : Nat) : patsOf O' P Q B i k = patsOf O P Q B i k := by
 induction k with
 | zero => rfl
 | succ k ih => simp only [patsOf]; rw [ih,tie_same e h B hi,e i hi]
theorem patsTo_same {m : Nat} {O O' : Nat -> ObjF} (e : ∀ i,i < m -> O' i = O i) {P Q : ByteArray -> Int} (h : Finds (symsF m O) P Q) (B : Nat -> Int) : ∀ n,n <= m -> patsTo O' P Q B n = patsTo O P Q B n
 | 0,_ => rfl
 | n + 1,hn => by simp only [patsTo]; rw [patsTo_same e h B n (by omega),e n (by omega),patsOf_same e h B (by omega)]
theorem faultTo_same {g h : Nat -> Nat} {n : Nat} (e : ∀ i,i < n -> g i = h i) : faultTo g n = faultTo h n := by
 induction n with
 | zero => rfl
 | succ n ih => simp only [faultTo]; rw [ih fun i hi => e i (by omega),e n (by omega)]
theorem all_same {m : Nat} {O O' : Nat -> ObjF} (e : ∀ i,i < m -> O' i = O i) {P Q : ByteArray -> Int} (h : Finds (symsF m O) P Q) (B : Nat -> Int) : allF m O' P Q m B = allF m O P Q m B := by
 have key : faultTo (fun i => faultTo (fun k => (tieW O' P Q B i k).1) (O' i).nT) m = faultTo (fun i => faultTo (fun k => (tieW O P Q B i k).1) (O i).nT) m := faultTo_same fun i hi => by
  show faultTo (fun k => (tieW O' P Q B i k).1) (O' i).nT = faultTo (fun k => (tieW O P Q B i k).1) (O i).nT
  rw [e i hi]
  exact faultTo_same fun k _ => by rw [tie_same e h B hi]
 unfold allF tiesF
 rw [key]
theorem reckoned_same {rd rd' : ByteArray -> Nat × ObjF} {root : ByteArray} {m : Nat} {B : Nat -> Int} {P Q : ByteArray -> Int} (h : Reckoned rd root m B P Q) (e : ∀ j,j < m -> rd' (nmAt rd root j) = rd (nmAt rd root j)) :
 Reckoned rd' root m B P Q /\ patsAt rd' root m B P Q = patsAt rd root m B P Q /\ (∀ i,i < m -> nmAt rd' root i = nmAt rd root i /\ obAt rd' root i = obAt rd root i) := by
 have ho : ∀ i,i < m -> obAt rd' root i = obAt rd root i := fun i hi => ob_same e hi
 exact ⟨⟨of_same h.of e,bases_same h.bases fun i hi => by show ((obAt rd root i).nW : Int) = ((obAt rd' root i).nW : Int); rw [ho i hi],h.zero,finds_same ho h.finds,by rw [all_same ho h.finds]; exact h.all⟩,patsTo_same ho h.finds B m (Nat.le_refl _),fun i hi => ⟨nm_same e (by omega),ho i hi⟩⟩
theorem putF_same {X X' : Nat -> Nat -> Int} {p t v : Nat -> Int} {i : Nat} (e : ∀ j,X' i j = X i j) (n j : Nat) : putF X' p t v n i j = putF X p t v n i j := by
 induction n with
 | zero => exact e j
 | succ n ih => simp only [putF]; rw [ih]
theorem PartsIn.congr {w : World} {B0 : Nat} {v : Value} {n : Nat} {nm nm' : Nat -> ByteArray} {B : Nat -> Int} {M M' : Nat -> Nat} {X X' : Nat -> Nat -> Int} {g : Nat} {A : Nat -> Option Addr} {C G : Nat -> Nat} (h : PartsIn w B0 v n nm B M X g A C G)
 (e : ∀ i,i < n -> nm i = nm' i /\ M i = M' i /\ ∀ j,X i j = X' i j) : PartsIn w B0 v n nm' B M' X' g A C G where
 out := { h.out with
  top := fun i hi => by rw [<- (e i hi).2.1]; exact h.out.top i hi
  adr := fun i hi hm => h.out.adr i hi (by rw [(e i hi).2.1]; exact hm)
  own := fun i hi hm => h.out.own i hi (by rw [(e i hi).2.1]; exact hm)
  ne := fun i hi hm => h.out.ne i hi (by rw [(e i hi).2.1]; exact hm)
  row := fun i hi j hj => by rw [<- (e i hi).2.2 j]; exact h.out.row i hi j (by rw [(e i hi).2.1]; exact hj)
  rfree := fun i hi hm => h.out.rfree i hi (by rw [(e i hi).2.1]; exact hm)
  apart := fun i j hi hj hij hmi hmj => h.out.apart i j hi hj hij (by rw [(e i hi).2.1]; exact hmi) (by rw [(e j hj).2.1]; exact hmj) }
 own := by
  have := h.own
  rwa [joinC_congr (g := partC nm B A M C) (h := partC nm' B A M' C) fun i hi => by unfold partC; rw [(e i hi).1,(e i hi).2.1]] at this
end Go.Proofs.YtagfngiaogckpaaGreatDoor
namespace Go.Proofs.YtagfngiaogckpaaGreatDoor
open Go.RowKit Go.Maps
theorem texts_at {D : DataW Unit} {k : Nat} {T : ByteArray -> ByteArray} (hI : Inv D k) (hT : Texts D T) {x : ByteArray} (h : Maps.has D (keyB x) = true) : ∃ n,D.atKey (keyB x) (fileD [] 0) = fileD (T x).data.toList n := by
 obtain ⟨t,n,h1,_⟩ := hI.st _ h
 have h2 : D.atKey (keyB x) (fileD [] 0) = fileD (⟨t.toArray⟩ : ByteArray).data.toList n := by simpa using h1
 exact ⟨n,by rw [<- hT.is x _ n h h2]; exact h2⟩
structure Else (D : DataW Unit) (T : ByteArray -> ByteArray) (s : ByteArray) (D' : DataW Unit) (k' : Nat) : Prop where
 inv : Inv D' k'
 read : ∀ T',Texts D' T' -> ∀ x,x ≠ s -> rdD D' T' x = rdD D T x
theorem made_has {D : DataW Unit} {T : ByteArray -> ByteArray} {root : ByteArray} {m : Nat} {k : Nat} (hI : Inv D k) (hO : OfIs (rdD D T) root 0 m) : ∀ j,j < m -> Maps.has D (keyB (nmAt (rdD D T) root j)) = true := fun j hj => by
 obtain ⟨hS,_,_⟩ := scope_of hO (rd_few (T := T) hI)
 exact rd_has (by rw [hS.read j hj])
end Go.Proofs.YtagfngiaogckpaaGreatDoor
namespace Go.Proofs.YtagfngiaogckpaaGreatDoor
open Go.RowKit Go.Maps
def NamesOk (D : DataW Unit) : Prop := ∀ s,Maps.has D (keyB s) = true -> nameF s.data.toList = 0
theorem NamesOk.empty : NamesOk (.map []) := fun s h => by simp [Maps.has] at h
theorem writeF_name {D : DataW Unit} {k : Nat} {s t : ByteArray} (h : writeF D k s t = 0) : nameF s.data.toList = 0 := by
 unfold writeF at h
 exact (seqF_zero_iff.1 h).1
theorem NamesOk.put {D : DataW Unit} {k : Nat} {s t : ByteArray} {d : DataW Unit} (h : NamesOk D) (hF : writeF D k s t = 0) : NamesOk (D.put (keyB s) d) := fun x hx => by
 by_cases e : x = s
 ·subst e; exact writeF_name hF
 ·rw [has_put_other (fun q => e (keyB_inj' q))] at hx
  exact h x hx
theorem NamesOk.del {D : DataW Unit} {s : ByteArray} (h : NamesOk D) : NamesOk (D.del (keyB s)) := fun x hx => by
 by_cases e : x = s
 ·subst e; rw [has_del_same] at hx; cases hx
 ·rw [has_del_other (fun q => e (keyB_inj' q))] at hx
  exact h x hx
theorem actD_more {q : DataW Unit × Nat} {x : ActF} (h : NamesOk q.1) : NamesOk (actD q x).1 /\ (actD q x).2 <= q.2 + 1 := by
 unfold actD
 by_cases h1 : x.kind = kWrite
 ·rw [if_pos h1]
  by_cases h2 : writeF q.1 q.2 x.s x.t = 0
  ·rw [if_pos h2]; exact ⟨h.put h2,Nat.le_refl _⟩
  ·rw [if_neg h2]; exact ⟨h,Nat.le_succ _⟩
 ·rw [if_neg h1]
  by_cases h2 : x.kind = kRemove
  ·rw [if_pos h2]; exact ⟨h.del,Nat.le_succ _⟩
  ·rw [if_neg h2]; exact ⟨h,Nat.le_succ _⟩
theorem doneD_more {q : DataW Unit × Nat} {X : Nat -> ActF} (h : NamesOk q.1) (m : Nat) : NamesOk (doneD q X m).1 /\ (doneD q X m).2 <= q.2 + m := by
 induction m with
 | zero => exact ⟨h,Nat.le_refl _⟩
 | succ m ih =>
  have := actD_more (x := X m) ih.1
  refine ⟨this.1,?_⟩
  show (actD (doneD q X m) (X m)).2 <= _
  omega
theorem stamp_le {D : DataW Unit} {k : Nat} {S : ByteArray -> Int} (hI : Inv D k) (hS : Stamps D S) {x : ByteArray} (h : Maps.has D (keyB x) = true) : S x <= (k : Int) := by
 obtain ⟨t,n,h1,h2⟩ := hI.st _ h
 have := hS.is x t n h h1
 omega
end Go.Proofs.YtagfngiaogckpaaGreatDoor
