/- What List, Remove and Write of the document's files do, for every name and text; all other memory stays as it was. What Write of the document's files does, for every name and text; all other memory stays as it was. Acts in memory; what LightEntry and LightActs return, for every row of acts (true: they are few, and not too long); memory that was there stays as it was. Plain words on files: what stays true of them, whatever is written and removed. -/
import Derived.Test.YtagfngiaogckpaaGreatDoorFilesOps
namespace Go.Proofs.YtagfngiaogckpaaGreatDoor
open Go.RowKit
theorem fileGrow {B : Nat} {w : World} {v : Value} {L : List FileR} (f : FileR) (hB : B <= w.heap.size) (h : w.ownsRow B 90 3 v L.length (rowC L)) (hn : L.length + 1 <= 1000000) :
 ∃ v' W,(Builtin.append_ #[37,37] 37 #[v,.slice (some ⟨w.heap.size,0,none⟩) 1 1]).run Tryz.prog (w.alloc (.cells #[.string f.nm,.string f.tx,.int .i64 f.st] 90)) = .ok v' W /\
  W.ownsRow B 90 3 v' (L ++ [f]).length (rowC (L ++ [f])) /\ Below B (w.alloc (.cells #[.string f.nm,.string f.tx,.int .i64 f.st] 90)) W := by
 obtain ⟨v',W,h1,hG⟩ := append_from 37 90 3 40 (.agg #[.string ⟨#[]⟩,.string ⟨#[]⟩,.int .i64 0]) (by kernel_rfl) (by kernel_rfl) (by rfl) (by decide) B (w.alloc (.cells #[.string f.nm,.string f.tx,.int .i64 f.st] 90)) v L.length (rowC L) (h.alloc _) (some ⟨w.heap.size,0,none⟩) 1 1 (fileC f) rfl
  (.inr ⟨_,_,rfl,fun j x hj => by
    have : j = 0 ∨ j = 1 ∨ j = 2 := by have := (List.getElem?_eq_some_iff.1 hj).1; simp [fileC] at this; omega
    rcases this with rfl | rfl | rfl
    all_goals
     simp [fileC] at hj
     subst hj
     simp [go_sem]⟩) (fun x hx => rowC_one (L := [f]) (by simpa [rowC] using hx)) (by simp; omega) hn (by decide)
 refine ⟨v',W,h1,?_,hG.below⟩
 have := hG.own
 rw [List.length_append,rowC_snoc]
 exact this
structure ListREnd (w : World) (L : List FileR) (e : Ending) (w' : World) : Prop where
 v : ∃ v,e = .returned v /\ w'.ownsRow w.heap.size 9 1 v L.length (L.map fun f => .string f.nm)
 below : Below w.heap.size w w'
theorem RAt.set {B q k : Nat} {w wr : World} {L L' : List FileR} {v : Value} (h : RAt B w q L k) (hb : Below w.heap.size w wr) (hown : wr.ownsRow w.heap.size 90 3 v L'.length (rowC L')) (hB : B <= w.heap.size) :
 wr.frozen? ⟨q,0,none⟩ = false /\ RAt B (wr.setCell ⟨q,0,none⟩ v) q L' k /\ Turned q q w (wr.setCell ⟨q,0,none⟩ v) := by
 obtain ⟨v0,h1,h2⟩ := h.blk
 have hq : q < w.heap.size := (Array.getElem?_eq_some_iff.1 h1).1
 have h1' := (hb.block q hq).trans h1
 refine ⟨by simp [World.frozen?,h1'],⟨h.lo,v,?_,?_⟩,hb.os,hb.tape,hb.output,by simp [World.setCell]; exact hb.size,fun j hj h3 _ => ?_⟩
 ·show (wr.heap.modify q _)[q]? = _
  rw [Array.getElem?_modify,if_pos rfl,h1']
  rfl
 ·refine ⟨hown.1,?_⟩
  rcases hown.2 with hn | ⟨g,cap,cur,e1,e2,e3,e4⟩
  ·exact .inl hn
  ·refine .inr ⟨g,cap,cur,e1,Nat.le_trans hB e2,?_,e4⟩
   show (wr.heap.modify q _)[g]? = _
   rw [Array.getElem?_modify,if_neg (by omega)]
   exact e3
 ·show (wr.heap.modify q _)[j]? = _
  rw [Array.getElem?_modify,if_neg (fun e => h3 e.symm)]
  exact hb.block j hj
structure RemoveREnd (B : Nat) (w : World) (q : Nat) (L : List FileR) (k : Nat) (s : ByteArray) (e : Ending) (w' : World) : Prop where
 e : e = .returned (.int .i64 (if (delR s L).length = L.length then 5 else 0))
 at' : RAt B w' q (delR s L) k
 turned : Turned q q w w'
theorem delR_take (s : ByteArray) (L : List FileR) (i : Nat) (f : FileR) (h : L[i]? = some f) : delR s (L.take (i + 1)) = delR s (L.take i) ++ (if f.nm = s then [] else [f]) := by
 rw [List.take_add_one,h]
 unfold delR
 rw [List.filter_append]
 congr 1
 by_cases e : f.nm = s <;> simp [e]
theorem delR_le (s : ByteArray) (L : List FileR) : (delR s L).length <= L.length := List.length_filter_le _ _
theorem delR_same {s : ByteArray} {L : List FileR} (h : (delR s L).length = L.length) : delR s L = L := List.filter_eq_self.2 (by
 intro a ha
 by_cases e : (!decide (a.nm = s)) = true
 ·exact e
 ·exfalso
  have := (List.length_filter_lt_length_iff_exists (p := fun f : FileR => !decide (f.nm = s))).2 ⟨a,ha,e⟩
  unfold delR at h
  omega)
set_option maxRecDepth 100000 in
set_option maxHeartbeats 1000000 in
theorem removeR_any (B : Nat) (w : World) (q : Nat) (L : List FileR) (k : Nat) (s : ByteArray) (h : RAt B w q L k) (hL : L.length <= 1000) (hB : B <= w.heap.size) :
 Calls Tryz.prog 13 #[.pointer (some ⟨q,0,none⟩),.string s] w fun e w' => RemoveREnd B w q L k s e w' := by
 obtain ⟨a,c,hc,c0,c1,hcell⟩ := h.open
 have hq : q < w.heap.size := World.block_lt_of_cell? _ _ c0
 go_enter Tryz.func13,Tryz.ntmps13
 go_wp2
 go_loopw [5,6] (fun v x wr => ∃ i : Nat,i <= L.length /\ x = .int .i64 i /\ wr.ownsRow w.heap.size 90 3 v (delR s (L.take i)).length (rowC (delR s (L.take i))) /\ Below w.heap.size w wr) (fun _ x _ => L.length - (intOf x).toNat)
 case atStart => exact ⟨0,Nat.zero_le _,rfl,World.ownsRow_nil _ _ _ _,Below.refl _ _⟩
 case round =>
  obtain ⟨i,hi,rfl,hown,hb⟩ := hrel
  have b0 := cell_later hb c0
  by_cases hlt : i < L.length
  ·obtain ⟨f,hf⟩ : ∃ f,L[i]? = some f := ⟨L[i],List.getElem?_eq_getElem hlt⟩
   rcases hcell with h0 | ⟨g,rfl,hcc⟩
   ·omega
   have d0 := cell_later hb (hcc i f hf).1
   have d1 := cell_later hb (hcc i f hf).2.1
   have d2 := cell_later hb (hcc i f hf).2.2
   have hst := delR_take s L i f hf
   have hle : (delR s (L.take i)).length <= i := by have := delR_le s (L.take i); simp at this; omega
   by_cases he : f.nm = s
   ·have hqq : (f.nm.toList == s.toList) = true := by rw [toList_beq]; exact decide_eq_true he
    rw [if_pos he,List.append_nil] at hst
    clear hcc hf c0 c1 he
    go_wp2
    go_roundw
    case rel => exact ⟨i + 1,by omega,by go_num,by rw [hst]; exact hown,hb⟩
    case measure => simp [intOf]; omega
   ·have hqq : (f.nm.toList == s.toList) = false := by rw [toList_beq]; exact decide_eq_false he
    rw [if_neg he] at hst
    obtain ⟨v',W,happ,hown2,hbG⟩ := fileGrow f hb.size hown (by omega)
    rw [<- hst] at hown2
    have hb2 := (hb.alloc hb.size _).trans hbG
    clear hcc hown hbG hf c0 c1 hst he
    go_wp2_with (at_builtin; refine list_run rfl _ _ 37 rfl u5 _ _ rfl rfl happ ?_)
    go_roundw
    case rel => exact ⟨i + 1,by omega,by go_num,hown2,hb2⟩
    case measure => simp [intOf]; omega
  ·have e : i = L.length := by omega
   subst e
   rw [List.take_length] at hown
   obtain ⟨a5,c5,rfl,_⟩ := owns_shape hown
   obtain ⟨hfz,hset,hTs⟩ := h.set hb hown hB
   by_cases hs : (delR s L).length = L.length
   ·have hsi : (((delR s L).length : Int) == (L.length : Int)) = true := by rw [beq_iff_eq]; omega
    have HS : Hid (delR s L = L) := delR_same hs
    have HV : Hid ((if (delR s L).length = L.length then (5 : Int) else 0) = 5) := if_pos hs
    clear c0 c1 hs
    go_wp2
    go_ret
    exact ⟨by rw [HV.out]; rfl,by rw [HS.out]; exact h.later hb,Turned.of hb⟩
   ·have hsi : (((delR s L).length : Int) == (L.length : Int)) = false := by rw [beq_eq_false_iff_ne]; omega
    have HV : Hid ((if (delR s L).length = L.length then (5 : Int) else 0) = 0) := if_neg hs
    clear c0 c1 hs
    go_wp2
    go_ret
    exact ⟨by rw [HV.out]; rfl,hset,hTs⟩
def writeRF (L : List FileR) (k : Nat) (s text : ByteArray) : Nat :=
 seqF (nameF s.data.toList) (if 1200 < text.size then 2 else if ((∀ x ∈ L,x.nm ≠ s) /\ L.length = 6) ∨ k = 1000000 then 8 else 0)
structure WriteREnd (B : Nat) (w : World) (q : Nat) (L : List FileR) (k : Nat) (s text : ByteArray) (F : Nat) (e : Ending) (w' : World) : Prop where
 e : e = .returned (.int .i64 (F : Int))
 yes : F = 0 -> RAt B w' q (putR ⟨s,text,(k : Int) + 1⟩ L) (k + 1)
 no : F ≠ 0 -> RAt B w' q L k
 turned : Turned q q w w'
theorem less_eq : ∀ x y : List UInt8,Op.bytesLess x y = decide (x < y)
 | x,[] => by cases x <;> simp [Op.bytesLess]
 | [],b :: y => by simp [Op.bytesLess]
 | a :: x,b :: y => by
  rw [Op.bytesLess,less_eq x y,Bool.eq_iff_iff]
  simp [List.cons_lt_cons_iff]
theorem leN_walk (x y : ByteArray) : (Op.bytesLess x.toList y.toList || x.toList == y.toList) = leN x y := by
 rw [less_eq,ByteArray.toList_eq,ByteArray.toList_eq,Bool.eq_iff_iff]
 unfold leN
 simp only [Bool.or_eq_true,decide_eq_true_eq,beq_iff_eq]
 exact List.le_iff_lt_or_eq.symm
theorem stepR_in {new x : FileR} {acc : List FileR} (hle : leN new.nm x.nm = true) (h : x.nm = new.nm) : stepR new (acc,false) x = (acc ++ [new],true) := by
 unfold stepR; rw [hle,if_pos h]; simp
theorem stepR_two {new x : FileR} {acc : List FileR} (hle : leN new.nm x.nm = true) (h : x.nm ≠ new.nm) : stepR new (acc,false) x = ((acc ++ [new]) ++ [x],true) := by
 unfold stepR; rw [hle,if_neg h]; simp
theorem RAt.count {B q k : Nat} {w : World} {L : List FileR} (h : RAt B w q L k) (k' : Nat) : RAt B (w.setCell ⟨q,1,none⟩ (.int .i64 (k' : Int))) q L k' /\ Turned q q w (w.setCell ⟨q,1,none⟩ (.int .i64 (k' : Int))) := by
 obtain ⟨v,h1,h2⟩ := h.blk
 refine ⟨⟨h.lo,v,?_,?_⟩,rfl,rfl,rfl,by simp [World.setCell],fun j _ h3 _ => ?_⟩
 ·show (w.heap.modify q _)[q]? = _
  rw [Array.getElem?_modify,if_pos rfl,h1]
  rfl
 ·refine ⟨h2.1,?_⟩
  rcases h2.2 with hn | ⟨g,cap,cur,e1,e2,e3,e4⟩
  ·exact .inl hn
  ·refine .inr ⟨g,cap,cur,e1,e2,?_,e4⟩
   have hne : q ≠ g := fun e => by
    subst e
    rw [h1] at e3
    injection e3 with e3
    injection e3 with _ e5
    exact absurd e5 (by decide)
   show (w.heap.modify q _)[g]? = _
   rw [Array.getElem?_modify,if_neg hne]
   exact e3
 ·show (w.heap.modify q _)[j]? = _
  rw [Array.getElem?_modify,if_neg (fun e => h3 e.symm)]
set_option maxRecDepth 100000 in
set_option maxHeartbeats 2000000 in
theorem writeR_ok (B : Nat) (w : World) (q : Nat) (L : List FileR) (k : Nat) (s text : ByteArray) (h : RAt B w q L k) (hL : L.length <= 1000) (hB : B <= w.heap.size) (hs : s.size <= maxLen) (hn : nameF s.data.toList = 0) (ht : ¬ 1200 < text.size) (ho : ¬ ((∀ x ∈ L,x.nm ≠ s) /\ L.length = 6)) (hk : k < 1000000) :
 Calls Tryz.prog 11 #[.pointer (some ⟨q,0,none⟩),.string s,.string text] w fun e w' => WriteREnd B w q L k s text 0 e w' := by
 have HN := nameFault_any s w hs
 rw [hn] at HN
 have HR := readR_any B w q L k s h hL
 have ht' : ¬ (1200 : Int) < (text.size : Int) := by omega
 clear ht hn
 go_enter Tryz.func11,Tryz.ntmps11
 go_wp2_with fail
 refine HN.mono ?_
 rintro e w' ⟨rfl,rfl⟩
 go_wp2_with fail
 refine HR.mono ?_
 rintro e w2 ⟨⟨t,nn,f,rfl,hR⟩,hb2⟩
 have h2 := h.later hb2
 obtain ⟨a,c,hc,c0,c1,hcell⟩ := h2.open
 obtain ⟨K,hK⟩ : ∃ K : Int,(k : Int) = K := ⟨_,rfl⟩
 have HK : Hid ((k : Int) = K) := hK
 have hk0 : 0 <= K := by omega
 have hk1 : K < 1000000 := by omega
 have hk2 : (K == 1000000) = false := by rw [beq_eq_false_iff_ne]; omega
 rw [hK] at c1
 have hfull : f = 0 ∨ (f = 5 /\ L.length ≠ 6) := by
  rcases hR with ⟨x,_,_,_,_,h0⟩ | ⟨hno,_,_,h5⟩
  ·exact .inl h0
  ·exact .inr ⟨h5,fun e => ho ⟨hno,e⟩⟩
 clear HN HR hR ho hK hk
 have hq : q < w2.heap.size := World.block_lt_of_cell? _ _ c0
 have hfz : w2.frozen? ⟨q,1,none⟩ = false := by obtain ⟨v,hv,_⟩ := h2.blk; simp [World.frozen?,hv]
 have hcnt := h2.count (k + 1)
 have hcast : ((k + 1 : Nat) : Int) = K + 1 := by rw [<- HK.out]; omega
 rw [hcast] at hcnt
 have hgo : (0 < (f : Int) /\ ((L.length : Int) == 6) = false) ∨ ¬ 0 < (f : Int) := by
  rcases hfull with rfl | ⟨rfl,h6⟩
  ·exact .inr (by decide)
  ·exact .inl ⟨by decide,by rw [beq_eq_false_iff_ne]; omega⟩
 clear hfull
 have hB2 : B <= w2.heap.size := Nat.le_trans hB hb2.size
 go_upto_region 7 with fail
 go_cut [45] from 29 to 45 (fun x wc => x = .bool false /\ wc = w2)
 case first =>
  rcases hgo with ⟨g1,g2⟩ | g1
  ·go_wp2
   go_meet
   exact ⟨rfl,rfl⟩
  ·go_wp2
   go_meet
   exact ⟨rfl,rfl⟩
 case rest =>
  obtain ⟨rfl,hw⟩ := hcut
  replace hw := hw.symm
  subst hw
  clear hgo
  go_upto_region 10 with fail
  obtain ⟨h3,hT3⟩ := hcnt
  replace hT3 := (Turned.of hb2).trans hT3
  have hsz3 : w2.heap.size <= (w2.setCell ⟨q,1,none⟩ (.int .i64 (K + 1))).heap.size := by simp [World.setCell]
  have hq3 : q < (w2.setCell ⟨q,1,none⟩ (.int .i64 (K + 1))).heap.size := Nat.lt_of_lt_of_le hq hsz3
  have hB3 : B <= (w2.setCell ⟨q,1,none⟩ (.int .i64 (K + 1))).heap.size := Nat.le_trans hB2 hsz3
  clear c0 c1 hcell hc hfz h2 hb2
  generalize w2.setCell ⟨q,1,none⟩ (.int .i64 (K + 1)) = Y at *
  obtain ⟨a3,c3,hc3,e0,e1,hcell⟩ := h3.open
  rw [hcast] at e1
  clear hcast
  go_wp2
  go_loopw [11,12,13] (fun v b x wr => ∃ i : Nat,i <= L.length /\ x = .int .i64 i /\ b = .bool (stepsR ⟨s,text,K + 1⟩ (L.take i)).2 /\ wr.ownsRow Y.heap.size 90 3 v (stepsR ⟨s,text,K + 1⟩ (L.take i)).1.length (rowC (stepsR ⟨s,text,K + 1⟩ (L.take i)).1) /\ Below Y.heap.size Y wr /\ (stepsR ⟨s,text,K + 1⟩ (L.take i)).1.length <= 2 * i) (fun _ _ x _ => L.length - (intOf x).toNat)
  case atStart => exact ⟨0,Nat.zero_le _,rfl,rfl,World.ownsRow_nil _ _ _ _,Below.refl _ _,Nat.le_refl _⟩
  case round =>
   obtain ⟨i,hi,rfl,rfl,hown,hb,hlen⟩ := hrel
   have b0 := cell_later hb e0
   have b1 := cell_later hb e1
   by_cases hlt : i < L.length
   ·obtain ⟨x,hx⟩ : ∃ x,L[i]? = some x := ⟨L[i],List.getElem?_eq_getElem hlt⟩
    rcases hcell with h0 | ⟨g,rfl,hcc⟩
    ·omega
    have d0 := cell_later hb (hcc i x hx).1
    have d1 := cell_later hb (hcc i x hx).2.1
    have d2 := cell_later hb (hcc i x hx).2.2
    have hst : stepsR ⟨s,text,K + 1⟩ (L.take (i + 1)) = stepR ⟨s,text,K + 1⟩ (stepsR ⟨s,text,K + 1⟩ (L.take i)) x := by
     rw [List.take_add_one,hx]
     exact stepsR_snoc _ _ _
    have HST : Hid (stepsR ⟨s,text,K + 1⟩ (L.take (i + 1)) = stepR ⟨s,text,K + 1⟩ (stepsR ⟨s,text,K + 1⟩ (L.take i)) x) := hst
    generalize stepsR ⟨s,text,K + 1⟩ (L.take i) = qq at *
    obtain ⟨acc,bb⟩ := qq
    have hcc1 : ∀ W,Below Y.heap.size Y W -> W.cell? ⟨g,i * 3,none⟩ = some (.string x.nm) /\ W.cell? ⟨g,i * 3 + 1,none⟩ = some (.string x.tx) /\ W.cell? ⟨g,i * 3 + 2,none⟩ = some (.int .i64 x.st) := fun W hW => ⟨cell_later hW (hcc i x hx).1,cell_later hW (hcc i x hx).2.1,cell_later hW (hcc i x hx).2.2⟩
    clear hcc hst hx
    have hlw := leN_walk s x.nm
    have hqw : (x.nm.toList == s.toList) = decide (x.nm = s) := toList_beq _ _
    cases bb with
    | true =>
     cases hle : leN s x.nm <;> by_cases hnm : x.nm = s
     all_goals
      rw [hle] at hlw
      first
       | rw [decide_eq_true hnm] at hqw
       | rw [decide_eq_false hnm] at hqw
      first
       | (have hnm' : x.nm = s := hnm
          go_wp2
          go_roundw
          case rel => exact ⟨i + 1,by omega,by go_num,by rw [HST.out]; simp [stepR],by rw [HST.out]; simpa [stepR,hnm'] using hown,hb,by rw [HST.out]; simp [stepR,hnm'] at hlen ⊢; omega⟩
          case measure => simp [intOf]; omega)
       | (obtain ⟨v1,W1,happ1,hown2,hbG⟩ := fileGrow x hb.size hown (by simp at hlen ⊢; omega)
          have hb2 := (hb.alloc hb.size _).trans hbG
          clear hown hbG
          go_wp2_with (at_builtin; refine list_run rfl _ _ 37 rfl u11 _ _ rfl rfl happ1 ?_)
          go_roundw
          case rel => exact ⟨i + 1,by omega,by go_num,by rw [HST.out]; simp [stepR],by rw [HST.out]; simpa [stepR,hnm] using hown2,hb2,by rw [HST.out]; simp [stepR,hnm] at hlen ⊢; omega⟩
          case measure => simp [intOf]; omega)
    | false =>
     cases hle : leN s x.nm with
     | false =>
      rw [hle] at hlw
      have hnm : x.nm ≠ s := fun e => by
       have := leN_no hle
       rw [e] at this
       exact ltN_irrefl _ this
      rw [decide_eq_false hnm] at hqw
      obtain ⟨v1,W1,happ1,hown2,hbG⟩ := fileGrow x hb.size hown (by simp at hlen ⊢; omega)
      have hb2 := (hb.alloc hb.size _).trans hbG
      clear hown hbG
      go_wp2_with (at_builtin; refine list_run rfl _ _ 37 rfl u11 _ _ rfl rfl happ1 ?_)
      go_roundw
      case rel => exact ⟨i + 1,by omega,by go_num,by rw [HST.out]; simp [stepR,hle],by rw [HST.out]; simpa [stepR,hle,hnm] using hown2,hb2,by rw [HST.out]; simp [stepR,hle,hnm] at hlen ⊢; omega⟩
      case measure => simp [intOf]; omega
     | true =>
      rw [hle] at hlw
      obtain ⟨v1,W1,happ1,hown1,hbG1⟩ := fileGrow ⟨s,text,K + 1⟩ hb.size hown (by simp at hlen ⊢; omega)
      have hb1 := (hb.alloc hb.size _).trans hbG1
      have k0 := cell_later hb1 e0
      clear hown hbG1
      by_cases hnm : x.nm = s
      ·rw [decide_eq_true hnm] at hqw
       have k1 : W1.cell? ⟨g,i * 3,none⟩ = some (.string x.nm) := hcc1 _ hb1 |>.1
       go_wp2_with (at_builtin; refine list_run rfl _ _ 37 rfl u11 _ _ rfl rfl happ1 ?_)
       go_roundw
       case rel => exact ⟨i + 1,by omega,by go_num,by rw [HST.out,stepR_in hle hnm],by rw [HST.out,stepR_in hle hnm]; exact hown1,hb1,by rw [HST.out,stepR_in hle hnm]; simp at hlen ⊢; omega⟩
       case measure => simp [intOf]; omega
      ·rw [decide_eq_false hnm] at hqw
       obtain ⟨k1,k2,k3⟩ := hcc1 _ hb1
       obtain ⟨v2,W2,happ2,hown2,hbG2⟩ := fileGrow x hb1.size hown1 (by simp at hlen ⊢; omega)
       have hb2 := (hb1.alloc hb1.size _).trans hbG2
       clear hown1 hbG2
       go_wp2_with (at_builtin; first | (refine list_run rfl (.tmp 76) (.tmp 84) 37 rfl u11 _ _ rfl rfl happ1 ?_) | (refine list_run rfl (.tmp 96) (.tmp 104) 37 rfl v1 _ _ rfl rfl happ2 ?_))
       go_roundw
       case rel => exact ⟨i + 1,by omega,by go_num,by rw [HST.out,stepR_two hle hnm],by rw [HST.out,stepR_two hle hnm]; exact hown2,hb2,by rw [HST.out,stepR_two hle hnm]; simp at hlen ⊢; omega⟩
       case measure => simp [intOf]; omega
   ·have e : i = L.length := by omega
    subst e
    rw [List.take_length] at hown hlen ⊢
    have HP : Hid (putR ⟨s,text,(k : Int) + 1⟩ L = if (stepsR ⟨s,text,K + 1⟩ L).2 = true then (stepsR ⟨s,text,K + 1⟩ L).1 else (stepsR ⟨s,text,K + 1⟩ L).1 ++ [⟨s,text,K + 1⟩]) := by
     show putR ⟨s,text,(k : Int) + 1⟩ L = _
     rw [HK.out]
     rfl
    generalize stepsR ⟨s,text,K + 1⟩ L = qq at *
    obtain ⟨acc,bb⟩ := qq
    cases bb with
    | true =>
     obtain ⟨a5,c5,rfl,_⟩ := owns_shape hown
     obtain ⟨hfz,hset,hTs⟩ := h3.set hb hown hB3
     clear e0 e1
     go_wp2
     go_ret
     exact ⟨rfl,fun _ => by rw [HP.out]; exact hset,fun h => absurd rfl h,hT3.trans hTs⟩
    | false =>
     obtain ⟨v1,W1,happ1,hown1,hbG1⟩ := fileGrow ⟨s,text,K + 1⟩ hb.size hown (by simp at hlen ⊢; omega)
     have hb1 := (hb.alloc hb.size _).trans hbG1
     have k0 := cell_later hb1 e0
     obtain ⟨hfz,hset,hTs⟩ := h3.set hb1 hown1 hB3
     obtain ⟨a5,c5,hv5,_⟩ := owns_shape hown1
     subst hv5
     have hlen1 : (acc ++ [(⟨s,text,K + 1⟩ : FileR)]).length = acc.length + 1 := by simp
     rw [hlen1] at hset hTs happ1
     clear e0 e1 hown1 hown hbG1
     go_wp2_with (at_builtin; refine list_run rfl _ _ 37 rfl u11 _ _ rfl rfl happ1 ?_)
     go_ret
     exact ⟨rfl,fun _ => by rw [HP.out]; exact hset,fun h => absurd rfl h,hT3.trans hTs⟩
set_option maxRecDepth 100000 in
set_option maxHeartbeats 1000000 in
theorem writeR_err (B : Nat) (w : World) (q : Nat) (L : List FileR) (k : Nat) (s text : ByteArray) (h : RAt B w q L k) (hL : L.length <= 1000) (hs : s.size <= maxLen) (F : Nat) (hF : F = writeRF L k s text) (h0 : F ≠ 0) :
 Calls Tryz.prog 11 #[.pointer (some ⟨q,0,none⟩),.string s,.string text] w fun e w' => WriteREnd B w q L k s text F e w' := by
 have HN := nameFault_any s w hs
 by_cases hn : nameF s.data.toList = 0
 ·rw [hn] at HN
  have hF2 : F = if 1200 < text.size then 2 else if ((∀ x ∈ L,x.nm ≠ s) /\ L.length = 6) ∨ k = 1000000 then 8 else 0 := by rw [hF]; unfold writeRF; rw [hn]; rfl
  clear hF hn
  by_cases ht : 1200 < text.size
  ·rw [if_pos ht] at hF2
   subst hF2
   have ht' : (1200 : Int) < (text.size : Int) := by omega
   clear ht
   go_enter Tryz.func11,Tryz.ntmps11
   go_wp2_with fail
   refine HN.mono ?_
   rintro e w' ⟨rfl,rfl⟩
   go_wp2
   go_ret
   exact ⟨rfl,(fun h => by cases h),fun _ => h,Turned.refl _ _ _⟩
  ·rw [if_neg ht] at hF2
   have ht' : ¬ (1200 : Int) < (text.size : Int) := by omega
   by_cases ho : ((∀ x ∈ L,x.nm ≠ s) /\ L.length = 6) ∨ k = 1000000
   ·rw [if_pos ho] at hF2
    subst hF2
    have HR := readR_any B w q L k s h hL
    clear ht
    go_enter Tryz.func11,Tryz.ntmps11
    go_wp2_with fail
    refine HN.mono ?_
    rintro e w' ⟨rfl,rfl⟩
    go_wp2_with fail
    refine HR.mono ?_
    rintro e w2 ⟨⟨t,nn,f,rfl,hR⟩,hb2⟩
    have h2 := h.later hb2
    obtain ⟨a,c,hc,c0,c1,hcell⟩ := h2.open
    obtain ⟨K,hK⟩ : ∃ K : Int,(k : Int) = K := ⟨_,rfl⟩
    rw [hK] at c1
    have hgo : (0 < (f : Int) /\ ((L.length : Int) == 6) = true) ∨ (K == 1000000) = true := by
     rcases ho with ⟨hno,h6⟩ | hk
     ·rcases hR with ⟨x,hx,hxs,_⟩ | ⟨_,_,_,h5⟩
      ·exact absurd hxs (hno x hx)
      ·exact .inl ⟨by omega,by rw [beq_iff_eq]; omega⟩
     ·exact .inr (by rw [beq_iff_eq]; omega)
    clear HN HR hR ho hcell hK
    have fin : WriteREnd B w q L k s text 8 (.returned (.int .i64 ((8 : Nat) : Int))) w2 := ⟨rfl,(fun h => by cases h),fun _ => h2,Turned.of hb2⟩
    rcases hgo with ⟨g1,g2⟩ | g1
    ·go_wp2
     go_ret
     exact fin
    ·by_cases g2 : 0 < (f : Int)
     ·cases g3 : ((L.length : Int) == 6) with
      | true =>
       go_wp2
       go_ret
       exact fin
      | false =>
       go_wp2
       go_ret
       exact fin
     ·go_wp2
      go_ret
      exact fin
   ·rw [if_neg ho] at hF2
    exact absurd hF2 h0
 ·have hF2 : F = nameF s.data.toList := by rw [hF]; exact seqF_some _ hn
  rw [<- hF2] at HN
  have hp : (0 : Int) < (F : Int) := by omega
  clear hF hn hF2
  go_enter Tryz.func11,Tryz.ntmps11
  go_wp2_with fail
  refine HN.mono ?_
  rintro e w' ⟨rfl,rfl⟩
  go_wp2
  go_ret
  exact ⟨rfl,fun h => absurd h h0,fun _ => h,Turned.refl _ _ _⟩
theorem writeR_any (B : Nat) (w : World) (q : Nat) (L : List FileR) (k : Nat) (s text : ByteArray) (h : RAt B w q L k) (hL : L.length <= 1000) (hB : B <= w.heap.size) (hs : s.size <= maxLen) (hk : k <= 1000000) :
 Calls Tryz.prog 11 #[.pointer (some ⟨q,0,none⟩),.string s,.string text] w fun e w' => WriteREnd B w q L k s text (writeRF L k s text) e w' := by
 by_cases h0 : writeRF L k s text = 0
 ·rw [h0]
  have hn : nameF s.data.toList = 0 := by
   by_cases hn : nameF s.data.toList = 0
   ·exact hn
   ·unfold writeRF at h0; rw [seqF_some _ hn] at h0; exact h0
  unfold writeRF at h0
  rw [hn,seqF_zero] at h0
  have ht : ¬ 1200 < text.size := fun ht => by rw [if_pos ht] at h0; cases h0
  rw [if_neg ht] at h0
  have ho : ¬ (((∀ x ∈ L,x.nm ≠ s) /\ L.length = 6) ∨ k = 1000000) := fun ho => by rw [if_pos ho] at h0; cases h0
  have hk' : k ≠ 1000000 := fun x => ho (.inr x)
  exact writeR_ok B w q L k s text h hL hB hs hn ht (fun x => ho (.inl x)) (by omega)
 ·exact writeR_err B w q L k s text h hL hs _ rfl h0
structure ActF where
 kind : ByteArray
 s : ByteArray
 t : ByteArray
 a : Int
 k : Int
 root : ByteArray
 pa : Option Addr
 pn : Nat
 pc : Nat
 pname : Nat -> ByteArray
 qa : Option Addr
 qn : Nat
 qc : Nat
 pst : Nat -> Int
 pbs : Nat -> Int
 qp : Nat -> Int
 qt : Nat -> Int
 qv : Nat -> Int
def RowSII (w : World) (a : Option Addr) (n : Nat) (s : Nat -> ByteArray) (k b : Nat -> Int) : Prop :=
 n = 0 ∨ ∃ bk o,a = some ⟨bk,o,none⟩ /\ ∀ i,i < n -> w.cell? ⟨bk,o + i * 3,none⟩ = some (.string (s i)) /\ w.cell? ⟨bk,o + i * 3 + 1,none⟩ = some (.int .i64 (k i)) /\ w.cell? ⟨bk,o + i * 3 + 2,none⟩ = some (.int .i64 (b i))
theorem RowSII.later {w w' : World} {a : Option Addr} {n : Nat} {s : Nat -> ByteArray} {k b : Nat -> Int} (h : RowSII w a n s k b) (hb : Below w.heap.size w w') : RowSII w' a n s k b := by
 rcases h with h | ⟨bk,o,ha,hc⟩
 ·exact .inl h
 ·exact .inr ⟨bk,o,ha,fun i hi => ⟨cell_later hb (hc i hi).1,cell_later hb (hc i hi).2.1,cell_later hb (hc i hi).2.2⟩⟩
def RowIII (w : World) (a : Option Addr) (n : Nat) (p t v : Nat -> Int) : Prop :=
 n = 0 ∨ ∃ bk o,a = some ⟨bk,o,none⟩ /\ ∀ i,i < n -> w.cell? ⟨bk,o + i * 3,none⟩ = some (.int .i64 (p i)) /\ w.cell? ⟨bk,o + i * 3 + 1,none⟩ = some (.int .i64 (t i)) /\ w.cell? ⟨bk,o + i * 3 + 2,none⟩ = some (.int .i64 (v i))
theorem RowIII.later {w w' : World} {a : Option Addr} {n : Nat} {p t v : Nat -> Int} (h : RowIII w a n p t v) (hb : Below w.heap.size w w') : RowIII w' a n p t v := by
 rcases h with h | ⟨bk,o,ha,hc⟩
 ·exact .inl h
 ·exact .inr ⟨bk,o,ha,fun i hi => ⟨cell_later hb (hc i hi).1,cell_later hb (hc i hi).2.1,cell_later hb (hc i hi).2.2⟩⟩
def Is64 (n : Int) : Prop := -9223372036854775808 <= n /\ n <= 9223372036854775807
def PartsRow (w : World) (a : Option Addr) (n : Nat) (f : Nat -> ByteArray) : Prop :=
 n = 0 ∨ ∃ b o,a = some ⟨b,o,none⟩ /\ ∀ i,i < n -> w.cell? ⟨b,o + i * 3,none⟩ = some (.string (f i))
theorem PartsRow.later {w w' : World} {a : Option Addr} {n : Nat} {f : Nat -> ByteArray} (h : PartsRow w a n f) (hb : Below w.heap.size w w') : PartsRow w' a n f := by
 rcases h with h | ⟨b,o,ha,hc⟩
 ·exact .inl h
 ·exact .inr ⟨b,o,ha,fun i hi => cell_later hb (hc i hi)⟩
structure ActHere (w : World) (b o : Nat) (x : ActF) : Prop where
 c0 : w.cell? ⟨b,o,none⟩ = some (.string x.kind)
 c1 : w.cell? ⟨b,o + 1,none⟩ = some (.string x.s)
 c2 : w.cell? ⟨b,o + 2,none⟩ = some (.string x.t)
 c3 : w.cell? ⟨b,o + 3,none⟩ = some (.int .i64 x.a)
 c4 : w.cell? ⟨b,o + 4,none⟩ = some (.int .u64 x.k)
 c5 : w.cell? ⟨b,o + 5,none⟩ = some (.string x.root)
 c6 : w.cell? ⟨b,o + 6,none⟩ = some (.slice x.pa x.pn x.pc)
 c7 : w.cell? ⟨b,o + 7,none⟩ = some (.slice x.qa x.qn x.qc)
 parts : PartsRow w x.pa x.pn x.pname
 rows : RowSII w x.pa x.pn x.pname x.pst x.pbs
 pats : RowIII w x.qa x.qn x.qp x.qt x.qv
theorem ActHere.later {w w' : World} {b o : Nat} {x : ActF} (h : ActHere w b o x) (hb : Below w.heap.size w w') : ActHere w' b o x :=
 ⟨cell_later hb h.c0,cell_later hb h.c1,cell_later hb h.c2,cell_later hb h.c3,cell_later hb h.c4,cell_later hb h.c5,cell_later hb h.c6,cell_later hb h.c7,h.parts.later hb,h.rows.later hb,h.pats.later hb⟩
def ActsRow (w : World) (a : Option Addr) (n : Nat) (X : Nat -> ActF) : Prop :=
 n = 0 ∨ ∃ b o,a = some ⟨b,o,none⟩ /\ ∀ i,i < n -> ActHere w b (o + i * 8) (X i)
theorem ActsRow.later {w w' : World} {a : Option Addr} {n : Nat} {X : Nat -> ActF} (h : ActsRow w a n X) (hb : Below w.heap.size w w') : ActsRow w' a n X := by
 rcases h with h | ⟨b,o,ha,hc⟩
 ·exact .inl h
 ·exact .inr ⟨b,o,ha,fun i hi => (hc i hi).later hb⟩
structure ActFit (x : ActF) : Prop where
 s : x.s.size <= maxLen
 t : x.t.size <= maxLen
 a : Is64 x.a
 k : 0 <= x.k /\ x.k <= 18446744073709551615
 root : x.root.size <= maxLen
 parts : ∀ i,i < x.pn -> (x.pname i).size <= maxLen /\ Is64 (x.pst i) /\ Is64 (x.pbs i)
 pats : ∀ i,i < x.qn -> Is64 (x.qp i) /\ Is64 (x.qt i) /\ Is64 (x.qv i)
 pcap : x.pn <= maxLen
 qcap : x.qn <= maxLen
def SomeBool (e : Ending) : Prop := ∃ b,e = .returned (.bool b)
set_option maxRecDepth 100000 in
set_option maxHeartbeats 1000000 in
theorem lightEntry_any (root : ByteArray) (pa qa : Option Addr) (pn pc qn qc : Nat) (f : Nat -> ByteArray) (w : World) (hp : PartsRow w pa pn f) :
 Calls Tryz.prog 25 #[.agg #[.string root,.slice pa pn pc,.slice qa qn qc]] w fun e w' => SomeBool e /\ Below w.heap.size w w' := by
 have hx : Below w.heap.size w (w.alloc (.cells #[.string root,.slice pa pn pc,.slice qa qn qc] 48)) := (Below.refl _ _).alloc (Nat.le_refl _) _
 have c0 : (w.alloc (.cells #[.string root,.slice pa pn pc,.slice qa qn qc] 48)).cell? ⟨w.heap.size,0,none⟩ = some (.string root) := by simp [go_sem]
 have c1 : (w.alloc (.cells #[.string root,.slice pa pn pc,.slice qa qn qc] 48)).cell? ⟨w.heap.size,1,none⟩ = some (.slice pa pn pc) := by simp [go_sem]
 have c2 : (w.alloc (.cells #[.string root,.slice pa pn pc,.slice qa qn qc] 48)).cell? ⟨w.heap.size,2,none⟩ = some (.slice qa qn qc) := by simp [go_sem]
 by_cases hc : 20 < root.size ∨ 8 < pn ∨ 40 < qn
 ·go_enter Tryz.func25,Tryz.ntmps25
  go_wp2
  all_goals first | (go_ret; exact ⟨⟨_,rfl⟩,hx⟩) | (exfalso; omega)
 ·have g1 : ¬ (20 : Int) < root.size := by omega
  have g2 : ¬ (8 : Int) < pn := by omega
  have g3 : ¬ (40 : Int) < qn := by omega
  have h8 : pn <= 8 := by omega
  have hp' := hp.later hx
  clear hc hp
  go_enter Tryz.func25,Tryz.ntmps25
  go_wp2
  generalize w.alloc (.cells #[.string root,.slice pa pn pc,.slice qa qn qc] 48) = Y at *
  go_loopw [3] (fun x wr => ∃ k : Nat,k <= pn /\ x = .int .i64 k /\ wr = Y) (fun x _ => pn - (intOf x).toNat)
  case atStart => exact ⟨0,Nat.zero_le _,rfl,rfl⟩
  case round =>
   obtain ⟨k,hk,rfl,hw⟩ := hrel
   replace hw := hw.symm
   subst hw
   by_cases hlt : k < pn
   ·rcases hp' with h0 | ⟨b1,o1,rfl,h5⟩
    ·omega
    have p0 := h5 k hlt
    clear h5
    go_wp2
    all_goals first
     | (go_ret; exact ⟨⟨_,rfl⟩,hx⟩)
     | (go_roundw
        case rel => exact ⟨k + 1,by omega,by go_num,trivial⟩
        case measure => simp [intOf]; omega)
   ·go_wp2
    go_ret
    exact ⟨⟨_,rfl⟩,hx⟩
def LightActsEnd (n most : Nat) (X : Nat -> ActF) (e : Ending) : Prop := ∃ b,e = .returned (.bool b) /\ (b = true -> n <= most /\ ∀ i,i < n -> (X i).s.size <= 100 /\ (X i).t.size <= 1300)
theorem upto_more {p : Nat -> Prop} {k : Nat} (h : ∀ i,i < k -> p i) (hk : p k) : ∀ i,i < k + 1 -> p i := fun i hi => by
 by_cases e : i = k
 ·subst e; exact hk
 ·exact h i (by omega)
set_option maxRecDepth 100000 in
set_option maxHeartbeats 2000000 in
theorem lightActs_any (a : Option Addr) (n c most : Nat) (X : Nat -> ActF) (w : World) (hm : most <= 1000) (hr : ActsRow w a n X) (hf : ∀ i,i < n -> ActFit (X i)) :
 Calls Tryz.prog 5 #[.slice a n c,.int .i64 (most : Int)] w fun e w' => LightActsEnd n most X e /\ Below w.heap.size w w' := by
 by_cases h0 : most < n
 ·have h0' : (most : Int) < (n : Int) := by omega
  clear h0 hr hf hm
  go_enter Tryz.func5,Tryz.ntmps5
  go_wp2
  go_ret
  exact ⟨⟨false,rfl,fun h => by cases h⟩,Below.refl _ _⟩
 ·have h0' : ¬ (most : Int) < (n : Int) := by omega
  go_enter Tryz.func5,Tryz.ntmps5
  go_wp2
  go_loopw [5,6] (fun y x wr => ∃ (k : Nat) (N : Int),k <= n /\ x = .int .i64 k /\ y = .int .i64 N /\ 0 <= N /\ N <= 20000 /\ Below w.heap.size w wr /\ Hid (∀ i,i < k -> (X i).s.size <= 100 /\ (X i).t.size <= 1300)) (fun _ x _ => n - (intOf x).toNat)
  case atStart => exact ⟨0,0,Nat.zero_le _,rfl,rfl,by omega,by omega,Below.refl _ _,fun i hi => by omega⟩
  case round =>
   obtain ⟨k,N,hk,rfl,rfl,hN0,hN1,hb,HK⟩ := hrel
   by_cases hlt : k < n
   ·rcases hr with hz | ⟨bk,o,rfl,hc⟩
    ·omega
    have H := (hc k hlt).later hb
    have d1 := H.c1
    have d2 := H.c2
    have d5 := H.c5
    have d6 := H.c6
    have d7 := H.c7
    have ht := (hf k hlt).t
    unfold maxLen at ht
    have HE := lightEntry_any (X k).root (X k).pa (X k).qa (X k).pn (X k).pc (X k).qn (X k).qc (X k).pname wr H.parts
    clear hc hf H
    by_cases q1 : 100 < (X k).s.size
    ·have q1' : (100 : Int) < ((X k).s.size : Int) := by omega
     clear q1 HE
     go_wp2
     go_ret
     exact ⟨⟨false,rfl,fun h => by cases h⟩,hb⟩
    ·have q1' : ¬ (100 : Int) < ((X k).s.size : Int) := by omega
     by_cases q2 : 1300 < (X k).t.size
     ·have q2' : (1300 : Int) < ((X k).t.size : Int) := by omega
      clear q1 q2 HE
      go_wp2
      go_ret
      exact ⟨⟨false,rfl,fun h => by cases h⟩,hb⟩
     ·have q2' : ¬ (1300 : Int) < ((X k).t.size : Int) := by omega
      by_cases q3 : (20000 : Int) < N + ((X k).t.size : Int)
      ·clear q1 q2 HE
       go_wp2
       go_ret
       exact ⟨⟨false,rfl,fun h => by cases h⟩,hb⟩
      ·have HK2 : Hid (∀ i,i < k + 1 -> (X i).s.size <= 100 /\ (X i).t.size <= 1300) := upto_more HK.out ⟨by omega,by omega⟩
       clear q1 q2
       go_wp2_with fail
       refine HE.mono ?_
       rintro e w2 ⟨⟨b,rfl⟩,hb2⟩
       have hB := hb.trans (hb2.mono hb.size)
       clear HE d1 d2 d5 d6 d7 hb hb2
       cases b with
       | false =>
        go_wp2
        go_ret
        exact ⟨⟨false,rfl,fun h => by cases h⟩,hB⟩
       | true =>
        go_wp2
        go_roundw
        case rel => exact ⟨k + 1,N + ((X k).t.size : Int),by omega,by go_num,rfl,by omega,by omega,hB,HK2⟩
        case measure => simp [intOf]; omega
   ·have e : k = n := by omega
    subst e
    go_wp2
    go_ret
    exact ⟨⟨true,rfl,fun _ => ⟨by omega,HK.out⟩⟩,hb⟩
end Go.Proofs.YtagfngiaogckpaaGreatDoor
namespace Go.Proofs.YtagfngiaogckpaaGreatDoor
open Go.RowKit Go.Maps
theorem keyB_key (s : ByteArray) : WideAt.IsKeyLit (keyB s) := by simp [keyB,WideAt.IsKeyLit]
structure Inv (D : DataW Unit) (k : Nat) : Prop where
 tidy : Tidy D
 size : Maps.size D <= 6
 st : ∀ key,Maps.has D key = true -> ∃ t n,D.atKey key (fileD [] 0) = fileD t n /\ n <= (k : Int)
theorem Inv.empty : Inv (.map []) 0 := ⟨tidy_empty,by simp [Maps.size],fun key h => by simp [Maps.has] at h⟩
theorem writeF_ok {D : DataW Unit} {k : Nat} {s text : ByteArray} (h : writeF D k s text = 0) : othersF D s < 6 /\ text.size <= 1200 /\ k < 1000000 := by
 unfold writeF at h
 by_cases hn : nameF s.data.toList = 0
 ·rw [hn,seqF_zero] at h
  by_cases ht : 1200 < text.size
  ·rw [if_pos ht] at h; cases h
  ·rw [if_neg ht] at h
   by_cases ho : 6 <= othersF D s ∨ 1000000 <= k
   ·rw [if_pos ho] at h; cases h
   ·exact ⟨by omega,by omega,by omega⟩
 ·rw [seqF_some _ hn] at h; exact absurd h hn
theorem Inv.put {D : DataW Unit} {k : Nat} {s text : ByteArray} (h : Inv D k) (hF : writeF D k s text = 0) : Inv (D.put (keyB s) (fileD text.data.toList ((k : Int) + 1))) (k + 1) := by
 obtain ⟨ho,_,_⟩ := writeF_ok hF
 refine ⟨h.tidy.put (keyB_key s) _,?_,fun key hh => ?_⟩
 ·rw [size_put h.tidy]
  unfold othersF at ho
  have := h.size
  cases hq : Maps.has D (keyB s) with
  | true => simp; exact this
  | false => rw [hq] at ho; simp at ho ⊢; omega
 ·by_cases e : key = keyB s
  ·subst e
   exact ⟨_,_,atKey_put_same h.tidy.isMap (keyB_key s) _ _,by omega⟩
  ·rw [has_put_other e] at hh
   obtain ⟨t,n,h1,h2⟩ := h.st key hh
   exact ⟨t,n,by rw [atKey_put_other e]; exact h1,by omega⟩
theorem Inv.del {D : DataW Unit} {k : Nat} {s : ByteArray} (h : Inv D k) : Inv (D.del (keyB s)) k := by
 refine ⟨h.tidy.del _,?_,fun key hh => ?_⟩
 ·have := size_del (k := keyB s) h.tidy
  have := h.size
  omega
 ·by_cases e : key = keyB s
  ·subst e; rw [has_del_same] at hh; cases hh
  ·rw [has_del_other e] at hh
   obtain ⟨t,n,h1,h2⟩ := h.st key hh
   exact ⟨t,n,by rw [atKey_del_other e]; exact h1,h2⟩
abbrev kWrite : ByteArray := ⟨#[119,114,105,116,101]⟩
abbrev kRemove : ByteArray := ⟨#[114,101,109,111,118,101]⟩
def actD (q : DataW Unit × Nat) (x : ActF) : DataW Unit × Nat :=
 if x.kind = kWrite then (if writeF q.1 q.2 x.s x.t = 0 then (q.1.put (keyB x.s) (fileD x.t.data.toList ((q.2 : Int) + 1)),q.2 + 1) else q)
 else if x.kind = kRemove then (q.1.del (keyB x.s),q.2) else q
theorem actD_inv {q : DataW Unit × Nat} {x : ActF} (h : Inv q.1 q.2) : Inv (actD q x).1 (actD q x).2 /\ q.2 <= (actD q x).2 := by
 unfold actD
 by_cases h1 : x.kind = kWrite
 ·rw [if_pos h1]
  by_cases h2 : writeF q.1 q.2 x.s x.t = 0
  ·rw [if_pos h2]; exact ⟨h.put h2,Nat.le_succ _⟩
  ·rw [if_neg h2]; exact ⟨h,Nat.le_refl _⟩
 ·rw [if_neg h1]
  by_cases h2 : x.kind = kRemove
  ·rw [if_pos h2]; exact ⟨h.del,Nat.le_refl _⟩
  ·rw [if_neg h2]; exact ⟨h,Nat.le_refl _⟩
def doneD (q : DataW Unit × Nat) (X : Nat -> ActF) : Nat -> DataW Unit × Nat
 | 0 => q
 | m + 1 => actD (doneD q X m) (X m)
theorem doneD_inv {q : DataW Unit × Nat} {X : Nat -> ActF} (h : Inv q.1 q.2) (m : Nat) : Inv (doneD q X m).1 (doneD q X m).2 /\ q.2 <= (doneD q X m).2 := by
 induction m with
 | zero => exact ⟨h,Nat.le_refl _⟩
 | succ m ih => exact ⟨(actD_inv ih.1).1,Nat.le_trans ih.2 (actD_inv ih.1).2⟩
end Go.Proofs.YtagfngiaogckpaaGreatDoor
