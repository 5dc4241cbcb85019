/- What parse of package shelf returns, of the lines of entries that a shelf may have: those entries. -/
import Derived.Test.YtagfngiaogckpaaGreatDoorShelfCut
namespace Go.Proofs.YtagfngiaogckpaaGreatDoor
open Go.RowKit Go.Shelf
attribute [local go_sem] Oper.semAt_some
def entsOf (pre : List Ln) (i : Nat) : EntF := (parseE ((pre.map (·.1)).getD i ⟨#[]⟩)).2
theorem entsOf_old {pre : List Ln} {i : Nat} (x : Ln) (h : i < pre.length) : entsOf (pre ++ [x]) i = entsOf pre i := by
 unfold entsOf
 rw [List.map_append,List.getD_eq_getElem?_getD,List.getD_eq_getElem?_getD,List.getElem?_append_left (by simpa using h)]
theorem entsOf_new (pre : List Ln) (x : Ln) : entsOf (pre ++ [x]) pre.length = (parseE x.1).2 := by
 unfold entsOf
 rw [List.map_append,List.getD_eq_getElem?_getD,List.getElem?_append_right (by simp)]
 simp
theorem findF_some {E : Nat -> EntF} {root : ByteArray} {n : Nat} : ∀ (m i : Nat),n - i = m -> 0 <= findF E root n i -> ∃ j,i <= j /\ j < n /\ (E j).root = root /\ findF E root n i = (j : Int)
 | 0,i,hm,h => by rw [findF_end (by omega)] at h; exact absurd h (by decide)
 | m + 1,i,hm,h => by
  by_cases he : (E i).root = root
  ·exact ⟨i,Nat.le_refl _,by omega,he,findF_hit (by omega) he⟩
  ·rw [findF_miss (by omega) he] at h ⊢
   obtain ⟨j,h1,h2,h3,h4⟩ := findF_some m (i + 1) (by omega) h
   exact ⟨j,by omega,h2,h3,h4⟩
theorem findF_none {E : Nat -> EntF} {root : ByteArray} {n : Nat} : ∀ (m i : Nat),n - i = m -> findF E root n i < 0 -> ∀ j,i <= j -> j < n -> (E j).root ≠ root
 | 0,i,hm,_ => fun j h1 h2 => by omega
 | m + 1,i,hm,h => fun j h1 h2 => by
  by_cases he : (E i).root = root
  ·rw [findF_hit (by omega) he] at h; omega
  ·rw [findF_miss (by omega) he] at h
   by_cases e : j = i
   ·subst e; exact he
   ·exact findF_none m (i + 1) (by omega) h j (by omega) h2
def ParseIn (w : World) (T : ByteArray) (pre : List Ln) (W : World) : Prop :=
 ((∃ v,Boxed W (w.heap.size + 1 + 1) 41 v /\ ∃ V,EntsOwn W 0 w.heap.size v pre.length V (entsOf pre)) /\ Boxed W w.heap.size 41 (.slice none 0 0) /\ Boxed W (w.heap.size + 1) 33 .nilIface /\ Boxed W (w.heap.size + 1 + 1 + 1) 9 (.string T)) /\ Below w.heap.size w W
theorem grown_cells {w w' : World} {row : Option Nat} (hg : w.grownBy w' row) (hr : ∀ r,row = some r -> ∃ o : Obj,w.heap[r]? = some o /\ o.isCells = false) {k : Nat} {C : Array Value} {t : TypeId} {f : Nat × Nat} (h : w.heap[k]? = some (.cells C t f)) : w'.heap[k]? = w.heap[k]? :=
 hg.block k (Array.getElem?_eq_some_iff.1 h).1 (fun e => by
  obtain ⟨o,ho,hc⟩ := hr k e.symm
  rw [h] at ho; cases ho; cases hc)
theorem parseIn_own (w : World) (T : ByteArray) (B : Nat) (hB : w.heap.size <= B) : OwnFrom B (ParseIn w T) := by
 refine OwnFrom.and (Own.from ?_ _) (ownFrom_below (Nat.le_refl _) hB)
 rintro pre A A' row ⟨⟨v,hv,V,hE⟩,h2,h3,h5⟩ hg hr
 refine ⟨⟨v,(grown_cells hg hr hv).trans hv,V,hE.keeps ⟨fun k hk => absurd hk (Nat.not_lt_zero _),fun k C t _ hk => grown_cells hg hr hk⟩ (fun b e => ?_)⟩,(grown_cells hg hr h2).trans h2,(grown_cells hg hr h3).trans h3,(grown_cells hg hr h5).trans h5⟩
 obtain ⟨C,hC⟩ := own_kind hE.row e
 exact grown_cells hg hr hC
def ParseX (_ : Code) (pre : List Ln) (_ : World) : Prop := ∃ i,i + 1 < pre.length /\ (entsOf pre i).root = (entsOf pre (pre.length - 1)).root
theorem Tryz.infoEntry : (Tryz.prog.info? 48).map (fun i => (i.zero,i.size,i.bytes)) = some (some (.agg #[.string ⟨#[]⟩,.slice none 0 0,.slice none 0 0]),3,64) := by kernel_rfl
theorem box_added {w3 w5 : World} {tmp : Obj} {n₀ g B : Nat} {t : TypeId} {u v v' : Value} {k : Nat} {xs : List Value} (hb : Boxed w3 g t u) (ht : t ≠ 48) (hr : w3.ownsRow n₀ 48 3 v k xs) (hg : (w3.alloc tmp).grownBy w5 v.ownBlock) (hne : g ≠ B) : Boxed (w5.setCell ⟨B,0,none⟩ v') g t u :=
 (Below.heap_setCell _ _ _ _ hne).trans ((hb.alloc tmp).kept hg (hb.not_row ht hr))
theorem keepsOthers_below {W W' : World} (h : Below W.heap.size W W') : KeepsOthers W W' := ⟨h.size,fun k _ hk _ => (h.block k (Array.getElem?_eq_some_iff.1 hk).1).trans hk⟩
set_option maxRecDepth 100000 in
set_option maxHeartbeats 4000000 in
theorem shelfParse_any (w : World) (hE : Env w) (E : Nat -> EntF) (k : Nat) (hk : k <= 3) (hok : ∀ i,i < k -> entF (E i) = 0) (hone : ∀ i j,i < k -> j < k -> (E i).root = (E j).root -> i = j) (T : ByteArray) (hT : T.data.toList = linesE E k) :
 Calls Tryz.prog 69 #[.string T] w fun e w' => ∃ v V E',e = .returned (.tuple #[v,.nilIface]) /\ EntsOwn w' 0 w.heap.size v k V E' /\ (∀ i,i < k -> SameE (E' i) (E i)) /\ Below w.heap.size w w' := by
 have hTs : T.size <= 2256 := by
  have := linesE_len hk (fun i hi => entOk (hok i hi))
  rw [<- hT] at this
  simpa using this
 have hX0 : ∀ i,i < k -> (parseE ⟨(lineE (E i)).toArray⟩).1 = 0 /\ SameE (parseE ⟨(lineE (E i)).toArray⟩).2 (E i) := fun i hi => parse_line (by rw [textE_ok (hok i hi)]) (by rw [textE_ok (hok i hi)])
 have oneE : Nonempty Ln := ⟨⟨⟨#[97,32,49,32,48,32,97,32,49,32,48,10]⟩,by decide +kernel⟩⟩
 obtain ⟨X,hX⟩ : ∃ X : Nat -> Ln,∀ i,i < k -> (X i).1 = ⟨(lineE (E i)).toArray⟩ := by
  refine ⟨fun i => if h : i < k then ⟨⟨(lineE (E i)).toArray⟩,(hX0 i h).1,by rw [ba_size]; have := lineE_len (entOk (hok i h)); omega⟩ else Classical.choice oneE,fun i hi => ?_⟩
  show (dite _ _ _ : Ln).1 = _
  rw [dif_pos hi]
 refine (callsIn_wide (n := 6)).1 ?_
 obtain ⟨i0,hi,hz0,hz1,hz2⟩ := info_parts Tryz.infoEntry
 refine callsIn_of_wp_marks Tryz.func69 rfl trivial ?_ rfl
 simp only [Tryz.ntmps69,List.size_toArray,List.length_cons,List.length_nil,Nat.reduceAdd,Nat.reduceSub,Array.replicate_succ,Array.replicate_zero,List.push_toArray,List.append_toArray,List.nil_append,List.cons_append]
 gi_wp2
 refine ⟨trivial,?_⟩
 refine (cut_in _ T _).mono ?_
 rintro e w' ⟨rfl,rfl⟩
 have b2 := Boxed.new w 41 (.slice none 0 0)
 have b3 := Boxed.new (w.alloc (.cells #[.slice none 0 0] 41)) 33 .nilIface
 have b4 := Boxed.new ((w.alloc (.cells #[.slice none 0 0] 41)).alloc (.cells #[.nilIface] 33)) 41 (.slice none 0 0)
 have b5 := Boxed.new (((w.alloc (.cells #[.slice none 0 0] 41)).alloc (.cells #[.nilIface] 33)).alloc (.cells #[.slice none 0 0] 41)) 9 (.string T)
 simp only [World.size_alloc] at b3 b4 b5
 have b2' := ((b2.alloc (.cells #[.nilIface] 33)).alloc (.cells #[.slice none 0 0] 41)).alloc (.cells #[.string T] 9)
 have b3' := (b3.alloc (.cells #[.slice none 0 0] 41)).alloc (.cells #[.string T] 9)
 have b4' := b4.alloc (.cells #[.string T] 9)
 have hB0 : Below w.heap.size w ((((w.alloc (.cells #[.slice none 0 0] 41)).alloc (.cells #[.nilIface] 33)).alloc (.cells #[.slice none 0 0] 41)).alloc (.cells #[.string T] 9)) := ((((Below.refl _ w).alloc (Nat.le_refl _) _).alloc (by simp) _).alloc (by simp; omega) _).alloc (by simp; omega) _
 clear b2 b3 b4
 generalize hW0 : (((w.alloc (.cells #[.slice none 0 0] 41)).alloc (.cells #[.nilIface] 33)).alloc (.cells #[.slice none 0 0] 41)).alloc (.cells #[.string T] 9) = W0 at *
 have hzz : W0.heap.size = w.heap.size + 1 + 1 + 1 + 1 := by rw [<- hW0]; simp
 clear hW0
 gi_wp2
 refine wpIn_rangeFunc_ownG rfl (by decide) (gf := 139) (lb := #[.pointer (some ⟨w.heap.size + 1 + 1 + 1,0,none⟩)]) rfl trivial (enters_of Tryz.func139 (by kernel_rfl) rfl)
  (cut_stops 5 (by decide) (w.heap.size + 1 + 1 + 1) w.heap.size k X E T hT hTs (fun i hi => ⟨entOk (hok i hi),hX i hi⟩) W0 b5) KpC.trans (KpC.put (by omega) (by omega)) (Below.refl _ _) (fun _ => rfl)
  (ParseIn w T) ParseX (parseIn_own w T _ (by omega)) (fun _ _ _ _ _ hs _ _ => hs)
  ⟨⟨⟨_,b4',fun _ => ⟨none,0,none,0⟩,World.ownsRow_nil _ _ _ _,fun i hi => absurd hi (Nat.not_lt_zero _)⟩,b2',b3',b5⟩,hB0⟩
  (fun x => { tmps := #[.string T,undef,.pointer (some ⟨w.heap.size,0,none⟩),.pointer (some ⟨w.heap.size + 1,0,none⟩),.pointer (some ⟨w.heap.size + 1 + 1,0,none⟩),.string x.1,undef,undef,.string T,.func (.func 139) #[] #[.pointer (some ⟨w.heap.size + 1 + 1 + 1,0,none⟩)],.string x.1,undef,undef,undef,undef,undef,undef,undef,undef,undef,undef,undef,undef,undef,undef,undef,undef,undef,undef,undef,undef,undef,undef,undef,undef],defers := [] }) ?assign ?body ?done ?stop
 case assign =>
  intro l x W K hK
  gi_wp2
  exact hK
 case body =>
  rintro l pre x W ⟨⟨⟨v,hv,V,hEO⟩,h2,h3,h5⟩,hB⟩ hlt
  have HP := entParse_new x.1 W (hE.later hB) (by have := x.2.2; omega)
  rw [x.2.1,show errV 0 = .nilIface from rfl] at HP
  have hp3 : pre.length < 3 := by omega
  clear hX0 hX hok hone hT hTs b2' b3' b4' b5 hB0 oneE hE hk hlt
  have hER : entsOf (pre ++ [x]) pre.length = (parseE x.1).2 := entsOf_new pre x
  have HOLD : Hid (∀ i,i < pre.length -> entsOf (pre ++ [x]) i = entsOf pre i) := fun i hi => entsOf_old x hi
  obtain ⟨a,c,rfl,hRow⟩ := hEO.ents
  generalize (parseE x.1).2 = en at *
  gi_wp2
  refine ⟨trivial,?_⟩
  refine (CallsIn.inRound l (callsIn_wide.2 (show Calls _ _ _ _ _ from HP))).mono ?_
  rintro e w1 ⟨xv,rfl,hN,hb1⟩
  clear HP
  have hb2 : Below W.heap.size W (w1.alloc (.cells #[.string en.root,.slice xv.aP en.nP xv.cP,.slice xv.aQ en.nQ xv.cQ] 48)) := hb1.trans (((Below.refl _ _).alloc (Nat.le_refl _) _).mono hb1.size)
  have hN2 : EntNew (w1.alloc (.cells #[.string en.root,.slice xv.aP en.nP xv.cP,.slice xv.aQ en.nQ xv.cQ] 48)) xv en := hN.later ((Below.refl _ _).alloc (Nat.le_refl _) _)
  have d0 : (w1.alloc (.cells #[.string en.root,.slice xv.aP en.nP xv.cP,.slice xv.aQ en.nQ xv.cQ] 48)).cell? ⟨w1.heap.size,0,none⟩ = some (.string en.root) := by simp [go_sem]
  have d1 : (w1.alloc (.cells #[.string en.root,.slice xv.aP en.nP xv.cP,.slice xv.aQ en.nQ xv.cQ] 48)).cell? ⟨w1.heap.size,1,none⟩ = some (.slice xv.aP en.nP xv.cP) := by simp [go_sem]
  have d2 : (w1.alloc (.cells #[.string en.root,.slice xv.aP en.nP xv.cP,.slice xv.aQ en.nQ xv.cQ] 48)).cell? ⟨w1.heap.size,2,none⟩ = some (.slice xv.aQ en.nQ xv.cQ) := by simp [go_sem]
  clear hN hb1
  unfold entCs
  have hv2 : Boxed _ _ _ _ := (hb2.block _ hv.lt).trans hv
  have hvc := hv2.cell
  have hl3 : ((pre.length : Int) == 3) = false := by simp; omega
  have HF := shelfFind_any a pre.length c V (entsOf pre) en.root _ (by omega) (hRow.later hb2)
  gi_wp2
  refine ⟨trivial,?_⟩
  refine (CallsIn.inRound l (callsIn_wide.2 (show Calls _ _ _ _ _ from HF))).mono ?_
  rintro e w3 ⟨rfl,hb3⟩
  clear HF
  have hb4 := hb2.trans (hb3.mono hb2.size)
  have hv4 : Boxed w3 _ _ _ := (hb4.block _ hv.lt).trans hv
  have h24 : Boxed w3 _ _ _ := (hb4.block _ h2.lt).trans h2
  have h34 : Boxed w3 _ _ _ := (hb4.block _ h3.lt).trans h3
  have h54 : Boxed w3 _ _ _ := (hb4.block _ h5.lt).trans h5
  have hN4 := hN2.later hb3
  have e0 := cell_later hb3 d0
  have e1 := cell_later hb3 d1
  have e2 := cell_later hb3 d2
  have hEO4 := hEO.later (Nat.zero_le _) hb4
  have hB4 := hB.trans (hb4.mono hB.size)
  have HK4 : Hid (KeepsOthers W w3) := keepsOthers_below hb4
  have HBW : Hid (Below w.heap.size W w3) := hb4.mono hB.size
  have HT5 : Hid (Boxed W (w.heap.size + 1 + 1 + 1) 9 (.string T)) := h5
  have hsz4 := hb4.size
  clear hN2 d0 d1 d2 hv2 hvc hb2 hb3 hRow hv hEO h2 h3 h5 hb4
  generalize w1.heap.size = gE at *
  by_cases hpos : 0 <= findF (entsOf pre) en.root pre.length 0
  ·obtain ⟨j,_,hj1,hj2,_⟩ := findF_some _ 0 rfl hpos
   have HX : Hid (ParseX .ret (pre ++ [x]) w3) := ⟨j,by simp; omega,by rw [List.length_append,List.length_singleton,Nat.add_sub_cancel,HOLD.out j hj1,hER]; exact hj2⟩
   have f2 := h24.frozen
   have f3 := h34.frozen
   have c2 := h24.cell
   have c3 := h34.cell
   generalize findF (entsOf pre) en.root pre.length 0 = f at *
   clear hER
   gi_wp2
   exact ⟨((HK4.out.trans (KeepsOthers.setCell _ _ _)).trans (KeepsOthers.setCell _ _ _)).from _,HX.out⟩
  ·have hneg : findF (entsOf pre) en.root pre.length 0 < 0 := by omega
   have c4 := hv4.cell
   generalize findF (entsOf pre) en.root pre.length 0 = f at *
   have HER : Hid (entsOf (pre ++ [x]) pre.length = en) := hER
   clear hpos hER
   have hl4 := hEO4.row
   have hsz5 : w.heap.size <= w3.heap.size := hB4.size
   have hnews : Hid (∀ (j : Nat) (u : Value),[Value.string en.root,.slice xv.aP en.nP xv.cP,.slice xv.aQ en.nQ xv.cQ][j]? = some u -> (w3.alloc (.cells #[.string en.root,.slice xv.aP en.nP xv.cP,.slice xv.aQ en.nQ xv.cQ] 48)).cell? ((⟨w3.heap.size,0,none⟩ : Addr).add j) = some u) := fun j u hj => by
    match j,hj with
    | 0,hj => simp at hj; subst hj; simp [go_sem,Addr.add]
    | 1,hj => simp at hj; subst hj; simp [go_sem,Addr.add]
    | 2,hj => simp at hj; subst hj; simp [go_sem,Addr.add]
    | j + 3,hj => simp at hj
   have hone1 : Hid (∀ u ∈ [Value.string en.root,.slice xv.aP en.nP xv.cP,.slice xv.aQ en.nQ xv.cQ],u.oneCell' = true) := fun u hu => by simp at hu; rcases hu with rfl | rfl | rfl <;> rfl
   have hml : Hid (pre.length + 1 <= maxLen) := Nat.le_trans (by omega : pre.length + 1 <= 4) (by decide)
   have hmb : Hid ((pre.length + 1) * 64 <= 140737488355328) := by show (pre.length + 1) * 64 <= 140737488355328; omega
   have hms : Hid (w.heap.size <= (w3.alloc (.cells #[.string en.root,.slice xv.aP en.nP xv.cP,.slice xv.aQ en.nQ xv.cQ] 48)).heap.size) := by show w.heap.size <= (w3.alloc _).heap.size; rw [World.size_alloc]; omega
   have HL4 : Hid _ := hl4.alloc (.cells #[.string en.root,.slice xv.aP en.nP xv.cP,.slice xv.aQ en.nQ xv.cQ] 48)
   have HEO4 : Hid _ := hEO4
   have HNX4 : Hid _ := hN4
   have HBX4 : Hid _ := hB4
   have Hh24 : Hid _ := h24
   have Hh34 : Hid _ := h34
   have Hh54 : Hid _ := h54
   have Hhv4 : Hid _ := hv4
   clear hl4 hEO4 hN4 hB4 h24 h34 h54 hv4 hsz4 hB
   gi_wp2_with (gi_at_builtin; refine wpListIn_append_own _ rfl _ _ 41 rfl w.heap.size 48 i0 (.agg #[.string ⟨#[]⟩,.slice none 0 0,.slice none 0 0]) 3 64 Tryz.underlying41 hi hz0 hz1 hz2 rfl (by decide) (.slice a pre.length c) pre.length _ rfl HL4.out ⟨w3.heap.size,0,none⟩ 1 1 [.string en.root,.slice xv.aP en.nP xv.cP,.slice xv.aQ en.nQ xv.cQ] rfl rfl hnews.out hone1.out hml.out hmb.out hms.out ?_; intro v' w5 hown' hgrow _; obtain ⟨g',cap',rfl⟩ := ownsRow_succ hown'; obtain ⟨hv1,hv2,hr2,hk2,hb2⟩ := Boxed.appended Hhv4.out (by decide) HEO4.out.row hsz5 (by omega) hown' hgrow; have hc1 := hv1.cell; have hf1 := hv1.frozen)
   have kk : Keeps 0 w3 (w5.setCell ⟨w.heap.size + 1 + 1,0,none⟩ (.slice (some ⟨g',0,none⟩) (pre.length + 1) cap')) :=
    ((Keeps.of_below (w := w3) (Nat.zero_le _) ((Below.refl _ w3).alloc (Nat.le_refl _) (.cells #[.string en.root,.slice xv.aP en.nP xv.cP,.slice xv.aQ en.nQ xv.cQ] 48))).trans (Keeps.grown (w := w3.alloc (.cells #[.string en.root,.slice xv.aP en.nP xv.cP,.slice xv.aQ en.nQ xv.cQ] 48)) (Nat.zero_le _) (Nat.zero_le _) HL4.out (by decide) hgrow)).trans (Keeps.set hv1 (by decide) (Nat.zero_le _) _)
   have hAll := EntsOwn.added (fun i hi => (HEO4.out.ins i hi).keeps kk) ((HNX4.out.within 0).keeps kk) hr2
   refine ⟨(HK4.out.trans hk2).from _,⟨HBW.out.trans hb2,(box_added Hh54.out (by decide) HEO4.out.row hgrow (by omega)).trans HT5.out.symm⟩,⟨⟨_,hv2,addV V pre.length xv,?_⟩,box_added Hh24.out (by decide) HEO4.out.row hgrow (by omega),box_added Hh34.out (by decide) HEO4.out.row hgrow (by omega),box_added Hh54.out (by decide) HEO4.out.row hgrow (by omega)⟩,HBX4.out.trans hb2⟩
   rw [List.length_append,List.length_singleton]
   refine hAll.congr fun i hi => ⟨rfl,?_⟩
   unfold addV
   by_cases h : i = pre.length
   ·rw [if_pos h,h,HER.out]
   ·rw [if_neg h,HOLD.out i (by omega)]
 case done =>
  rintro D ys W hD rfl ⟨⟨⟨v,hv,V,hEO⟩,h2,h3,h5⟩,hB⟩ hK
  rw [upto_len] at hEO
  obtain ⟨a,c,rfl,hRow⟩ := hEO.ents
  have c4 := hv.cell
  have c2 := h2.cell
  have c3 := h3.cell
  have f2 := h2.frozen
  have f3 := h3.frozen
  gi_wp2
  have hK' := ((KeepsOthers.setCell W ⟨w.heap.size,0,none⟩ (.slice a k c)).trans (KeepsOthers.setCell _ ⟨w.heap.size + 1,0,none⟩ .nilIface)).same D _ hK rfl
  refine ⟨by simp,.inl ⟨_,_,rfl,run_takeDeferred hK',?_⟩⟩
  have b2n : Boxed ((W.setCell ⟨w.heap.size,0,none⟩ (.slice a k c)).setCell ⟨w.heap.size + 1,0,none⟩ .nilIface) w.heap.size 41 (.slice a k c) := (Below.heap_setCell _ _ _ _ (by simp)).trans (h2.set _)
  have b3m : Boxed (W.setCell ⟨w.heap.size,0,none⟩ (.slice a k c)) (w.heap.size + 1) 33 .nilIface := (Below.heap_setCell _ _ _ _ (by simp)).trans h3
  have b3n : Boxed ((W.setCell ⟨w.heap.size,0,none⟩ (.slice a k c)).setCell ⟨w.heap.size + 1,0,none⟩ .nilIface) (w.heap.size + 1) 33 .nilIface := b3m.set _
  have hDo : ∀ j,j < W0.heap.size -> j ≠ D := fun j hj => by omega
  have g2 := cell_kept b2n.cell (grownBy_putObj' _ D (.deferred none)) (fun r e => by cases e; exact ⟨_,hK',rfl⟩)
  have g3 := cell_kept b3n.cell (grownBy_putObj' _ D (.deferred none)) (fun r e => by cases e; exact ⟨_,hK',rfl⟩)
  have hkp : Keeps 0 W (((W.setCell ⟨w.heap.size,0,none⟩ (.slice a k c)).setCell ⟨w.heap.size + 1,0,none⟩ .nilIface).putObj D (.deferred none)) :=
   ((Keeps.set h2 (by decide) (Nat.zero_le _) _).trans (Keeps.set b3m (by decide) (Nat.zero_le _) _)).trans ⟨fun j hj => absurd hj (Nat.not_lt_zero _),fun j C t _ hj => grown_cells (grownBy_putObj' _ D (.deferred none)) (fun r e => by cases e; exact ⟨_,hK',rfl⟩) hj⟩
  have hEN : EntsOwn (((W.setCell ⟨w.heap.size,0,none⟩ (.slice a k c)).setCell ⟨w.heap.size + 1,0,none⟩ .nilIface).putObj D (.deferred none)) 0 w.heap.size (.slice a k c) k V (entsOf (upto X k)) := hEO.keeps hkp (fun b e => by
   obtain ⟨C,hC⟩ := own_kind hEO.row e
   have n2 : b ≠ w.heap.size := fun e' => by subst e'; rw [show W.heap[w.heap.size]? = _ from h2] at hC; simp at hC
   have n3 : b ≠ w.heap.size + 1 := fun e' => by subst e'; rw [show W.heap[w.heap.size + 1]? = _ from h3] at hC; simp at hC
   have hC2 : ((W.setCell ⟨w.heap.size,0,none⟩ (.slice a k c)).setCell ⟨w.heap.size + 1,0,none⟩ .nilIface).heap[b]? = W.heap[b]? := (Below.heap_setCell _ _ _ _ n3).trans (Below.heap_setCell _ _ _ _ n2)
   exact (grown_cells (grownBy_putObj' _ D (.deferred none)) (fun r e => by cases e; exact ⟨_,hK',rfl⟩) (hC2.trans hC)).trans hC2)
  refine ⟨.tuple #[.slice a k c,.nilIface],?_,_,V,_,rfl,hEN,fun i hi' => ?_,((hB.setCell (p := ⟨w.heap.size,0,none⟩) (Nat.le_refl _) _).setCell (p := ⟨w.heap.size + 1,0,none⟩) (by simp) _).trans (belowK_b (w := w) (Nat.le_refl _) _ D _ _ (by omega) hK' rfl rfl)⟩
  ·simp [results,Tryz.results69,go_sem,g2,g3]
  ·have e2 : entsOf (upto X k) i = (parseE (X i).1).2 := by
    unfold entsOf upto
    rw [List.getD_eq_getElem?_getD]
    simp [hi']
   rw [e2,hX i hi']
   exact (hX0 i hi').2
 case stop =>
  rintro D cc pre W hD hpre ⟨i,hi,he⟩ hK
  exfalso
  obtain ⟨r,hr⟩ := hpre
  have hl : pre.length <= k := by
   have := congrArg List.length hr
   rw [List.length_append,upto_len] at this
   omega
  have key : ∀ j,j < pre.length -> (entsOf pre j).root = (E j).root := fun j hj => by
   have e1 : entsOf pre j = entsOf (upto X k) j := by
    unfold entsOf
    rw [<- hr,List.map_append,List.getD_eq_getElem?_getD,List.getD_eq_getElem?_getD,List.getElem?_append_left (by simpa using hj)]
   have e2 : entsOf (upto X k) j = (parseE (X j).1).2 := by
    unfold entsOf upto
    rw [List.getD_eq_getElem?_getD]
    simp [show j < k by omega]
   rw [e1,e2,hX j (by omega)]
   exact (hX0 j (by omega)).2.root
  rw [key i (by omega),key _ (by omega)] at he
  have := hone _ _ (by omega) (by omega) he
  omega
end Go.Proofs.YtagfngiaogckpaaGreatDoor
