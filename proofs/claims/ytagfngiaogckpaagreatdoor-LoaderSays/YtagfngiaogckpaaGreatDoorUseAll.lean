/- What stands while Use of package entry takes an entry's parts, one after another: three rows that grow beside each other, and the objects that were read. What Use of package entry returns, for every entry and all files: the parts as they are laid; the number of the error; memory that was there stays as it was. -/
import Derived.Test.YtagfngiaogckpaaGreatDoorRefEntry
namespace Go.Proofs.YtagfngiaogckpaaGreatDoor
open Go.RowKit
def Fr (W : World) (g : Nat) (e : TypeId) (c : Array Value) : Prop := W.heap[g]? = some (.cells c e (0,0))
theorem Fr.new (W : World) (e : TypeId) (c : Array Value) : Fr (W.alloc (.cells c e)) W.heap.size e c := Array.getElem?_push_size
theorem Fr.later {W W' : World} {g : Nat} {e : TypeId} {c : Array Value} (h : Fr W g e c) (hb : Below W.heap.size W W') : Fr W' g e c := (hb.block g (Array.getElem?_eq_some_iff.1 h).1).trans h
theorem Fr.cell {W : World} {g : Nat} {e : TypeId} {c : Array Value} (h : Fr W g e c) {j : Nat} {u : Value} (hj : c[j]? = some u) : W.cell? ⟨g,j,none⟩ = some u := by
 unfold Fr at h
 simp [World.cell?,h,hj]
theorem Fr.grown {W W' : World} {g : Nat} {e : TypeId} {c : Array Value} {B : Nat} {e' : TypeId} {s n : Nat} {v : Value} {xs : List Value} (h : Fr W g e c) (ho : W.ownsRow B e' s v n xs) (hg : W.grownBy W' v.ownBlock) (hne : e ≠ e') : Fr W' g e c := by
 unfold Fr at *
 rw [hg.block g (Array.getElem?_eq_some_iff.1 h).1 ?_]
 ·exact h
 ·intro h2
  rcases ho.2 with ⟨rfl,_⟩ | ⟨g',cap,cur,rfl,_,hg',_⟩
  ·cases h2
  ·simp [Value.ownBlock] at h2
   subst h2
   rw [h] at hg'
   injection hg' with hg'
   injection hg' with _ h3 _
   exact hne h3
def strC1 (s : Nat -> ByteArray) (j : Nat) : List Value := [.string (s j)]
structure UseIn (s : Nat -> ByteArray) (b : Nat -> Int) (O : Nat -> ObjF) (V : Nat -> ObjV) (w0 W : World) (B0 n nN nB nO : Nat) (vN vB vO : Value) : Prop where
 base : B0 <= w0.heap.size
 low : Below B0 w0 W
 names : W.ownsRow B0 9 1 vN nN (joinC (strC1 s) nN)
 bases : W.ownsRow B0 3 1 vB nB (joinC (intC b) nB)
 objs : OwnObjs B0 W vO nO V O
 at' : ∀ j,j < n -> ObjAt W (V j) (O j)
 sN : ∀ j,j < n -> ObjSep (V j) (O j) vN.ownBlock
 sB : ∀ j,j < n -> ObjSep (V j) (O j) vB.ownBlock
 sO : ∀ j,j < n -> ObjSep (V j) (O j) vO.ownBlock
section
variable {s : Nat -> ByteArray} {b : Nat -> Int} {O : Nat -> ObjF} {V : Nat -> ObjV} {w0 W : World} {B0 n nN nB nO : Nat} {vN vB vO : Value}
theorem UseIn.size (h : UseIn s b O V w0 W B0 n nN nB nO vN vB vO) : B0 <= W.heap.size := Nat.le_trans h.base h.low.size
theorem UseIn.later (h : UseIn s b O V w0 W B0 n nN nB nO vN vB vO) {W' : World} (hb : Below W.heap.size W W') : UseIn s b O V w0 W' B0 n nN nB nO vN vB vO :=
 ⟨h.base,h.low.trans (hb.mono h.size),owns_below h.names hb,owns_below h.bases hb,owns_below h.objs hb,fun j hj => (h.at' j hj).later hb,h.sN,h.sB,h.sO⟩
theorem UseIn.alloc (h : UseIn s b O V w0 W B0 n nN nB nO vN vB vO) (ob : Obj) : UseIn s b O V w0 (W.alloc ob) B0 n nN nB nO vN vB vO := h.later ((Below.refl _ _).alloc (Nat.le_refl _) _)
theorem sepNext (hA : ∀ j,j < n -> ObjAt W (V j) (O j)) {u u' : Value} (h : ∀ j,j < n -> ObjSep (V j) (O j) u.ownBlock) (hs : SameOrNew W.heap.size u u') : ∀ j,j < n -> ObjSep (V j) (O j) u'.ownBlock := fun j hj => (h j hj).next (hA j hj) (Nat.le_refl _) hs
theorem sameNew {u u' : Value} (h : u'.ownBlock = u.ownBlock ∨ u'.ownBlock = some W.heap.size) : SameOrNew W.heap.size u u' := h.imp id fun h => ⟨_,h,Nat.le_refl _⟩
theorem UseIn.appN (h : UseIn s b O V w0 W B0 n nN nB nO vN vB vO) {g : Nat} (hg : Fr W g 9 #[.string (s nN)]) (hn : nN < 1000) :
 ∃ v' W',(Builtin.append_ #[64,64] 64 #[vN,.slice (some ⟨g,0,none⟩) 1 1]).run Tryz.prog W = .ok v' W' /\ UseIn s b O V w0 W' B0 n (nN + 1) nB nO v' vB vO /\ (∀ k e c,Fr W k e c -> e ≠ 9 -> Fr W' k e c) /\ Below B0 W W' := by
 have hinfo : (Tryz.prog.info? 9).map (fun i => (i.zero,i.size,i.bytes)) = some (some (.string ⟨#[]⟩),1,16) := by kernel_rfl
 obtain ⟨i,hi,hzz⟩ := Option.map_eq_some_iff.1 hinfo
 simp only [Prod.mk.injEq] at hzz
 obtain ⟨hz,hs,hb⟩ := hzz
 obtain ⟨v',W',h1,h2,h3,_,h5⟩ := run_append_own_at (P := Tryz.prog) W B0 64 64 9 i _ 1 16 Tryz.underlying64 hi hz hs hb rfl (by decide) vN nN _ h.names ⟨g,0,none⟩ 1 1 [.string (s nN)] rfl
  (fun j u hj => by
    match j,hj with
    | 0,hj => simp at hj; subst hj; simpa [Addr.add] using hg.cell (j := 0) rfl
    | j + 1,hj => simp at hj) (fun u hu => by simp at hu; subst hu; rfl) (by simp only [maxLen]; omega) (by omega) h.size
 have hb2 := below_grown h.names h.size h3
 refine ⟨v',W',h1,⟨h.base,h.low.trans hb2,h2,h.bases.kept h3 (ownsSep h.bases h.names (by decide)),h.objs.kept h3 (ownsSep h.objs h.names (by decide)),fun j hj => (h.at' j hj).grown h3 (h.sN j hj),sepNext h.at' h.sN (sameNew h5),h.sB,h.sO⟩,fun k e c hk hne => hk.grown h.names h3 hne,hb2⟩
theorem UseIn.appB (h : UseIn s b O V w0 W B0 n nN nB nO vN vB vO) {g : Nat} (hg : Fr W g 3 #[.int .i64 (b nB)]) (hn : nB < 1000) :
 ∃ v' W',(Builtin.append_ #[68,68] 68 #[vB,.slice (some ⟨g,0,none⟩) 1 1]).run Tryz.prog W = .ok v' W' /\ UseIn s b O V w0 W' B0 n nN (nB + 1) nO vN v' vO /\ (∀ k e c,Fr W k e c -> e ≠ 3 -> Fr W' k e c) /\ Below B0 W W' := by
 have hinfo : (Tryz.prog.info? 3).map (fun i => (i.zero,i.size,i.bytes)) = some (some (.int .i64 0),1,8) := by kernel_rfl
 obtain ⟨i,hi,hzz⟩ := Option.map_eq_some_iff.1 hinfo
 simp only [Prod.mk.injEq] at hzz
 obtain ⟨hz,hs,hb⟩ := hzz
 obtain ⟨v',W',h1,h2,h3,_,h5⟩ := run_append_own_at (P := Tryz.prog) W B0 68 68 3 i _ 1 8 Tryz.underlying68 hi hz hs hb rfl (by decide) vB nB _ h.bases ⟨g,0,none⟩ 1 1 [.int .i64 (b nB)] rfl
  (fun j u hj => by
    match j,hj with
    | 0,hj => simp at hj; subst hj; simpa [Addr.add] using hg.cell (j := 0) rfl
    | j + 1,hj => simp at hj) (fun u hu => by simp at hu; subst hu; rfl) (by simp only [maxLen]; omega) (by omega) h.size
 have hb2 := below_grown h.bases h.size h3
 refine ⟨v',W',h1,⟨h.base,h.low.trans hb2,h.names.kept h3 (ownsSep h.names h.bases (by decide)),h2,h.objs.kept h3 (ownsSep h.objs h.bases (by decide)),fun j hj => (h.at' j hj).grown h3 (h.sB j hj),h.sN,sepNext h.at' h.sB (sameNew h5),h.sO⟩,fun k e c hk hne => hk.grown h.bases h3 hne,hb2⟩
theorem UseIn.appO (h : UseIn s b O V w0 W B0 n nN nB nO vN vB vO) {g : Nat} {v : ObjV} {o : ObjF} (hv : V nO = v) (ho : O nO = o) (hg : Fr W g 133 #[.slice v.aN o.nN v.cN,.slice v.aW o.nW v.cW,.slice v.aS o.nS v.cS,.slice v.aT o.nT v.cT]) (hn : nO < 1000) :
 ∃ v' W',(Builtin.append_ #[122,122] 122 #[vO,.slice (some ⟨g,0,none⟩) 1 1]).run Tryz.prog W = .ok v' W' /\ UseIn s b O V w0 W' B0 n nN nB (nO + 1) vN vB v' /\ Below B0 W W' := by
 have hinfo : (Tryz.prog.info? 133).map (fun i => (i.zero,i.size,i.bytes)) = some (some (.agg #[.slice none 0 0,.slice none 0 0,.slice none 0 0,.slice none 0 0]),4,96) := by kernel_rfl
 obtain ⟨i,hi,hzz⟩ := Option.map_eq_some_iff.1 hinfo
 simp only [Prod.mk.injEq] at hzz
 obtain ⟨hz,hs,hb⟩ := hzz
 obtain ⟨v',W',h1,h2,h3,_,h5⟩ := run_append_own_at (P := Tryz.prog) W B0 122 122 133 i _ 4 96 Tryz.underlying122 hi hz hs hb rfl (by decide) vO nO _ h.objs ⟨g,0,none⟩ 1 1 (objC V O nO) rfl
  (fun j u hj => by
    simp only [objC,hv,ho] at hj
    match j,hj with
    | 0,hj => simp at hj; subst hj; simpa [Addr.add] using hg.cell (j := 0) rfl
    | 1,hj => simp at hj; subst hj; simpa [Addr.add] using hg.cell (j := 1) rfl
    | 2,hj => simp at hj; subst hj; simpa [Addr.add] using hg.cell (j := 2) rfl
    | 3,hj => simp at hj; subst hj; simpa [Addr.add] using hg.cell (j := 3) rfl
    | j + 4,hj => simp at hj) (fun u hu => objs_one (n := nO + 1) (V := V) (O := O) (by show u ∈ joinC (objC V O) nO ++ objC V O nO; exact List.mem_append_right _ hu)) (by simp only [maxLen]; omega) (by omega) h.size
 have hb2 := below_grown h.objs h.size h3
 refine ⟨v',W',h1,⟨h.base,h.low.trans hb2,h.names.kept h3 (ownsSep h.names h.objs (by decide)),h.bases.kept h3 (ownsSep h.bases h.objs (by decide)),h2,fun j hj => (h.at' j hj).grown h3 (h.sO j hj),h.sN,h.sB,sepNext h.at' h.sO (sameNew h5)⟩,hb2⟩
theorem UseIn.next {i : Nat} (h : UseIn s b O V w0 W B0 i i i i vN vB vO) {W' : World} {v : ObjV} (hb : Below W.heap.size W W') (hA : ObjAt W' v (O i)) (hN : ObjNew W.heap.size v (O i)) :
 ∃ V',V' i = v /\ UseIn s b O V' w0 W' B0 (i + 1) i i i vN vB vO := by
 have h2 := h.later hb
 have e : ∀ j,j < i -> (fun j => if j = i then v else V j) j = V j := fun j hj => if_neg (Nat.ne_of_lt hj)
 have ev : (fun j => if j = i then v else V j) i = v := if_pos rfl
 refine ⟨fun j => if j = i then v else V j,ev,h2.base,h2.low,h2.names,h2.bases,?_,fun j hj => ?_,fun j hj => ?_,fun j hj => ?_,fun j hj => ?_⟩
 ·show W'.ownsRow B0 133 4 vO i (joinC (objC (fun j => if j = i then v else V j) O) i)
  rw [joinC_congr (h := objC V O) (fun j hj => by unfold objC; rw [e j hj])]
  exact h2.objs
 all_goals
  by_cases hji : j = i
  ·subst hji
   rw [if_pos rfl]
   first
    | exact hA
    | exact hN.sep (fun k hk => (h.names.lt k hk).2)
    | exact hN.sep (fun k hk => (h.bases.lt k hk).2)
    | exact hN.sep (fun k hk => (h.objs.lt k hk).2)
  ·rw [if_neg hji]
   first
    | exact h2.at' j (by omega)
    | exact h2.sN j (by omega)
    | exact h2.sB j (by omega)
    | exact h2.sO j (by omega)
end
end Go.Proofs.YtagfngiaogckpaaGreatDoor
namespace Go.Proofs.YtagfngiaogckpaaGreatDoor
open Go.RowKit Go.Maps
inductive UseEnd (w : World) (B0 : Nat) (D : DataW Unit) (S : ByteArray -> Int) (rd : ByteArray -> Nat × ObjF) (n : Nat) (s : Nat -> ByteArray) (st b : Nat -> Int) (np : Nat) (p t v : Nat -> Int) : Ending -> Prop
 | stale (h : (!staleTo D S s st n && decide (0 < n)) = false) : UseEnd w B0 D S rd n s st b np p t v (.returned (.tuple #[.slice none 0 0,errV 10]))
 | bad (i : Nat) (hi : i < n) (h0 : ∀ j,j < i -> (rd (s j)).1 = 0) (hf : (rd (s i)).1 ≠ 0) : UseEnd w B0 D S rd n s st b np p t v (.returned (.tuple #[.slice none 0 0,errV (rd (s i)).1]))
 | lay (e : Ending) (h : (!staleTo D S s st n && decide (0 < n)) = true) (h0 : ∀ j,j < n -> (rd (s j)).1 = 0) (hl : LayEnd w B0 n s b (fun j => (rd (s j)).2) np p t v e) : UseEnd w B0 D S rd n s st b np p t v e
theorem rows1 {w : World} {B n : Nat} {e : TypeId} {v : Value} {f : Nat -> Value} (h : w.ownsRow B e 1 v n (joinC (fun i => [f i]) n)) : ∃ a c,v = .slice a n c /\ RowAt w a n f := by
 obtain ⟨a,c,rfl,hc⟩ := owns_shape h
 refine ⟨a,c,rfl,?_⟩
 by_cases h0 : n = 0
 ·exact .inl h0
 ·have key : ∀ i,i < n -> ∃ k,a = some ⟨k,0,none⟩ /\ B <= k /\ w.cell? ⟨k,i,none⟩ = some (f i) := fun i hi => by
   have := owns_cell (j := i) (u := f i) h (by
    have := joinC_at (g := fun i => [f i]) (s := 1) (n := n) (i := i) (j := 0) (fun i _ => rfl) hi (by decide)
    simpa using this)
   simpa using this
  obtain ⟨k,ha,_,_⟩ := key 0 (by omega)
  refine .inr ⟨k,0,ha,fun i hi => ?_⟩
  obtain ⟨k',ha',_,hc'⟩ := key i hi
  rw [ha] at ha'
  injection ha' with ha'
  injection ha' with ha'
  subst ha'
  simpa using hc'
theorem OutAt.base {w : World} {B B' g n : Nat} {M : Nat -> Nat} {A : Nat -> Option Addr} {C G : Nat -> Nat} {X : Nat -> Nat -> Int} (h : OutAt w B g n M A C G X) (hB : B' <= B) : OutAt w B' g n M A C G X :=
 ⟨Nat.le_trans hB h.hB,h.lt,h.top,h.free,h.adr,fun i hi h0 => Nat.le_trans hB (h.own i hi h0),h.ne,h.row,h.rfree,h.apart⟩
theorem LayEnd.base {w : World} {B B' n : Nat} {nm : Nat -> ByteArray} {b : Nat -> Int} {O : Nat -> ObjF} {np : Nat} {p t v : Nat -> Int} {e : Ending} (h : LayEnd w B n nm b O np p t v e) (hB : B' <= B) : LayEnd w B' n nm b O np p t v e := by
 cases h with
 | bad h => exact .bad h
 | ok u g A C G h ho hu => exact .ok u g A C G h (ho.base hB) (owns_base hu hB)
set_option maxRecDepth 100000 in
set_option maxHeartbeats 16000000 in
theorem use_any (w : World) (p bm : Nat) (D : DataW Unit) (k : Nat) (T : ByteArray -> ByteArray) (S : ByteArray -> Int) (root : ByteArray) (n nq : Nat) (s : Nat -> ByteArray) (st b : Nat -> Int) (qp qt qv : Nat -> Int) (aP aQ : Option Addr) (cP cQ : Nat) (h : FilesAt w p bm D k) (hS : Stamps D S) (hT : Texts D T) (hE : Env w) (hn : n <= 900) (hnq : nq <= 900) (hs : ∀ i,i < n -> (s i).size <= maxLen)
 (hr : StmRow w aP n s st b) (hq : PatRow w aQ nq qp qt qv) :
 Calls Tryz.prog 41 #[.agg #[.string root,.slice aP n cP,.slice aQ nq cQ],.pointer (some ⟨p,0,none⟩)] w fun e w' => UseEnd w' w.heap.size D S (rdD D T) n s st b nq qp qt qv e /\ Below w.heap.size w w' := by
 have hb0 : Below w.heap.size w (w.alloc (.cells #[.string root,.slice aP n cP,.slice aQ nq cQ] 48)) := (Below.refl _ _).alloc (Nat.le_refl _) _
 have HF := fresh_any _ p bm D k S root n nq s st b aP aQ cP cQ (h.later hb0) hS (by omega) hs (hr.later hb0)
 have e0 : (w.alloc (.cells #[.string root,.slice aP n cP,.slice aQ nq cQ] 48)).cell? ⟨w.heap.size,0,none⟩ = some (.string root) := by simp [go_sem]
 have e1 : (w.alloc (.cells #[.string root,.slice aP n cP,.slice aQ nq cQ] 48)).cell? ⟨w.heap.size,1,none⟩ = some (.slice aP n cP) := by simp [go_sem]
 have e2 : (w.alloc (.cells #[.string root,.slice aP n cP,.slice aQ nq cQ] 48)).cell? ⟨w.heap.size,2,none⟩ = some (.slice aQ nq cQ) := by simp [go_sem]
 cases hst : (!staleTo D S s st n && decide (0 < n)) with
 | false =>
  rw [hst] at HF
  go_enter Tryz.func41,Tryz.ntmps41
  go_wp2_with fail
  refine HF.mono ?_
  rintro e w1 ⟨rfl,hb1⟩
  have hb2 := hb0.trans (hb1.mono hb0.size)
  clear HF e0 e1 e2
  go_wp2
  go_ret2
  exact ⟨.stale hst,hb2⟩
 | true =>
  rw [hst] at HF
  have HST : Hid ((!staleTo D S s st n && decide (0 < n)) = true) := hst
  have hfr : ∀ i,i < n -> Maps.has D (keyB (s i)) = true := fun i hi => by
   cases hh : Maps.has D (keyB (s i)) with
   | true => rfl
   | false =>
    have := anyTo_yes (p := fun i => !(Maps.has D (keyB (s i)) && decide (S (s i) = st i))) hi (by rw [hh]; rfl)
    unfold staleTo at hst
    rw [this] at hst
    cases hst
  clear hst
  have h1 := h.later hb0
  have hr1 := hr.later hb0
  have hq1 := hq.later hb0
  have hE1 := hE.later hb0
  have hz1 : w.heap.size < (w.alloc (.cells #[.string root,.slice aP n cP,.slice aQ nq cQ] 48)).heap.size := by simp
  generalize hW0 : w.alloc (.cells #[.string root,.slice aP n cP,.slice aQ nq cQ] 48) = W0 at *
  go_enter Tryz.func41,Tryz.ntmps41
  go_wp2_with fail
  refine HF.mono ?_
  rintro e W ⟨rfl,hb1⟩
  have hbW := hb0.trans (hb1.mono hb0.size)
  have hzW : w.heap.size < W.heap.size := Nat.lt_of_lt_of_le hz1 hb1.size
  replace e1 := cell_later hb1 e1
  replace e2 := cell_later hb1 e2
  replace h1 := h1.later hb1
  replace hr1 := hr1.later hb1
  replace hq1 := hq1.later hb1
  replace hE1 := hE1.later hb1
  clear HF hb1 hb0 hz1 h hr hq hE e0
  go_wp2
  go_loopw [6,7,8,22] (fun y6 y7 y8 y22 wr => ∃ (i : Nat) (vN vB vO : Value) (V : Nat -> ObjV),i <= n /\ y22 = .int .i64 i /\ y6 = vN /\ y7 = vB /\ y8 = vO /\ Hid (∀ j,j < i -> (rdD D T (s j)).1 = 0) /\ UseIn s b (fun j => (rdD D T (s j)).2) V W wr W.heap.size i i i i vN vB vO) (fun _ _ _ y22 _ => n - (intOf y22).toNat)
  case atStart => exact ⟨0,_,_,_,fun _ => ⟨none,0,none,0,none,0,none,0⟩,Nat.zero_le _,rfl,rfl,rfl,rfl,(fun j hj => absurd hj (Nat.not_lt_zero _)),⟨Nat.le_refl _,Below.refl _ _,World.ownsRow_nil _ _ _ _,World.ownsRow_nil _ _ _ _,ownObjs_nil _ _ _ _,fun j hj => absurd hj (Nat.not_lt_zero _),fun j hj => absurd hj (Nat.not_lt_zero _),fun j hj => absurd hj (Nat.not_lt_zero _),fun j hj => absurd hj (Nat.not_lt_zero _)⟩⟩
  case round =>
   obtain ⟨i,vN,vB,vO,V,hi,rfl,rfl,rfl,rfl,HK,hU⟩ := hrel
   have hlow := hU.low
   have e1r := cell_later hlow e1
   have e2r := cell_later hlow e2
   by_cases hlt : i < n
   ·have hr2 := hr1
    rcases hr2 with h0 | ⟨bk,o,rfl,hc⟩
    ·omega
    obtain ⟨x0,x1,x2⟩ := hc i hlt
    have y0 := cell_later hlow x0
    have HR := fileRead_any wr p bm D k (s i) (h1.later hlow) (hs i hlt)
    have hi0 : (0 : Int) <= (i : Int) := by omega
    have hi1 : (i : Int) < (n : Int) := by omega
    clear hc hr1 x1
    go_wp2_with fail
    refine HR.mono ?_
    rintro e w2 ⟨⟨t,nst,f,rfl,hRI⟩,hb3⟩
    obtain ⟨rfl,hat⟩ := hRI.yes (hfr i hlt)
    have htT := hT.is (s i) t nst (hfr i hlt) hat
    have HIS : Hid (rdD D T (s i) = parseF t) := by unfold rdD; rw [if_pos (hfr i hlt),<- htT]; exact rfl
    have q0 : errV 0 = .nilIface := rfl
    rw [q0]
    have hU2 := hU.later hb3
    have HP := parse_new t w2 (hE1.later hU2.low)
    clear HR hRI hat htT hU y0
    go_wp2_with fail
    refine HP.mono ?_
    rintro e w3 ⟨⟨vo,rfl,hOA,hON⟩,hbP⟩
    clear HP
    by_cases hF : (parseF t).1 = 0
    ·have HK2 : Hid (∀ j,j < i + 1 -> (rdD D T (s j)).1 = 0) := fun j hj => by
      by_cases hji : j = i
      ·subst hji; rw [HIS.out]; exact hF
      ·exact HK.out j (by omega)
     rw [hF,q0]
     have HO : Hid ((parseF t).2 = (fun j => (rdD D T (s j)).2) i) := by show _ = (rdD D T (s i)).2; rw [HIS.out]
     rw [HO.out] at hOA hON
     obtain ⟨V2,hVi,hU3⟩ := hU2.next hbP hOA hON
     have eoo : (parseF t).2 = (rdD D T (s i)).2 := HO.out
     rw [eoo]
     have hoo : (fun j => (rdD D T (s j)).2) i = (rdD D T (s i)).2 := rfl
     generalize hO : (fun j => (rdD D T (s j)).2) = O at *
     generalize (rdD D T (s i)).2 = oo at *
     have hX4 := Fr.new w3 133 #[.slice vo.aN oo.nN vo.cN,.slice vo.aW oo.nW vo.cW,.slice vo.aS oo.nS vo.cS,.slice vo.aT oo.nT vo.cT]
     have hU4 := hU3.alloc (.cells #[.slice vo.aN oo.nN vo.cN,.slice vo.aW oo.nW vo.cW,.slice vo.aS oo.nS vo.cS,.slice vo.aT oo.nT vo.cT] 133)
     unfold ObjV.cells
     clear hU2 hU3 hOA hON hbP hF HIS HO eoo hb3
     have HVi : Hid (V2 i = vo) := hVi
     have Hoo : Hid (O i = oo) := hoo
     have HO2 : Hid ((fun j => (rdD D T (s j)).2) = O) := hO
     clear hVi hoo hO
     go_wp2
     generalize w3.alloc (.cells #[.slice vo.aN oo.nN vo.cN,.slice vo.aW oo.nW vo.cW,.slice vo.aS oo.nS vo.cS,.slice vo.aT oo.nT vo.cT] 133) = w4 at *
     generalize w3.heap.size = bx at *
     have mkS : ∀ ww : World,Below W.heap.size W ww -> Fr ww bx 133 #[.slice vo.aN oo.nN vo.cN,.slice vo.aW oo.nW vo.cW,.slice vo.aS oo.nS vo.cS,.slice vo.aT oo.nT vo.cT] -> (fun w' : World => w'.cell? ⟨w.heap.size,1,none⟩ = some (.slice (some ⟨bk,o,none⟩) n cP) /\ w'.cell? ⟨bk,o + i * 3,none⟩ = some (.string (s i)) /\ w'.cell? ⟨bk,o + i * 3 + 2,none⟩ = some (.int .i64 (b i)) /\ w'.cell? ⟨bx,0,none⟩ = some (.slice vo.aN oo.nN vo.cN) /\ w'.cell? ⟨bx,1,none⟩ = some (.slice vo.aW oo.nW vo.cW) /\ w'.cell? ⟨bx,2,none⟩ = some (.slice vo.aS oo.nS vo.cS) /\ w'.cell? ⟨bx,3,none⟩ = some (.slice vo.aT oo.nT vo.cT)) ww := fun ww hb hX => ⟨cell_later hb e1,cell_later hb x0,cell_later hb x2,hX.cell (j := 0) rfl,hX.cell (j := 1) rfl,hX.cell (j := 2) rfl,hX.cell (j := 3) rfl⟩
     have hU5 := hU4.later (Below.refl _ _).drew
     have hX5 := hX4.later (Below.refl _ _).drew
     have hSS := mkS _ hU5.low hX5
     clear hU4 hX4 e1r e2r
     refine wp_region_G (fun w' : World => w'.cell? ⟨w.heap.size,1,none⟩ = some (.slice (some ⟨bk,o,none⟩) n cP) /\ w'.cell? ⟨bk,o + i * 3,none⟩ = some (.string (s i)) /\ w'.cell? ⟨bk,o + i * 3 + 2,none⟩ = some (.int .i64 (b i)) /\ w'.cell? ⟨bx,0,none⟩ = some (.slice vo.aN oo.nN vo.cN) /\ w'.cell? ⟨bx,1,none⟩ = some (.slice vo.aW oo.nW vo.cW) /\ w'.cell? ⟨bx,2,none⟩ = some (.slice vo.aS oo.nS vo.cS) /\ w'.cell? ⟨bx,3,none⟩ = some (.slice vo.aT oo.nT vo.cT)) 21 25 (by kernel_rfl) rfl ?_
     generalize w4.drew = w5 at *
     refine tW 0 hSS ?_
     refine tW 1 hSS ?_
     refine tW 3 hSS ?_
     refine tW 9 hSS ?_
     refine tW 10 hSS ?_
     refine tW 12 hSS ?_
     refine tW 18 hSS ?_
     refine tR 2 [17,8,7,6,5,4] hSS ?_
     refine tW 4 hSS ?_
     refine tW 5 hSS ?_
     refine tR 6 [17,8,7] hSS ?_
     refine tR 11 [17,16,15,14,13] hSS ?_
     refine tW 13 hSS ?_
     refine tW 14 hSS ?_
     refine tR 15 [17,16] hSS ?_
     refine tR 19 [20] hSS ?_
     have hSS5 := hSS
     clear hSS
     refine readyG [7,16,20] (by kernel_rfl) (by simp) (allG_cons 7 rfl (fun K hK => ?_) (allG_cons 16 rfl (fun K hK => ?_) (allG_cons 20 rfl (fun K hK => ?_) allG_nil)))
     ·go_wp2_with fail
      have hU6 := hU5.alloc (.cells #[.string (s i)] 9)
      have hX6 := hX5.later ((Below.refl _ _).alloc (Nat.le_refl _) (.cells #[.string (s i)] 9))
      have f7_6 := Fr.new w5 9 #[.string (s i)]
      have hSS6 := mkS _ hU6.low hX6
      refine hK _ _ hSS6 ?_
      clear hK hU5 hX5  hSS5
      generalize w5.alloc (.cells #[.string (s i)] 9) = w6 at *
      generalize w5.heap.size = g7 at *
      refine readyG [8,16,20] (by kernel_rfl) (by simp) (allG_cons 8 rfl (fun K hK => ?_) (allG_cons 16 rfl (fun K hK => ?_) (allG_cons 20 rfl (fun K hK => ?_) allG_nil)))
      ·obtain ⟨v8,w7,hr,hU7,hk,_⟩ := hU6.appN f7_6 (by omega)
       go_wp2_with (at_builtin; refine list_run rfl (.tmp 48) (.tmp 55) 64 rfl _ _ _ rfl rfl hr ?_)
       have hX7 := hk _ _ _ hX6 (by decide)
       have hSS7 := mkS _ hU7.low hX7
       refine hK _ _ hSS7 ?_
       clear hK hr hk hU6 hX6 hSS6 f7_6
       refine readyG [16,20] (by kernel_rfl) (by simp) (allG_cons 16 rfl (fun K hK => ?_) (allG_cons 20 rfl (fun K hK => ?_) allG_nil))
       ·go_wp2_with fail
        have hU8 := hU7.alloc (.cells #[.int .i64 (b i)] 3)
        have hX8 := hX7.later ((Below.refl _ _).alloc (Nat.le_refl _) (.cells #[.int .i64 (b i)] 3))
        have f16_8 := Fr.new w7 3 #[.int .i64 (b i)]
        have hSS8 := mkS _ hU8.low hX8
        refine hK _ _ hSS8 ?_
        clear hK hU7 hX7  hSS7
        generalize w7.alloc (.cells #[.int .i64 (b i)] 3) = w8 at *
        generalize w7.heap.size = g16 at *
        refine readyG [17,20] (by kernel_rfl) (by simp) (allG_cons 17 rfl (fun K hK => ?_) (allG_cons 20 rfl (fun K hK => ?_) allG_nil))
        ·obtain ⟨v17,w9,hr,hU9,hk,_⟩ := hU8.appB f16_8 (by omega)
         go_wp2_with (at_builtin; refine list_run rfl (.tmp 57) (.tmp 64) 68 rfl _ _ _ rfl rfl hr ?_)
         have hX9 := hk _ _ _ hX8 (by decide)
         have hSS9 := mkS _ hU9.low hX9
         refine hK _ _ hSS9 ?_
         clear hK hr hk hU8 hX8 hSS8 f16_8
         refine oG 20 fun K hK => ?_
         go_wp2_with fail
         have hU10 := hU9.alloc (.cells #[.slice vo.aN oo.nN vo.cN,.slice vo.aW oo.nW vo.cW,.slice vo.aS oo.nS vo.cS,.slice vo.aT oo.nT vo.cT] 133)
         have hX10 := hX9.later ((Below.refl _ _).alloc (Nat.le_refl _) (.cells #[.slice vo.aN oo.nN vo.cN,.slice vo.aW oo.nW vo.cW,.slice vo.aS oo.nS vo.cS,.slice vo.aT oo.nT vo.cT] 133))
         have f20_10 := Fr.new w9 133 #[.slice vo.aN oo.nN vo.cN,.slice vo.aW oo.nW vo.cW,.slice vo.aS oo.nS vo.cS,.slice vo.aT oo.nT vo.cT]
         have hSS10 := mkS _ hU10.low hX10
         refine hK _ _ hSS10 ?_
         clear hK hU9 hX9  hSS9
         generalize w9.alloc (.cells #[.slice vo.aN oo.nN vo.cN,.slice vo.aW oo.nW vo.cW,.slice vo.aS oo.nS vo.cS,.slice vo.aT oo.nT vo.cT] 133) = w10 at *
         generalize w9.heap.size = g20 at *
         refine lG 21 fun K hK => ?_
         obtain ⟨v21,w11,hr,hU11,_⟩ := hU10.appO HVi.out Hoo.out f20_10 (by omega)
         go_wp2_with (at_builtin; refine list_run rfl (.tmp 66) (.tmp 68) 122 rfl _ _ _ rfl rfl hr ?_)
         refine hK _ _ ?_
         clear hK hr hU10 hX10 f20_10 hSS10
         refine tA 22 ?_
         refine tA 23 ?_
         refine tA 24 ?_
         refine doneG (by kernel_rfl) ?_ _
         go_wp2
         go_roundw
         case rel => exact ⟨i + 1,_,_,_,V2,by omega,by go_num,rfl,rfl,rfl,HK2,by rw [HO2.out]; exact hU11⟩
         case measure => simp [intOf]; omega
        ·go_wp2_with fail
         have hU9 := hU8.alloc (.cells #[.slice vo.aN oo.nN vo.cN,.slice vo.aW oo.nW vo.cW,.slice vo.aS oo.nS vo.cS,.slice vo.aT oo.nT vo.cT] 133)
         have hX9 := hX8.later ((Below.refl _ _).alloc (Nat.le_refl _) (.cells #[.slice vo.aN oo.nN vo.cN,.slice vo.aW oo.nW vo.cW,.slice vo.aS oo.nS vo.cS,.slice vo.aT oo.nT vo.cT] 133))
         have f16_9 := f16_8.later ((Below.refl _ _).alloc (Nat.le_refl _) (.cells #[.slice vo.aN oo.nN vo.cN,.slice vo.aW oo.nW vo.cW,.slice vo.aS oo.nS vo.cS,.slice vo.aT oo.nT vo.cT] 133))
         have f20_9 := Fr.new w8 133 #[.slice vo.aN oo.nN vo.cN,.slice vo.aW oo.nW vo.cW,.slice vo.aS oo.nS vo.cS,.slice vo.aT oo.nT vo.cT]
         have hSS9 := mkS _ hU9.low hX9
         refine hK _ _ hSS9 ?_
         clear hK hU8 hX8 f16_8 hSS8
         generalize w8.alloc (.cells #[.slice vo.aN oo.nN vo.cN,.slice vo.aW oo.nW vo.cW,.slice vo.aS oo.nS vo.cS,.slice vo.aT oo.nT vo.cT] 133) = w9 at *
         generalize w8.heap.size = g20 at *
         refine oG 17 fun K hK => ?_
         obtain ⟨v17,w10,hr,hU10,hk,_⟩ := hU9.appB f16_9 (by omega)
         go_wp2_with (at_builtin; refine list_run rfl (.tmp 57) (.tmp 64) 68 rfl _ _ _ rfl rfl hr ?_)
         have hX10 := hk _ _ _ hX9 (by decide)
         have f20_10 := hk _ _ _ f20_9 (by decide)
         have hSS10 := mkS _ hU10.low hX10
         refine hK _ _ hSS10 ?_
         clear hK hr hk hU9 hX9 hSS9 f16_9 f20_9
         refine lG 21 fun K hK => ?_
         obtain ⟨v21,w11,hr,hU11,_⟩ := hU10.appO HVi.out Hoo.out f20_10 (by omega)
         go_wp2_with (at_builtin; refine list_run rfl (.tmp 66) (.tmp 68) 122 rfl _ _ _ rfl rfl hr ?_)
         refine hK _ _ ?_
         clear hK hr hU10 hX10 f20_10 hSS10
         refine tA 22 ?_
         refine tA 23 ?_
         refine tA 24 ?_
         refine doneG (by kernel_rfl) ?_ _
         go_wp2
         go_roundw
         case rel => exact ⟨i + 1,_,_,_,V2,by omega,by go_num,rfl,rfl,rfl,HK2,by rw [HO2.out]; exact hU11⟩
         case measure => simp [intOf]; omega
       ·go_wp2_with fail
        have hU8 := hU7.alloc (.cells #[.slice vo.aN oo.nN vo.cN,.slice vo.aW oo.nW vo.cW,.slice vo.aS oo.nS vo.cS,.slice vo.aT oo.nT vo.cT] 133)
        have hX8 := hX7.later ((Below.refl _ _).alloc (Nat.le_refl _) (.cells #[.slice vo.aN oo.nN vo.cN,.slice vo.aW oo.nW vo.cW,.slice vo.aS oo.nS vo.cS,.slice vo.aT oo.nT vo.cT] 133))
        have f20_8 := Fr.new w7 133 #[.slice vo.aN oo.nN vo.cN,.slice vo.aW oo.nW vo.cW,.slice vo.aS oo.nS vo.cS,.slice vo.aT oo.nT vo.cT]
        have hSS8 := mkS _ hU8.low hX8
        refine hK _ _ hSS8 ?_
        clear hK hU7 hX7  hSS7
        generalize w7.alloc (.cells #[.slice vo.aN oo.nN vo.cN,.slice vo.aW oo.nW vo.cW,.slice vo.aS oo.nS vo.cS,.slice vo.aT oo.nT vo.cT] 133) = w8 at *
        generalize w7.heap.size = g20 at *
        refine oG 16 fun K hK => ?_
        go_wp2_with fail
        have hU9 := hU8.alloc (.cells #[.int .i64 (b i)] 3)
        have hX9 := hX8.later ((Below.refl _ _).alloc (Nat.le_refl _) (.cells #[.int .i64 (b i)] 3))
        have f20_9 := f20_8.later ((Below.refl _ _).alloc (Nat.le_refl _) (.cells #[.int .i64 (b i)] 3))
        have f16_9 := Fr.new w8 3 #[.int .i64 (b i)]
        have hSS9 := mkS _ hU9.low hX9
        refine hK _ _ hSS9 ?_
        clear hK hU8 hX8 f20_8 hSS8
        generalize w8.alloc (.cells #[.int .i64 (b i)] 3) = w9 at *
        generalize w8.heap.size = g16 at *
        refine oG 17 fun K hK => ?_
        obtain ⟨v17,w10,hr,hU10,hk,_⟩ := hU9.appB f16_9 (by omega)
        go_wp2_with (at_builtin; refine list_run rfl (.tmp 57) (.tmp 64) 68 rfl _ _ _ rfl rfl hr ?_)
        have hX10 := hk _ _ _ hX9 (by decide)
        have f20_10 := hk _ _ _ f20_9 (by decide)
        have hSS10 := mkS _ hU10.low hX10
        refine hK _ _ hSS10 ?_
        clear hK hr hk hU9 hX9 hSS9 f16_9 f20_9
        refine lG 21 fun K hK => ?_
        obtain ⟨v21,w11,hr,hU11,_⟩ := hU10.appO HVi.out Hoo.out f20_10 (by omega)
        go_wp2_with (at_builtin; refine list_run rfl (.tmp 66) (.tmp 68) 122 rfl _ _ _ rfl rfl hr ?_)
        refine hK _ _ ?_
        clear hK hr hU10 hX10 f20_10 hSS10
        refine tA 22 ?_
        refine tA 23 ?_
        refine tA 24 ?_
        refine doneG (by kernel_rfl) ?_ _
        go_wp2
        go_roundw
        case rel => exact ⟨i + 1,_,_,_,V2,by omega,by go_num,rfl,rfl,rfl,HK2,by rw [HO2.out]; exact hU11⟩
        case measure => simp [intOf]; omega
      ·go_wp2_with fail
       have hU7 := hU6.alloc (.cells #[.int .i64 (b i)] 3)
       have hX7 := hX6.later ((Below.refl _ _).alloc (Nat.le_refl _) (.cells #[.int .i64 (b i)] 3))
       have f7_7 := f7_6.later ((Below.refl _ _).alloc (Nat.le_refl _) (.cells #[.int .i64 (b i)] 3))
       have f16_7 := Fr.new w6 3 #[.int .i64 (b i)]
       have hSS7 := mkS _ hU7.low hX7
       refine hK _ _ hSS7 ?_
       clear hK hU6 hX6 f7_6 hSS6
       generalize w6.alloc (.cells #[.int .i64 (b i)] 3) = w7 at *
       generalize w6.heap.size = g16 at *
       refine readyG [8,20] (by kernel_rfl) (by simp) (allG_cons 8 rfl (fun K hK => ?_) (allG_cons 20 rfl (fun K hK => ?_) allG_nil))
       ·obtain ⟨v8,w8,hr,hU8,hk,_⟩ := hU7.appN f7_7 (by omega)
        go_wp2_with (at_builtin; refine list_run rfl (.tmp 48) (.tmp 55) 64 rfl _ _ _ rfl rfl hr ?_)
        have hX8 := hk _ _ _ hX7 (by decide)
        have f16_8 := hk _ _ _ f16_7 (by decide)
        have hSS8 := mkS _ hU8.low hX8
        refine hK _ _ hSS8 ?_
        clear hK hr hk hU7 hX7 hSS7 f7_7 f16_7
        refine readyG [17,20] (by kernel_rfl) (by simp) (allG_cons 17 rfl (fun K hK => ?_) (allG_cons 20 rfl (fun K hK => ?_) allG_nil))
        ·obtain ⟨v17,w9,hr,hU9,hk,_⟩ := hU8.appB f16_8 (by omega)
         go_wp2_with (at_builtin; refine list_run rfl (.tmp 57) (.tmp 64) 68 rfl _ _ _ rfl rfl hr ?_)
         have hX9 := hk _ _ _ hX8 (by decide)
         have hSS9 := mkS _ hU9.low hX9
         refine hK _ _ hSS9 ?_
         clear hK hr hk hU8 hX8 hSS8 f16_8
         refine oG 20 fun K hK => ?_
         go_wp2_with fail
         have hU10 := hU9.alloc (.cells #[.slice vo.aN oo.nN vo.cN,.slice vo.aW oo.nW vo.cW,.slice vo.aS oo.nS vo.cS,.slice vo.aT oo.nT vo.cT] 133)
         have hX10 := hX9.later ((Below.refl _ _).alloc (Nat.le_refl _) (.cells #[.slice vo.aN oo.nN vo.cN,.slice vo.aW oo.nW vo.cW,.slice vo.aS oo.nS vo.cS,.slice vo.aT oo.nT vo.cT] 133))
         have f20_10 := Fr.new w9 133 #[.slice vo.aN oo.nN vo.cN,.slice vo.aW oo.nW vo.cW,.slice vo.aS oo.nS vo.cS,.slice vo.aT oo.nT vo.cT]
         have hSS10 := mkS _ hU10.low hX10
         refine hK _ _ hSS10 ?_
         clear hK hU9 hX9  hSS9
         generalize w9.alloc (.cells #[.slice vo.aN oo.nN vo.cN,.slice vo.aW oo.nW vo.cW,.slice vo.aS oo.nS vo.cS,.slice vo.aT oo.nT vo.cT] 133) = w10 at *
         generalize w9.heap.size = g20 at *
         refine lG 21 fun K hK => ?_
         obtain ⟨v21,w11,hr,hU11,_⟩ := hU10.appO HVi.out Hoo.out f20_10 (by omega)
         go_wp2_with (at_builtin; refine list_run rfl (.tmp 66) (.tmp 68) 122 rfl _ _ _ rfl rfl hr ?_)
         refine hK _ _ ?_
         clear hK hr hU10 hX10 f20_10 hSS10
         refine tA 22 ?_
         refine tA 23 ?_
         refine tA 24 ?_
         refine doneG (by kernel_rfl) ?_ _
         go_wp2
         go_roundw
         case rel => exact ⟨i + 1,_,_,_,V2,by omega,by go_num,rfl,rfl,rfl,HK2,by rw [HO2.out]; exact hU11⟩
         case measure => simp [intOf]; omega
        ·go_wp2_with fail
         have hU9 := hU8.alloc (.cells #[.slice vo.aN oo.nN vo.cN,.slice vo.aW oo.nW vo.cW,.slice vo.aS oo.nS vo.cS,.slice vo.aT oo.nT vo.cT] 133)
         have hX9 := hX8.later ((Below.refl _ _).alloc (Nat.le_refl _) (.cells #[.slice vo.aN oo.nN vo.cN,.slice vo.aW oo.nW vo.cW,.slice vo.aS oo.nS vo.cS,.slice vo.aT oo.nT vo.cT] 133))
         have f16_9 := f16_8.later ((Below.refl _ _).alloc (Nat.le_refl _) (.cells #[.slice vo.aN oo.nN vo.cN,.slice vo.aW oo.nW vo.cW,.slice vo.aS oo.nS vo.cS,.slice vo.aT oo.nT vo.cT] 133))
         have f20_9 := Fr.new w8 133 #[.slice vo.aN oo.nN vo.cN,.slice vo.aW oo.nW vo.cW,.slice vo.aS oo.nS vo.cS,.slice vo.aT oo.nT vo.cT]
         have hSS9 := mkS _ hU9.low hX9
         refine hK _ _ hSS9 ?_
         clear hK hU8 hX8 f16_8 hSS8
         generalize w8.alloc (.cells #[.slice vo.aN oo.nN vo.cN,.slice vo.aW oo.nW vo.cW,.slice vo.aS oo.nS vo.cS,.slice vo.aT oo.nT vo.cT] 133) = w9 at *
         generalize w8.heap.size = g20 at *
         refine oG 17 fun K hK => ?_
         obtain ⟨v17,w10,hr,hU10,hk,_⟩ := hU9.appB f16_9 (by omega)
         go_wp2_with (at_builtin; refine list_run rfl (.tmp 57) (.tmp 64) 68 rfl _ _ _ rfl rfl hr ?_)
         have hX10 := hk _ _ _ hX9 (by decide)
         have f20_10 := hk _ _ _ f20_9 (by decide)
         have hSS10 := mkS _ hU10.low hX10
         refine hK _ _ hSS10 ?_
         clear hK hr hk hU9 hX9 hSS9 f16_9 f20_9
         refine lG 21 fun K hK => ?_
         obtain ⟨v21,w11,hr,hU11,_⟩ := hU10.appO HVi.out Hoo.out f20_10 (by omega)
         go_wp2_with (at_builtin; refine list_run rfl (.tmp 66) (.tmp 68) 122 rfl _ _ _ rfl rfl hr ?_)
         refine hK _ _ ?_
         clear hK hr hU10 hX10 f20_10 hSS10
         refine tA 22 ?_
         refine tA 23 ?_
         refine tA 24 ?_
         refine doneG (by kernel_rfl) ?_ _
         go_wp2
         go_roundw
         case rel => exact ⟨i + 1,_,_,_,V2,by omega,by go_num,rfl,rfl,rfl,HK2,by rw [HO2.out]; exact hU11⟩
         case measure => simp [intOf]; omega
       ·go_wp2_with fail
        have hU8 := hU7.alloc (.cells #[.slice vo.aN oo.nN vo.cN,.slice vo.aW oo.nW vo.cW,.slice vo.aS oo.nS vo.cS,.slice vo.aT oo.nT vo.cT] 133)
        have hX8 := hX7.later ((Below.refl _ _).alloc (Nat.le_refl _) (.cells #[.slice vo.aN oo.nN vo.cN,.slice vo.aW oo.nW vo.cW,.slice vo.aS oo.nS vo.cS,.slice vo.aT oo.nT vo.cT] 133))
        have f7_8 := f7_7.later ((Below.refl _ _).alloc (Nat.le_refl _) (.cells #[.slice vo.aN oo.nN vo.cN,.slice vo.aW oo.nW vo.cW,.slice vo.aS oo.nS vo.cS,.slice vo.aT oo.nT vo.cT] 133))
        have f16_8 := f16_7.later ((Below.refl _ _).alloc (Nat.le_refl _) (.cells #[.slice vo.aN oo.nN vo.cN,.slice vo.aW oo.nW vo.cW,.slice vo.aS oo.nS vo.cS,.slice vo.aT oo.nT vo.cT] 133))
        have f20_8 := Fr.new w7 133 #[.slice vo.aN oo.nN vo.cN,.slice vo.aW oo.nW vo.cW,.slice vo.aS oo.nS vo.cS,.slice vo.aT oo.nT vo.cT]
        have hSS8 := mkS _ hU8.low hX8
        refine hK _ _ hSS8 ?_
        clear hK hU7 hX7 f7_7 f16_7 hSS7
        generalize w7.alloc (.cells #[.slice vo.aN oo.nN vo.cN,.slice vo.aW oo.nW vo.cW,.slice vo.aS oo.nS vo.cS,.slice vo.aT oo.nT vo.cT] 133) = w8 at *
        generalize w7.heap.size = g20 at *
        refine oG 8 fun K hK => ?_
        obtain ⟨v8,w9,hr,hU9,hk,_⟩ := hU8.appN f7_8 (by omega)
        go_wp2_with (at_builtin; refine list_run rfl (.tmp 48) (.tmp 55) 64 rfl _ _ _ rfl rfl hr ?_)
        have hX9 := hk _ _ _ hX8 (by decide)
        have f16_9 := hk _ _ _ f16_8 (by decide)
        have f20_9 := hk _ _ _ f20_8 (by decide)
        have hSS9 := mkS _ hU9.low hX9
        refine hK _ _ hSS9 ?_
        clear hK hr hk hU8 hX8 hSS8 f7_8 f16_8 f20_8
        refine oG 17 fun K hK => ?_
        obtain ⟨v17,w10,hr,hU10,hk,_⟩ := hU9.appB f16_9 (by omega)
        go_wp2_with (at_builtin; refine list_run rfl (.tmp 57) (.tmp 64) 68 rfl _ _ _ rfl rfl hr ?_)
        have hX10 := hk _ _ _ hX9 (by decide)
        have f20_10 := hk _ _ _ f20_9 (by decide)
        have hSS10 := mkS _ hU10.low hX10
        refine hK _ _ hSS10 ?_
        clear hK hr hk hU9 hX9 hSS9 f16_9 f20_9
        refine lG 21 fun K hK => ?_
        obtain ⟨v21,w11,hr,hU11,_⟩ := hU10.appO HVi.out Hoo.out f20_10 (by omega)
        go_wp2_with (at_builtin; refine list_run rfl (.tmp 66) (.tmp 68) 122 rfl _ _ _ rfl rfl hr ?_)
        refine hK _ _ ?_
        clear hK hr hU10 hX10 f20_10 hSS10
        refine tA 22 ?_
        refine tA 23 ?_
        refine tA 24 ?_
        refine doneG (by kernel_rfl) ?_ _
        go_wp2
        go_roundw
        case rel => exact ⟨i + 1,_,_,_,V2,by omega,by go_num,rfl,rfl,rfl,HK2,by rw [HO2.out]; exact hU11⟩
        case measure => simp [intOf]; omega
      ·go_wp2_with fail
       have hU7 := hU6.alloc (.cells #[.slice vo.aN oo.nN vo.cN,.slice vo.aW oo.nW vo.cW,.slice vo.aS oo.nS vo.cS,.slice vo.aT oo.nT vo.cT] 133)
       have hX7 := hX6.later ((Below.refl _ _).alloc (Nat.le_refl _) (.cells #[.slice vo.aN oo.nN vo.cN,.slice vo.aW oo.nW vo.cW,.slice vo.aS oo.nS vo.cS,.slice vo.aT oo.nT vo.cT] 133))
       have f7_7 := f7_6.later ((Below.refl _ _).alloc (Nat.le_refl _) (.cells #[.slice vo.aN oo.nN vo.cN,.slice vo.aW oo.nW vo.cW,.slice vo.aS oo.nS vo.cS,.slice vo.aT oo.nT vo.cT] 133))
       have f20_7 := Fr.new w6 133 #[.slice vo.aN oo.nN vo.cN,.slice vo.aW oo.nW vo.cW,.slice vo.aS oo.nS vo.cS,.slice vo.aT oo.nT vo.cT]
       have hSS7 := mkS _ hU7.low hX7
       refine hK _ _ hSS7 ?_
       clear hK hU6 hX6 f7_6 hSS6
       generalize w6.alloc (.cells #[.slice vo.aN oo.nN vo.cN,.slice vo.aW oo.nW vo.cW,.slice vo.aS oo.nS vo.cS,.slice vo.aT oo.nT vo.cT] 133) = w7 at *
       generalize w6.heap.size = g20 at *
       refine readyG [8,16] (by kernel_rfl) (by simp) (allG_cons 8 rfl (fun K hK => ?_) (allG_cons 16 rfl (fun K hK => ?_) allG_nil))
       ·obtain ⟨v8,w8,hr,hU8,hk,_⟩ := hU7.appN f7_7 (by omega)
        go_wp2_with (at_builtin; refine list_run rfl (.tmp 48) (.tmp 55) 64 rfl _ _ _ rfl rfl hr ?_)
        have hX8 := hk _ _ _ hX7 (by decide)
        have f20_8 := hk _ _ _ f20_7 (by decide)
        have hSS8 := mkS _ hU8.low hX8
        refine hK _ _ hSS8 ?_
        clear hK hr hk hU7 hX7 hSS7 f7_7 f20_7
        refine oG 16 fun K hK => ?_
        go_wp2_with fail
        have hU9 := hU8.alloc (.cells #[.int .i64 (b i)] 3)
        have hX9 := hX8.later ((Below.refl _ _).alloc (Nat.le_refl _) (.cells #[.int .i64 (b i)] 3))
        have f20_9 := f20_8.later ((Below.refl _ _).alloc (Nat.le_refl _) (.cells #[.int .i64 (b i)] 3))
        have f16_9 := Fr.new w8 3 #[.int .i64 (b i)]
        have hSS9 := mkS _ hU9.low hX9
        refine hK _ _ hSS9 ?_
        clear hK hU8 hX8 f20_8 hSS8
        generalize w8.alloc (.cells #[.int .i64 (b i)] 3) = w9 at *
        generalize w8.heap.size = g16 at *
        refine oG 17 fun K hK => ?_
        obtain ⟨v17,w10,hr,hU10,hk,_⟩ := hU9.appB f16_9 (by omega)
        go_wp2_with (at_builtin; refine list_run rfl (.tmp 57) (.tmp 64) 68 rfl _ _ _ rfl rfl hr ?_)
        have hX10 := hk _ _ _ hX9 (by decide)
        have f20_10 := hk _ _ _ f20_9 (by decide)
        have hSS10 := mkS _ hU10.low hX10
        refine hK _ _ hSS10 ?_
        clear hK hr hk hU9 hX9 hSS9 f16_9 f20_9
        refine lG 21 fun K hK => ?_
        obtain ⟨v21,w11,hr,hU11,_⟩ := hU10.appO HVi.out Hoo.out f20_10 (by omega)
        go_wp2_with (at_builtin; refine list_run rfl (.tmp 66) (.tmp 68) 122 rfl _ _ _ rfl rfl hr ?_)
        refine hK _ _ ?_
        clear hK hr hU10 hX10 f20_10 hSS10
        refine tA 22 ?_
        refine tA 23 ?_
        refine tA 24 ?_
        refine doneG (by kernel_rfl) ?_ _
        go_wp2
        go_roundw
        case rel => exact ⟨i + 1,_,_,_,V2,by omega,by go_num,rfl,rfl,rfl,HK2,by rw [HO2.out]; exact hU11⟩
        case measure => simp [intOf]; omega
       ·go_wp2_with fail
        have hU8 := hU7.alloc (.cells #[.int .i64 (b i)] 3)
        have hX8 := hX7.later ((Below.refl _ _).alloc (Nat.le_refl _) (.cells #[.int .i64 (b i)] 3))
        have f7_8 := f7_7.later ((Below.refl _ _).alloc (Nat.le_refl _) (.cells #[.int .i64 (b i)] 3))
        have f20_8 := f20_7.later ((Below.refl _ _).alloc (Nat.le_refl _) (.cells #[.int .i64 (b i)] 3))
        have f16_8 := Fr.new w7 3 #[.int .i64 (b i)]
        have hSS8 := mkS _ hU8.low hX8
        refine hK _ _ hSS8 ?_
        clear hK hU7 hX7 f7_7 f20_7 hSS7
        generalize w7.alloc (.cells #[.int .i64 (b i)] 3) = w8 at *
        generalize w7.heap.size = g16 at *
        refine oG 8 fun K hK => ?_
        obtain ⟨v8,w9,hr,hU9,hk,_⟩ := hU8.appN f7_8 (by omega)
        go_wp2_with (at_builtin; refine list_run rfl (.tmp 48) (.tmp 55) 64 rfl _ _ _ rfl rfl hr ?_)
        have hX9 := hk _ _ _ hX8 (by decide)
        have f16_9 := hk _ _ _ f16_8 (by decide)
        have f20_9 := hk _ _ _ f20_8 (by decide)
        have hSS9 := mkS _ hU9.low hX9
        refine hK _ _ hSS9 ?_
        clear hK hr hk hU8 hX8 hSS8 f7_8 f16_8 f20_8
        refine oG 17 fun K hK => ?_
        obtain ⟨v17,w10,hr,hU10,hk,_⟩ := hU9.appB f16_9 (by omega)
        go_wp2_with (at_builtin; refine list_run rfl (.tmp 57) (.tmp 64) 68 rfl _ _ _ rfl rfl hr ?_)
        have hX10 := hk _ _ _ hX9 (by decide)
        have f20_10 := hk _ _ _ f20_9 (by decide)
        have hSS10 := mkS _ hU10.low hX10
        refine hK _ _ hSS10 ?_
        clear hK hr hk hU9 hX9 hSS9 f16_9 f20_9
        refine lG 21 fun K hK => ?_
        obtain ⟨v21,w11,hr,hU11,_⟩ := hU10.appO HVi.out Hoo.out f20_10 (by omega)
        go_wp2_with (at_builtin; refine list_run rfl (.tmp 66) (.tmp 68) 122 rfl _ _ _ rfl rfl hr ?_)
        refine hK _ _ ?_
        clear hK hr hU10 hX10 f20_10 hSS10
        refine tA 22 ?_
        refine tA 23 ?_
        refine tA 24 ?_
        refine doneG (by kernel_rfl) ?_ _
        go_wp2
        go_roundw
        case rel => exact ⟨i + 1,_,_,_,V2,by omega,by go_num,rfl,rfl,rfl,HK2,by rw [HO2.out]; exact hU11⟩
        case measure => simp [intOf]; omega
     ·go_wp2_with fail
      have hU6 := hU5.alloc (.cells #[.int .i64 (b i)] 3)
      have hX6 := hX5.later ((Below.refl _ _).alloc (Nat.le_refl _) (.cells #[.int .i64 (b i)] 3))
      have f16_6 := Fr.new w5 3 #[.int .i64 (b i)]
      have hSS6 := mkS _ hU6.low hX6
      refine hK _ _ hSS6 ?_
      clear hK hU5 hX5  hSS5
      generalize w5.alloc (.cells #[.int .i64 (b i)] 3) = w6 at *
      generalize w5.heap.size = g16 at *
      refine readyG [7,20] (by kernel_rfl) (by simp) (allG_cons 7 rfl (fun K hK => ?_) (allG_cons 20 rfl (fun K hK => ?_) allG_nil))
      ·go_wp2_with fail
       have hU7 := hU6.alloc (.cells #[.string (s i)] 9)
       have hX7 := hX6.later ((Below.refl _ _).alloc (Nat.le_refl _) (.cells #[.string (s i)] 9))
       have f16_7 := f16_6.later ((Below.refl _ _).alloc (Nat.le_refl _) (.cells #[.string (s i)] 9))
       have f7_7 := Fr.new w6 9 #[.string (s i)]
       have hSS7 := mkS _ hU7.low hX7
       refine hK _ _ hSS7 ?_
       clear hK hU6 hX6 f16_6 hSS6
       generalize w6.alloc (.cells #[.string (s i)] 9) = w7 at *
       generalize w6.heap.size = g7 at *
       refine readyG [8,20] (by kernel_rfl) (by simp) (allG_cons 8 rfl (fun K hK => ?_) (allG_cons 20 rfl (fun K hK => ?_) allG_nil))
       ·obtain ⟨v8,w8,hr,hU8,hk,_⟩ := hU7.appN f7_7 (by omega)
        go_wp2_with (at_builtin; refine list_run rfl (.tmp 48) (.tmp 55) 64 rfl _ _ _ rfl rfl hr ?_)
        have hX8 := hk _ _ _ hX7 (by decide)
        have f16_8 := hk _ _ _ f16_7 (by decide)
        have hSS8 := mkS _ hU8.low hX8
        refine hK _ _ hSS8 ?_
        clear hK hr hk hU7 hX7 hSS7 f7_7 f16_7
        refine readyG [17,20] (by kernel_rfl) (by simp) (allG_cons 17 rfl (fun K hK => ?_) (allG_cons 20 rfl (fun K hK => ?_) allG_nil))
        ·obtain ⟨v17,w9,hr,hU9,hk,_⟩ := hU8.appB f16_8 (by omega)
         go_wp2_with (at_builtin; refine list_run rfl (.tmp 57) (.tmp 64) 68 rfl _ _ _ rfl rfl hr ?_)
         have hX9 := hk _ _ _ hX8 (by decide)
         have hSS9 := mkS _ hU9.low hX9
         refine hK _ _ hSS9 ?_
         clear hK hr hk hU8 hX8 hSS8 f16_8
         refine oG 20 fun K hK => ?_
         go_wp2_with fail
         have hU10 := hU9.alloc (.cells #[.slice vo.aN oo.nN vo.cN,.slice vo.aW oo.nW vo.cW,.slice vo.aS oo.nS vo.cS,.slice vo.aT oo.nT vo.cT] 133)
         have hX10 := hX9.later ((Below.refl _ _).alloc (Nat.le_refl _) (.cells #[.slice vo.aN oo.nN vo.cN,.slice vo.aW oo.nW vo.cW,.slice vo.aS oo.nS vo.cS,.slice vo.aT oo.nT vo.cT] 133))
         have f20_10 := Fr.new w9 133 #[.slice vo.aN oo.nN vo.cN,.slice vo.aW oo.nW vo.cW,.slice vo.aS oo.nS vo.cS,.slice vo.aT oo.nT vo.cT]
         have hSS10 := mkS _ hU10.low hX10
         refine hK _ _ hSS10 ?_
         clear hK hU9 hX9  hSS9
         generalize w9.alloc (.cells #[.slice vo.aN oo.nN vo.cN,.slice vo.aW oo.nW vo.cW,.slice vo.aS oo.nS vo.cS,.slice vo.aT oo.nT vo.cT] 133) = w10 at *
         generalize w9.heap.size = g20 at *
         refine lG 21 fun K hK => ?_
         obtain ⟨v21,w11,hr,hU11,_⟩ := hU10.appO HVi.out Hoo.out f20_10 (by omega)
         go_wp2_with (at_builtin; refine list_run rfl (.tmp 66) (.tmp 68) 122 rfl _ _ _ rfl rfl hr ?_)
         refine hK _ _ ?_
         clear hK hr hU10 hX10 f20_10 hSS10
         refine tA 22 ?_
         refine tA 23 ?_
         refine tA 24 ?_
         refine doneG (by kernel_rfl) ?_ _
         go_wp2
         go_roundw
         case rel => exact ⟨i + 1,_,_,_,V2,by omega,by go_num,rfl,rfl,rfl,HK2,by rw [HO2.out]; exact hU11⟩
         case measure => simp [intOf]; omega
        ·go_wp2_with fail
         have hU9 := hU8.alloc (.cells #[.slice vo.aN oo.nN vo.cN,.slice vo.aW oo.nW vo.cW,.slice vo.aS oo.nS vo.cS,.slice vo.aT oo.nT vo.cT] 133)
         have hX9 := hX8.later ((Below.refl _ _).alloc (Nat.le_refl _) (.cells #[.slice vo.aN oo.nN vo.cN,.slice vo.aW oo.nW vo.cW,.slice vo.aS oo.nS vo.cS,.slice vo.aT oo.nT vo.cT] 133))
         have f16_9 := f16_8.later ((Below.refl _ _).alloc (Nat.le_refl _) (.cells #[.slice vo.aN oo.nN vo.cN,.slice vo.aW oo.nW vo.cW,.slice vo.aS oo.nS vo.cS,.slice vo.aT oo.nT vo.cT] 133))
         have f20_9 := Fr.new w8 133 #[.slice vo.aN oo.nN vo.cN,.slice vo.aW oo.nW vo.cW,.slice vo.aS oo.nS vo.cS,.slice vo.aT oo.nT vo.cT]
         have hSS9 := mkS _ hU9.low hX9
         refine hK _ _ hSS9 ?_
         clear hK hU8 hX8 f16_8 hSS8
         generalize w8.alloc (.cells #[.slice vo.aN oo.nN vo.cN,.slice vo.aW oo.nW vo.cW,.slice vo.aS oo.nS vo.cS,.slice vo.aT oo.nT vo.cT] 133) = w9 at *
         generalize w8.heap.size = g20 at *
         refine oG 17 fun K hK => ?_
         obtain ⟨v17,w10,hr,hU10,hk,_⟩ := hU9.appB f16_9 (by omega)
         go_wp2_with (at_builtin; refine list_run rfl (.tmp 57) (.tmp 64) 68 rfl _ _ _ rfl rfl hr ?_)
         have hX10 := hk _ _ _ hX9 (by decide)
         have f20_10 := hk _ _ _ f20_9 (by decide)
         have hSS10 := mkS _ hU10.low hX10
         refine hK _ _ hSS10 ?_
         clear hK hr hk hU9 hX9 hSS9 f16_9 f20_9
         refine lG 21 fun K hK => ?_
         obtain ⟨v21,w11,hr,hU11,_⟩ := hU10.appO HVi.out Hoo.out f20_10 (by omega)
         go_wp2_with (at_builtin; refine list_run rfl (.tmp 66) (.tmp 68) 122 rfl _ _ _ rfl rfl hr ?_)
         refine hK _ _ ?_
         clear hK hr hU10 hX10 f20_10 hSS10
         refine tA 22 ?_
         refine tA 23 ?_
         refine tA 24 ?_
         refine doneG (by kernel_rfl) ?_ _
         go_wp2
         go_roundw
         case rel => exact ⟨i + 1,_,_,_,V2,by omega,by go_num,rfl,rfl,rfl,HK2,by rw [HO2.out]; exact hU11⟩
         case measure => simp [intOf]; omega
       ·go_wp2_with fail
        have hU8 := hU7.alloc (.cells #[.slice vo.aN oo.nN vo.cN,.slice vo.aW oo.nW vo.cW,.slice vo.aS oo.nS vo.cS,.slice vo.aT oo.nT vo.cT] 133)
        have hX8 := hX7.later ((Below.refl _ _).alloc (Nat.le_refl _) (.cells #[.slice vo.aN oo.nN vo.cN,.slice vo.aW oo.nW vo.cW,.slice vo.aS oo.nS vo.cS,.slice vo.aT oo.nT vo.cT] 133))
        have f7_8 := f7_7.later ((Below.refl _ _).alloc (Nat.le_refl _) (.cells #[.slice vo.aN oo.nN vo.cN,.slice vo.aW oo.nW vo.cW,.slice vo.aS oo.nS vo.cS,.slice vo.aT oo.nT vo.cT] 133))
        have f16_8 := f16_7.later ((Below.refl _ _).alloc (Nat.le_refl _) (.cells #[.slice vo.aN oo.nN vo.cN,.slice vo.aW oo.nW vo.cW,.slice vo.aS oo.nS vo.cS,.slice vo.aT oo.nT vo.cT] 133))
        have f20_8 := Fr.new w7 133 #[.slice vo.aN oo.nN vo.cN,.slice vo.aW oo.nW vo.cW,.slice vo.aS oo.nS vo.cS,.slice vo.aT oo.nT vo.cT]
        have hSS8 := mkS _ hU8.low hX8
        refine hK _ _ hSS8 ?_
        clear hK hU7 hX7 f7_7 f16_7 hSS7
        generalize w7.alloc (.cells #[.slice vo.aN oo.nN vo.cN,.slice vo.aW oo.nW vo.cW,.slice vo.aS oo.nS vo.cS,.slice vo.aT oo.nT vo.cT] 133) = w8 at *
        generalize w7.heap.size = g20 at *
        refine oG 8 fun K hK => ?_
        obtain ⟨v8,w9,hr,hU9,hk,_⟩ := hU8.appN f7_8 (by omega)
        go_wp2_with (at_builtin; refine list_run rfl (.tmp 48) (.tmp 55) 64 rfl _ _ _ rfl rfl hr ?_)
        have hX9 := hk _ _ _ hX8 (by decide)
        have f16_9 := hk _ _ _ f16_8 (by decide)
        have f20_9 := hk _ _ _ f20_8 (by decide)
        have hSS9 := mkS _ hU9.low hX9
        refine hK _ _ hSS9 ?_
        clear hK hr hk hU8 hX8 hSS8 f7_8 f16_8 f20_8
        refine oG 17 fun K hK => ?_
        obtain ⟨v17,w10,hr,hU10,hk,_⟩ := hU9.appB f16_9 (by omega)
        go_wp2_with (at_builtin; refine list_run rfl (.tmp 57) (.tmp 64) 68 rfl _ _ _ rfl rfl hr ?_)
        have hX10 := hk _ _ _ hX9 (by decide)
        have f20_10 := hk _ _ _ f20_9 (by decide)
        have hSS10 := mkS _ hU10.low hX10
        refine hK _ _ hSS10 ?_
        clear hK hr hk hU9 hX9 hSS9 f16_9 f20_9
        refine lG 21 fun K hK => ?_
        obtain ⟨v21,w11,hr,hU11,_⟩ := hU10.appO HVi.out Hoo.out f20_10 (by omega)
        go_wp2_with (at_builtin; refine list_run rfl (.tmp 66) (.tmp 68) 122 rfl _ _ _ rfl rfl hr ?_)
        refine hK _ _ ?_
        clear hK hr hU10 hX10 f20_10 hSS10
        refine tA 22 ?_
        refine tA 23 ?_
        refine tA 24 ?_
        refine doneG (by kernel_rfl) ?_ _
        go_wp2
        go_roundw
        case rel => exact ⟨i + 1,_,_,_,V2,by omega,by go_num,rfl,rfl,rfl,HK2,by rw [HO2.out]; exact hU11⟩
        case measure => simp [intOf]; omega
      ·go_wp2_with fail
       have hU7 := hU6.alloc (.cells #[.slice vo.aN oo.nN vo.cN,.slice vo.aW oo.nW vo.cW,.slice vo.aS oo.nS vo.cS,.slice vo.aT oo.nT vo.cT] 133)
       have hX7 := hX6.later ((Below.refl _ _).alloc (Nat.le_refl _) (.cells #[.slice vo.aN oo.nN vo.cN,.slice vo.aW oo.nW vo.cW,.slice vo.aS oo.nS vo.cS,.slice vo.aT oo.nT vo.cT] 133))
       have f16_7 := f16_6.later ((Below.refl _ _).alloc (Nat.le_refl _) (.cells #[.slice vo.aN oo.nN vo.cN,.slice vo.aW oo.nW vo.cW,.slice vo.aS oo.nS vo.cS,.slice vo.aT oo.nT vo.cT] 133))
       have f20_7 := Fr.new w6 133 #[.slice vo.aN oo.nN vo.cN,.slice vo.aW oo.nW vo.cW,.slice vo.aS oo.nS vo.cS,.slice vo.aT oo.nT vo.cT]
       have hSS7 := mkS _ hU7.low hX7
       refine hK _ _ hSS7 ?_
       clear hK hU6 hX6 f16_6 hSS6
       generalize w6.alloc (.cells #[.slice vo.aN oo.nN vo.cN,.slice vo.aW oo.nW vo.cW,.slice vo.aS oo.nS vo.cS,.slice vo.aT oo.nT vo.cT] 133) = w7 at *
       generalize w6.heap.size = g20 at *
       refine oG 7 fun K hK => ?_
       go_wp2_with fail
       have hU8 := hU7.alloc (.cells #[.string (s i)] 9)
       have hX8 := hX7.later ((Below.refl _ _).alloc (Nat.le_refl _) (.cells #[.string (s i)] 9))
       have f16_8 := f16_7.later ((Below.refl _ _).alloc (Nat.le_refl _) (.cells #[.string (s i)] 9))
       have f20_8 := f20_7.later ((Below.refl _ _).alloc (Nat.le_refl _) (.cells #[.string (s i)] 9))
       have f7_8 := Fr.new w7 9 #[.string (s i)]
       have hSS8 := mkS _ hU8.low hX8
       refine hK _ _ hSS8 ?_
       clear hK hU7 hX7 f16_7 f20_7 hSS7
       generalize w7.alloc (.cells #[.string (s i)] 9) = w8 at *
       generalize w7.heap.size = g7 at *
       refine oG 8 fun K hK => ?_
       obtain ⟨v8,w9,hr,hU9,hk,_⟩ := hU8.appN f7_8 (by omega)
       go_wp2_with (at_builtin; refine list_run rfl (.tmp 48) (.tmp 55) 64 rfl _ _ _ rfl rfl hr ?_)
       have hX9 := hk _ _ _ hX8 (by decide)
       have f16_9 := hk _ _ _ f16_8 (by decide)
       have f20_9 := hk _ _ _ f20_8 (by decide)
       have hSS9 := mkS _ hU9.low hX9
       refine hK _ _ hSS9 ?_
       clear hK hr hk hU8 hX8 hSS8 f7_8 f16_8 f20_8
       refine oG 17 fun K hK => ?_
       obtain ⟨v17,w10,hr,hU10,hk,_⟩ := hU9.appB f16_9 (by omega)
       go_wp2_with (at_builtin; refine list_run rfl (.tmp 57) (.tmp 64) 68 rfl _ _ _ rfl rfl hr ?_)
       have hX10 := hk _ _ _ hX9 (by decide)
       have f20_10 := hk _ _ _ f20_9 (by decide)
       have hSS10 := mkS _ hU10.low hX10
       refine hK _ _ hSS10 ?_
       clear hK hr hk hU9 hX9 hSS9 f16_9 f20_9
       refine lG 21 fun K hK => ?_
       obtain ⟨v21,w11,hr,hU11,_⟩ := hU10.appO HVi.out Hoo.out f20_10 (by omega)
       go_wp2_with (at_builtin; refine list_run rfl (.tmp 66) (.tmp 68) 122 rfl _ _ _ rfl rfl hr ?_)
       refine hK _ _ ?_
       clear hK hr hU10 hX10 f20_10 hSS10
       refine tA 22 ?_
       refine tA 23 ?_
       refine tA 24 ?_
       refine doneG (by kernel_rfl) ?_ _
       go_wp2
       go_roundw
       case rel => exact ⟨i + 1,_,_,_,V2,by omega,by go_num,rfl,rfl,rfl,HK2,by rw [HO2.out]; exact hU11⟩
       case measure => simp [intOf]; omega
     ·go_wp2_with fail
      have hU6 := hU5.alloc (.cells #[.slice vo.aN oo.nN vo.cN,.slice vo.aW oo.nW vo.cW,.slice vo.aS oo.nS vo.cS,.slice vo.aT oo.nT vo.cT] 133)
      have hX6 := hX5.later ((Below.refl _ _).alloc (Nat.le_refl _) (.cells #[.slice vo.aN oo.nN vo.cN,.slice vo.aW oo.nW vo.cW,.slice vo.aS oo.nS vo.cS,.slice vo.aT oo.nT vo.cT] 133))
      have f20_6 := Fr.new w5 133 #[.slice vo.aN oo.nN vo.cN,.slice vo.aW oo.nW vo.cW,.slice vo.aS oo.nS vo.cS,.slice vo.aT oo.nT vo.cT]
      have hSS6 := mkS _ hU6.low hX6
      refine hK _ _ hSS6 ?_
      clear hK hU5 hX5  hSS5
      generalize w5.alloc (.cells #[.slice vo.aN oo.nN vo.cN,.slice vo.aW oo.nW vo.cW,.slice vo.aS oo.nS vo.cS,.slice vo.aT oo.nT vo.cT] 133) = w6 at *
      generalize w5.heap.size = g20 at *
      refine readyG [7,16] (by kernel_rfl) (by simp) (allG_cons 7 rfl (fun K hK => ?_) (allG_cons 16 rfl (fun K hK => ?_) allG_nil))
      ·go_wp2_with fail
       have hU7 := hU6.alloc (.cells #[.string (s i)] 9)
       have hX7 := hX6.later ((Below.refl _ _).alloc (Nat.le_refl _) (.cells #[.string (s i)] 9))
       have f20_7 := f20_6.later ((Below.refl _ _).alloc (Nat.le_refl _) (.cells #[.string (s i)] 9))
       have f7_7 := Fr.new w6 9 #[.string (s i)]
       have hSS7 := mkS _ hU7.low hX7
       refine hK _ _ hSS7 ?_
       clear hK hU6 hX6 f20_6 hSS6
       generalize w6.alloc (.cells #[.string (s i)] 9) = w7 at *
       generalize w6.heap.size = g7 at *
       refine readyG [8,16] (by kernel_rfl) (by simp) (allG_cons 8 rfl (fun K hK => ?_) (allG_cons 16 rfl (fun K hK => ?_) allG_nil))
       ·obtain ⟨v8,w8,hr,hU8,hk,_⟩ := hU7.appN f7_7 (by omega)
        go_wp2_with (at_builtin; refine list_run rfl (.tmp 48) (.tmp 55) 64 rfl _ _ _ rfl rfl hr ?_)
        have hX8 := hk _ _ _ hX7 (by decide)
        have f20_8 := hk _ _ _ f20_7 (by decide)
        have hSS8 := mkS _ hU8.low hX8
        refine hK _ _ hSS8 ?_
        clear hK hr hk hU7 hX7 hSS7 f7_7 f20_7
        refine oG 16 fun K hK => ?_
        go_wp2_with fail
        have hU9 := hU8.alloc (.cells #[.int .i64 (b i)] 3)
        have hX9 := hX8.later ((Below.refl _ _).alloc (Nat.le_refl _) (.cells #[.int .i64 (b i)] 3))
        have f20_9 := f20_8.later ((Below.refl _ _).alloc (Nat.le_refl _) (.cells #[.int .i64 (b i)] 3))
        have f16_9 := Fr.new w8 3 #[.int .i64 (b i)]
        have hSS9 := mkS _ hU9.low hX9
        refine hK _ _ hSS9 ?_
        clear hK hU8 hX8 f20_8 hSS8
        generalize w8.alloc (.cells #[.int .i64 (b i)] 3) = w9 at *
        generalize w8.heap.size = g16 at *
        refine oG 17 fun K hK => ?_
        obtain ⟨v17,w10,hr,hU10,hk,_⟩ := hU9.appB f16_9 (by omega)
        go_wp2_with (at_builtin; refine list_run rfl (.tmp 57) (.tmp 64) 68 rfl _ _ _ rfl rfl hr ?_)
        have hX10 := hk _ _ _ hX9 (by decide)
        have f20_10 := hk _ _ _ f20_9 (by decide)
        have hSS10 := mkS _ hU10.low hX10
        refine hK _ _ hSS10 ?_
        clear hK hr hk hU9 hX9 hSS9 f16_9 f20_9
        refine lG 21 fun K hK => ?_
        obtain ⟨v21,w11,hr,hU11,_⟩ := hU10.appO HVi.out Hoo.out f20_10 (by omega)
        go_wp2_with (at_builtin; refine list_run rfl (.tmp 66) (.tmp 68) 122 rfl _ _ _ rfl rfl hr ?_)
        refine hK _ _ ?_
        clear hK hr hU10 hX10 f20_10 hSS10
        refine tA 22 ?_
        refine tA 23 ?_
        refine tA 24 ?_
        refine doneG (by kernel_rfl) ?_ _
        go_wp2
        go_roundw
        case rel => exact ⟨i + 1,_,_,_,V2,by omega,by go_num,rfl,rfl,rfl,HK2,by rw [HO2.out]; exact hU11⟩
        case measure => simp [intOf]; omega
       ·go_wp2_with fail
        have hU8 := hU7.alloc (.cells #[.int .i64 (b i)] 3)
        have hX8 := hX7.later ((Below.refl _ _).alloc (Nat.le_refl _) (.cells #[.int .i64 (b i)] 3))
        have f7_8 := f7_7.later ((Below.refl _ _).alloc (Nat.le_refl _) (.cells #[.int .i64 (b i)] 3))
        have f20_8 := f20_7.later ((Below.refl _ _).alloc (Nat.le_refl _) (.cells #[.int .i64 (b i)] 3))
        have f16_8 := Fr.new w7 3 #[.int .i64 (b i)]
        have hSS8 := mkS _ hU8.low hX8
        refine hK _ _ hSS8 ?_
        clear hK hU7 hX7 f7_7 f20_7 hSS7
        generalize w7.alloc (.cells #[.int .i64 (b i)] 3) = w8 at *
        generalize w7.heap.size = g16 at *
        refine oG 8 fun K hK => ?_
        obtain ⟨v8,w9,hr,hU9,hk,_⟩ := hU8.appN f7_8 (by omega)
        go_wp2_with (at_builtin; refine list_run rfl (.tmp 48) (.tmp 55) 64 rfl _ _ _ rfl rfl hr ?_)
        have hX9 := hk _ _ _ hX8 (by decide)
        have f16_9 := hk _ _ _ f16_8 (by decide)
        have f20_9 := hk _ _ _ f20_8 (by decide)
        have hSS9 := mkS _ hU9.low hX9
        refine hK _ _ hSS9 ?_
        clear hK hr hk hU8 hX8 hSS8 f7_8 f16_8 f20_8
        refine oG 17 fun K hK => ?_
        obtain ⟨v17,w10,hr,hU10,hk,_⟩ := hU9.appB f16_9 (by omega)
        go_wp2_with (at_builtin; refine list_run rfl (.tmp 57) (.tmp 64) 68 rfl _ _ _ rfl rfl hr ?_)
        have hX10 := hk _ _ _ hX9 (by decide)
        have f20_10 := hk _ _ _ f20_9 (by decide)
        have hSS10 := mkS _ hU10.low hX10
        refine hK _ _ hSS10 ?_
        clear hK hr hk hU9 hX9 hSS9 f16_9 f20_9
        refine lG 21 fun K hK => ?_
        obtain ⟨v21,w11,hr,hU11,_⟩ := hU10.appO HVi.out Hoo.out f20_10 (by omega)
        go_wp2_with (at_builtin; refine list_run rfl (.tmp 66) (.tmp 68) 122 rfl _ _ _ rfl rfl hr ?_)
        refine hK _ _ ?_
        clear hK hr hU10 hX10 f20_10 hSS10
        refine tA 22 ?_
        refine tA 23 ?_
        refine tA 24 ?_
        refine doneG (by kernel_rfl) ?_ _
        go_wp2
        go_roundw
        case rel => exact ⟨i + 1,_,_,_,V2,by omega,by go_num,rfl,rfl,rfl,HK2,by rw [HO2.out]; exact hU11⟩
        case measure => simp [intOf]; omega
      ·go_wp2_with fail
       have hU7 := hU6.alloc (.cells #[.int .i64 (b i)] 3)
       have hX7 := hX6.later ((Below.refl _ _).alloc (Nat.le_refl _) (.cells #[.int .i64 (b i)] 3))
       have f20_7 := f20_6.later ((Below.refl _ _).alloc (Nat.le_refl _) (.cells #[.int .i64 (b i)] 3))
       have f16_7 := Fr.new w6 3 #[.int .i64 (b i)]
       have hSS7 := mkS _ hU7.low hX7
       refine hK _ _ hSS7 ?_
       clear hK hU6 hX6 f20_6 hSS6
       generalize w6.alloc (.cells #[.int .i64 (b i)] 3) = w7 at *
       generalize w6.heap.size = g16 at *
       refine oG 7 fun K hK => ?_
       go_wp2_with fail
       have hU8 := hU7.alloc (.cells #[.string (s i)] 9)
       have hX8 := hX7.later ((Below.refl _ _).alloc (Nat.le_refl _) (.cells #[.string (s i)] 9))
       have f16_8 := f16_7.later ((Below.refl _ _).alloc (Nat.le_refl _) (.cells #[.string (s i)] 9))
       have f20_8 := f20_7.later ((Below.refl _ _).alloc (Nat.le_refl _) (.cells #[.string (s i)] 9))
       have f7_8 := Fr.new w7 9 #[.string (s i)]
       have hSS8 := mkS _ hU8.low hX8
       refine hK _ _ hSS8 ?_
       clear hK hU7 hX7 f16_7 f20_7 hSS7
       generalize w7.alloc (.cells #[.string (s i)] 9) = w8 at *
       generalize w7.heap.size = g7 at *
       refine oG 8 fun K hK => ?_
       obtain ⟨v8,w9,hr,hU9,hk,_⟩ := hU8.appN f7_8 (by omega)
       go_wp2_with (at_builtin; refine list_run rfl (.tmp 48) (.tmp 55) 64 rfl _ _ _ rfl rfl hr ?_)
       have hX9 := hk _ _ _ hX8 (by decide)
       have f16_9 := hk _ _ _ f16_8 (by decide)
       have f20_9 := hk _ _ _ f20_8 (by decide)
       have hSS9 := mkS _ hU9.low hX9
       refine hK _ _ hSS9 ?_
       clear hK hr hk hU8 hX8 hSS8 f7_8 f16_8 f20_8
       refine oG 17 fun K hK => ?_
       obtain ⟨v17,w10,hr,hU10,hk,_⟩ := hU9.appB f16_9 (by omega)
       go_wp2_with (at_builtin; refine list_run rfl (.tmp 57) (.tmp 64) 68 rfl _ _ _ rfl rfl hr ?_)
       have hX10 := hk _ _ _ hX9 (by decide)
       have f20_10 := hk _ _ _ f20_9 (by decide)
       have hSS10 := mkS _ hU10.low hX10
       refine hK _ _ hSS10 ?_
       clear hK hr hk hU9 hX9 hSS9 f16_9 f20_9
       refine lG 21 fun K hK => ?_
       obtain ⟨v21,w11,hr,hU11,_⟩ := hU10.appO HVi.out Hoo.out f20_10 (by omega)
       go_wp2_with (at_builtin; refine list_run rfl (.tmp 66) (.tmp 68) 122 rfl _ _ _ rfl rfl hr ?_)
       refine hK _ _ ?_
       clear hK hr hU10 hX10 f20_10 hSS10
       refine tA 22 ?_
       refine tA 23 ?_
       refine tA 24 ?_
       refine doneG (by kernel_rfl) ?_ _
       go_wp2
       go_roundw
       case rel => exact ⟨i + 1,_,_,_,V2,by omega,by go_num,rfl,rfl,rfl,HK2,by rw [HO2.out]; exact hU11⟩
       case measure => simp [intOf]; omega
    ·obtain ⟨z,hz⟩ := errV_pos hF
     have HEND : Hid (UseEnd (w3.alloc (.cells (vo.cells (parseF t).2) 133)) w.heap.size D S (rdD D T) n s st b nq qp qt qv (.returned (.tuple #[.slice none 0 0,.iface 82 (.int .i64 z)]))) := by
      have h2 := UseEnd.bad (w := w3.alloc (.cells (vo.cells (parseF t).2) 133)) (B0 := w.heap.size) (D := D) (S := S) (rd := rdD D T) (n := n) (s := s) (st := st) (b := b) (np := nq) (p := qp) (t := qt) (v := qv) i hlt HK.out (by rw [HIS.out]; exact hF)
      rw [HIS.out,hz] at h2
      exact h2
     have hbE : Below w.heap.size w (w3.alloc (.cells (vo.cells (parseF t).2) 133)) := ((hbW.trans (hU2.low.mono (Nat.le_of_lt hzW))).trans (hbP.mono (Nat.le_trans (Nat.le_of_lt hzW) hU2.low.size))).trans ((Below.refl _ _).alloc (Nat.le_trans (Nat.le_trans (Nat.le_of_lt hzW) hU2.low.size) hbP.size) _)
     rw [hz]
     generalize (parseF t).2 = oo at *
     unfold ObjV.cells at *
     clear hU2 hOA hON hbP hF HIS hb3 hz
     go_wp2
     go_ret2
     exact ⟨HEND.out,hbE⟩
   ·have hin : i = n := by omega
    subst hin
    obtain ⟨an,cn,rfl,rN⟩ := rows1 hU.names
    obtain ⟨ab,cb,rfl,rB⟩ := rows1 hU.bases
    obtain ⟨ao,co,rfl,_,rO⟩ := OwnObjs.row hU.objs hU.at'
    have HL := lay_any an ab ao aQ i cn cb co nq cQ s b V (fun j => (rdD D T (s j)).2) qp qt qv wr (by omega) (fun j hj => by have := (rd_ok (HK.out j hj)).nW; omega) (by omega) rN rB rO (hq1.later hlow)
    have hbE := hbW.trans (hlow.mono (Nat.le_of_lt hzW))
    have hBle : w.heap.size <= wr.heap.size := Nat.le_trans (Nat.le_of_lt hzW) hlow.size
    have hlt' : ¬ (i : Int) < (i : Int) := by omega
    clear rN rB rO hU hr1
    go_wp2_with fail
    refine HL.mono ?_
    rintro e w5 ⟨hl,hb5⟩
    clear HL
    have hbF := hbE.trans (hb5.mono hBle)
    have hl2 := hl.base hBle
    cases hl with
    | bad h =>
     have q1 : errV 1 = .iface 82 (.int .i64 1) := rfl
     rw [q1] at hl2 ⊢
     go_wp2
     go_ret2
     exact ⟨.lay _ HST.out HK.out hl2,hbF⟩
    | ok u g A C G h ho hu =>
     go_wp2
     go_ret2
     exact ⟨.lay _ HST.out HK.out hl2,hbF⟩
end Go.Proofs.YtagfngiaogckpaaGreatDoor
