/-
  What stands while Use of package entry takes an entry's parts, one after another: three rows that grow beside each other, and the objects that were read.
  What Use of package entry returns, for every entry and all files: the parts as they are laid; the number of the error; memory that was there stays as it was.
  What package loader does: New, Drop, Roots, Build and Load, of any files, any shelf that stands; memory that was there stays as it was, but for the disk's.
  What is kept is as good as new, in plain words: what Use answers of an entry that was made of files as they were, and whose stamps are those of now, is what Load answers.
  play: acts on files and a loader, whatever they are: every entry that is kept was made of files as they were; a disk that falls leaves one of two such shelves.
-/
import Derived.Test.YtidabcoodolddaaGreatDoorScopeAll
import Derived.Test.YtidabcoodolddaaGreatDoorGrowInts
import Derived.Maps.AppendAt
import Derived.Test.YtidabcoodolddaaGreatDoorPlainStm
import Derived.Test.YtidabcoodolddaaGreatDoorImageLay
import Derived.Test.YtidabcoodolddaaGreatDoorPatRows
import Derived.Test.YtidabcoodolddaaGreatDoorShelfLow
import Derived.Test.YtidabcoodolddaaGreatDoorShelfTop
import Derived.Test.YtidabcoodolddaaGreatDoorPlainBM
import Derived.Test.YtidabcoodolddaaGreatDoorPlainKept
import Derived.Test.YtidabcoodolddaaGreatDoorFilesInv
import Derived.Test.YtidabcoodolddaaGreatDoorActsAt
import Derived.Deep.CutBlock
namespace Go.Proofs.YtidabcoodolddaaGreatDoor
open Go.RowKit

/-- a block as it was made. -/
def Fr (W : World) (g : Nat) (e : TypeId) (c : Array Value) : Prop := W.heap[g]? = some (.cells c e (0, 0))
theorem Fr.new (W : World) (e : TypeId) (c : Array Value) : Fr (W.alloc (.cells c e)) W.heap.size e c := Array.getElem?_push_size
theorem Fr.later {W W' : World} {g : Nat} {e : TypeId} {c : Array Value} (h : Fr W g e c) (hb : Below W.heap.size W W') : Fr W' g e c := (hb.block g (Array.getElem?_eq_some_iff.1 h).1).trans h
theorem Fr.cell {W : World} {g : Nat} {e : TypeId} {c : Array Value} (h : Fr W g e c) {j : Nat} {u : Value} (hj : c[j]? = some u) : W.cell? ⟨g, j, none⟩ = some u := by
  unfold Fr at h
  simp [World.cell?, h, hj]
theorem Fr.grown {W W' : World} {g : Nat} {e : TypeId} {c : Array Value} {B : Nat} {e' : TypeId} {s n : Nat} {v : Value} {xs : List Value} (h : Fr W g e c) (ho : W.ownsRow B e' s v n xs) (hg : W.grownBy W' v.ownBlock) (hne : e ≠ e') : Fr W' g e c := by
  unfold Fr at *
  rw [hg.block g (Array.getElem?_eq_some_iff.1 h).1 ?_]
  · exact h
  · intro h2
    rcases ho.2 with ⟨rfl, _⟩ | ⟨g', cap, cur, rfl, _, hg', _⟩
    · cases h2
    · simp [Value.ownBlock] at h2
      subst h2
      rw [h] at hg'
      injection hg' with hg'
      injection hg' with _ h3 _
      exact hne h3
def strC1 (s : Nat → ByteArray) (j : Nat) : List Value := [.string (s j)]
/-- the rows, and the objects. -/
structure UseIn (s : Nat → ByteArray) (b : Nat → Int) (O : Nat → ObjF) (V : Nat → ObjV) (w0 W : World) (B0 n nN nB nO : Nat) (vN vB vO : Value) : Prop where
  base : B0 ≤ w0.heap.size
  low : Below B0 w0 W
  names : W.ownsRow B0 9 1 vN nN (joinC (strC1 s) nN)
  bases : W.ownsRow B0 3 1 vB nB (joinC (intC b) nB)
  objs : OwnObjs B0 W vO nO V O
  at' : ∀ j, j < n → ObjAt W (V j) (O j)
  sN : ∀ j, j < n → ObjSep (V j) (O j) vN.ownBlock
  sB : ∀ j, j < n → ObjSep (V j) (O j) vB.ownBlock
  sO : ∀ j, j < n → ObjSep (V j) (O j) vO.ownBlock
section
variable {s : Nat → ByteArray} {b : Nat → Int} {O : Nat → ObjF} {V : Nat → ObjV} {w0 W : World} {B0 n nN nB nO : Nat} {vN vB vO : Value}
theorem UseIn.size (h : UseIn s b O V w0 W B0 n nN nB nO vN vB vO) : B0 ≤ W.heap.size := Nat.le_trans h.base h.low.size
theorem UseIn.later (h : UseIn s b O V w0 W B0 n nN nB nO vN vB vO) {W' : World} (hb : Below W.heap.size W W') : UseIn s b O V w0 W' B0 n nN nB nO vN vB vO :=
  ⟨h.base, h.low.trans (hb.mono h.size), owns_below h.names hb, owns_below h.bases hb, owns_below h.objs hb, fun j hj => (h.at' j hj).later hb, h.sN, h.sB, h.sO⟩
theorem UseIn.alloc (h : UseIn s b O V w0 W B0 n nN nB nO vN vB vO) (ob : Obj) : UseIn s b O V w0 (W.alloc ob) B0 n nN nB nO vN vB vO := h.later ((Below.refl _ _).alloc (Nat.le_refl _) _)
theorem sepNext (hA : ∀ j, j < n → ObjAt W (V j) (O j)) {u u' : Value} (h : ∀ j, j < n → ObjSep (V j) (O j) u.ownBlock) (hs : SameOrNew W.heap.size u u') : ∀ j, j < n → ObjSep (V j) (O j) u'.ownBlock := fun j hj => (h j hj).next (hA j hj) (Nat.le_refl _) hs
theorem sameNew {u u' : Value} (h : u'.ownBlock = u.ownBlock ∨ u'.ownBlock = some W.heap.size) : SameOrNew W.heap.size u u' := h.imp id fun h => ⟨_, h, Nat.le_refl _⟩
/-- one name more. -/
theorem UseIn.appN (h : UseIn s b O V w0 W B0 n nN nB nO vN vB vO) {g : Nat} (hg : Fr W g 9 #[.string (s nN)]) (hn : nN < 1000) :
    ∃ v' W', (Builtin.append_ #[41, 41] 41 #[vN, .slice (some ⟨g, 0, none⟩) 1 1]).run Tryz.prog W = .ok v' W' ∧ UseIn s b O V w0 W' B0 n (nN + 1) nB nO v' vB vO ∧ (∀ k e c, Fr W k e c → e ≠ 9 → Fr W' k e c) ∧ Below B0 W W' := by
  have hinfo : (Tryz.prog.info? 9).map (fun i => (i.zero, i.size, i.bytes)) = some (some (.string ⟨#[]⟩), 1, 16) := by kernel_rfl
  obtain ⟨i, hi, hzz⟩ := Option.map_eq_some_iff.1 hinfo
  simp only [Prod.mk.injEq] at hzz
  obtain ⟨hz, hs, hb⟩ := hzz
  obtain ⟨v', W', h1, h2, h3, _, h5⟩ := run_append_own_at (P := Tryz.prog) W B0 41 41 9 i _ 1 16 Tryz.underlying41 hi hz hs hb rfl (by decide) vN nN _ h.names ⟨g, 0, none⟩ 1 1 [.string (s nN)] rfl
    (fun j u hj => by
      match j, hj with
      | 0, hj => simp at hj; subst hj; simpa [Addr.add] using hg.cell (j := 0) rfl
      | j + 1, hj => simp at hj) (fun u hu => by simp at hu; subst hu; rfl) (by simp only [maxLen]; omega) (by omega) h.size
  have hb2 := below_grown h.names h.size h3
  refine ⟨v', W', h1, ⟨h.base, h.low.trans hb2, h2, h.bases.kept h3 (ownsSep h.bases h.names (by decide)), h.objs.kept h3 (ownsSep h.objs h.names (by decide)), fun j hj => (h.at' j hj).grown h3 (h.sN j hj), sepNext h.at' h.sN (sameNew h5), h.sB, h.sO⟩, fun k e c hk hne => hk.grown h.names h3 hne, hb2⟩
/-- one base more. -/
theorem UseIn.appB (h : UseIn s b O V w0 W B0 n nN nB nO vN vB vO) {g : Nat} (hg : Fr W g 3 #[.int .i64 (b nB)]) (hn : nB < 1000) :
    ∃ v' W', (Builtin.append_ #[45, 45] 45 #[vB, .slice (some ⟨g, 0, none⟩) 1 1]).run Tryz.prog W = .ok v' W' ∧ UseIn s b O V w0 W' B0 n nN (nB + 1) nO vN v' vO ∧ (∀ k e c, Fr W k e c → e ≠ 3 → Fr W' k e c) ∧ Below B0 W W' := by
  have hinfo : (Tryz.prog.info? 3).map (fun i => (i.zero, i.size, i.bytes)) = some (some (.int .i64 0), 1, 8) := by kernel_rfl
  obtain ⟨i, hi, hzz⟩ := Option.map_eq_some_iff.1 hinfo
  simp only [Prod.mk.injEq] at hzz
  obtain ⟨hz, hs, hb⟩ := hzz
  obtain ⟨v', W', h1, h2, h3, _, h5⟩ := run_append_own_at (P := Tryz.prog) W B0 45 45 3 i _ 1 8 Tryz.underlying45 hi hz hs hb rfl (by decide) vB nB _ h.bases ⟨g, 0, none⟩ 1 1 [.int .i64 (b nB)] rfl
    (fun j u hj => by
      match j, hj with
      | 0, hj => simp at hj; subst hj; simpa [Addr.add] using hg.cell (j := 0) rfl
      | j + 1, hj => simp at hj) (fun u hu => by simp at hu; subst hu; rfl) (by simp only [maxLen]; omega) (by omega) h.size
  have hb2 := below_grown h.bases h.size h3
  refine ⟨v', W', h1, ⟨h.base, h.low.trans hb2, h.names.kept h3 (ownsSep h.names h.bases (by decide)), h2, h.objs.kept h3 (ownsSep h.objs h.bases (by decide)), fun j hj => (h.at' j hj).grown h3 (h.sB j hj), h.sN, sepNext h.at' h.sB (sameNew h5), h.sO⟩, fun k e c hk hne => hk.grown h.bases h3 hne, hb2⟩
/-- one object more. -/
theorem UseIn.appO (h : UseIn s b O V w0 W B0 n nN nB nO vN vB vO) {g : Nat} {v : ObjV} {o : ObjF} (hv : V nO = v) (ho : O nO = o) (hg : Fr W g 93 #[.slice v.aN o.nN v.cN, .slice v.aW o.nW v.cW, .slice v.aS o.nS v.cS, .slice v.aT o.nT v.cT]) (hn : nO < 1000) :
    ∃ v' W', (Builtin.append_ #[42, 42] 42 #[vO, .slice (some ⟨g, 0, none⟩) 1 1]).run Tryz.prog W = .ok v' W' ∧ UseIn s b O V w0 W' B0 n nN nB (nO + 1) vN vB v' ∧ Below B0 W W' := by
  have hinfo : (Tryz.prog.info? 93).map (fun i => (i.zero, i.size, i.bytes)) = some (some (.agg #[.slice none 0 0, .slice none 0 0, .slice none 0 0, .slice none 0 0]), 4, 96) := by kernel_rfl
  obtain ⟨i, hi, hzz⟩ := Option.map_eq_some_iff.1 hinfo
  simp only [Prod.mk.injEq] at hzz
  obtain ⟨hz, hs, hb⟩ := hzz
  obtain ⟨v', W', h1, h2, h3, _, h5⟩ := run_append_own_at (P := Tryz.prog) W B0 42 42 93 i _ 4 96 Tryz.underlying42 hi hz hs hb rfl (by decide) vO nO _ h.objs ⟨g, 0, none⟩ 1 1 (objC V O nO) rfl
    (fun j u hj => by
      simp only [objC, hv, ho] at hj
      match j, hj with
      | 0, hj => simp at hj; subst hj; simpa [Addr.add] using hg.cell (j := 0) rfl
      | 1, hj => simp at hj; subst hj; simpa [Addr.add] using hg.cell (j := 1) rfl
      | 2, hj => simp at hj; subst hj; simpa [Addr.add] using hg.cell (j := 2) rfl
      | 3, hj => simp at hj; subst hj; simpa [Addr.add] using hg.cell (j := 3) rfl
      | j + 4, hj => simp at hj) (fun u hu => objs_one (n := nO + 1) (V := V) (O := O) (by show u ∈ joinC (objC V O) nO ++ objC V O nO; exact List.mem_append_right _ hu)) (by simp only [maxLen]; omega) (by omega) h.size
  have hb2 := below_grown h.objs h.size h3
  refine ⟨v', W', h1, ⟨h.base, h.low.trans hb2, h.names.kept h3 (ownsSep h.names h.objs (by decide)), h.bases.kept h3 (ownsSep h.bases h.objs (by decide)), h2, fun j hj => (h.at' j hj).grown h3 (h.sO j hj), h.sN, h.sB, sepNext h.at' h.sO (sameNew h5)⟩, hb2⟩
/-- one object was read. -/
theorem UseIn.next {i : Nat} (h : UseIn s b O V w0 W B0 i i i i vN vB vO) {W' : World} {v : ObjV} (hb : Below W.heap.size W W') (hA : ObjAt W' v (O i)) (hN : ObjNew W.heap.size v (O i)) :
    ∃ V', V' i = v ∧ UseIn s b O V' w0 W' B0 (i + 1) i i i vN vB vO := by
  have h2 := h.later hb
  have e : ∀ j, j < i → (fun j => if j = i then v else V j) j = V j := fun j hj => if_neg (Nat.ne_of_lt hj)
  have ev : (fun j => if j = i then v else V j) i = v := if_pos rfl
  refine ⟨fun j => if j = i then v else V j, ev, h2.base, h2.low, h2.names, h2.bases, ?_, fun j hj => ?_, fun j hj => ?_, fun j hj => ?_, fun j hj => ?_⟩
  · show W'.ownsRow B0 93 4 vO i (joinC (objC (fun j => if j = i then v else V j) O) i)
    rw [joinC_congr (h := objC V O) (fun j hj => by unfold objC; rw [e j hj])]
    exact h2.objs
  all_goals
    by_cases hji : j = i
    · subst hji
      rw [if_pos rfl]
      first
        | exact hA
        | exact hN.sep (fun k hk => (h.names.lt k hk).2)
        | exact hN.sep (fun k hk => (h.bases.lt k hk).2)
        | exact hN.sep (fun k hk => (h.objs.lt k hk).2)
    · rw [if_neg hji]
      first
        | exact h2.at' j (by omega)
        | exact h2.sN j (by omega)
        | exact h2.sB j (by omega)
        | exact h2.sO j (by omega)
end
end Go.Proofs.YtidabcoodolddaaGreatDoor

namespace Go.Proofs.YtidabcoodolddaaGreatDoor
open Go.RowKit Go.Maps

/-- a call of Use that returned. -/
inductive UseEnd (w : World) (B0 : Nat) (D : DataW Unit) (S : ByteArray → Int) (rd : ByteArray → Nat × ObjF) (n : Nat) (s : Nat → ByteArray) (st b : Nat → Int) (np : Nat) (p t v : Nat → Int) : Ending → Prop
  | stale (h : (!staleTo D S s st n && decide (0 < n)) = false) : UseEnd w B0 D S rd n s st b np p t v (.returned (.tuple #[.slice none 0 0, errV 10]))
  | bad (i : Nat) (hi : i < n) (h0 : ∀ j, j < i → (rd (s j)).1 = 0) (hf : (rd (s i)).1 ≠ 0) : UseEnd w B0 D S rd n s st b np p t v (.returned (.tuple #[.slice none 0 0, errV (rd (s i)).1]))
  | lay (e : Ending) (h : (!staleTo D S s st n && decide (0 < n)) = true) (h0 : ∀ j, j < n → (rd (s j)).1 = 0) (hl : LayEnd w B0 n s b (fun j => (rd (s j)).2) np p t v e) : UseEnd w B0 D S rd n s st b np p t v e
theorem rows1 {w : World} {B n : Nat} {e : TypeId} {v : Value} {f : Nat → Value} (h : w.ownsRow B e 1 v n (joinC (fun i => [f i]) n)) : ∃ a c, v = .slice a n c ∧ RowAt w a n f := by
  obtain ⟨a, c, rfl, hc⟩ := owns_shape h
  refine ⟨a, c, rfl, ?_⟩
  by_cases h0 : n = 0
  · exact .inl h0
  · have key : ∀ i, i < n → ∃ k, a = some ⟨k, 0, none⟩ ∧ B ≤ k ∧ w.cell? ⟨k, i, none⟩ = some (f i) := fun i hi => by
      have := owns_cell (j := i) (u := f i) h (by
        have := joinC_at (g := fun i => [f i]) (s := 1) (n := n) (i := i) (j := 0) (fun i _ => rfl) hi (by decide)
        simpa using this)
      simpa using this
    obtain ⟨k, ha, _, _⟩ := key 0 (by omega)
    refine .inr ⟨k, 0, ha, fun i hi => ?_⟩
    obtain ⟨k', ha', _, hc'⟩ := key i hi
    rw [ha] at ha'
    injection ha' with ha'
    injection ha' with ha'
    subst ha'
    simpa using hc'

theorem OutAt.base {w : World} {B B' g n : Nat} {M : Nat → Nat} {A : Nat → Option Addr} {C G : Nat → Nat} {X : Nat → Nat → Int} (h : OutAt w B g n M A C G X) (hB : B' ≤ B) : OutAt w B' g n M A C G X :=
  ⟨Nat.le_trans hB h.hB, h.lt, h.top, h.free, h.adr, fun i hi h0 => Nat.le_trans hB (h.own i hi h0), h.ne, h.row, h.rfree, h.apart⟩
theorem LayEnd.base {w : World} {B B' n : Nat} {nm : Nat → ByteArray} {b : Nat → Int} {O : Nat → ObjF} {np : Nat} {p t v : Nat → Int} {e : Ending} (h : LayEnd w B n nm b O np p t v e) (hB : B' ≤ B) : LayEnd w B' n nm b O np p t v e := by
  cases h with
  | bad h => exact .bad h
  | ok u g A C G h ho hu => exact .ok u g A C G h (ho.base hB) (owns_base hu hB)
set_option maxRecDepth 100000 in
set_option maxHeartbeats 16000000 in
theorem use_any (w : World) (p bm : Nat) (D : DataW Unit) (k : Nat) (T : ByteArray → ByteArray) (S : ByteArray → Int) (root : ByteArray) (n nq : Nat) (s : Nat → ByteArray) (st b : Nat → Int) (qp qt qv : Nat → Int) (aP aQ : Option Addr) (cP cQ : Nat) (h : FilesAt w p bm D k) (hS : Stamps D S) (hT : Texts D T) (hE : Env w) (hn : n ≤ 900) (hnq : nq ≤ 900) (hs : ∀ i, i < n → (s i).size ≤ maxLen)
    (hr : StmRow w aP n s st b) (hq : PatRow w aQ nq qp qt qv) :
    Calls Tryz.prog 33 #[.agg #[.string root, .slice aP n cP, .slice aQ nq cQ], .pointer (some ⟨p, 0, none⟩)] w fun e w' => UseEnd w' w.heap.size D S (rdD D T) n s st b nq qp qt qv e ∧ Below w.heap.size w w' := by
  have hb0 : Below w.heap.size w (w.alloc (.cells #[.string root, .slice aP n cP, .slice aQ nq cQ] 62)) := (Below.refl _ _).alloc (Nat.le_refl _) _
  have HF := fresh_any _ p bm D k S root n nq s st b aP aQ cP cQ (h.later hb0) hS (by omega) hs (hr.later hb0)
  have e0 : (w.alloc (.cells #[.string root, .slice aP n cP, .slice aQ nq cQ] 62)).cell? ⟨w.heap.size, 0, none⟩ = some (.string root) := by simp [go_sem]
  have e1 : (w.alloc (.cells #[.string root, .slice aP n cP, .slice aQ nq cQ] 62)).cell? ⟨w.heap.size, 1, none⟩ = some (.slice aP n cP) := by simp [go_sem]
  have e2 : (w.alloc (.cells #[.string root, .slice aP n cP, .slice aQ nq cQ] 62)).cell? ⟨w.heap.size, 2, none⟩ = some (.slice aQ nq cQ) := by simp [go_sem]
  cases hst : (!staleTo D S s st n && decide (0 < n)) with
  | false =>
    rw [hst] at HF
    go_enter Tryz.func33, Tryz.ntmps33
    go_wp2_with fail
    refine HF.mono ?_
    rintro e w1 ⟨rfl, hb1⟩
    have hb2 := hb0.trans (hb1.mono hb0.size)
    clear HF e0 e1 e2
    go_wp2
    go_ret2
    exact ⟨.stale hst, hb2⟩
  | true =>
    rw [hst] at HF
    have HST : Hid ((!staleTo D S s st n && decide (0 < n)) = true) := hst
    have hfr : ∀ i, i < n → Maps.has D (keyB (s i)) = true := fun i hi => by
      cases hh : Maps.has D (keyB (s i)) with
      | true => rfl
      | false =>
        have := anyTo_yes (p := fun i => !(Maps.has D (keyB (s i)) && decide (S (s i) = st i))) hi (by rw [hh]; rfl)
        unfold staleTo at hst
        rw [this] at hst
        cases hst
    clear hst
    have h1 := h.later hb0
    have hr1 := hr.later hb0
    have hq1 := hq.later hb0
    have hE1 := hE.later hb0
    have hz1 : w.heap.size < (w.alloc (.cells #[.string root, .slice aP n cP, .slice aQ nq cQ] 62)).heap.size := by simp
    generalize hW0 : w.alloc (.cells #[.string root, .slice aP n cP, .slice aQ nq cQ] 62) = W0 at *
    go_enter Tryz.func33, Tryz.ntmps33
    go_wp2_with fail
    refine HF.mono ?_
    rintro e W ⟨rfl, hb1⟩
    have hbW := hb0.trans (hb1.mono hb0.size)
    have hzW : w.heap.size < W.heap.size := Nat.lt_of_lt_of_le hz1 hb1.size
    replace e1 := cell_later hb1 e1
    replace e2 := cell_later hb1 e2
    replace h1 := h1.later hb1
    replace hr1 := hr1.later hb1
    replace hq1 := hq1.later hb1
    replace hE1 := hE1.later hb1
    clear HF hb1 hb0 hz1 h hr hq hE e0
    go_wp2
    go_loopw [6, 7, 8, 22] (fun y6 y7 y8 y22 wr => ∃ (i : Nat) (vN vB vO : Value) (V : Nat → ObjV), i ≤ n ∧ y22 = .int .i64 i ∧ y6 = vN ∧ y7 = vB ∧ y8 = vO ∧ Hid (∀ j, j < i → (rdD D T (s j)).1 = 0) ∧ UseIn s b (fun j => (rdD D T (s j)).2) V W wr W.heap.size i i i i vN vB vO) (fun _ _ _ y22 _ => n - (intOf y22).toNat)
    case atStart => exact ⟨0, _, _, _, fun _ => ⟨none, 0, none, 0, none, 0, none, 0⟩, Nat.zero_le _, rfl, rfl, rfl, rfl, (fun j hj => absurd hj (Nat.not_lt_zero _)), ⟨Nat.le_refl _, Below.refl _ _, World.ownsRow_nil _ _ _ _, World.ownsRow_nil _ _ _ _, ownObjs_nil _ _ _ _, fun j hj => absurd hj (Nat.not_lt_zero _), fun j hj => absurd hj (Nat.not_lt_zero _), fun j hj => absurd hj (Nat.not_lt_zero _), fun j hj => absurd hj (Nat.not_lt_zero _)⟩⟩
    case round =>
      obtain ⟨i, vN, vB, vO, V, hi, rfl, rfl, rfl, rfl, HK, hU⟩ := hrel
      have hlow := hU.low
      have e1r := cell_later hlow e1
      have e2r := cell_later hlow e2
      by_cases hlt : i < n
      · have hr2 := hr1
        rcases hr2 with h0 | ⟨bk, o, rfl, hc⟩
        · omega
        obtain ⟨x0, x1, x2⟩ := hc i hlt
        have y0 := cell_later hlow x0
        have HR := fileRead_any wr p bm D k (s i) (h1.later hlow) (hs i hlt)
        have hi0 : (0 : Int) ≤ (i : Int) := by omega
        have hi1 : (i : Int) < (n : Int) := by omega
        clear hc hr1 x1
        go_wp2_with fail
        refine HR.mono ?_
        rintro e w2 ⟨⟨t, nst, f, rfl, hRI⟩, hb3⟩
        obtain ⟨rfl, hat⟩ := hRI.yes (hfr i hlt)
        have htT := hT.is (s i) t nst (hfr i hlt) hat
        have HIS : Hid (rdD D T (s i) = parseF t) := by unfold rdD; rw [if_pos (hfr i hlt), ← htT]; exact rfl
        have q0 : errV 0 = .nilIface := rfl
        rw [q0]
        have hU2 := hU.later hb3
        have HP := parse_new t w2 (hE1.later hU2.low)
        clear HR hRI hat htT hU y0
        go_wp2_with fail
        refine HP.mono ?_
        rintro e w3 ⟨⟨vo, rfl, hOA, hON⟩, hbP⟩
        clear HP
        by_cases hF : (parseF t).1 = 0
        · have HK2 : Hid (∀ j, j < i + 1 → (rdD D T (s j)).1 = 0) := fun j hj => by
            by_cases hji : j = i
            · subst hji; rw [HIS.out]; exact hF
            · exact HK.out j (by omega)
          rw [hF, q0]
          have HO : Hid ((parseF t).2 = (fun j => (rdD D T (s j)).2) i) := by show _ = (rdD D T (s i)).2; rw [HIS.out]
          rw [HO.out] at hOA hON
          obtain ⟨V2, hVi, hU3⟩ := hU2.next hbP hOA hON
          have eoo : (parseF t).2 = (rdD D T (s i)).2 := HO.out
          rw [eoo]
          have hoo : (fun j => (rdD D T (s j)).2) i = (rdD D T (s i)).2 := rfl
          generalize hO : (fun j => (rdD D T (s j)).2) = O at *
          generalize (rdD D T (s i)).2 = oo at *
          have hX4 := Fr.new w3 93 #[.slice vo.aN oo.nN vo.cN, .slice vo.aW oo.nW vo.cW, .slice vo.aS oo.nS vo.cS, .slice vo.aT oo.nT vo.cT]
          have hU4 := hU3.alloc (.cells #[.slice vo.aN oo.nN vo.cN, .slice vo.aW oo.nW vo.cW, .slice vo.aS oo.nS vo.cS, .slice vo.aT oo.nT vo.cT] 93)
          unfold ObjV.cells
          clear hU2 hU3 hOA hON hbP hF HIS HO eoo hb3
          have HVi : Hid (V2 i = vo) := hVi
          have Hoo : Hid (O i = oo) := hoo
          have HO2 : Hid ((fun j => (rdD D T (s j)).2) = O) := hO
          clear hVi hoo hO
          go_wp2
          generalize w3.alloc (.cells #[.slice vo.aN oo.nN vo.cN, .slice vo.aW oo.nW vo.cW, .slice vo.aS oo.nS vo.cS, .slice vo.aT oo.nT vo.cT] 93) = w4 at *
          generalize w3.heap.size = bx at *
          have mkS : ∀ ww : World, Below W.heap.size W ww → Fr ww bx 93 #[.slice vo.aN oo.nN vo.cN, .slice vo.aW oo.nW vo.cW, .slice vo.aS oo.nS vo.cS, .slice vo.aT oo.nT vo.cT] → (fun w' : World => w'.cell? ⟨w.heap.size, 1, none⟩ = some (.slice (some ⟨bk, o, none⟩) n cP) ∧ w'.cell? ⟨bk, o + i * 3, none⟩ = some (.string (s i)) ∧ w'.cell? ⟨bk, o + i * 3 + 2, none⟩ = some (.int .i64 (b i)) ∧ w'.cell? ⟨bx, 0, none⟩ = some (.slice vo.aN oo.nN vo.cN) ∧ w'.cell? ⟨bx, 1, none⟩ = some (.slice vo.aW oo.nW vo.cW) ∧ w'.cell? ⟨bx, 2, none⟩ = some (.slice vo.aS oo.nS vo.cS) ∧ w'.cell? ⟨bx, 3, none⟩ = some (.slice vo.aT oo.nT vo.cT)) ww := fun ww hb hX => ⟨cell_later hb e1, cell_later hb x0, cell_later hb x2, hX.cell (j := 0) rfl, hX.cell (j := 1) rfl, hX.cell (j := 2) rfl, hX.cell (j := 3) rfl⟩
          have hU5 := hU4.later (Below.refl _ _).drew
          have hX5 := hX4.later (Below.refl _ _).drew
          have hSS := mkS _ hU5.low hX5
          clear hU4 hX4 e1r e2r
          refine wp_region_G (fun w' : World => w'.cell? ⟨w.heap.size, 1, none⟩ = some (.slice (some ⟨bk, o, none⟩) n cP) ∧ w'.cell? ⟨bk, o + i * 3, none⟩ = some (.string (s i)) ∧ w'.cell? ⟨bk, o + i * 3 + 2, none⟩ = some (.int .i64 (b i)) ∧ w'.cell? ⟨bx, 0, none⟩ = some (.slice vo.aN oo.nN vo.cN) ∧ w'.cell? ⟨bx, 1, none⟩ = some (.slice vo.aW oo.nW vo.cW) ∧ w'.cell? ⟨bx, 2, none⟩ = some (.slice vo.aS oo.nS vo.cS) ∧ w'.cell? ⟨bx, 3, none⟩ = some (.slice vo.aT oo.nT vo.cT)) 21 25 (by kernel_rfl) rfl ?_
          generalize w4.drew = w5 at *
          refine takeW 0 (v := ?v1) rfl (by kernel_rfl) (by kernel_rfl) (by kernel_rfl) (by kernel_rfl) (fun _ _ _ h => h) (.inr hSS) (.inl ⟨by rfl, fun w => ?hy1⟩) ?rest1
          case hy1 => (go_simp <;> with_reducible rfl)
          simp only [Go.Act.put, List.setIfInBounds_toArray, List.set_cons_zero, List.set_cons_succ]
          refine takeW 1 (v := ?v2) rfl (by kernel_rfl) (by kernel_rfl) (by kernel_rfl) (by kernel_rfl) (fun _ _ _ h => h) (.inr hSS) (.inl ⟨by rfl, fun w => ?hy2⟩) ?rest2
          case hy2 => (go_simp <;> with_reducible rfl)
          simp only [Go.Act.put, List.setIfInBounds_toArray, List.set_cons_zero, List.set_cons_succ]
          refine takeW 3 (v := ?v3) rfl (by kernel_rfl) (by kernel_rfl) (by kernel_rfl) (by kernel_rfl) (fun _ _ _ h => h) (.inr hSS) (.inl ⟨by rfl, fun w => ?hy3⟩) ?rest3
          case hy3 => (go_simp <;> with_reducible rfl)
          simp only [Go.Act.put, List.setIfInBounds_toArray, List.set_cons_zero, List.set_cons_succ]
          refine takeW 9 (v := ?v4) rfl (by kernel_rfl) (by kernel_rfl) (by kernel_rfl) (by kernel_rfl) (fun _ _ _ h => h) (.inr hSS) (.inl ⟨by rfl, fun w => ?hy4⟩) ?rest4
          case hy4 => (go_simp <;> with_reducible rfl)
          simp only [Go.Act.put, List.setIfInBounds_toArray, List.set_cons_zero, List.set_cons_succ]
          refine takeW 10 (v := ?v5) rfl (by kernel_rfl) (by kernel_rfl) (by kernel_rfl) (by kernel_rfl) (fun _ _ _ h => h) (.inr hSS) (.inl ⟨by rfl, fun w => ?hy5⟩) ?rest5
          case hy5 => (go_simp <;> with_reducible rfl)
          simp only [Go.Act.put, List.setIfInBounds_toArray, List.set_cons_zero, List.set_cons_succ]
          refine takeW 12 (v := ?v6) rfl (by kernel_rfl) (by kernel_rfl) (by kernel_rfl) (by kernel_rfl) (fun _ _ _ h => h) (.inr hSS) (.inl ⟨by rfl, fun w => ?hy6⟩) ?rest6
          case hy6 => (go_simp <;> with_reducible rfl)
          simp only [Go.Act.put, List.setIfInBounds_toArray, List.set_cons_zero, List.set_cons_succ]
          refine takeW 18 (v := ?v7) rfl (by kernel_rfl) (by kernel_rfl) (by kernel_rfl) (by kernel_rfl) (fun _ _ _ h => h) (.inr hSS) (.inl ⟨by rfl, fun w => ?hy7⟩) ?rest7
          case hy7 => (go_simp <;> with_reducible rfl)
          simp only [Go.Act.put, List.setIfInBounds_toArray, List.set_cons_zero, List.set_cons_succ]
          refine takeR 2 [17, 8, 7, 6, 5, 4] (v := ?v8) rfl (by kernel_rfl) (by kernel_rfl) (by kernel_rfl) (by kernel_rfl) (by kernel_rfl) (fun _ _ _ h => h) hSS (.inl ⟨by rfl, fun w hSw => ?hy8⟩) ?rest8
          case hy8 => ((try dsimp only at hSw); go_simp <;> with_reducible rfl)
          simp only [Go.Act.put, List.setIfInBounds_toArray, List.set_cons_zero, List.set_cons_succ]
          refine takeW 4 (v := ?v9) rfl (by kernel_rfl) (by kernel_rfl) (by kernel_rfl) (by kernel_rfl) (fun _ _ _ h => h) (.inr hSS) (.inl ⟨by rfl, fun w => ?hy9⟩) ?rest9
          case hy9 => (go_simp <;> with_reducible rfl)
          simp only [Go.Act.put, List.setIfInBounds_toArray, List.set_cons_zero, List.set_cons_succ]
          refine takeW 5 (v := ?v10) rfl (by kernel_rfl) (by kernel_rfl) (by kernel_rfl) (by kernel_rfl) (fun _ _ _ h => h) (.inr hSS) (.inl ⟨by rfl, fun w => ?hy10⟩) ?rest10
          case hy10 => (go_simp <;> with_reducible rfl)
          simp only [Go.Act.put, List.setIfInBounds_toArray, List.set_cons_zero, List.set_cons_succ]
          refine takeR 6 [17, 8, 7] (v := ?v11) rfl (by kernel_rfl) (by kernel_rfl) (by kernel_rfl) (by kernel_rfl) (by kernel_rfl) (fun _ _ _ h => h) hSS (.inl ⟨by rfl, fun w hSw => ?hy11⟩) ?rest11
          case hy11 => ((try dsimp only at hSw); go_simp <;> with_reducible rfl)
          simp only [Go.Act.put, List.setIfInBounds_toArray, List.set_cons_zero, List.set_cons_succ]
          refine takeR 11 [17, 16, 15, 14, 13] (v := ?v12) rfl (by kernel_rfl) (by kernel_rfl) (by kernel_rfl) (by kernel_rfl) (by kernel_rfl) (fun _ _ _ h => h) hSS (.inl ⟨by rfl, fun w hSw => ?hy12⟩) ?rest12
          case hy12 => ((try dsimp only at hSw); go_simp <;> with_reducible rfl)
          simp only [Go.Act.put, List.setIfInBounds_toArray, List.set_cons_zero, List.set_cons_succ]
          refine takeW 13 (v := ?v13) rfl (by kernel_rfl) (by kernel_rfl) (by kernel_rfl) (by kernel_rfl) (fun _ _ _ h => h) (.inr hSS) (.inl ⟨by rfl, fun w => ?hy13⟩) ?rest13
          case hy13 => (go_simp <;> with_reducible rfl)
          simp only [Go.Act.put, List.setIfInBounds_toArray, List.set_cons_zero, List.set_cons_succ]
          refine takeW 14 (v := ?v14) rfl (by kernel_rfl) (by kernel_rfl) (by kernel_rfl) (by kernel_rfl) (fun _ _ _ h => h) (.inr hSS) (.inl ⟨by rfl, fun w => ?hy14⟩) ?rest14
          case hy14 => (go_simp <;> with_reducible rfl)
          simp only [Go.Act.put, List.setIfInBounds_toArray, List.set_cons_zero, List.set_cons_succ]
          refine takeR 15 [17, 16] (v := ?v15) rfl (by kernel_rfl) (by kernel_rfl) (by kernel_rfl) (by kernel_rfl) (by kernel_rfl) (fun _ _ _ h => h) hSS (.inl ⟨by rfl, fun w hSw => ?hy15⟩) ?rest15
          case hy15 => ((try dsimp only at hSw); go_simp <;> with_reducible rfl)
          simp only [Go.Act.put, List.setIfInBounds_toArray, List.set_cons_zero, List.set_cons_succ]
          refine takeR 19 [20] (v := ?v16) rfl (by kernel_rfl) (by kernel_rfl) (by kernel_rfl) (by kernel_rfl) (by kernel_rfl) (fun _ _ _ h => h) hSS (.inl ⟨by rfl, fun w hSw => ?hy16⟩) ?rest16
          case hy16 => ((try dsimp only at hSw); go_simp <;> with_reducible rfl)
          simp only [Go.Act.put, List.setIfInBounds_toArray, List.set_cons_zero, List.set_cons_succ]
          have hSS5 := hSS
          clear hSS
          refine readyG [7, 16, 20] (by kernel_rfl) (by simp) (allG_cons 7 rfl (fun K hK => ?_) (allG_cons 16 rfl (fun K hK => ?_) (allG_cons 20 rfl (fun K hK => ?_) allG_nil)))
          · go_wp2_with fail
            have hU6 := hU5.alloc (.cells #[.string (s i)] 9)
            have hX6 := hX5.later ((Below.refl _ _).alloc (Nat.le_refl _) (.cells #[.string (s i)] 9))
            have f7_6 := Fr.new w5 9 #[.string (s i)]
            have hSS6 := mkS _ hU6.low hX6
            refine hK _ _ hSS6 ?_
            clear hK hU5 hX5  hSS5
            generalize w5.alloc (.cells #[.string (s i)] 9) = w6 at *
            generalize w5.heap.size = g7 at *
            refine readyG [8, 16, 20] (by kernel_rfl) (by simp) (allG_cons 8 rfl (fun K hK => ?_) (allG_cons 16 rfl (fun K hK => ?_) (allG_cons 20 rfl (fun K hK => ?_) allG_nil)))
            · obtain ⟨v8, w7, hr, hU7, hk, _⟩ := hU6.appN f7_6 (by omega)
              go_wp2_with (at_builtin; refine list_run rfl (.tmp 48) (.tmp 55) 41 rfl _ _ _ rfl rfl hr ?_)
              have hX7 := hk _ _ _ hX6 (by decide)
              have hSS7 := mkS _ hU7.low hX7
              refine hK _ _ hSS7 ?_
              clear hK hr hk hU6 hX6 hSS6 f7_6
              refine readyG [16, 20] (by kernel_rfl) (by simp) (allG_cons 16 rfl (fun K hK => ?_) (allG_cons 20 rfl (fun K hK => ?_) allG_nil))
              · go_wp2_with fail
                have hU8 := hU7.alloc (.cells #[.int .i64 (b i)] 3)
                have hX8 := hX7.later ((Below.refl _ _).alloc (Nat.le_refl _) (.cells #[.int .i64 (b i)] 3))
                have f16_8 := Fr.new w7 3 #[.int .i64 (b i)]
                have hSS8 := mkS _ hU8.low hX8
                refine hK _ _ hSS8 ?_
                clear hK hU7 hX7  hSS7
                generalize w7.alloc (.cells #[.int .i64 (b i)] 3) = w8 at *
                generalize w7.heap.size = g16 at *
                refine readyG [17, 20] (by kernel_rfl) (by simp) (allG_cons 17 rfl (fun K hK => ?_) (allG_cons 20 rfl (fun K hK => ?_) allG_nil))
                · obtain ⟨v17, w9, hr, hU9, hk, _⟩ := hU8.appB f16_8 (by omega)
                  go_wp2_with (at_builtin; refine list_run rfl (.tmp 57) (.tmp 64) 45 rfl _ _ _ rfl rfl hr ?_)
                  have hX9 := hk _ _ _ hX8 (by decide)
                  have hSS9 := mkS _ hU9.low hX9
                  refine hK _ _ hSS9 ?_
                  clear hK hr hk hU8 hX8 hSS8 f16_8
                  refine onlyG 20 rfl (by kernel_rfl) (fun K hK => ?_)
                  go_wp2_with fail
                  have hU10 := hU9.alloc (.cells #[.slice vo.aN oo.nN vo.cN, .slice vo.aW oo.nW vo.cW, .slice vo.aS oo.nS vo.cS, .slice vo.aT oo.nT vo.cT] 93)
                  have hX10 := hX9.later ((Below.refl _ _).alloc (Nat.le_refl _) (.cells #[.slice vo.aN oo.nN vo.cN, .slice vo.aW oo.nW vo.cW, .slice vo.aS oo.nS vo.cS, .slice vo.aT oo.nT vo.cT] 93))
                  have f20_10 := Fr.new w9 93 #[.slice vo.aN oo.nN vo.cN, .slice vo.aW oo.nW vo.cW, .slice vo.aS oo.nS vo.cS, .slice vo.aT oo.nT vo.cT]
                  have hSS10 := mkS _ hU10.low hX10
                  refine hK _ _ hSS10 ?_
                  clear hK hU9 hX9  hSS9
                  generalize w9.alloc (.cells #[.slice vo.aN oo.nN vo.cN, .slice vo.aW oo.nW vo.cW, .slice vo.aS oo.nS vo.cS, .slice vo.aT oo.nT vo.cT] 93) = w10 at *
                  generalize w9.heap.size = g20 at *
                  refine lastG 21 rfl (by kernel_rfl) (by kernel_rfl) (fun K hK => ?_)
                  obtain ⟨v21, w11, hr, hU11, _⟩ := hU10.appO HVi.out Hoo.out f20_10 (by omega)
                  go_wp2_with (at_builtin; refine list_run rfl (.tmp 66) (.tmp 68) 42 rfl _ _ _ rfl rfl hr ?_)
                  refine hK _ _ ?_
                  clear hK hr hU10 hX10 f20_10 hSS10
                  refine takeW 22 (v := ?v17) rfl (by kernel_rfl) (by kernel_rfl) (by kernel_rfl) (by kernel_rfl) (fun _ _ _ h => h) (.inl (by kernel_rfl)) (.inl ⟨by rfl, fun w => ?hy17⟩) ?rest17
                  case hy17 => (go_simp <;> with_reducible rfl)
                  simp only [Go.Act.put, List.setIfInBounds_toArray, List.set_cons_zero, List.set_cons_succ]
                  refine takeW 23 (v := ?v18) rfl (by kernel_rfl) (by kernel_rfl) (by kernel_rfl) (by kernel_rfl) (fun _ _ _ h => h) (.inl (by kernel_rfl)) (.inl ⟨by rfl, fun w => ?hy18⟩) ?rest18
                  case hy18 => (go_simp <;> with_reducible rfl)
                  simp only [Go.Act.put, List.setIfInBounds_toArray, List.set_cons_zero, List.set_cons_succ]
                  refine takeW 24 (v := ?v19) rfl (by kernel_rfl) (by kernel_rfl) (by kernel_rfl) (by kernel_rfl) (fun _ _ _ h => h) (.inl (by kernel_rfl)) (.inl ⟨by rfl, fun w => ?hy19⟩) ?rest19
                  case hy19 => (go_simp <;> with_reducible rfl)
                  simp only [Go.Act.put, List.setIfInBounds_toArray, List.set_cons_zero, List.set_cons_succ]
                  refine doneG (by kernel_rfl) ?_ _
                  go_wp2
                  go_roundw
                  case rel => exact ⟨i + 1, _, _, _, V2, by omega, by go_num, rfl, rfl, rfl, HK2, by rw [HO2.out]; exact hU11⟩
                  case measure => simp [intOf]; omega
                · go_wp2_with fail
                  have hU9 := hU8.alloc (.cells #[.slice vo.aN oo.nN vo.cN, .slice vo.aW oo.nW vo.cW, .slice vo.aS oo.nS vo.cS, .slice vo.aT oo.nT vo.cT] 93)
                  have hX9 := hX8.later ((Below.refl _ _).alloc (Nat.le_refl _) (.cells #[.slice vo.aN oo.nN vo.cN, .slice vo.aW oo.nW vo.cW, .slice vo.aS oo.nS vo.cS, .slice vo.aT oo.nT vo.cT] 93))
                  have f16_9 := f16_8.later ((Below.refl _ _).alloc (Nat.le_refl _) (.cells #[.slice vo.aN oo.nN vo.cN, .slice vo.aW oo.nW vo.cW, .slice vo.aS oo.nS vo.cS, .slice vo.aT oo.nT vo.cT] 93))
                  have f20_9 := Fr.new w8 93 #[.slice vo.aN oo.nN vo.cN, .slice vo.aW oo.nW vo.cW, .slice vo.aS oo.nS vo.cS, .slice vo.aT oo.nT vo.cT]
                  have hSS9 := mkS _ hU9.low hX9
                  refine hK _ _ hSS9 ?_
                  clear hK hU8 hX8 f16_8 hSS8
                  generalize w8.alloc (.cells #[.slice vo.aN oo.nN vo.cN, .slice vo.aW oo.nW vo.cW, .slice vo.aS oo.nS vo.cS, .slice vo.aT oo.nT vo.cT] 93) = w9 at *
                  generalize w8.heap.size = g20 at *
                  refine onlyG 17 rfl (by kernel_rfl) (fun K hK => ?_)
                  obtain ⟨v17, w10, hr, hU10, hk, _⟩ := hU9.appB f16_9 (by omega)
                  go_wp2_with (at_builtin; refine list_run rfl (.tmp 57) (.tmp 64) 45 rfl _ _ _ rfl rfl hr ?_)
                  have hX10 := hk _ _ _ hX9 (by decide)
                  have f20_10 := hk _ _ _ f20_9 (by decide)
                  have hSS10 := mkS _ hU10.low hX10
                  refine hK _ _ hSS10 ?_
                  clear hK hr hk hU9 hX9 hSS9 f16_9 f20_9
                  refine lastG 21 rfl (by kernel_rfl) (by kernel_rfl) (fun K hK => ?_)
                  obtain ⟨v21, w11, hr, hU11, _⟩ := hU10.appO HVi.out Hoo.out f20_10 (by omega)
                  go_wp2_with (at_builtin; refine list_run rfl (.tmp 66) (.tmp 68) 42 rfl _ _ _ rfl rfl hr ?_)
                  refine hK _ _ ?_
                  clear hK hr hU10 hX10 f20_10 hSS10
                  refine takeW 22 (v := ?v21) rfl (by kernel_rfl) (by kernel_rfl) (by kernel_rfl) (by kernel_rfl) (fun _ _ _ h => h) (.inl (by kernel_rfl)) (.inl ⟨by rfl, fun w => ?hy21⟩) ?rest21
                  case hy21 => (go_simp <;> with_reducible rfl)
                  simp only [Go.Act.put, List.setIfInBounds_toArray, List.set_cons_zero, List.set_cons_succ]
                  refine takeW 23 (v := ?v22) rfl (by kernel_rfl) (by kernel_rfl) (by kernel_rfl) (by kernel_rfl) (fun _ _ _ h => h) (.inl (by kernel_rfl)) (.inl ⟨by rfl, fun w => ?hy22⟩) ?rest22
                  case hy22 => (go_simp <;> with_reducible rfl)
                  simp only [Go.Act.put, List.setIfInBounds_toArray, List.set_cons_zero, List.set_cons_succ]
                  refine takeW 24 (v := ?v23) rfl (by kernel_rfl) (by kernel_rfl) (by kernel_rfl) (by kernel_rfl) (fun _ _ _ h => h) (.inl (by kernel_rfl)) (.inl ⟨by rfl, fun w => ?hy23⟩) ?rest23
                  case hy23 => (go_simp <;> with_reducible rfl)
                  simp only [Go.Act.put, List.setIfInBounds_toArray, List.set_cons_zero, List.set_cons_succ]
                  refine doneG (by kernel_rfl) ?_ _
                  go_wp2
                  go_roundw
                  case rel => exact ⟨i + 1, _, _, _, V2, by omega, by go_num, rfl, rfl, rfl, HK2, by rw [HO2.out]; exact hU11⟩
                  case measure => simp [intOf]; omega
              · go_wp2_with fail
                have hU8 := hU7.alloc (.cells #[.slice vo.aN oo.nN vo.cN, .slice vo.aW oo.nW vo.cW, .slice vo.aS oo.nS vo.cS, .slice vo.aT oo.nT vo.cT] 93)
                have hX8 := hX7.later ((Below.refl _ _).alloc (Nat.le_refl _) (.cells #[.slice vo.aN oo.nN vo.cN, .slice vo.aW oo.nW vo.cW, .slice vo.aS oo.nS vo.cS, .slice vo.aT oo.nT vo.cT] 93))
                have f20_8 := Fr.new w7 93 #[.slice vo.aN oo.nN vo.cN, .slice vo.aW oo.nW vo.cW, .slice vo.aS oo.nS vo.cS, .slice vo.aT oo.nT vo.cT]
                have hSS8 := mkS _ hU8.low hX8
                refine hK _ _ hSS8 ?_
                clear hK hU7 hX7  hSS7
                generalize w7.alloc (.cells #[.slice vo.aN oo.nN vo.cN, .slice vo.aW oo.nW vo.cW, .slice vo.aS oo.nS vo.cS, .slice vo.aT oo.nT vo.cT] 93) = w8 at *
                generalize w7.heap.size = g20 at *
                refine onlyG 16 rfl (by kernel_rfl) (fun K hK => ?_)
                go_wp2_with fail
                have hU9 := hU8.alloc (.cells #[.int .i64 (b i)] 3)
                have hX9 := hX8.later ((Below.refl _ _).alloc (Nat.le_refl _) (.cells #[.int .i64 (b i)] 3))
                have f20_9 := f20_8.later ((Below.refl _ _).alloc (Nat.le_refl _) (.cells #[.int .i64 (b i)] 3))
                have f16_9 := Fr.new w8 3 #[.int .i64 (b i)]
                have hSS9 := mkS _ hU9.low hX9
                refine hK _ _ hSS9 ?_
                clear hK hU8 hX8 f20_8 hSS8
                generalize w8.alloc (.cells #[.int .i64 (b i)] 3) = w9 at *
                generalize w8.heap.size = g16 at *
                refine onlyG 17 rfl (by kernel_rfl) (fun K hK => ?_)
                obtain ⟨v17, w10, hr, hU10, hk, _⟩ := hU9.appB f16_9 (by omega)
                go_wp2_with (at_builtin; refine list_run rfl (.tmp 57) (.tmp 64) 45 rfl _ _ _ rfl rfl hr ?_)
                have hX10 := hk _ _ _ hX9 (by decide)
                have f20_10 := hk _ _ _ f20_9 (by decide)
                have hSS10 := mkS _ hU10.low hX10
                refine hK _ _ hSS10 ?_
                clear hK hr hk hU9 hX9 hSS9 f16_9 f20_9
                refine lastG 21 rfl (by kernel_rfl) (by kernel_rfl) (fun K hK => ?_)
                obtain ⟨v21, w11, hr, hU11, _⟩ := hU10.appO HVi.out Hoo.out f20_10 (by omega)
                go_wp2_with (at_builtin; refine list_run rfl (.tmp 66) (.tmp 68) 42 rfl _ _ _ rfl rfl hr ?_)
                refine hK _ _ ?_
                clear hK hr hU10 hX10 f20_10 hSS10
                refine takeW 22 (v := ?v25) rfl (by kernel_rfl) (by kernel_rfl) (by kernel_rfl) (by kernel_rfl) (fun _ _ _ h => h) (.inl (by kernel_rfl)) (.inl ⟨by rfl, fun w => ?hy25⟩) ?rest25
                case hy25 => (go_simp <;> with_reducible rfl)
                simp only [Go.Act.put, List.setIfInBounds_toArray, List.set_cons_zero, List.set_cons_succ]
                refine takeW 23 (v := ?v26) rfl (by kernel_rfl) (by kernel_rfl) (by kernel_rfl) (by kernel_rfl) (fun _ _ _ h => h) (.inl (by kernel_rfl)) (.inl ⟨by rfl, fun w => ?hy26⟩) ?rest26
                case hy26 => (go_simp <;> with_reducible rfl)
                simp only [Go.Act.put, List.setIfInBounds_toArray, List.set_cons_zero, List.set_cons_succ]
                refine takeW 24 (v := ?v27) rfl (by kernel_rfl) (by kernel_rfl) (by kernel_rfl) (by kernel_rfl) (fun _ _ _ h => h) (.inl (by kernel_rfl)) (.inl ⟨by rfl, fun w => ?hy27⟩) ?rest27
                case hy27 => (go_simp <;> with_reducible rfl)
                simp only [Go.Act.put, List.setIfInBounds_toArray, List.set_cons_zero, List.set_cons_succ]
                refine doneG (by kernel_rfl) ?_ _
                go_wp2
                go_roundw
                case rel => exact ⟨i + 1, _, _, _, V2, by omega, by go_num, rfl, rfl, rfl, HK2, by rw [HO2.out]; exact hU11⟩
                case measure => simp [intOf]; omega
            · go_wp2_with fail
              have hU7 := hU6.alloc (.cells #[.int .i64 (b i)] 3)
              have hX7 := hX6.later ((Below.refl _ _).alloc (Nat.le_refl _) (.cells #[.int .i64 (b i)] 3))
              have f7_7 := f7_6.later ((Below.refl _ _).alloc (Nat.le_refl _) (.cells #[.int .i64 (b i)] 3))
              have f16_7 := Fr.new w6 3 #[.int .i64 (b i)]
              have hSS7 := mkS _ hU7.low hX7
              refine hK _ _ hSS7 ?_
              clear hK hU6 hX6 f7_6 hSS6
              generalize w6.alloc (.cells #[.int .i64 (b i)] 3) = w7 at *
              generalize w6.heap.size = g16 at *
              refine readyG [8, 20] (by kernel_rfl) (by simp) (allG_cons 8 rfl (fun K hK => ?_) (allG_cons 20 rfl (fun K hK => ?_) allG_nil))
              · obtain ⟨v8, w8, hr, hU8, hk, _⟩ := hU7.appN f7_7 (by omega)
                go_wp2_with (at_builtin; refine list_run rfl (.tmp 48) (.tmp 55) 41 rfl _ _ _ rfl rfl hr ?_)
                have hX8 := hk _ _ _ hX7 (by decide)
                have f16_8 := hk _ _ _ f16_7 (by decide)
                have hSS8 := mkS _ hU8.low hX8
                refine hK _ _ hSS8 ?_
                clear hK hr hk hU7 hX7 hSS7 f7_7 f16_7
                refine readyG [17, 20] (by kernel_rfl) (by simp) (allG_cons 17 rfl (fun K hK => ?_) (allG_cons 20 rfl (fun K hK => ?_) allG_nil))
                · obtain ⟨v17, w9, hr, hU9, hk, _⟩ := hU8.appB f16_8 (by omega)
                  go_wp2_with (at_builtin; refine list_run rfl (.tmp 57) (.tmp 64) 45 rfl _ _ _ rfl rfl hr ?_)
                  have hX9 := hk _ _ _ hX8 (by decide)
                  have hSS9 := mkS _ hU9.low hX9
                  refine hK _ _ hSS9 ?_
                  clear hK hr hk hU8 hX8 hSS8 f16_8
                  refine onlyG 20 rfl (by kernel_rfl) (fun K hK => ?_)
                  go_wp2_with fail
                  have hU10 := hU9.alloc (.cells #[.slice vo.aN oo.nN vo.cN, .slice vo.aW oo.nW vo.cW, .slice vo.aS oo.nS vo.cS, .slice vo.aT oo.nT vo.cT] 93)
                  have hX10 := hX9.later ((Below.refl _ _).alloc (Nat.le_refl _) (.cells #[.slice vo.aN oo.nN vo.cN, .slice vo.aW oo.nW vo.cW, .slice vo.aS oo.nS vo.cS, .slice vo.aT oo.nT vo.cT] 93))
                  have f20_10 := Fr.new w9 93 #[.slice vo.aN oo.nN vo.cN, .slice vo.aW oo.nW vo.cW, .slice vo.aS oo.nS vo.cS, .slice vo.aT oo.nT vo.cT]
                  have hSS10 := mkS _ hU10.low hX10
                  refine hK _ _ hSS10 ?_
                  clear hK hU9 hX9  hSS9
                  generalize w9.alloc (.cells #[.slice vo.aN oo.nN vo.cN, .slice vo.aW oo.nW vo.cW, .slice vo.aS oo.nS vo.cS, .slice vo.aT oo.nT vo.cT] 93) = w10 at *
                  generalize w9.heap.size = g20 at *
                  refine lastG 21 rfl (by kernel_rfl) (by kernel_rfl) (fun K hK => ?_)
                  obtain ⟨v21, w11, hr, hU11, _⟩ := hU10.appO HVi.out Hoo.out f20_10 (by omega)
                  go_wp2_with (at_builtin; refine list_run rfl (.tmp 66) (.tmp 68) 42 rfl _ _ _ rfl rfl hr ?_)
                  refine hK _ _ ?_
                  clear hK hr hU10 hX10 f20_10 hSS10
                  refine takeW 22 (v := ?v29) rfl (by kernel_rfl) (by kernel_rfl) (by kernel_rfl) (by kernel_rfl) (fun _ _ _ h => h) (.inl (by kernel_rfl)) (.inl ⟨by rfl, fun w => ?hy29⟩) ?rest29
                  case hy29 => (go_simp <;> with_reducible rfl)
                  simp only [Go.Act.put, List.setIfInBounds_toArray, List.set_cons_zero, List.set_cons_succ]
                  refine takeW 23 (v := ?v30) rfl (by kernel_rfl) (by kernel_rfl) (by kernel_rfl) (by kernel_rfl) (fun _ _ _ h => h) (.inl (by kernel_rfl)) (.inl ⟨by rfl, fun w => ?hy30⟩) ?rest30
                  case hy30 => (go_simp <;> with_reducible rfl)
                  simp only [Go.Act.put, List.setIfInBounds_toArray, List.set_cons_zero, List.set_cons_succ]
                  refine takeW 24 (v := ?v31) rfl (by kernel_rfl) (by kernel_rfl) (by kernel_rfl) (by kernel_rfl) (fun _ _ _ h => h) (.inl (by kernel_rfl)) (.inl ⟨by rfl, fun w => ?hy31⟩) ?rest31
                  case hy31 => (go_simp <;> with_reducible rfl)
                  simp only [Go.Act.put, List.setIfInBounds_toArray, List.set_cons_zero, List.set_cons_succ]
                  refine doneG (by kernel_rfl) ?_ _
                  go_wp2
                  go_roundw
                  case rel => exact ⟨i + 1, _, _, _, V2, by omega, by go_num, rfl, rfl, rfl, HK2, by rw [HO2.out]; exact hU11⟩
                  case measure => simp [intOf]; omega
                · go_wp2_with fail
                  have hU9 := hU8.alloc (.cells #[.slice vo.aN oo.nN vo.cN, .slice vo.aW oo.nW vo.cW, .slice vo.aS oo.nS vo.cS, .slice vo.aT oo.nT vo.cT] 93)
                  have hX9 := hX8.later ((Below.refl _ _).alloc (Nat.le_refl _) (.cells #[.slice vo.aN oo.nN vo.cN, .slice vo.aW oo.nW vo.cW, .slice vo.aS oo.nS vo.cS, .slice vo.aT oo.nT vo.cT] 93))
                  have f16_9 := f16_8.later ((Below.refl _ _).alloc (Nat.le_refl _) (.cells #[.slice vo.aN oo.nN vo.cN, .slice vo.aW oo.nW vo.cW, .slice vo.aS oo.nS vo.cS, .slice vo.aT oo.nT vo.cT] 93))
                  have f20_9 := Fr.new w8 93 #[.slice vo.aN oo.nN vo.cN, .slice vo.aW oo.nW vo.cW, .slice vo.aS oo.nS vo.cS, .slice vo.aT oo.nT vo.cT]
                  have hSS9 := mkS _ hU9.low hX9
                  refine hK _ _ hSS9 ?_
                  clear hK hU8 hX8 f16_8 hSS8
                  generalize w8.alloc (.cells #[.slice vo.aN oo.nN vo.cN, .slice vo.aW oo.nW vo.cW, .slice vo.aS oo.nS vo.cS, .slice vo.aT oo.nT vo.cT] 93) = w9 at *
                  generalize w8.heap.size = g20 at *
                  refine onlyG 17 rfl (by kernel_rfl) (fun K hK => ?_)
                  obtain ⟨v17, w10, hr, hU10, hk, _⟩ := hU9.appB f16_9 (by omega)
                  go_wp2_with (at_builtin; refine list_run rfl (.tmp 57) (.tmp 64) 45 rfl _ _ _ rfl rfl hr ?_)
                  have hX10 := hk _ _ _ hX9 (by decide)
                  have f20_10 := hk _ _ _ f20_9 (by decide)
                  have hSS10 := mkS _ hU10.low hX10
                  refine hK _ _ hSS10 ?_
                  clear hK hr hk hU9 hX9 hSS9 f16_9 f20_9
                  refine lastG 21 rfl (by kernel_rfl) (by kernel_rfl) (fun K hK => ?_)
                  obtain ⟨v21, w11, hr, hU11, _⟩ := hU10.appO HVi.out Hoo.out f20_10 (by omega)
                  go_wp2_with (at_builtin; refine list_run rfl (.tmp 66) (.tmp 68) 42 rfl _ _ _ rfl rfl hr ?_)
                  refine hK _ _ ?_
                  clear hK hr hU10 hX10 f20_10 hSS10
                  refine takeW 22 (v := ?v33) rfl (by kernel_rfl) (by kernel_rfl) (by kernel_rfl) (by kernel_rfl) (fun _ _ _ h => h) (.inl (by kernel_rfl)) (.inl ⟨by rfl, fun w => ?hy33⟩) ?rest33
                  case hy33 => (go_simp <;> with_reducible rfl)
                  simp only [Go.Act.put, List.setIfInBounds_toArray, List.set_cons_zero, List.set_cons_succ]
                  refine takeW 23 (v := ?v34) rfl (by kernel_rfl) (by kernel_rfl) (by kernel_rfl) (by kernel_rfl) (fun _ _ _ h => h) (.inl (by kernel_rfl)) (.inl ⟨by rfl, fun w => ?hy34⟩) ?rest34
                  case hy34 => (go_simp <;> with_reducible rfl)
                  simp only [Go.Act.put, List.setIfInBounds_toArray, List.set_cons_zero, List.set_cons_succ]
                  refine takeW 24 (v := ?v35) rfl (by kernel_rfl) (by kernel_rfl) (by kernel_rfl) (by kernel_rfl) (fun _ _ _ h => h) (.inl (by kernel_rfl)) (.inl ⟨by rfl, fun w => ?hy35⟩) ?rest35
                  case hy35 => (go_simp <;> with_reducible rfl)
                  simp only [Go.Act.put, List.setIfInBounds_toArray, List.set_cons_zero, List.set_cons_succ]
                  refine doneG (by kernel_rfl) ?_ _
                  go_wp2
                  go_roundw
                  case rel => exact ⟨i + 1, _, _, _, V2, by omega, by go_num, rfl, rfl, rfl, HK2, by rw [HO2.out]; exact hU11⟩
                  case measure => simp [intOf]; omega
              · go_wp2_with fail
                have hU8 := hU7.alloc (.cells #[.slice vo.aN oo.nN vo.cN, .slice vo.aW oo.nW vo.cW, .slice vo.aS oo.nS vo.cS, .slice vo.aT oo.nT vo.cT] 93)
                have hX8 := hX7.later ((Below.refl _ _).alloc (Nat.le_refl _) (.cells #[.slice vo.aN oo.nN vo.cN, .slice vo.aW oo.nW vo.cW, .slice vo.aS oo.nS vo.cS, .slice vo.aT oo.nT vo.cT] 93))
                have f7_8 := f7_7.later ((Below.refl _ _).alloc (Nat.le_refl _) (.cells #[.slice vo.aN oo.nN vo.cN, .slice vo.aW oo.nW vo.cW, .slice vo.aS oo.nS vo.cS, .slice vo.aT oo.nT vo.cT] 93))
                have f16_8 := f16_7.later ((Below.refl _ _).alloc (Nat.le_refl _) (.cells #[.slice vo.aN oo.nN vo.cN, .slice vo.aW oo.nW vo.cW, .slice vo.aS oo.nS vo.cS, .slice vo.aT oo.nT vo.cT] 93))
                have f20_8 := Fr.new w7 93 #[.slice vo.aN oo.nN vo.cN, .slice vo.aW oo.nW vo.cW, .slice vo.aS oo.nS vo.cS, .slice vo.aT oo.nT vo.cT]
                have hSS8 := mkS _ hU8.low hX8
                refine hK _ _ hSS8 ?_
                clear hK hU7 hX7 f7_7 f16_7 hSS7
                generalize w7.alloc (.cells #[.slice vo.aN oo.nN vo.cN, .slice vo.aW oo.nW vo.cW, .slice vo.aS oo.nS vo.cS, .slice vo.aT oo.nT vo.cT] 93) = w8 at *
                generalize w7.heap.size = g20 at *
                refine onlyG 8 rfl (by kernel_rfl) (fun K hK => ?_)
                obtain ⟨v8, w9, hr, hU9, hk, _⟩ := hU8.appN f7_8 (by omega)
                go_wp2_with (at_builtin; refine list_run rfl (.tmp 48) (.tmp 55) 41 rfl _ _ _ rfl rfl hr ?_)
                have hX9 := hk _ _ _ hX8 (by decide)
                have f16_9 := hk _ _ _ f16_8 (by decide)
                have f20_9 := hk _ _ _ f20_8 (by decide)
                have hSS9 := mkS _ hU9.low hX9
                refine hK _ _ hSS9 ?_
                clear hK hr hk hU8 hX8 hSS8 f7_8 f16_8 f20_8
                refine onlyG 17 rfl (by kernel_rfl) (fun K hK => ?_)
                obtain ⟨v17, w10, hr, hU10, hk, _⟩ := hU9.appB f16_9 (by omega)
                go_wp2_with (at_builtin; refine list_run rfl (.tmp 57) (.tmp 64) 45 rfl _ _ _ rfl rfl hr ?_)
                have hX10 := hk _ _ _ hX9 (by decide)
                have f20_10 := hk _ _ _ f20_9 (by decide)
                have hSS10 := mkS _ hU10.low hX10
                refine hK _ _ hSS10 ?_
                clear hK hr hk hU9 hX9 hSS9 f16_9 f20_9
                refine lastG 21 rfl (by kernel_rfl) (by kernel_rfl) (fun K hK => ?_)
                obtain ⟨v21, w11, hr, hU11, _⟩ := hU10.appO HVi.out Hoo.out f20_10 (by omega)
                go_wp2_with (at_builtin; refine list_run rfl (.tmp 66) (.tmp 68) 42 rfl _ _ _ rfl rfl hr ?_)
                refine hK _ _ ?_
                clear hK hr hU10 hX10 f20_10 hSS10
                refine takeW 22 (v := ?v37) rfl (by kernel_rfl) (by kernel_rfl) (by kernel_rfl) (by kernel_rfl) (fun _ _ _ h => h) (.inl (by kernel_rfl)) (.inl ⟨by rfl, fun w => ?hy37⟩) ?rest37
                case hy37 => (go_simp <;> with_reducible rfl)
                simp only [Go.Act.put, List.setIfInBounds_toArray, List.set_cons_zero, List.set_cons_succ]
                refine takeW 23 (v := ?v38) rfl (by kernel_rfl) (by kernel_rfl) (by kernel_rfl) (by kernel_rfl) (fun _ _ _ h => h) (.inl (by kernel_rfl)) (.inl ⟨by rfl, fun w => ?hy38⟩) ?rest38
                case hy38 => (go_simp <;> with_reducible rfl)
                simp only [Go.Act.put, List.setIfInBounds_toArray, List.set_cons_zero, List.set_cons_succ]
                refine takeW 24 (v := ?v39) rfl (by kernel_rfl) (by kernel_rfl) (by kernel_rfl) (by kernel_rfl) (fun _ _ _ h => h) (.inl (by kernel_rfl)) (.inl ⟨by rfl, fun w => ?hy39⟩) ?rest39
                case hy39 => (go_simp <;> with_reducible rfl)
                simp only [Go.Act.put, List.setIfInBounds_toArray, List.set_cons_zero, List.set_cons_succ]
                refine doneG (by kernel_rfl) ?_ _
                go_wp2
                go_roundw
                case rel => exact ⟨i + 1, _, _, _, V2, by omega, by go_num, rfl, rfl, rfl, HK2, by rw [HO2.out]; exact hU11⟩
                case measure => simp [intOf]; omega
            · go_wp2_with fail
              have hU7 := hU6.alloc (.cells #[.slice vo.aN oo.nN vo.cN, .slice vo.aW oo.nW vo.cW, .slice vo.aS oo.nS vo.cS, .slice vo.aT oo.nT vo.cT] 93)
              have hX7 := hX6.later ((Below.refl _ _).alloc (Nat.le_refl _) (.cells #[.slice vo.aN oo.nN vo.cN, .slice vo.aW oo.nW vo.cW, .slice vo.aS oo.nS vo.cS, .slice vo.aT oo.nT vo.cT] 93))
              have f7_7 := f7_6.later ((Below.refl _ _).alloc (Nat.le_refl _) (.cells #[.slice vo.aN oo.nN vo.cN, .slice vo.aW oo.nW vo.cW, .slice vo.aS oo.nS vo.cS, .slice vo.aT oo.nT vo.cT] 93))
              have f20_7 := Fr.new w6 93 #[.slice vo.aN oo.nN vo.cN, .slice vo.aW oo.nW vo.cW, .slice vo.aS oo.nS vo.cS, .slice vo.aT oo.nT vo.cT]
              have hSS7 := mkS _ hU7.low hX7
              refine hK _ _ hSS7 ?_
              clear hK hU6 hX6 f7_6 hSS6
              generalize w6.alloc (.cells #[.slice vo.aN oo.nN vo.cN, .slice vo.aW oo.nW vo.cW, .slice vo.aS oo.nS vo.cS, .slice vo.aT oo.nT vo.cT] 93) = w7 at *
              generalize w6.heap.size = g20 at *
              refine readyG [8, 16] (by kernel_rfl) (by simp) (allG_cons 8 rfl (fun K hK => ?_) (allG_cons 16 rfl (fun K hK => ?_) allG_nil))
              · obtain ⟨v8, w8, hr, hU8, hk, _⟩ := hU7.appN f7_7 (by omega)
                go_wp2_with (at_builtin; refine list_run rfl (.tmp 48) (.tmp 55) 41 rfl _ _ _ rfl rfl hr ?_)
                have hX8 := hk _ _ _ hX7 (by decide)
                have f20_8 := hk _ _ _ f20_7 (by decide)
                have hSS8 := mkS _ hU8.low hX8
                refine hK _ _ hSS8 ?_
                clear hK hr hk hU7 hX7 hSS7 f7_7 f20_7
                refine onlyG 16 rfl (by kernel_rfl) (fun K hK => ?_)
                go_wp2_with fail
                have hU9 := hU8.alloc (.cells #[.int .i64 (b i)] 3)
                have hX9 := hX8.later ((Below.refl _ _).alloc (Nat.le_refl _) (.cells #[.int .i64 (b i)] 3))
                have f20_9 := f20_8.later ((Below.refl _ _).alloc (Nat.le_refl _) (.cells #[.int .i64 (b i)] 3))
                have f16_9 := Fr.new w8 3 #[.int .i64 (b i)]
                have hSS9 := mkS _ hU9.low hX9
                refine hK _ _ hSS9 ?_
                clear hK hU8 hX8 f20_8 hSS8
                generalize w8.alloc (.cells #[.int .i64 (b i)] 3) = w9 at *
                generalize w8.heap.size = g16 at *
                refine onlyG 17 rfl (by kernel_rfl) (fun K hK => ?_)
                obtain ⟨v17, w10, hr, hU10, hk, _⟩ := hU9.appB f16_9 (by omega)
                go_wp2_with (at_builtin; refine list_run rfl (.tmp 57) (.tmp 64) 45 rfl _ _ _ rfl rfl hr ?_)
                have hX10 := hk _ _ _ hX9 (by decide)
                have f20_10 := hk _ _ _ f20_9 (by decide)
                have hSS10 := mkS _ hU10.low hX10
                refine hK _ _ hSS10 ?_
                clear hK hr hk hU9 hX9 hSS9 f16_9 f20_9
                refine lastG 21 rfl (by kernel_rfl) (by kernel_rfl) (fun K hK => ?_)
                obtain ⟨v21, w11, hr, hU11, _⟩ := hU10.appO HVi.out Hoo.out f20_10 (by omega)
                go_wp2_with (at_builtin; refine list_run rfl (.tmp 66) (.tmp 68) 42 rfl _ _ _ rfl rfl hr ?_)
                refine hK _ _ ?_
                clear hK hr hU10 hX10 f20_10 hSS10
                refine takeW 22 (v := ?v41) rfl (by kernel_rfl) (by kernel_rfl) (by kernel_rfl) (by kernel_rfl) (fun _ _ _ h => h) (.inl (by kernel_rfl)) (.inl ⟨by rfl, fun w => ?hy41⟩) ?rest41
                case hy41 => (go_simp <;> with_reducible rfl)
                simp only [Go.Act.put, List.setIfInBounds_toArray, List.set_cons_zero, List.set_cons_succ]
                refine takeW 23 (v := ?v42) rfl (by kernel_rfl) (by kernel_rfl) (by kernel_rfl) (by kernel_rfl) (fun _ _ _ h => h) (.inl (by kernel_rfl)) (.inl ⟨by rfl, fun w => ?hy42⟩) ?rest42
                case hy42 => (go_simp <;> with_reducible rfl)
                simp only [Go.Act.put, List.setIfInBounds_toArray, List.set_cons_zero, List.set_cons_succ]
                refine takeW 24 (v := ?v43) rfl (by kernel_rfl) (by kernel_rfl) (by kernel_rfl) (by kernel_rfl) (fun _ _ _ h => h) (.inl (by kernel_rfl)) (.inl ⟨by rfl, fun w => ?hy43⟩) ?rest43
                case hy43 => (go_simp <;> with_reducible rfl)
                simp only [Go.Act.put, List.setIfInBounds_toArray, List.set_cons_zero, List.set_cons_succ]
                refine doneG (by kernel_rfl) ?_ _
                go_wp2
                go_roundw
                case rel => exact ⟨i + 1, _, _, _, V2, by omega, by go_num, rfl, rfl, rfl, HK2, by rw [HO2.out]; exact hU11⟩
                case measure => simp [intOf]; omega
              · go_wp2_with fail
                have hU8 := hU7.alloc (.cells #[.int .i64 (b i)] 3)
                have hX8 := hX7.later ((Below.refl _ _).alloc (Nat.le_refl _) (.cells #[.int .i64 (b i)] 3))
                have f7_8 := f7_7.later ((Below.refl _ _).alloc (Nat.le_refl _) (.cells #[.int .i64 (b i)] 3))
                have f20_8 := f20_7.later ((Below.refl _ _).alloc (Nat.le_refl _) (.cells #[.int .i64 (b i)] 3))
                have f16_8 := Fr.new w7 3 #[.int .i64 (b i)]
                have hSS8 := mkS _ hU8.low hX8
                refine hK _ _ hSS8 ?_
                clear hK hU7 hX7 f7_7 f20_7 hSS7
                generalize w7.alloc (.cells #[.int .i64 (b i)] 3) = w8 at *
                generalize w7.heap.size = g16 at *
                refine onlyG 8 rfl (by kernel_rfl) (fun K hK => ?_)
                obtain ⟨v8, w9, hr, hU9, hk, _⟩ := hU8.appN f7_8 (by omega)
                go_wp2_with (at_builtin; refine list_run rfl (.tmp 48) (.tmp 55) 41 rfl _ _ _ rfl rfl hr ?_)
                have hX9 := hk _ _ _ hX8 (by decide)
                have f16_9 := hk _ _ _ f16_8 (by decide)
                have f20_9 := hk _ _ _ f20_8 (by decide)
                have hSS9 := mkS _ hU9.low hX9
                refine hK _ _ hSS9 ?_
                clear hK hr hk hU8 hX8 hSS8 f7_8 f16_8 f20_8
                refine onlyG 17 rfl (by kernel_rfl) (fun K hK => ?_)
                obtain ⟨v17, w10, hr, hU10, hk, _⟩ := hU9.appB f16_9 (by omega)
                go_wp2_with (at_builtin; refine list_run rfl (.tmp 57) (.tmp 64) 45 rfl _ _ _ rfl rfl hr ?_)
                have hX10 := hk _ _ _ hX9 (by decide)
                have f20_10 := hk _ _ _ f20_9 (by decide)
                have hSS10 := mkS _ hU10.low hX10
                refine hK _ _ hSS10 ?_
                clear hK hr hk hU9 hX9 hSS9 f16_9 f20_9
                refine lastG 21 rfl (by kernel_rfl) (by kernel_rfl) (fun K hK => ?_)
                obtain ⟨v21, w11, hr, hU11, _⟩ := hU10.appO HVi.out Hoo.out f20_10 (by omega)
                go_wp2_with (at_builtin; refine list_run rfl (.tmp 66) (.tmp 68) 42 rfl _ _ _ rfl rfl hr ?_)
                refine hK _ _ ?_
                clear hK hr hU10 hX10 f20_10 hSS10
                refine takeW 22 (v := ?v45) rfl (by kernel_rfl) (by kernel_rfl) (by kernel_rfl) (by kernel_rfl) (fun _ _ _ h => h) (.inl (by kernel_rfl)) (.inl ⟨by rfl, fun w => ?hy45⟩) ?rest45
                case hy45 => (go_simp <;> with_reducible rfl)
                simp only [Go.Act.put, List.setIfInBounds_toArray, List.set_cons_zero, List.set_cons_succ]
                refine takeW 23 (v := ?v46) rfl (by kernel_rfl) (by kernel_rfl) (by kernel_rfl) (by kernel_rfl) (fun _ _ _ h => h) (.inl (by kernel_rfl)) (.inl ⟨by rfl, fun w => ?hy46⟩) ?rest46
                case hy46 => (go_simp <;> with_reducible rfl)
                simp only [Go.Act.put, List.setIfInBounds_toArray, List.set_cons_zero, List.set_cons_succ]
                refine takeW 24 (v := ?v47) rfl (by kernel_rfl) (by kernel_rfl) (by kernel_rfl) (by kernel_rfl) (fun _ _ _ h => h) (.inl (by kernel_rfl)) (.inl ⟨by rfl, fun w => ?hy47⟩) ?rest47
                case hy47 => (go_simp <;> with_reducible rfl)
                simp only [Go.Act.put, List.setIfInBounds_toArray, List.set_cons_zero, List.set_cons_succ]
                refine doneG (by kernel_rfl) ?_ _
                go_wp2
                go_roundw
                case rel => exact ⟨i + 1, _, _, _, V2, by omega, by go_num, rfl, rfl, rfl, HK2, by rw [HO2.out]; exact hU11⟩
                case measure => simp [intOf]; omega
          · go_wp2_with fail
            have hU6 := hU5.alloc (.cells #[.int .i64 (b i)] 3)
            have hX6 := hX5.later ((Below.refl _ _).alloc (Nat.le_refl _) (.cells #[.int .i64 (b i)] 3))
            have f16_6 := Fr.new w5 3 #[.int .i64 (b i)]
            have hSS6 := mkS _ hU6.low hX6
            refine hK _ _ hSS6 ?_
            clear hK hU5 hX5  hSS5
            generalize w5.alloc (.cells #[.int .i64 (b i)] 3) = w6 at *
            generalize w5.heap.size = g16 at *
            refine readyG [7, 20] (by kernel_rfl) (by simp) (allG_cons 7 rfl (fun K hK => ?_) (allG_cons 20 rfl (fun K hK => ?_) allG_nil))
            · go_wp2_with fail
              have hU7 := hU6.alloc (.cells #[.string (s i)] 9)
              have hX7 := hX6.later ((Below.refl _ _).alloc (Nat.le_refl _) (.cells #[.string (s i)] 9))
              have f16_7 := f16_6.later ((Below.refl _ _).alloc (Nat.le_refl _) (.cells #[.string (s i)] 9))
              have f7_7 := Fr.new w6 9 #[.string (s i)]
              have hSS7 := mkS _ hU7.low hX7
              refine hK _ _ hSS7 ?_
              clear hK hU6 hX6 f16_6 hSS6
              generalize w6.alloc (.cells #[.string (s i)] 9) = w7 at *
              generalize w6.heap.size = g7 at *
              refine readyG [8, 20] (by kernel_rfl) (by simp) (allG_cons 8 rfl (fun K hK => ?_) (allG_cons 20 rfl (fun K hK => ?_) allG_nil))
              · obtain ⟨v8, w8, hr, hU8, hk, _⟩ := hU7.appN f7_7 (by omega)
                go_wp2_with (at_builtin; refine list_run rfl (.tmp 48) (.tmp 55) 41 rfl _ _ _ rfl rfl hr ?_)
                have hX8 := hk _ _ _ hX7 (by decide)
                have f16_8 := hk _ _ _ f16_7 (by decide)
                have hSS8 := mkS _ hU8.low hX8
                refine hK _ _ hSS8 ?_
                clear hK hr hk hU7 hX7 hSS7 f7_7 f16_7
                refine readyG [17, 20] (by kernel_rfl) (by simp) (allG_cons 17 rfl (fun K hK => ?_) (allG_cons 20 rfl (fun K hK => ?_) allG_nil))
                · obtain ⟨v17, w9, hr, hU9, hk, _⟩ := hU8.appB f16_8 (by omega)
                  go_wp2_with (at_builtin; refine list_run rfl (.tmp 57) (.tmp 64) 45 rfl _ _ _ rfl rfl hr ?_)
                  have hX9 := hk _ _ _ hX8 (by decide)
                  have hSS9 := mkS _ hU9.low hX9
                  refine hK _ _ hSS9 ?_
                  clear hK hr hk hU8 hX8 hSS8 f16_8
                  refine onlyG 20 rfl (by kernel_rfl) (fun K hK => ?_)
                  go_wp2_with fail
                  have hU10 := hU9.alloc (.cells #[.slice vo.aN oo.nN vo.cN, .slice vo.aW oo.nW vo.cW, .slice vo.aS oo.nS vo.cS, .slice vo.aT oo.nT vo.cT] 93)
                  have hX10 := hX9.later ((Below.refl _ _).alloc (Nat.le_refl _) (.cells #[.slice vo.aN oo.nN vo.cN, .slice vo.aW oo.nW vo.cW, .slice vo.aS oo.nS vo.cS, .slice vo.aT oo.nT vo.cT] 93))
                  have f20_10 := Fr.new w9 93 #[.slice vo.aN oo.nN vo.cN, .slice vo.aW oo.nW vo.cW, .slice vo.aS oo.nS vo.cS, .slice vo.aT oo.nT vo.cT]
                  have hSS10 := mkS _ hU10.low hX10
                  refine hK _ _ hSS10 ?_
                  clear hK hU9 hX9  hSS9
                  generalize w9.alloc (.cells #[.slice vo.aN oo.nN vo.cN, .slice vo.aW oo.nW vo.cW, .slice vo.aS oo.nS vo.cS, .slice vo.aT oo.nT vo.cT] 93) = w10 at *
                  generalize w9.heap.size = g20 at *
                  refine lastG 21 rfl (by kernel_rfl) (by kernel_rfl) (fun K hK => ?_)
                  obtain ⟨v21, w11, hr, hU11, _⟩ := hU10.appO HVi.out Hoo.out f20_10 (by omega)
                  go_wp2_with (at_builtin; refine list_run rfl (.tmp 66) (.tmp 68) 42 rfl _ _ _ rfl rfl hr ?_)
                  refine hK _ _ ?_
                  clear hK hr hU10 hX10 f20_10 hSS10
                  refine takeW 22 (v := ?v49) rfl (by kernel_rfl) (by kernel_rfl) (by kernel_rfl) (by kernel_rfl) (fun _ _ _ h => h) (.inl (by kernel_rfl)) (.inl ⟨by rfl, fun w => ?hy49⟩) ?rest49
                  case hy49 => (go_simp <;> with_reducible rfl)
                  simp only [Go.Act.put, List.setIfInBounds_toArray, List.set_cons_zero, List.set_cons_succ]
                  refine takeW 23 (v := ?v50) rfl (by kernel_rfl) (by kernel_rfl) (by kernel_rfl) (by kernel_rfl) (fun _ _ _ h => h) (.inl (by kernel_rfl)) (.inl ⟨by rfl, fun w => ?hy50⟩) ?rest50
                  case hy50 => (go_simp <;> with_reducible rfl)
                  simp only [Go.Act.put, List.setIfInBounds_toArray, List.set_cons_zero, List.set_cons_succ]
                  refine takeW 24 (v := ?v51) rfl (by kernel_rfl) (by kernel_rfl) (by kernel_rfl) (by kernel_rfl) (fun _ _ _ h => h) (.inl (by kernel_rfl)) (.inl ⟨by rfl, fun w => ?hy51⟩) ?rest51
                  case hy51 => (go_simp <;> with_reducible rfl)
                  simp only [Go.Act.put, List.setIfInBounds_toArray, List.set_cons_zero, List.set_cons_succ]
                  refine doneG (by kernel_rfl) ?_ _
                  go_wp2
                  go_roundw
                  case rel => exact ⟨i + 1, _, _, _, V2, by omega, by go_num, rfl, rfl, rfl, HK2, by rw [HO2.out]; exact hU11⟩
                  case measure => simp [intOf]; omega
                · go_wp2_with fail
                  have hU9 := hU8.alloc (.cells #[.slice vo.aN oo.nN vo.cN, .slice vo.aW oo.nW vo.cW, .slice vo.aS oo.nS vo.cS, .slice vo.aT oo.nT vo.cT] 93)
                  have hX9 := hX8.later ((Below.refl _ _).alloc (Nat.le_refl _) (.cells #[.slice vo.aN oo.nN vo.cN, .slice vo.aW oo.nW vo.cW, .slice vo.aS oo.nS vo.cS, .slice vo.aT oo.nT vo.cT] 93))
                  have f16_9 := f16_8.later ((Below.refl _ _).alloc (Nat.le_refl _) (.cells #[.slice vo.aN oo.nN vo.cN, .slice vo.aW oo.nW vo.cW, .slice vo.aS oo.nS vo.cS, .slice vo.aT oo.nT vo.cT] 93))
                  have f20_9 := Fr.new w8 93 #[.slice vo.aN oo.nN vo.cN, .slice vo.aW oo.nW vo.cW, .slice vo.aS oo.nS vo.cS, .slice vo.aT oo.nT vo.cT]
                  have hSS9 := mkS _ hU9.low hX9
                  refine hK _ _ hSS9 ?_
                  clear hK hU8 hX8 f16_8 hSS8
                  generalize w8.alloc (.cells #[.slice vo.aN oo.nN vo.cN, .slice vo.aW oo.nW vo.cW, .slice vo.aS oo.nS vo.cS, .slice vo.aT oo.nT vo.cT] 93) = w9 at *
                  generalize w8.heap.size = g20 at *
                  refine onlyG 17 rfl (by kernel_rfl) (fun K hK => ?_)
                  obtain ⟨v17, w10, hr, hU10, hk, _⟩ := hU9.appB f16_9 (by omega)
                  go_wp2_with (at_builtin; refine list_run rfl (.tmp 57) (.tmp 64) 45 rfl _ _ _ rfl rfl hr ?_)
                  have hX10 := hk _ _ _ hX9 (by decide)
                  have f20_10 := hk _ _ _ f20_9 (by decide)
                  have hSS10 := mkS _ hU10.low hX10
                  refine hK _ _ hSS10 ?_
                  clear hK hr hk hU9 hX9 hSS9 f16_9 f20_9
                  refine lastG 21 rfl (by kernel_rfl) (by kernel_rfl) (fun K hK => ?_)
                  obtain ⟨v21, w11, hr, hU11, _⟩ := hU10.appO HVi.out Hoo.out f20_10 (by omega)
                  go_wp2_with (at_builtin; refine list_run rfl (.tmp 66) (.tmp 68) 42 rfl _ _ _ rfl rfl hr ?_)
                  refine hK _ _ ?_
                  clear hK hr hU10 hX10 f20_10 hSS10
                  refine takeW 22 (v := ?v53) rfl (by kernel_rfl) (by kernel_rfl) (by kernel_rfl) (by kernel_rfl) (fun _ _ _ h => h) (.inl (by kernel_rfl)) (.inl ⟨by rfl, fun w => ?hy53⟩) ?rest53
                  case hy53 => (go_simp <;> with_reducible rfl)
                  simp only [Go.Act.put, List.setIfInBounds_toArray, List.set_cons_zero, List.set_cons_succ]
                  refine takeW 23 (v := ?v54) rfl (by kernel_rfl) (by kernel_rfl) (by kernel_rfl) (by kernel_rfl) (fun _ _ _ h => h) (.inl (by kernel_rfl)) (.inl ⟨by rfl, fun w => ?hy54⟩) ?rest54
                  case hy54 => (go_simp <;> with_reducible rfl)
                  simp only [Go.Act.put, List.setIfInBounds_toArray, List.set_cons_zero, List.set_cons_succ]
                  refine takeW 24 (v := ?v55) rfl (by kernel_rfl) (by kernel_rfl) (by kernel_rfl) (by kernel_rfl) (fun _ _ _ h => h) (.inl (by kernel_rfl)) (.inl ⟨by rfl, fun w => ?hy55⟩) ?rest55
                  case hy55 => (go_simp <;> with_reducible rfl)
                  simp only [Go.Act.put, List.setIfInBounds_toArray, List.set_cons_zero, List.set_cons_succ]
                  refine doneG (by kernel_rfl) ?_ _
                  go_wp2
                  go_roundw
                  case rel => exact ⟨i + 1, _, _, _, V2, by omega, by go_num, rfl, rfl, rfl, HK2, by rw [HO2.out]; exact hU11⟩
                  case measure => simp [intOf]; omega
              · go_wp2_with fail
                have hU8 := hU7.alloc (.cells #[.slice vo.aN oo.nN vo.cN, .slice vo.aW oo.nW vo.cW, .slice vo.aS oo.nS vo.cS, .slice vo.aT oo.nT vo.cT] 93)
                have hX8 := hX7.later ((Below.refl _ _).alloc (Nat.le_refl _) (.cells #[.slice vo.aN oo.nN vo.cN, .slice vo.aW oo.nW vo.cW, .slice vo.aS oo.nS vo.cS, .slice vo.aT oo.nT vo.cT] 93))
                have f7_8 := f7_7.later ((Below.refl _ _).alloc (Nat.le_refl _) (.cells #[.slice vo.aN oo.nN vo.cN, .slice vo.aW oo.nW vo.cW, .slice vo.aS oo.nS vo.cS, .slice vo.aT oo.nT vo.cT] 93))
                have f16_8 := f16_7.later ((Below.refl _ _).alloc (Nat.le_refl _) (.cells #[.slice vo.aN oo.nN vo.cN, .slice vo.aW oo.nW vo.cW, .slice vo.aS oo.nS vo.cS, .slice vo.aT oo.nT vo.cT] 93))
                have f20_8 := Fr.new w7 93 #[.slice vo.aN oo.nN vo.cN, .slice vo.aW oo.nW vo.cW, .slice vo.aS oo.nS vo.cS, .slice vo.aT oo.nT vo.cT]
                have hSS8 := mkS _ hU8.low hX8
                refine hK _ _ hSS8 ?_
                clear hK hU7 hX7 f7_7 f16_7 hSS7
                generalize w7.alloc (.cells #[.slice vo.aN oo.nN vo.cN, .slice vo.aW oo.nW vo.cW, .slice vo.aS oo.nS vo.cS, .slice vo.aT oo.nT vo.cT] 93) = w8 at *
                generalize w7.heap.size = g20 at *
                refine onlyG 8 rfl (by kernel_rfl) (fun K hK => ?_)
                obtain ⟨v8, w9, hr, hU9, hk, _⟩ := hU8.appN f7_8 (by omega)
                go_wp2_with (at_builtin; refine list_run rfl (.tmp 48) (.tmp 55) 41 rfl _ _ _ rfl rfl hr ?_)
                have hX9 := hk _ _ _ hX8 (by decide)
                have f16_9 := hk _ _ _ f16_8 (by decide)
                have f20_9 := hk _ _ _ f20_8 (by decide)
                have hSS9 := mkS _ hU9.low hX9
                refine hK _ _ hSS9 ?_
                clear hK hr hk hU8 hX8 hSS8 f7_8 f16_8 f20_8
                refine onlyG 17 rfl (by kernel_rfl) (fun K hK => ?_)
                obtain ⟨v17, w10, hr, hU10, hk, _⟩ := hU9.appB f16_9 (by omega)
                go_wp2_with (at_builtin; refine list_run rfl (.tmp 57) (.tmp 64) 45 rfl _ _ _ rfl rfl hr ?_)
                have hX10 := hk _ _ _ hX9 (by decide)
                have f20_10 := hk _ _ _ f20_9 (by decide)
                have hSS10 := mkS _ hU10.low hX10
                refine hK _ _ hSS10 ?_
                clear hK hr hk hU9 hX9 hSS9 f16_9 f20_9
                refine lastG 21 rfl (by kernel_rfl) (by kernel_rfl) (fun K hK => ?_)
                obtain ⟨v21, w11, hr, hU11, _⟩ := hU10.appO HVi.out Hoo.out f20_10 (by omega)
                go_wp2_with (at_builtin; refine list_run rfl (.tmp 66) (.tmp 68) 42 rfl _ _ _ rfl rfl hr ?_)
                refine hK _ _ ?_
                clear hK hr hU10 hX10 f20_10 hSS10
                refine takeW 22 (v := ?v57) rfl (by kernel_rfl) (by kernel_rfl) (by kernel_rfl) (by kernel_rfl) (fun _ _ _ h => h) (.inl (by kernel_rfl)) (.inl ⟨by rfl, fun w => ?hy57⟩) ?rest57
                case hy57 => (go_simp <;> with_reducible rfl)
                simp only [Go.Act.put, List.setIfInBounds_toArray, List.set_cons_zero, List.set_cons_succ]
                refine takeW 23 (v := ?v58) rfl (by kernel_rfl) (by kernel_rfl) (by kernel_rfl) (by kernel_rfl) (fun _ _ _ h => h) (.inl (by kernel_rfl)) (.inl ⟨by rfl, fun w => ?hy58⟩) ?rest58
                case hy58 => (go_simp <;> with_reducible rfl)
                simp only [Go.Act.put, List.setIfInBounds_toArray, List.set_cons_zero, List.set_cons_succ]
                refine takeW 24 (v := ?v59) rfl (by kernel_rfl) (by kernel_rfl) (by kernel_rfl) (by kernel_rfl) (fun _ _ _ h => h) (.inl (by kernel_rfl)) (.inl ⟨by rfl, fun w => ?hy59⟩) ?rest59
                case hy59 => (go_simp <;> with_reducible rfl)
                simp only [Go.Act.put, List.setIfInBounds_toArray, List.set_cons_zero, List.set_cons_succ]
                refine doneG (by kernel_rfl) ?_ _
                go_wp2
                go_roundw
                case rel => exact ⟨i + 1, _, _, _, V2, by omega, by go_num, rfl, rfl, rfl, HK2, by rw [HO2.out]; exact hU11⟩
                case measure => simp [intOf]; omega
            · go_wp2_with fail
              have hU7 := hU6.alloc (.cells #[.slice vo.aN oo.nN vo.cN, .slice vo.aW oo.nW vo.cW, .slice vo.aS oo.nS vo.cS, .slice vo.aT oo.nT vo.cT] 93)
              have hX7 := hX6.later ((Below.refl _ _).alloc (Nat.le_refl _) (.cells #[.slice vo.aN oo.nN vo.cN, .slice vo.aW oo.nW vo.cW, .slice vo.aS oo.nS vo.cS, .slice vo.aT oo.nT vo.cT] 93))
              have f16_7 := f16_6.later ((Below.refl _ _).alloc (Nat.le_refl _) (.cells #[.slice vo.aN oo.nN vo.cN, .slice vo.aW oo.nW vo.cW, .slice vo.aS oo.nS vo.cS, .slice vo.aT oo.nT vo.cT] 93))
              have f20_7 := Fr.new w6 93 #[.slice vo.aN oo.nN vo.cN, .slice vo.aW oo.nW vo.cW, .slice vo.aS oo.nS vo.cS, .slice vo.aT oo.nT vo.cT]
              have hSS7 := mkS _ hU7.low hX7
              refine hK _ _ hSS7 ?_
              clear hK hU6 hX6 f16_6 hSS6
              generalize w6.alloc (.cells #[.slice vo.aN oo.nN vo.cN, .slice vo.aW oo.nW vo.cW, .slice vo.aS oo.nS vo.cS, .slice vo.aT oo.nT vo.cT] 93) = w7 at *
              generalize w6.heap.size = g20 at *
              refine onlyG 7 rfl (by kernel_rfl) (fun K hK => ?_)
              go_wp2_with fail
              have hU8 := hU7.alloc (.cells #[.string (s i)] 9)
              have hX8 := hX7.later ((Below.refl _ _).alloc (Nat.le_refl _) (.cells #[.string (s i)] 9))
              have f16_8 := f16_7.later ((Below.refl _ _).alloc (Nat.le_refl _) (.cells #[.string (s i)] 9))
              have f20_8 := f20_7.later ((Below.refl _ _).alloc (Nat.le_refl _) (.cells #[.string (s i)] 9))
              have f7_8 := Fr.new w7 9 #[.string (s i)]
              have hSS8 := mkS _ hU8.low hX8
              refine hK _ _ hSS8 ?_
              clear hK hU7 hX7 f16_7 f20_7 hSS7
              generalize w7.alloc (.cells #[.string (s i)] 9) = w8 at *
              generalize w7.heap.size = g7 at *
              refine onlyG 8 rfl (by kernel_rfl) (fun K hK => ?_)
              obtain ⟨v8, w9, hr, hU9, hk, _⟩ := hU8.appN f7_8 (by omega)
              go_wp2_with (at_builtin; refine list_run rfl (.tmp 48) (.tmp 55) 41 rfl _ _ _ rfl rfl hr ?_)
              have hX9 := hk _ _ _ hX8 (by decide)
              have f16_9 := hk _ _ _ f16_8 (by decide)
              have f20_9 := hk _ _ _ f20_8 (by decide)
              have hSS9 := mkS _ hU9.low hX9
              refine hK _ _ hSS9 ?_
              clear hK hr hk hU8 hX8 hSS8 f7_8 f16_8 f20_8
              refine onlyG 17 rfl (by kernel_rfl) (fun K hK => ?_)
              obtain ⟨v17, w10, hr, hU10, hk, _⟩ := hU9.appB f16_9 (by omega)
              go_wp2_with (at_builtin; refine list_run rfl (.tmp 57) (.tmp 64) 45 rfl _ _ _ rfl rfl hr ?_)
              have hX10 := hk _ _ _ hX9 (by decide)
              have f20_10 := hk _ _ _ f20_9 (by decide)
              have hSS10 := mkS _ hU10.low hX10
              refine hK _ _ hSS10 ?_
              clear hK hr hk hU9 hX9 hSS9 f16_9 f20_9
              refine lastG 21 rfl (by kernel_rfl) (by kernel_rfl) (fun K hK => ?_)
              obtain ⟨v21, w11, hr, hU11, _⟩ := hU10.appO HVi.out Hoo.out f20_10 (by omega)
              go_wp2_with (at_builtin; refine list_run rfl (.tmp 66) (.tmp 68) 42 rfl _ _ _ rfl rfl hr ?_)
              refine hK _ _ ?_
              clear hK hr hU10 hX10 f20_10 hSS10
              refine takeW 22 (v := ?v61) rfl (by kernel_rfl) (by kernel_rfl) (by kernel_rfl) (by kernel_rfl) (fun _ _ _ h => h) (.inl (by kernel_rfl)) (.inl ⟨by rfl, fun w => ?hy61⟩) ?rest61
              case hy61 => (go_simp <;> with_reducible rfl)
              simp only [Go.Act.put, List.setIfInBounds_toArray, List.set_cons_zero, List.set_cons_succ]
              refine takeW 23 (v := ?v62) rfl (by kernel_rfl) (by kernel_rfl) (by kernel_rfl) (by kernel_rfl) (fun _ _ _ h => h) (.inl (by kernel_rfl)) (.inl ⟨by rfl, fun w => ?hy62⟩) ?rest62
              case hy62 => (go_simp <;> with_reducible rfl)
              simp only [Go.Act.put, List.setIfInBounds_toArray, List.set_cons_zero, List.set_cons_succ]
              refine takeW 24 (v := ?v63) rfl (by kernel_rfl) (by kernel_rfl) (by kernel_rfl) (by kernel_rfl) (fun _ _ _ h => h) (.inl (by kernel_rfl)) (.inl ⟨by rfl, fun w => ?hy63⟩) ?rest63
              case hy63 => (go_simp <;> with_reducible rfl)
              simp only [Go.Act.put, List.setIfInBounds_toArray, List.set_cons_zero, List.set_cons_succ]
              refine doneG (by kernel_rfl) ?_ _
              go_wp2
              go_roundw
              case rel => exact ⟨i + 1, _, _, _, V2, by omega, by go_num, rfl, rfl, rfl, HK2, by rw [HO2.out]; exact hU11⟩
              case measure => simp [intOf]; omega
          · go_wp2_with fail
            have hU6 := hU5.alloc (.cells #[.slice vo.aN oo.nN vo.cN, .slice vo.aW oo.nW vo.cW, .slice vo.aS oo.nS vo.cS, .slice vo.aT oo.nT vo.cT] 93)
            have hX6 := hX5.later ((Below.refl _ _).alloc (Nat.le_refl _) (.cells #[.slice vo.aN oo.nN vo.cN, .slice vo.aW oo.nW vo.cW, .slice vo.aS oo.nS vo.cS, .slice vo.aT oo.nT vo.cT] 93))
            have f20_6 := Fr.new w5 93 #[.slice vo.aN oo.nN vo.cN, .slice vo.aW oo.nW vo.cW, .slice vo.aS oo.nS vo.cS, .slice vo.aT oo.nT vo.cT]
            have hSS6 := mkS _ hU6.low hX6
            refine hK _ _ hSS6 ?_
            clear hK hU5 hX5  hSS5
            generalize w5.alloc (.cells #[.slice vo.aN oo.nN vo.cN, .slice vo.aW oo.nW vo.cW, .slice vo.aS oo.nS vo.cS, .slice vo.aT oo.nT vo.cT] 93) = w6 at *
            generalize w5.heap.size = g20 at *
            refine readyG [7, 16] (by kernel_rfl) (by simp) (allG_cons 7 rfl (fun K hK => ?_) (allG_cons 16 rfl (fun K hK => ?_) allG_nil))
            · go_wp2_with fail
              have hU7 := hU6.alloc (.cells #[.string (s i)] 9)
              have hX7 := hX6.later ((Below.refl _ _).alloc (Nat.le_refl _) (.cells #[.string (s i)] 9))
              have f20_7 := f20_6.later ((Below.refl _ _).alloc (Nat.le_refl _) (.cells #[.string (s i)] 9))
              have f7_7 := Fr.new w6 9 #[.string (s i)]
              have hSS7 := mkS _ hU7.low hX7
              refine hK _ _ hSS7 ?_
              clear hK hU6 hX6 f20_6 hSS6
              generalize w6.alloc (.cells #[.string (s i)] 9) = w7 at *
              generalize w6.heap.size = g7 at *
              refine readyG [8, 16] (by kernel_rfl) (by simp) (allG_cons 8 rfl (fun K hK => ?_) (allG_cons 16 rfl (fun K hK => ?_) allG_nil))
              · obtain ⟨v8, w8, hr, hU8, hk, _⟩ := hU7.appN f7_7 (by omega)
                go_wp2_with (at_builtin; refine list_run rfl (.tmp 48) (.tmp 55) 41 rfl _ _ _ rfl rfl hr ?_)
                have hX8 := hk _ _ _ hX7 (by decide)
                have f20_8 := hk _ _ _ f20_7 (by decide)
                have hSS8 := mkS _ hU8.low hX8
                refine hK _ _ hSS8 ?_
                clear hK hr hk hU7 hX7 hSS7 f7_7 f20_7
                refine onlyG 16 rfl (by kernel_rfl) (fun K hK => ?_)
                go_wp2_with fail
                have hU9 := hU8.alloc (.cells #[.int .i64 (b i)] 3)
                have hX9 := hX8.later ((Below.refl _ _).alloc (Nat.le_refl _) (.cells #[.int .i64 (b i)] 3))
                have f20_9 := f20_8.later ((Below.refl _ _).alloc (Nat.le_refl _) (.cells #[.int .i64 (b i)] 3))
                have f16_9 := Fr.new w8 3 #[.int .i64 (b i)]
                have hSS9 := mkS _ hU9.low hX9
                refine hK _ _ hSS9 ?_
                clear hK hU8 hX8 f20_8 hSS8
                generalize w8.alloc (.cells #[.int .i64 (b i)] 3) = w9 at *
                generalize w8.heap.size = g16 at *
                refine onlyG 17 rfl (by kernel_rfl) (fun K hK => ?_)
                obtain ⟨v17, w10, hr, hU10, hk, _⟩ := hU9.appB f16_9 (by omega)
                go_wp2_with (at_builtin; refine list_run rfl (.tmp 57) (.tmp 64) 45 rfl _ _ _ rfl rfl hr ?_)
                have hX10 := hk _ _ _ hX9 (by decide)
                have f20_10 := hk _ _ _ f20_9 (by decide)
                have hSS10 := mkS _ hU10.low hX10
                refine hK _ _ hSS10 ?_
                clear hK hr hk hU9 hX9 hSS9 f16_9 f20_9
                refine lastG 21 rfl (by kernel_rfl) (by kernel_rfl) (fun K hK => ?_)
                obtain ⟨v21, w11, hr, hU11, _⟩ := hU10.appO HVi.out Hoo.out f20_10 (by omega)
                go_wp2_with (at_builtin; refine list_run rfl (.tmp 66) (.tmp 68) 42 rfl _ _ _ rfl rfl hr ?_)
                refine hK _ _ ?_
                clear hK hr hU10 hX10 f20_10 hSS10
                refine takeW 22 (v := ?v65) rfl (by kernel_rfl) (by kernel_rfl) (by kernel_rfl) (by kernel_rfl) (fun _ _ _ h => h) (.inl (by kernel_rfl)) (.inl ⟨by rfl, fun w => ?hy65⟩) ?rest65
                case hy65 => (go_simp <;> with_reducible rfl)
                simp only [Go.Act.put, List.setIfInBounds_toArray, List.set_cons_zero, List.set_cons_succ]
                refine takeW 23 (v := ?v66) rfl (by kernel_rfl) (by kernel_rfl) (by kernel_rfl) (by kernel_rfl) (fun _ _ _ h => h) (.inl (by kernel_rfl)) (.inl ⟨by rfl, fun w => ?hy66⟩) ?rest66
                case hy66 => (go_simp <;> with_reducible rfl)
                simp only [Go.Act.put, List.setIfInBounds_toArray, List.set_cons_zero, List.set_cons_succ]
                refine takeW 24 (v := ?v67) rfl (by kernel_rfl) (by kernel_rfl) (by kernel_rfl) (by kernel_rfl) (fun _ _ _ h => h) (.inl (by kernel_rfl)) (.inl ⟨by rfl, fun w => ?hy67⟩) ?rest67
                case hy67 => (go_simp <;> with_reducible rfl)
                simp only [Go.Act.put, List.setIfInBounds_toArray, List.set_cons_zero, List.set_cons_succ]
                refine doneG (by kernel_rfl) ?_ _
                go_wp2
                go_roundw
                case rel => exact ⟨i + 1, _, _, _, V2, by omega, by go_num, rfl, rfl, rfl, HK2, by rw [HO2.out]; exact hU11⟩
                case measure => simp [intOf]; omega
              · go_wp2_with fail
                have hU8 := hU7.alloc (.cells #[.int .i64 (b i)] 3)
                have hX8 := hX7.later ((Below.refl _ _).alloc (Nat.le_refl _) (.cells #[.int .i64 (b i)] 3))
                have f7_8 := f7_7.later ((Below.refl _ _).alloc (Nat.le_refl _) (.cells #[.int .i64 (b i)] 3))
                have f20_8 := f20_7.later ((Below.refl _ _).alloc (Nat.le_refl _) (.cells #[.int .i64 (b i)] 3))
                have f16_8 := Fr.new w7 3 #[.int .i64 (b i)]
                have hSS8 := mkS _ hU8.low hX8
                refine hK _ _ hSS8 ?_
                clear hK hU7 hX7 f7_7 f20_7 hSS7
                generalize w7.alloc (.cells #[.int .i64 (b i)] 3) = w8 at *
                generalize w7.heap.size = g16 at *
                refine onlyG 8 rfl (by kernel_rfl) (fun K hK => ?_)
                obtain ⟨v8, w9, hr, hU9, hk, _⟩ := hU8.appN f7_8 (by omega)
                go_wp2_with (at_builtin; refine list_run rfl (.tmp 48) (.tmp 55) 41 rfl _ _ _ rfl rfl hr ?_)
                have hX9 := hk _ _ _ hX8 (by decide)
                have f16_9 := hk _ _ _ f16_8 (by decide)
                have f20_9 := hk _ _ _ f20_8 (by decide)
                have hSS9 := mkS _ hU9.low hX9
                refine hK _ _ hSS9 ?_
                clear hK hr hk hU8 hX8 hSS8 f7_8 f16_8 f20_8
                refine onlyG 17 rfl (by kernel_rfl) (fun K hK => ?_)
                obtain ⟨v17, w10, hr, hU10, hk, _⟩ := hU9.appB f16_9 (by omega)
                go_wp2_with (at_builtin; refine list_run rfl (.tmp 57) (.tmp 64) 45 rfl _ _ _ rfl rfl hr ?_)
                have hX10 := hk _ _ _ hX9 (by decide)
                have f20_10 := hk _ _ _ f20_9 (by decide)
                have hSS10 := mkS _ hU10.low hX10
                refine hK _ _ hSS10 ?_
                clear hK hr hk hU9 hX9 hSS9 f16_9 f20_9
                refine lastG 21 rfl (by kernel_rfl) (by kernel_rfl) (fun K hK => ?_)
                obtain ⟨v21, w11, hr, hU11, _⟩ := hU10.appO HVi.out Hoo.out f20_10 (by omega)
                go_wp2_with (at_builtin; refine list_run rfl (.tmp 66) (.tmp 68) 42 rfl _ _ _ rfl rfl hr ?_)
                refine hK _ _ ?_
                clear hK hr hU10 hX10 f20_10 hSS10
                refine takeW 22 (v := ?v69) rfl (by kernel_rfl) (by kernel_rfl) (by kernel_rfl) (by kernel_rfl) (fun _ _ _ h => h) (.inl (by kernel_rfl)) (.inl ⟨by rfl, fun w => ?hy69⟩) ?rest69
                case hy69 => (go_simp <;> with_reducible rfl)
                simp only [Go.Act.put, List.setIfInBounds_toArray, List.set_cons_zero, List.set_cons_succ]
                refine takeW 23 (v := ?v70) rfl (by kernel_rfl) (by kernel_rfl) (by kernel_rfl) (by kernel_rfl) (fun _ _ _ h => h) (.inl (by kernel_rfl)) (.inl ⟨by rfl, fun w => ?hy70⟩) ?rest70
                case hy70 => (go_simp <;> with_reducible rfl)
                simp only [Go.Act.put, List.setIfInBounds_toArray, List.set_cons_zero, List.set_cons_succ]
                refine takeW 24 (v := ?v71) rfl (by kernel_rfl) (by kernel_rfl) (by kernel_rfl) (by kernel_rfl) (fun _ _ _ h => h) (.inl (by kernel_rfl)) (.inl ⟨by rfl, fun w => ?hy71⟩) ?rest71
                case hy71 => (go_simp <;> with_reducible rfl)
                simp only [Go.Act.put, List.setIfInBounds_toArray, List.set_cons_zero, List.set_cons_succ]
                refine doneG (by kernel_rfl) ?_ _
                go_wp2
                go_roundw
                case rel => exact ⟨i + 1, _, _, _, V2, by omega, by go_num, rfl, rfl, rfl, HK2, by rw [HO2.out]; exact hU11⟩
                case measure => simp [intOf]; omega
            · go_wp2_with fail
              have hU7 := hU6.alloc (.cells #[.int .i64 (b i)] 3)
              have hX7 := hX6.later ((Below.refl _ _).alloc (Nat.le_refl _) (.cells #[.int .i64 (b i)] 3))
              have f20_7 := f20_6.later ((Below.refl _ _).alloc (Nat.le_refl _) (.cells #[.int .i64 (b i)] 3))
              have f16_7 := Fr.new w6 3 #[.int .i64 (b i)]
              have hSS7 := mkS _ hU7.low hX7
              refine hK _ _ hSS7 ?_
              clear hK hU6 hX6 f20_6 hSS6
              generalize w6.alloc (.cells #[.int .i64 (b i)] 3) = w7 at *
              generalize w6.heap.size = g16 at *
              refine onlyG 7 rfl (by kernel_rfl) (fun K hK => ?_)
              go_wp2_with fail
              have hU8 := hU7.alloc (.cells #[.string (s i)] 9)
              have hX8 := hX7.later ((Below.refl _ _).alloc (Nat.le_refl _) (.cells #[.string (s i)] 9))
              have f16_8 := f16_7.later ((Below.refl _ _).alloc (Nat.le_refl _) (.cells #[.string (s i)] 9))
              have f20_8 := f20_7.later ((Below.refl _ _).alloc (Nat.le_refl _) (.cells #[.string (s i)] 9))
              have f7_8 := Fr.new w7 9 #[.string (s i)]
              have hSS8 := mkS _ hU8.low hX8
              refine hK _ _ hSS8 ?_
              clear hK hU7 hX7 f16_7 f20_7 hSS7
              generalize w7.alloc (.cells #[.string (s i)] 9) = w8 at *
              generalize w7.heap.size = g7 at *
              refine onlyG 8 rfl (by kernel_rfl) (fun K hK => ?_)
              obtain ⟨v8, w9, hr, hU9, hk, _⟩ := hU8.appN f7_8 (by omega)
              go_wp2_with (at_builtin; refine list_run rfl (.tmp 48) (.tmp 55) 41 rfl _ _ _ rfl rfl hr ?_)
              have hX9 := hk _ _ _ hX8 (by decide)
              have f16_9 := hk _ _ _ f16_8 (by decide)
              have f20_9 := hk _ _ _ f20_8 (by decide)
              have hSS9 := mkS _ hU9.low hX9
              refine hK _ _ hSS9 ?_
              clear hK hr hk hU8 hX8 hSS8 f7_8 f16_8 f20_8
              refine onlyG 17 rfl (by kernel_rfl) (fun K hK => ?_)
              obtain ⟨v17, w10, hr, hU10, hk, _⟩ := hU9.appB f16_9 (by omega)
              go_wp2_with (at_builtin; refine list_run rfl (.tmp 57) (.tmp 64) 45 rfl _ _ _ rfl rfl hr ?_)
              have hX10 := hk _ _ _ hX9 (by decide)
              have f20_10 := hk _ _ _ f20_9 (by decide)
              have hSS10 := mkS _ hU10.low hX10
              refine hK _ _ hSS10 ?_
              clear hK hr hk hU9 hX9 hSS9 f16_9 f20_9
              refine lastG 21 rfl (by kernel_rfl) (by kernel_rfl) (fun K hK => ?_)
              obtain ⟨v21, w11, hr, hU11, _⟩ := hU10.appO HVi.out Hoo.out f20_10 (by omega)
              go_wp2_with (at_builtin; refine list_run rfl (.tmp 66) (.tmp 68) 42 rfl _ _ _ rfl rfl hr ?_)
              refine hK _ _ ?_
              clear hK hr hU10 hX10 f20_10 hSS10
              refine takeW 22 (v := ?v73) rfl (by kernel_rfl) (by kernel_rfl) (by kernel_rfl) (by kernel_rfl) (fun _ _ _ h => h) (.inl (by kernel_rfl)) (.inl ⟨by rfl, fun w => ?hy73⟩) ?rest73
              case hy73 => (go_simp <;> with_reducible rfl)
              simp only [Go.Act.put, List.setIfInBounds_toArray, List.set_cons_zero, List.set_cons_succ]
              refine takeW 23 (v := ?v74) rfl (by kernel_rfl) (by kernel_rfl) (by kernel_rfl) (by kernel_rfl) (fun _ _ _ h => h) (.inl (by kernel_rfl)) (.inl ⟨by rfl, fun w => ?hy74⟩) ?rest74
              case hy74 => (go_simp <;> with_reducible rfl)
              simp only [Go.Act.put, List.setIfInBounds_toArray, List.set_cons_zero, List.set_cons_succ]
              refine takeW 24 (v := ?v75) rfl (by kernel_rfl) (by kernel_rfl) (by kernel_rfl) (by kernel_rfl) (fun _ _ _ h => h) (.inl (by kernel_rfl)) (.inl ⟨by rfl, fun w => ?hy75⟩) ?rest75
              case hy75 => (go_simp <;> with_reducible rfl)
              simp only [Go.Act.put, List.setIfInBounds_toArray, List.set_cons_zero, List.set_cons_succ]
              refine doneG (by kernel_rfl) ?_ _
              go_wp2
              go_roundw
              case rel => exact ⟨i + 1, _, _, _, V2, by omega, by go_num, rfl, rfl, rfl, HK2, by rw [HO2.out]; exact hU11⟩
              case measure => simp [intOf]; omega
        · obtain ⟨z, hz⟩ := errV_pos hF
          have HEND : Hid (UseEnd (w3.alloc (.cells (vo.cells (parseF t).2) 93)) w.heap.size D S (rdD D T) n s st b nq qp qt qv (.returned (.tuple #[.slice none 0 0, .iface 82 (.int .i64 z)]))) := by
            have h2 := UseEnd.bad (w := w3.alloc (.cells (vo.cells (parseF t).2) 93)) (B0 := w.heap.size) (D := D) (S := S) (rd := rdD D T) (n := n) (s := s) (st := st) (b := b) (np := nq) (p := qp) (t := qt) (v := qv) i hlt HK.out (by rw [HIS.out]; exact hF)
            rw [HIS.out, hz] at h2
            exact h2
          have hbE : Below w.heap.size w (w3.alloc (.cells (vo.cells (parseF t).2) 93)) := ((hbW.trans (hU2.low.mono (Nat.le_of_lt hzW))).trans (hbP.mono (Nat.le_trans (Nat.le_of_lt hzW) hU2.low.size))).trans ((Below.refl _ _).alloc (Nat.le_trans (Nat.le_trans (Nat.le_of_lt hzW) hU2.low.size) hbP.size) _)
          rw [hz]
          generalize (parseF t).2 = oo at *
          unfold ObjV.cells at *
          clear hU2 hOA hON hbP hF HIS hb3 hz
          go_wp2
          go_ret2
          exact ⟨HEND.out, hbE⟩
      · have hin : i = n := by omega
        subst hin
        obtain ⟨an, cn, rfl, rN⟩ := rows1 hU.names
        obtain ⟨ab, cb, rfl, rB⟩ := rows1 hU.bases
        obtain ⟨ao, co, rfl, _, rO⟩ := OwnObjs.row hU.objs hU.at'
        have HL := lay_any an ab ao aQ i cn cb co nq cQ s b V (fun j => (rdD D T (s j)).2) qp qt qv wr (by omega) (fun j hj => by have := (rd_ok (HK.out j hj)).nW; omega) (by omega) rN rB rO (hq1.later hlow)
        have hbE := hbW.trans (hlow.mono (Nat.le_of_lt hzW))
        have hBle : w.heap.size ≤ wr.heap.size := Nat.le_trans (Nat.le_of_lt hzW) hlow.size
        have hlt' : ¬ (i : Int) < (i : Int) := by omega
        clear rN rB rO hU hr1
        go_wp2_with fail
        refine HL.mono ?_
        rintro e w5 ⟨hl, hb5⟩
        clear HL
        have hbF := hbE.trans (hb5.mono hBle)
        have hl2 := hl.base hBle
        cases hl with
        | bad h =>
          have q1 : errV 1 = .iface 82 (.int .i64 1) := rfl
          rw [q1] at hl2 ⊢
          go_wp2
          go_ret2
          exact ⟨.lay _ HST.out HK.out hl2, hbF⟩
        | ok u g A C G h ho hu =>
          go_wp2
          go_ret2
          exact ⟨.lay _ HST.out HK.out hl2, hbF⟩
end Go.Proofs.YtidabcoodolddaaGreatDoor

namespace Go.Proofs.YtidabcoodolddaaGreatDoor
open Go.RowKit Go.Maps

/-- a block that is neither the files' nor their map's stays. -/
theorem Turned.cells {p bm : Nat} {w w' : World} {D : DataW Unit} {k q : Nat} {c : Array Value} {t : TypeId} {fr : Nat × Nat} (ht : Turned p bm w w') (hF : FilesAt w p bm D k) (h : w.heap[q]? = some (.cells c t fr)) (hne : t ≠ 102) : w'.heap[q]? = some (.cells c t fr) := by
  refine (ht.block q (Array.getElem?_eq_some_iff.1 h).1 (fun e => ?_) (fun e => ?_)).trans h
  · subst e
    rw [hF.blk] at h
    injection h with h
    injection h with _ h2 _
    exact hne h2.symm
  · subst e
    obtain ⟨es, clock, hb, _⟩ := hF.own
    rw [hb] at h
    cases h
theorem Disk.turned {w w' : World} {B p n pf bm : Nat} {s : DSt} {D : DataW Unit} {k : Nat} (h : Disk w B p n s) (hF : FilesAt w pf bm D k) (ht : Turned pf bm w w') : Disk w' B p n s :=
  h.other fun q o hq ⟨c, t, f, e, hty⟩ => by
    subst e
    refine ht.cells hF hq (fun e => ?_)
    subst e
    exact absurd hty (by decide)
theorem FilesAt.spun {w w' : World} {B p bm : Nat} {D : DataW Unit} {k : Nat} (h : FilesAt w p bm D k) (hs : Spun B w w') : FilesAt w' p bm D k := by
  refine ⟨hs.block _ _ h.blk (fun ⟨c, t, f, e, ht⟩ => ?_), ?_⟩
  · injection e with _ e2 _
    subst e2
    exact absurd ht (by decide)
  · obtain ⟨es, clock, hb, F, hn, hD⟩ := h.own
    exact ⟨es, clock, hs.block _ _ hb (fun ⟨c, t, f, e, _⟩ => by cases e), F, hn, hD⟩
theorem ShelfAt.turned {w w' : World} {g p pf bm : Nat} {D : DataW Unit} {k : Nat} (h : ShelfAt w g p) (hF : FilesAt w pf bm D k) (ht : Turned pf bm w w') : ShelfAt w' g p := ht.cells hF h (by decide)
/-- a loader: its files, its shelf. -/
def LoaderAt (w : World) (l f g : Nat) : Prop := w.heap[l]? = some (.cells #[.pointer (some ⟨f, 0, none⟩), .pointer (some ⟨g, 0, none⟩)] 75 (0, 0))
theorem LoaderAt.lt {w : World} {l f g : Nat} (h : LoaderAt w l f g) : l < w.heap.size := (Array.getElem?_eq_some_iff.1 h).1
theorem LoaderAt.c0 {w : World} {l f g : Nat} (h : LoaderAt w l f g) : w.cell? ⟨l, 0, none⟩ = some (.pointer (some ⟨f, 0, none⟩)) := by simp [World.cell?, show w.heap[l]? = _ from h]
theorem LoaderAt.c1 {w : World} {l f g : Nat} (h : LoaderAt w l f g) : w.cell? ⟨l, 1, none⟩ = some (.pointer (some ⟨g, 0, none⟩)) := by simp [World.cell?, show w.heap[l]? = _ from h]
theorem LoaderAt.later {w w' : World} {l f g : Nat} (h : LoaderAt w l f g) (hb : Below w.heap.size w w') : LoaderAt w' l f g := (hb.block _ h.lt).trans h
theorem LoaderAt.turned {w w' : World} {l f g pf bm : Nat} {D : DataW Unit} {k : Nat} (h : LoaderAt w l f g) (hF : FilesAt w pf bm D k) (ht : Turned pf bm w w') : LoaderAt w' l f g := ht.cells hF h (by decide)
theorem LoaderAt.spun {w w' : World} {B l f g : Nat} (h : LoaderAt w l f g) (hs : Spun B w w') : LoaderAt w' l f g := hs.block _ _ h (fun ⟨c, t, f, e, ht⟩ => by
  injection e with _ e2 _
  subst e2
  exact absurd ht (by decide))
set_option maxRecDepth 100000 in
set_option maxHeartbeats 4000000 in
theorem loaderNew_any (w : World) (B p n f : Nat) (s : DSt) (E : Nat → EntF) (k : Nat) (h : Disk w B p n s) (hS : Stands s n E k) (hE : Env w) :
    Calls Tryz.prog 22 #[.pointer (some ⟨f, 0, none⟩), .pointer (some ⟨p, 0, none⟩)] w fun e w' => ∃ l g, e = .returned (.tuple #[.pointer (some ⟨l, 0, none⟩), .nilIface]) ∧ w.heap.size ≤ l ∧ LoaderAt w' l f g ∧ ShelfAt w' g p ∧ Below w.heap.size w w' := by
  have HO := open_any w B p n s E k h hS hE
  go_enter Tryz.func22, Tryz.ntmps22
  go_wp2_with fail
  refine (show Calls _ _ _ _ _ from HO).mono ?_
  rintro e w1 ⟨g, rfl, _, hg, hb1⟩
  clear HO
  have hbn : Below w1.heap.size w1 (w1.alloc (.cells #[.pointer (some ⟨f, 0, none⟩), .pointer (some ⟨g, 0, none⟩)] 75)) := (Below.refl _ _).alloc (Nat.le_refl _) _
  have hl : LoaderAt (w1.alloc (.cells #[.pointer (some ⟨f, 0, none⟩), .pointer (some ⟨g, 0, none⟩)] 75)) w1.heap.size f g := Array.getElem?_push_size
  have HF : Hid (∃ l' g', Ending.returned (.tuple #[.pointer (some ⟨w1.heap.size, 0, none⟩), .nilIface]) = .returned (.tuple #[.pointer (some ⟨l', 0, none⟩), .nilIface]) ∧ w.heap.size ≤ l' ∧ LoaderAt (w1.alloc (.cells #[.pointer (some ⟨f, 0, none⟩), .pointer (some ⟨g, 0, none⟩)] 75)) l' f g' ∧ ShelfAt (w1.alloc (.cells #[.pointer (some ⟨f, 0, none⟩), .pointer (some ⟨g, 0, none⟩)] 75)) g' p ∧ Below w.heap.size w (w1.alloc (.cells #[.pointer (some ⟨f, 0, none⟩), .pointer (some ⟨g, 0, none⟩)] 75))) :=
    ⟨_, g, rfl, hb1.size, hl, hg.later hbn, hb1.trans (hbn.mono hb1.size)⟩
  clear hbn hl hg
  go_wp2
  go_ret2
  exact HF.out
set_option maxRecDepth 100000 in
set_option maxHeartbeats 4000000 in
theorem loaderDrop_any (w : World) (B p n l f g : Nat) (s : DSt) (E : Nat → EntF) (k : Nat) (root : ByteArray) (h : Disk w B p n s) (hS : Stands s n E k) (hl : LoaderAt w l f g) (hg : ShelfAt w g p) (hE : Env w) :
    Calls Tryz.prog 20 #[.pointer (some ⟨l, 0, none⟩), .string root] w fun e w' => ∃ s', ShPut s n E k (dropE E k root) s' e ∧ Disk w' B p n s' ∧ Spun B w w' := by
  have HD := drop_any w B p n g s E k root h hS hg hE
  have c1 := hl.c1
  go_enter Tryz.func20, Tryz.ntmps20
  go_wp2_with fail
  refine (show Calls _ _ _ _ _ from HD).mono ?_
  rintro e w1 ⟨s', hPE, hD1, hS1⟩
  clear HD
  have HP : Hid (ShPut s n E k (dropE E k root) s' e) := hPE
  obtain ⟨v, rfl⟩ : ∃ v, e = .returned v := by
    cases hPE with
    | bad _ _ => exact ⟨_, rfl⟩
    | keep _ _ hk => cases hk <;> exact ⟨_, rfl⟩
  clear hPE
  go_wp2
  go_ret
  exact ⟨s', HP.out, hD1, hS1⟩
set_option maxRecDepth 100000 in
set_option maxHeartbeats 4000000 in
theorem loaderRoots_any (w : World) (B p n l f g : Nat) (s : DSt) (E : Nat → EntF) (k : Nat) (h : Disk w B p n s) (hS : Stands s n E k) (hl : LoaderAt w l f g) (hg : ShelfAt w g p) (hE : Env w) :
    Calls Tryz.prog 19 #[.pointer (some ⟨l, 0, none⟩)] w fun e w' => ∃ v, e = .returned v ∧ w'.ownsRow w.heap.size 9 1 v k (joinC (rootC E) k) ∧ Below w.heap.size w w' := by
  have HD := roots_any w B p n g s E k h hS hg hE
  have c1 := hl.c1
  go_enter Tryz.func19, Tryz.ntmps19
  go_wp2_with fail
  refine (show Calls _ _ _ _ _ from HD).mono ?_
  rintro e w1 ⟨v, rfl, hO, hb⟩
  clear HD
  go_wp2
  go_ret
  exact ⟨v, rfl, hO, hb⟩
/-- what Build leaves: nothing was made, or what was made was put. -/
inductive BuildEnd (s : DSt) (n : Nat) (E : Nat → EntF) (k : Nat) (rd : ByteArray → Nat × ObjF) (S : ByteArray → Int) (root : ByteArray) (s' : DSt) : Ending → Prop
  | bad (F : Nat) (h : ReckIs rd root F) (hf : F ≠ 0) (hs : s' = s) : BuildEnd s n E k rd S root s' (.returned (errV F))
  | put (m : Nat) (B : Nat → Int) (P Q : ByteArray → Int) (e : Ending) (h : Reckoned rd root m B P Q) (hp : ShPut s n E k (putE E k (madeE rd S root m B (patsAt rd root m B P Q))) s' e) : BuildEnd s n E k rd S root s' e
set_option maxRecDepth 100000 in
set_option maxHeartbeats 8000000 in
theorem loaderBuild_any (w : World) (B p n l g pf bm : Nat) (s : DSt) (E : Nat → EntF) (k : Nat) (D : DataW Unit) (kf : Nat) (T : ByteArray → ByteArray) (S : ByteArray → Int) (root : ByteArray) (h : Disk w B p n s) (hS : Stands s n E k) (hl : LoaderAt w l pf g) (hg : ShelfAt w g p) (hE : Env w)
    (hF : FilesAt w pf bm D kf) (hI : Inv D kf) (hN : NamesOk D) (hP : StampsPos D) (hT : Texts D T) (hSt : Stamps D S) (hk : kf ≤ 1000000) (hroot : root.size ≤ maxLen) :
    Calls Tryz.prog 15 #[.pointer (some ⟨l, 0, none⟩), .string root] w fun e w' => ∃ s', BuildEnd s n E k (rdD D T) S root s' e ∧ Disk w' B p n s' ∧ Spun B w w' := by
  have hB := h.base
  have HM := make_any w pf bm D kf T S root hF hI hT hSt hE hroot
  have c0 := hl.c0
  go_enter Tryz.func15, Tryz.ntmps15
  go_wp2_with fail
  refine (show Calls _ _ _ _ _ from HM).mono ?_
  rintro e w1 ⟨hM, hb1⟩
  clear HM c0
  cases hM with
  | bad F h1 hf =>
    obtain ⟨z, hz⟩ := errV_num hf
    have HB : Hid (BuildEnd s n E k (rdD D T) S root s (.returned (errV F))) := .bad F h1 hf rfl
    rw [hz] at HB
    rw [hz]
    have hbn : Below w1.heap.size w1 (w1.alloc (.cells #[.string ⟨#[]⟩, .slice none 0 0, .slice none 0 0] 62)) := (Below.refl _ _).alloc (Nat.le_refl _) _
    have hb2 := hb1.trans (hbn.mono hb1.size)
    clear hbn hb1
    go_wp2
    go_ret
    exact ⟨s, HB.out, h.later hb2, Spun.of hB hb2⟩
  | ok m Bs P Q aP aQ cP cQ h1 hp1 hq1 =>
    have hEF := made_entF (S := S) hI hN hP hSt hk h1
    have rS := rows_stm hp1
    obtain ⟨qa, qc, eq, _, rQ⟩ := rows_pat hq1
    cases eq
    have HB : Hid (∀ s' e, ShPut s n E k (putE E k (madeE (rdD D T) S root m Bs (patsAt (rdD D T) root m Bs P Q))) s' e → BuildEnd s n E k (rdD D T) S root s' e) := fun s' e hp => .put m Bs P Q e h1 hp
    have hA1 : EntAt w1 ⟨aP, cP, aQ, cQ⟩ (madeE (rdD D T) S root m Bs (patsAt (rdD D T) root m Bs P Q)) := ⟨rS, rQ⟩
    have hfit := (entOk hEF).fit
    obtain ⟨en, hen⟩ : ∃ en, en = madeE (rdD D T) S root m Bs (patsAt (rdD D T) root m Bs P Q) := ⟨_, rfl⟩
    have q0 : Hid (en.root = root) := by show en.root = root; rw [hen]; rfl
    have q1 : Hid (en.nP = m) := by show en.nP = m; rw [hen]; rfl
    have q2 : Hid (en.nQ = (patsAt (rdD D T) root m Bs P Q).length) := by show en.nQ = (patsAt (rdD D T) root m Bs P Q).length; rw [hen]; rfl
    rw [← hen] at hA1 hfit HB
    rw [← q2.out]
    clear hp1 hq1 rS rQ hEF h1 hen
    have hbn : Below w1.heap.size w1 (w1.alloc (.cells #[.string root, .slice aP m cP, .slice aQ en.nQ cQ] 62)) := (Below.refl _ _).alloc (Nat.le_refl _) _
    have hb2 := hb1.trans (hbn.mono hb1.size)
    have d0 : (w1.alloc (.cells #[.string root, .slice aP m cP, .slice aQ en.nQ cQ] 62)).cell? ⟨w1.heap.size, 0, none⟩ = some (.string root) := by simp [go_sem]
    have d1 : (w1.alloc (.cells #[.string root, .slice aP m cP, .slice aQ en.nQ cQ] 62)).cell? ⟨w1.heap.size, 1, none⟩ = some (.slice aP m cP) := by simp [go_sem]
    have d2 : (w1.alloc (.cells #[.string root, .slice aP m cP, .slice aQ en.nQ cQ] 62)).cell? ⟨w1.heap.size, 2, none⟩ = some (.slice aQ en.nQ cQ) := by simp [go_sem]
    have hA2 := hA1.later hbn
    go_upto_region 4 with fail
    generalize w1.alloc (.cells #[.string root, .slice aP m cP, .slice aQ en.nQ cQ] 62) = w2 at *
    generalize w1.heap.size = b2 at *
    have hb3 := hb2.trans ((Below.refl _ w2).drew.mono hb2.size)
    have c1 := (hl.later hb3).c1
    have HPU := shelfPut_any w2.drew B p n g s E k ⟨aP, cP, aQ, cQ⟩ en (h.later hb3) hS (hg.later hb3) (hE.later hb3) (hA2.later (Below.refl _ _).drew) hfit
    generalize putE E k en = r at HPU HB
    unfold entCs at HPU
    dsimp only at HPU
    rw [q0.out, q1.out] at HPU
    clear hA1 hA2 hfit hbn hb1 hb2 q0 q1 q2
    have hSp3 := Spun.of hB hb3
    have hSS : (fun w' : World => w'.cell? ⟨l, 1, none⟩ = some (.pointer (some ⟨g, 0, none⟩)) ∧ w'.cell? ⟨b2, 0, none⟩ = some (.string root) ∧ w'.cell? ⟨b2, 1, none⟩ = some (.slice aP m cP) ∧ w'.cell? ⟨b2, 2, none⟩ = some (.slice aQ en.nQ cQ)) w2.drew := ⟨c1, d0, d1, d2⟩
    refine wp_region_G (fun w' : World => w'.cell? ⟨l, 1, none⟩ = some (.pointer (some ⟨g, 0, none⟩)) ∧ w'.cell? ⟨b2, 0, none⟩ = some (.string root) ∧ w'.cell? ⟨b2, 1, none⟩ = some (.slice aP m cP) ∧ w'.cell? ⟨b2, 2, none⟩ = some (.slice aQ en.nQ cQ)) 5 7 (by kernel_rfl) rfl ?_
    generalize w2.drew = w3 at *
    refine takeW 0 (v := ?v1) rfl (by kernel_rfl) (by kernel_rfl) (by kernel_rfl) (by kernel_rfl) (fun _ _ _ h => h) (.inr hSS) (.inl ⟨by rfl, fun w => ?hy1⟩) ?rest1
    case hy1 => (go_simp <;> with_reducible rfl)
    simp only [Go.Act.put, List.setIfInBounds_toArray, List.set_cons_zero, List.set_cons_succ]
    refine takeW 1 (v := ?v2) rfl (by kernel_rfl) (by kernel_rfl) (by kernel_rfl) (by kernel_rfl) (fun _ _ _ h => h) (.inr hSS) (.inl ⟨by rfl, fun w => ?hy2⟩) ?rest2
    case hy2 => (go_simp <;> with_reducible rfl)
    simp only [Go.Act.put, List.setIfInBounds_toArray, List.set_cons_zero, List.set_cons_succ]
    refine takeW 2 (v := ?v3) rfl (by kernel_rfl) (by kernel_rfl) (by kernel_rfl) (by kernel_rfl) (fun _ _ _ h => h) (.inr hSS) (.inl ⟨by rfl, fun w => ?hy3⟩) ?rest3
    case hy3 => (go_simp <;> with_reducible rfl)
    simp only [Go.Act.put, List.setIfInBounds_toArray, List.set_cons_zero, List.set_cons_succ]
    refine takeR 3 [] (v := ?v4) rfl (by kernel_rfl) (by kernel_rfl) (by kernel_rfl) (by kernel_rfl) (by kernel_rfl) (fun _ _ _ h => h) hSS (.inl ⟨by rfl, fun w hSw => ?hy4⟩) ?rest4
    case hy4 => ((try dsimp only at hSw); go_simp <;> with_reducible rfl)
    simp only [Go.Act.put, List.setIfInBounds_toArray, List.set_cons_zero, List.set_cons_succ]
    refine takeR 4 [] (v := ?v5) rfl (by kernel_rfl) (by kernel_rfl) (by kernel_rfl) (by kernel_rfl) (by kernel_rfl) (fun _ _ _ h => h) hSS (.inl ⟨by rfl, fun w hSw => ?hy5⟩) ?rest5
    case hy5 => ((try dsimp only at hSw); go_simp <;> with_reducible rfl)
    simp only [Go.Act.put, List.setIfInBounds_toArray, List.set_cons_zero, List.set_cons_succ]
    clear hSS
    refine lastG 5 rfl (by kernel_rfl) (by kernel_rfl) (fun K hK => ?_)
    go_wp2_with fail
    refine (show Calls _ _ _ _ _ from HPU).mono ?_
    rintro e w4 ⟨s', hPE, hD4, hS4⟩
    clear HPU
    have HP := HB.out s' e hPE
    have HP' : Hid (BuildEnd s n E k (rdD D T) S root s' e) := HP
    obtain ⟨v, rfl⟩ : ∃ v, e = .returned v := by
      cases hPE with
      | bad _ _ => exact ⟨_, rfl⟩
      | keep _ _ hk => cases hk <;> exact ⟨_, rfl⟩
    have hS5 := hSp3.trans hS4
    clear hPE HP HB hS4 hSp3
    go_wp2
    refine hK _ _ ?_
    clear hK
    refine takeW 6 (v := ?v7) rfl (by kernel_rfl) (by kernel_rfl) (by kernel_rfl) (by kernel_rfl) (fun _ _ _ h => h) (.inl (by kernel_rfl)) (.inl ⟨by rfl, fun w => ?hy7⟩) ?rest7
    case hy7 => (go_simp <;> with_reducible rfl)
    simp only [Go.Act.put, List.setIfInBounds_toArray, List.set_cons_zero, List.set_cons_succ]
    refine doneG (by kernel_rfl) ?_ _
    go_wp2
    go_ret
    exact ⟨s', HP'.out, hD4, hS5⟩
/-- what Load answers: by what is kept and fresh, or reckoned anew. -/
inductive LoadsEnd (w : World) (B0 : Nat) (D : DataW Unit) (S : ByteArray → Int) (rd : ByteArray → Nat × ObjF) (root : ByteArray) (r : Bool × EntF) : Ending → Prop
  | kept (en : EntF) (u : Value) (F : Nat) (w1 : World) (B1 : Nat) (hB : B0 ≤ B1) (hw : w = w1.drew) (hr : r.1 = true) (hs : SameE en r.2) (hf : (!staleTo D S en.pName en.pStamp en.nP && decide (0 < en.nP)) = true) (hu : UseEnd w1 B1 D S rd en.nP en.pName en.pStamp en.pBase en.nQ en.qPart en.qAt en.qWord (.returned (.tuple #[u, errV F]))) : LoadsEnd w B0 D S rd root r (.returned (.tuple #[u, .bool (decide (F = 0)), errV F]))
  | new (u : Value) (F : Nat) (B1 : Nat) (hB : B0 ≤ B1) (hr : r.1 = false ∨ ∃ en, SameE en r.2 ∧ (!staleTo D S en.pName en.pStamp en.nP && decide (0 < en.nP)) = false) (hl : LoadEnd w B1 rd root (.returned (.tuple #[u, errV F]))) : LoadsEnd w B0 D S rd root r (.returned (.tuple #[u, .bool false, errV F]))
theorem UseEnd.form {w : World} {B0 : Nat} {D : DataW Unit} {S : ByteArray → Int} {rd : ByteArray → Nat × ObjF} {n : Nat} {s : Nat → ByteArray} {st b : Nat → Int} {np : Nat} {p t v : Nat → Int} {e : Ending} (h : UseEnd w B0 D S rd n s st b np p t v e) : ∃ u F, e = .returned (.tuple #[u, errV F]) := by
  cases h with
  | stale _ => exact ⟨_, _, rfl⟩
  | bad i _ _ _ => exact ⟨_, _, rfl⟩
  | lay e _ _ hl =>
    cases hl with
    | bad _ => exact ⟨_, _, rfl⟩
    | ok u _ _ _ _ _ _ _ => exact ⟨u, 0, rfl⟩
theorem LoadEnd.form {w : World} {B0 : Nat} {rd : ByteArray → Nat × ObjF} {root : ByteArray} {e : Ending} (h : LoadEnd w B0 rd root e) : ∃ u F, e = .returned (.tuple #[u, errV F]) := by
  cases h with
  | bad F _ _ => exact ⟨_, F, rfl⟩
  | ok _ _ _ _ u _ _ _ _ _ _ => exact ⟨u, 0, rfl⟩
theorem getE_ok {E : Nat → EntF} {k : Nat} {root : ByteArray} (h : ShelfOk E k) (hg : (getE E k root).1 = true) : entF (getE E k root).2 = 0 := by
  unfold getE at hg ⊢
  split at hg
  · cases hg
  · rename_i hn
    obtain ⟨j, _, hj, _, hfj⟩ := findF_some _ 0 rfl (show 0 ≤ findF E root k 0 by omega)
    rw [if_neg hn, hfj]
    exact h.ok j hj
set_option maxRecDepth 100000 in
set_option maxHeartbeats 8000000 in
theorem loaderLoad_any (w : World) (B p n l g pf bm : Nat) (s : DSt) (E : Nat → EntF) (k : Nat) (D : DataW Unit) (kf : Nat) (T : ByteArray → ByteArray) (S : ByteArray → Int) (root : ByteArray) (h : Disk w B p n s) (hS : Stands s n E k) (hl : LoaderAt w l pf g) (hg : ShelfAt w g p) (hE : Env w)
    (hF : FilesAt w pf bm D kf) (hI : Inv D kf) (hT : Texts D T) (hSt : Stamps D S) (hroot : root.size ≤ maxLen) :
    Calls Tryz.prog 11 #[.pointer (some ⟨l, 0, none⟩), .string root] w fun e w' => LoadsEnd w' w.heap.size D S (rdD D T) root (getE E k root) e ∧ Below w.heap.size w w' := by
  have HG := get_any w B p n g s E k root h hS hg hE
  have hgood := fun hr => getE_ok (root := root) hS.good hr
  have c1 := hl.c1
  generalize getE E k root = r at *
  obtain ⟨rb, re⟩ := r
  dsimp only at HG hgood
  unfold entCs at HG
  have HLOAD : ∀ W (hW : Below w.heap.size w W), Calls Tryz.prog 12 #[.pointer (some ⟨pf, 0, none⟩), .string root] W fun e w' => LoadEnd w' W.heap.size (rdD D T) root e ∧ Below W.heap.size W w' := fun W hW => load_any W pf bm D kf T root (hF.later hW) hI hT (hE.later hW) hroot
  have HC0 : ∀ W (hW : Below w.heap.size w W), W.cell? ⟨l, 0, none⟩ = some (.pointer (some ⟨pf, 0, none⟩)) := fun W hW => (hl.later hW).c0
  go_enter Tryz.func11, Tryz.ntmps11
  go_wp2_with fail
  refine (show Calls _ _ _ _ _ from HG).mono ?_
  rintro e w1 ⟨v, en, rfl, hSm, hIn, hb1⟩
  clear HG c1
  have hbn : Below w1.heap.size w1 (w1.alloc (.cells #[.string en.root, .slice v.aP en.nP v.cP, .slice v.aQ en.nQ v.cQ] 62)) := (Below.refl _ _).alloc (Nat.le_refl _) _
  have hb2 := hb1.trans (hbn.mono hb1.size)
  have d0 : (w1.alloc (.cells #[.string en.root, .slice v.aP en.nP v.cP, .slice v.aQ en.nQ v.cQ] 62)).cell? ⟨w1.heap.size, 0, none⟩ = some (.string en.root) := by simp [go_sem]
  have d1 : (w1.alloc (.cells #[.string en.root, .slice v.aP en.nP v.cP, .slice v.aQ en.nQ v.cQ] 62)).cell? ⟨w1.heap.size, 1, none⟩ = some (.slice v.aP en.nP v.cP) := by simp [go_sem]
  have d2 : (w1.alloc (.cells #[.string en.root, .slice v.aP en.nP v.cP, .slice v.aQ en.nQ v.cQ] 62)).cell? ⟨w1.heap.size, 2, none⟩ = some (.slice v.aQ en.nQ v.cQ) := by simp [go_sem]
  have hA2 := hIn.here.later hbn
  go_upto_region 2 with fail
  generalize w1.alloc (.cells #[.string en.root, .slice v.aP en.nP v.cP, .slice v.aQ en.nQ v.cQ] 62) = w2 at *
  generalize w1.heap.size = b2 at *
  clear hbn hb1 hIn
  have hb3 := hb2.trans ((Below.refl _ w2).drew.mono hb2.size)
  have c0 := HC0 _ hb3
  cases rb with
  | false =>
    have hSS : (fun w' : World => w'.cell? ⟨l, 0, none⟩ = some (.pointer (some ⟨pf, 0, none⟩)) ∧ w'.cell? ⟨b2, 0, none⟩ = some (.string en.root) ∧ w'.cell? ⟨b2, 1, none⟩ = some (.slice v.aP en.nP v.cP) ∧ w'.cell? ⟨b2, 2, none⟩ = some (.slice v.aQ en.nQ v.cQ)) w2.drew := ⟨c0, d0, d1, d2⟩
    refine wp_region_G (fun w' : World => w'.cell? ⟨l, 0, none⟩ = some (.pointer (some ⟨pf, 0, none⟩)) ∧ w'.cell? ⟨b2, 0, none⟩ = some (.string en.root) ∧ w'.cell? ⟨b2, 1, none⟩ = some (.slice v.aP en.nP v.cP) ∧ w'.cell? ⟨b2, 2, none⟩ = some (.slice v.aQ en.nQ v.cQ)) 8 9 (by kernel_rfl) rfl ?_
    clear d0 d1 d2 c0 hA2
    generalize w2.drew = w3 at *
    refine takeW 0 (v := ?v9) rfl (by kernel_rfl) (by kernel_rfl) (by kernel_rfl) (by kernel_rfl) (fun _ _ _ h => h) (.inr hSS) (.inl ⟨by rfl, fun w => ?hy9⟩) ?rest9
    case hy9 => (go_simp <;> with_reducible rfl)
    simp only [Go.Act.put, List.setIfInBounds_toArray, List.set_cons_zero, List.set_cons_succ]
    refine takeW 1 (v := ?v10) rfl (by kernel_rfl) (by kernel_rfl) (by kernel_rfl) (by kernel_rfl) (fun _ _ _ h => h) (.inr hSS) (.inl ⟨by rfl, fun w => ?hy10⟩) ?rest10
    case hy10 => (go_simp <;> with_reducible rfl)
    simp only [Go.Act.put, List.setIfInBounds_toArray, List.set_cons_zero, List.set_cons_succ]
    refine takeW 2 rfl (by kernel_rfl) (by kernel_rfl) (by kernel_rfl) (by kernel_rfl) (fun _ _ _ h => h) (.inr hSS) (.inr ⟨by rfl, rfl⟩) ?_
    simp only [Go.Act.put, List.setIfInBounds_toArray, List.set_cons_zero, List.set_cons_succ]
    refine takeW 3 rfl (by kernel_rfl) (by kernel_rfl) (by kernel_rfl) (by kernel_rfl) (fun _ _ _ h => h) (.inr hSS) (.inr ⟨by rfl, rfl⟩) ?_
    simp only [Go.Act.put, List.setIfInBounds_toArray, List.set_cons_zero, List.set_cons_succ]
    refine takeW 4 rfl (by kernel_rfl) (by kernel_rfl) (by kernel_rfl) (by kernel_rfl) (fun _ _ _ h => h) (.inr hSS) (.inr ⟨by rfl, rfl⟩) ?_
    simp only [Go.Act.put, List.setIfInBounds_toArray, List.set_cons_zero, List.set_cons_succ]
    refine takeW 5 rfl (by kernel_rfl) (by kernel_rfl) (by kernel_rfl) (by kernel_rfl) (fun _ _ _ h => h) (.inr hSS) (.inr ⟨by rfl, rfl⟩) ?_
    simp only [Go.Act.put, List.setIfInBounds_toArray, List.set_cons_zero, List.set_cons_succ]
    refine takeW 6 rfl (by kernel_rfl) (by kernel_rfl) (by kernel_rfl) (by kernel_rfl) (fun _ _ _ h => h) (.inr hSS) (.inr ⟨by rfl, rfl⟩) ?_
    simp only [Go.Act.put, List.setIfInBounds_toArray, List.set_cons_zero, List.set_cons_succ]
    refine takeW 7 rfl (by kernel_rfl) (by kernel_rfl) (by kernel_rfl) (by kernel_rfl) (fun _ _ _ h => h) (.inr hSS) (.inr ⟨by rfl, rfl⟩) ?_
    simp only [Go.Act.put, List.setIfInBounds_toArray, List.set_cons_zero, List.set_cons_succ]
    clear hSS
    refine lastG 8 rfl (by kernel_rfl) (by kernel_rfl) (fun K hK => ?_)
    go_wp2
    refine hK _ _ ?_
    clear hK
    refine doneG (by kernel_rfl) ?_ _
    have c0 := HC0 _ hb3
    have HLD := HLOAD _ hb3
    clear HLOAD HC0
    go_wp2_with fail
    refine (show Calls _ _ _ _ _ from HLD).mono ?_
    rintro e w4 ⟨hLE, hb4⟩
    clear HLD c0
    obtain ⟨u, F, rfl⟩ := hLE.form
    have HFIN : Hid (LoadsEnd w4 w.heap.size D S (rdD D T) root (false, re) (.returned (.tuple #[u, .bool false, errV F]))) := .new u F w3.heap.size hb3.size (.inl rfl) hLE
    have hb5 := hb3.trans (hb4.mono hb3.size)
    clear hLE hb4 hb3 hb2
    generalize errV F = ev at *
    go_wp2
    refine bodyPost_ret (v := .tuple #[u, .bool false, ev]) (by simp [results, Tryz.results11, go_sem]) rfl ?_
    exact ⟨HFIN.out, hb5⟩
  | true =>
    have hok := entOk (hSm.symm.line (hgood rfl)).1
    have hn6 := hok.nP
    have hq36 := hok.nQ
    have hnm : ∀ i, i < en.nP → (en.pName i).size ≤ maxLen := hok.fit.names
    have HFR := fresh_any w2.drew pf bm D kf S en.root en.nP en.nQ en.pName en.pStamp en.pBase v.aP v.aQ v.cP v.cQ (hF.later hb3) hSt (by omega) hnm (hA2.parts.later (Below.refl _ _).drew)
    have HUS : ∀ W (hW : Below w2.drew.heap.size w2.drew W), Calls Tryz.prog 33 #[.agg #[.string en.root, .slice v.aP en.nP v.cP, .slice v.aQ en.nQ v.cQ], .pointer (some ⟨pf, 0, none⟩)] W fun e w' => UseEnd w' W.heap.size D S (rdD D T) en.nP en.pName en.pStamp en.pBase en.nQ en.qPart en.qAt en.qWord e ∧ Below W.heap.size W w' := fun W hW => by
      have hbW := hb3.trans (hW.mono hb3.size)
      have hAW := (hA2.later (Below.refl _ _).drew).later hW
      exact use_any W pf bm D kf T S en.root en.nP en.nQ en.pName en.pStamp en.pBase en.qPart en.qAt en.qWord v.aP v.aQ v.cP v.cQ (hF.later hbW) hSt hT (hE.later hbW) (by omega) (by omega) hnm hAW.parts hAW.pats
    have hd0 : w2.drew.cell? ⟨b2, 0, none⟩ = some (.string en.root) := d0
    have hd1 : w2.drew.cell? ⟨b2, 1, none⟩ = some (.slice v.aP en.nP v.cP) := d1
    have hd2 : w2.drew.cell? ⟨b2, 2, none⟩ = some (.slice v.aQ en.nQ v.cQ) := d2
    have hSS : (fun w' : World => w'.cell? ⟨l, 0, none⟩ = some (.pointer (some ⟨pf, 0, none⟩)) ∧ w'.cell? ⟨b2, 0, none⟩ = some (.string en.root) ∧ w'.cell? ⟨b2, 1, none⟩ = some (.slice v.aP en.nP v.cP) ∧ w'.cell? ⟨b2, 2, none⟩ = some (.slice v.aQ en.nQ v.cQ)) w2.drew := ⟨c0, d0, d1, d2⟩
    obtain ⟨fr, hfr⟩ : ∃ fr, (!staleTo D S en.pName en.pStamp en.nP && decide (0 < en.nP)) = fr := ⟨_, rfl⟩
    rw [hfr] at HFR
    have Hfr : Hid ((!staleTo D S en.pName en.pStamp en.nP && decide (0 < en.nP)) = fr) := hfr
    clear hfr hn6 hq36 hnm hok d0 d1 d2 hA2
    refine wp_region_G (fun w' : World => w'.cell? ⟨l, 0, none⟩ = some (.pointer (some ⟨pf, 0, none⟩)) ∧ w'.cell? ⟨b2, 0, none⟩ = some (.string en.root) ∧ w'.cell? ⟨b2, 1, none⟩ = some (.slice v.aP en.nP v.cP) ∧ w'.cell? ⟨b2, 2, none⟩ = some (.slice v.aQ en.nQ v.cQ)) 7 9 (by kernel_rfl) rfl ?_
    generalize w2.drew = w3 at *
    refine takeW 0 (v := ?v19) rfl (by kernel_rfl) (by kernel_rfl) (by kernel_rfl) (by kernel_rfl) (fun _ _ _ h => h) (.inr hSS) (.inl ⟨by rfl, fun w => ?hy19⟩) ?rest19
    case hy19 => (go_simp <;> with_reducible rfl)
    simp only [Go.Act.put, List.setIfInBounds_toArray, List.set_cons_zero, List.set_cons_succ]
    refine takeW 1 (v := ?v20) rfl (by kernel_rfl) (by kernel_rfl) (by kernel_rfl) (by kernel_rfl) (fun _ _ _ h => h) (.inr hSS) (.inl ⟨by rfl, fun w => ?hy20⟩) ?rest20
    case hy20 => (go_simp <;> with_reducible rfl)
    simp only [Go.Act.put, List.setIfInBounds_toArray, List.set_cons_zero, List.set_cons_succ]
    refine takeW 3 (v := ?v21) rfl (by kernel_rfl) (by kernel_rfl) (by kernel_rfl) (by kernel_rfl) (fun _ _ _ h => h) (.inr hSS) (.inl ⟨by rfl, fun w => ?hy21⟩) ?rest21
    case hy21 => (go_simp <;> with_reducible rfl)
    simp only [Go.Act.put, List.setIfInBounds_toArray, List.set_cons_zero, List.set_cons_succ]
    refine takeW 4 (v := ?v22) rfl (by kernel_rfl) (by kernel_rfl) (by kernel_rfl) (by kernel_rfl) (fun _ _ _ h => h) (.inr hSS) (.inl ⟨by rfl, fun w => ?hy22⟩) ?rest22
    case hy22 => (go_simp <;> with_reducible rfl)
    simp only [Go.Act.put, List.setIfInBounds_toArray, List.set_cons_zero, List.set_cons_succ]
    refine takeW 5 (v := ?v23) rfl (by kernel_rfl) (by kernel_rfl) (by kernel_rfl) (by kernel_rfl) (fun _ _ _ h => h) (.inr hSS) (.inl ⟨by rfl, fun w => ?hy23⟩) ?rest23
    case hy23 => (go_simp <;> with_reducible rfl)
    simp only [Go.Act.put, List.setIfInBounds_toArray, List.set_cons_zero, List.set_cons_succ]
    refine takeR 2 [] (v := ?v24) rfl (by kernel_rfl) (by kernel_rfl) (by kernel_rfl) (by kernel_rfl) (by kernel_rfl) (fun _ _ _ h => h) hSS (.inl ⟨by rfl, fun w hSw => ?hy24⟩) ?rest24
    case hy24 => ((try dsimp only at hSw); go_simp <;> with_reducible rfl)
    simp only [Go.Act.put, List.setIfInBounds_toArray, List.set_cons_zero, List.set_cons_succ]
    refine takeR 6 [] (v := ?v25) rfl (by kernel_rfl) (by kernel_rfl) (by kernel_rfl) (by kernel_rfl) (by kernel_rfl) (fun _ _ _ h => h) hSS (.inl ⟨by rfl, fun w hSw => ?hy25⟩) ?rest25
    case hy25 => ((try dsimp only at hSw); go_simp <;> with_reducible rfl)
    simp only [Go.Act.put, List.setIfInBounds_toArray, List.set_cons_zero, List.set_cons_succ]
    clear hSS
    refine lastG 7 rfl (by kernel_rfl) (by kernel_rfl) (fun K hK => ?_)
    go_wp2_with fail
    refine (show Calls _ _ _ _ _ from HFR).mono ?_
    rintro e w4 ⟨rfl, hb4⟩
    clear HFR
    go_wp2
    refine hK _ _ ?_
    clear hK
    refine takeW 8 (v := ?v27) rfl (by kernel_rfl) (by kernel_rfl) (by kernel_rfl) (by kernel_rfl) (fun _ _ _ h => h) (.inl (by kernel_rfl)) (.inl ⟨by rfl, fun w => ?hy27⟩) ?rest27
    case hy27 => (go_simp <;> with_reducible rfl)
    simp only [Go.Act.put, List.setIfInBounds_toArray, List.set_cons_zero, List.set_cons_succ]
    refine doneG (by kernel_rfl) ?_ _
    have hb5 := hb3.trans (hb4.mono hb3.size)
    cases fr with
    | false =>
      have c0 := HC0 _ hb5
      have HLD := HLOAD _ hb5
      clear HLOAD HC0 HUS
      go_wp2_with fail
      refine (show Calls _ _ _ _ _ from HLD).mono ?_
      rintro e w6 ⟨hLE, hb6⟩
      clear HLD c0
      obtain ⟨u, F, rfl⟩ := hLE.form
      have HFIN : Hid (LoadsEnd w6 w.heap.size D S (rdD D T) root (true, re) (.returned (.tuple #[u, .bool false, errV F]))) := .new u F w4.heap.size hb5.size (.inr ⟨en, hSm, Hfr.out⟩) hLE
      have hb7 := hb5.trans (hb6.mono hb5.size)
      clear hLE hb6 hb5 hb4 hb3 hb2 Hfr
      generalize errV F = ev at *
      go_wp2
      refine bodyPost_ret (v := .tuple #[u, .bool false, ev]) (by simp [results, Tryz.results11, go_sem]) rfl ?_
      exact ⟨HFIN.out, hb7⟩
    | true =>
      have hb6 := hb5.trans ((Below.refl _ w4).drew.mono hb5.size)
      have c0 := HC0 _ hb6
      have hb4d := hb4.trans ((Below.refl _ w4).drew.mono hb4.size)
      have HU := HUS w4.drew hb4d
      have y0 : w4.drew.cell? ⟨b2, 0, none⟩ = some (.string en.root) := cell_later hb4d hd0
      have y1 : w4.drew.cell? ⟨b2, 1, none⟩ = some (.slice v.aP en.nP v.cP) := cell_later hb4d hd1
      have y2 : w4.drew.cell? ⟨b2, 2, none⟩ = some (.slice v.aQ en.nQ v.cQ) := cell_later hb4d hd2
      have hSS : (fun w' : World => w'.cell? ⟨l, 0, none⟩ = some (.pointer (some ⟨pf, 0, none⟩)) ∧ w'.cell? ⟨b2, 0, none⟩ = some (.string en.root) ∧ w'.cell? ⟨b2, 1, none⟩ = some (.slice v.aP en.nP v.cP) ∧ w'.cell? ⟨b2, 2, none⟩ = some (.slice v.aQ en.nQ v.cQ)) w4.drew := ⟨c0, y0, y1, y2⟩
      clear HUS HLOAD HC0 hd0 hd1 hd2 y0 y1 y2 hb4d
      go_upto_region 3 with fail
      refine wp_region_G (fun w' : World => w'.cell? ⟨l, 0, none⟩ = some (.pointer (some ⟨pf, 0, none⟩)) ∧ w'.cell? ⟨b2, 0, none⟩ = some (.string en.root) ∧ w'.cell? ⟨b2, 1, none⟩ = some (.slice v.aP en.nP v.cP) ∧ w'.cell? ⟨b2, 2, none⟩ = some (.slice v.aQ en.nQ v.cQ)) 5 11 (by kernel_rfl) rfl ?_
      generalize w4.drew = w5 at *
      refine takeW 1 (v := ?v29) rfl (by kernel_rfl) (by kernel_rfl) (by kernel_rfl) (by kernel_rfl) (fun _ _ _ h => h) (.inr hSS) (.inl ⟨by rfl, fun w => ?hy29⟩) ?rest29
      case hy29 => (go_simp <;> with_reducible rfl)
      simp only [Go.Act.put, List.setIfInBounds_toArray, List.set_cons_zero, List.set_cons_succ]
      refine takeW 2 (v := ?v30) rfl (by kernel_rfl) (by kernel_rfl) (by kernel_rfl) (by kernel_rfl) (fun _ _ _ h => h) (.inr hSS) (.inl ⟨by rfl, fun w => ?hy30⟩) ?rest30
      case hy30 => (go_simp <;> with_reducible rfl)
      simp only [Go.Act.put, List.setIfInBounds_toArray, List.set_cons_zero, List.set_cons_succ]
      refine takeW 3 (v := ?v31) rfl (by kernel_rfl) (by kernel_rfl) (by kernel_rfl) (by kernel_rfl) (fun _ _ _ h => h) (.inr hSS) (.inl ⟨by rfl, fun w => ?hy31⟩) ?rest31
      case hy31 => (go_simp <;> with_reducible rfl)
      simp only [Go.Act.put, List.setIfInBounds_toArray, List.set_cons_zero, List.set_cons_succ]
      refine takeR 0 [] (v := ?v32) rfl (by kernel_rfl) (by kernel_rfl) (by kernel_rfl) (by kernel_rfl) (by kernel_rfl) (fun _ _ _ h => h) hSS (.inl ⟨by rfl, fun w hSw => ?hy32⟩) ?rest32
      case hy32 => ((try dsimp only at hSw); go_simp <;> with_reducible rfl)
      simp only [Go.Act.put, List.setIfInBounds_toArray, List.set_cons_zero, List.set_cons_succ]
      refine takeR 4 [] (v := ?v33) rfl (by kernel_rfl) (by kernel_rfl) (by kernel_rfl) (by kernel_rfl) (by kernel_rfl) (fun _ _ _ h => h) hSS (.inl ⟨by rfl, fun w hSw => ?hy33⟩) ?rest33
      case hy33 => ((try dsimp only at hSw); go_simp <;> with_reducible rfl)
      simp only [Go.Act.put, List.setIfInBounds_toArray, List.set_cons_zero, List.set_cons_succ]
      clear hSS
      refine lastG 5 rfl (by kernel_rfl) (by kernel_rfl) (fun K hK => ?_)
      go_wp2_with fail
      refine (show Calls _ _ _ _ _ from HU).mono ?_
      rintro e w6 ⟨hUE, hb7⟩
      clear HU
      obtain ⟨u, F, rfl⟩ := hUE.form
      have hb8 := hb6.trans (hb7.mono hb6.size)
      have hb9 := hb8.trans ((Below.refl _ w6).drew.mono hb8.size)
      have HFIN : Hid (LoadsEnd w6.drew w.heap.size D S (rdD D T) root (true, re) (.returned (.tuple #[u, .bool (decide (F = 0)), errV F]))) := .kept en u F w6 w5.heap.size hb6.size rfl rfl hSm Hfr.out hUE
      clear hUE hb7 hb8 hb6 hb5 hb4 hb3 hb2 Hfr
      have hev : ∃ ev q, errV F = ev ∧ decide (F = 0) = q ∧ ((ev = .nilIface ∧ q = true) ∨ ∃ z, ev = .iface 82 (.int .i64 z) ∧ q = false) := by
        by_cases h0 : F = 0
        · subst h0; exact ⟨_, _, rfl, rfl, .inl ⟨rfl, rfl⟩⟩
        · obtain ⟨z, hz⟩ := errV_num h0
          exact ⟨_, _, rfl, rfl, .inr ⟨z, hz, decide_eq_false h0⟩⟩
      obtain ⟨ev, q, he1, he2, hcase⟩ := hev
      rw [he1, he2] at HFIN
      rw [he1]
      clear he1 he2
      rcases hcase with ⟨rfl, rfl⟩ | ⟨z, rfl, rfl⟩
      · go_wp2
        refine hK _ _ ?_
        clear hK
        refine takeW 6 (v := ?v35) rfl (by kernel_rfl) (by kernel_rfl) (by kernel_rfl) (by kernel_rfl) (fun _ _ _ h => h) (.inl (by kernel_rfl)) (.inl ⟨by rfl, fun w => ?hy35⟩) ?rest35
        case hy35 => (go_simp <;> with_reducible rfl)
        simp only [Go.Act.put, List.setIfInBounds_toArray, List.set_cons_zero, List.set_cons_succ]
        refine takeW 7 (v := ?v36) rfl (by kernel_rfl) (by kernel_rfl) (by kernel_rfl) (by kernel_rfl) (fun _ _ _ h => h) (.inl (by kernel_rfl)) (.inl ⟨by rfl, fun w => ?hy36⟩) ?rest36
        case hy36 => (go_simp <;> with_reducible rfl)
        simp only [Go.Act.put, List.setIfInBounds_toArray, List.set_cons_zero, List.set_cons_succ]
        refine takeW 8 (v := ?v37) rfl (by kernel_rfl) (by kernel_rfl) (by kernel_rfl) (by kernel_rfl) (fun _ _ _ h => h) (.inl (by kernel_rfl)) (.inl ⟨by rfl, fun w => ?hy37⟩) ?rest37
        case hy37 => (go_simp <;> with_reducible rfl)
        simp only [Go.Act.put, List.setIfInBounds_toArray, List.set_cons_zero, List.set_cons_succ]
        refine takeW 9 (v := ?v38) rfl (by kernel_rfl) (by kernel_rfl) (by kernel_rfl) (by kernel_rfl) (fun _ _ _ h => h) (.inl (by kernel_rfl)) (.inl ⟨by rfl, fun w => ?hy38⟩) ?rest38
        case hy38 => (go_simp <;> with_reducible rfl)
        simp only [Go.Act.put, List.setIfInBounds_toArray, List.set_cons_zero, List.set_cons_succ]
        refine takeW 10 (v := ?v39) rfl (by kernel_rfl) (by kernel_rfl) (by kernel_rfl) (by kernel_rfl) (fun _ _ _ h => h) (.inl (by kernel_rfl)) (.inl ⟨by rfl, fun w => ?hy39⟩) ?rest39
        case hy39 => (go_simp <;> with_reducible rfl)
        simp only [Go.Act.put, List.setIfInBounds_toArray, List.set_cons_zero, List.set_cons_succ]
        refine doneG (by kernel_rfl) ?_ _
        go_upto_region 4 with fail
        have hSS : (fun _ : World => True) w6.drew := trivial
        refine wp_region_G (fun _ : World => True) 6 7 (by kernel_rfl) rfl ?_
        refine takeW 0 (v := ?v41) rfl (by kernel_rfl) (by kernel_rfl) (by kernel_rfl) (by kernel_rfl) (fun _ _ _ h => h) (.inr hSS) (.inl ⟨by rfl, fun w => ?hy41⟩) ?rest41
        case hy41 => (go_simp <;> with_reducible rfl)
        simp only [Go.Act.put, List.setIfInBounds_toArray, List.set_cons_zero, List.set_cons_succ]
        refine takeW 1 (v := ?v42) rfl (by kernel_rfl) (by kernel_rfl) (by kernel_rfl) (by kernel_rfl) (fun _ _ _ h => h) (.inr hSS) (.inl ⟨by rfl, fun w => ?hy42⟩) ?rest42
        case hy42 => (go_simp <;> with_reducible rfl)
        simp only [Go.Act.put, List.setIfInBounds_toArray, List.set_cons_zero, List.set_cons_succ]
        refine takeW 2 (v := ?v43) rfl (by kernel_rfl) (by kernel_rfl) (by kernel_rfl) (by kernel_rfl) (fun _ _ _ h => h) (.inr hSS) (.inl ⟨by rfl, fun w => ?hy43⟩) ?rest43
        case hy43 => (go_simp <;> with_reducible rfl)
        simp only [Go.Act.put, List.setIfInBounds_toArray, List.set_cons_zero, List.set_cons_succ]
        refine takeW 3 (v := ?v44) rfl (by kernel_rfl) (by kernel_rfl) (by kernel_rfl) (by kernel_rfl) (fun _ _ _ h => h) (.inr hSS) (.inl ⟨by rfl, fun w => ?hy44⟩) ?rest44
        case hy44 => (go_simp <;> with_reducible rfl)
        simp only [Go.Act.put, List.setIfInBounds_toArray, List.set_cons_zero, List.set_cons_succ]
        refine takeW 4 (v := ?v45) rfl (by kernel_rfl) (by kernel_rfl) (by kernel_rfl) (by kernel_rfl) (fun _ _ _ h => h) (.inr hSS) (.inl ⟨by rfl, fun w => ?hy45⟩) ?rest45
        case hy45 => (go_simp <;> with_reducible rfl)
        simp only [Go.Act.put, List.setIfInBounds_toArray, List.set_cons_zero, List.set_cons_succ]
        refine takeW 5 (v := ?v46) rfl (by kernel_rfl) (by kernel_rfl) (by kernel_rfl) (by kernel_rfl) (fun _ _ _ h => h) (.inr hSS) (.inl ⟨by rfl, fun w => ?hy46⟩) ?rest46
        case hy46 => (go_simp <;> with_reducible rfl)
        simp only [Go.Act.put, List.setIfInBounds_toArray, List.set_cons_zero, List.set_cons_succ]
        clear hSS
        refine lastG 6 rfl (by kernel_rfl) (by kernel_rfl) (fun K hK => ?_)
        go_wp2
        refine hK _ _ ?_
        clear hK
        refine doneG (by kernel_rfl) ?_ _
        go_wp2
        refine bodyPost_ret (v := .tuple #[u, .bool true, .nilIface]) (by simp [results, Tryz.results11, go_sem]) rfl ?_
        exact ⟨HFIN.out, hb9⟩
      · go_wp2
        refine hK _ _ ?_
        clear hK
        refine takeW 6 (v := ?v49) rfl (by kernel_rfl) (by kernel_rfl) (by kernel_rfl) (by kernel_rfl) (fun _ _ _ h => h) (.inl (by kernel_rfl)) (.inl ⟨by rfl, fun w => ?hy49⟩) ?rest49
        case hy49 => (go_simp <;> with_reducible rfl)
        simp only [Go.Act.put, List.setIfInBounds_toArray, List.set_cons_zero, List.set_cons_succ]
        refine takeW 7 (v := ?v50) rfl (by kernel_rfl) (by kernel_rfl) (by kernel_rfl) (by kernel_rfl) (fun _ _ _ h => h) (.inl (by kernel_rfl)) (.inl ⟨by rfl, fun w => ?hy50⟩) ?rest50
        case hy50 => (go_simp <;> with_reducible rfl)
        simp only [Go.Act.put, List.setIfInBounds_toArray, List.set_cons_zero, List.set_cons_succ]
        refine takeW 8 (v := ?v51) rfl (by kernel_rfl) (by kernel_rfl) (by kernel_rfl) (by kernel_rfl) (fun _ _ _ h => h) (.inl (by kernel_rfl)) (.inl ⟨by rfl, fun w => ?hy51⟩) ?rest51
        case hy51 => (go_simp <;> with_reducible rfl)
        simp only [Go.Act.put, List.setIfInBounds_toArray, List.set_cons_zero, List.set_cons_succ]
        refine takeW 9 (v := ?v52) rfl (by kernel_rfl) (by kernel_rfl) (by kernel_rfl) (by kernel_rfl) (fun _ _ _ h => h) (.inl (by kernel_rfl)) (.inl ⟨by rfl, fun w => ?hy52⟩) ?rest52
        case hy52 => (go_simp <;> with_reducible rfl)
        simp only [Go.Act.put, List.setIfInBounds_toArray, List.set_cons_zero, List.set_cons_succ]
        refine takeW 10 (v := ?v53) rfl (by kernel_rfl) (by kernel_rfl) (by kernel_rfl) (by kernel_rfl) (fun _ _ _ h => h) (.inl (by kernel_rfl)) (.inl ⟨by rfl, fun w => ?hy53⟩) ?rest53
        case hy53 => (go_simp <;> with_reducible rfl)
        simp only [Go.Act.put, List.setIfInBounds_toArray, List.set_cons_zero, List.set_cons_succ]
        refine doneG (by kernel_rfl) ?_ _
        go_upto_region 4 with fail
        have hSS : (fun _ : World => True) w6.drew := trivial
        refine wp_region_G (fun _ : World => True) 6 7 (by kernel_rfl) rfl ?_
        refine takeW 0 (v := ?v55) rfl (by kernel_rfl) (by kernel_rfl) (by kernel_rfl) (by kernel_rfl) (fun _ _ _ h => h) (.inr hSS) (.inl ⟨by rfl, fun w => ?hy55⟩) ?rest55
        case hy55 => (go_simp <;> with_reducible rfl)
        simp only [Go.Act.put, List.setIfInBounds_toArray, List.set_cons_zero, List.set_cons_succ]
        refine takeW 1 (v := ?v56) rfl (by kernel_rfl) (by kernel_rfl) (by kernel_rfl) (by kernel_rfl) (fun _ _ _ h => h) (.inr hSS) (.inl ⟨by rfl, fun w => ?hy56⟩) ?rest56
        case hy56 => (go_simp <;> with_reducible rfl)
        simp only [Go.Act.put, List.setIfInBounds_toArray, List.set_cons_zero, List.set_cons_succ]
        refine takeW 2 (v := ?v57) rfl (by kernel_rfl) (by kernel_rfl) (by kernel_rfl) (by kernel_rfl) (fun _ _ _ h => h) (.inr hSS) (.inl ⟨by rfl, fun w => ?hy57⟩) ?rest57
        case hy57 => (go_simp <;> with_reducible rfl)
        simp only [Go.Act.put, List.setIfInBounds_toArray, List.set_cons_zero, List.set_cons_succ]
        refine takeW 3 (v := ?v58) rfl (by kernel_rfl) (by kernel_rfl) (by kernel_rfl) (by kernel_rfl) (fun _ _ _ h => h) (.inr hSS) (.inl ⟨by rfl, fun w => ?hy58⟩) ?rest58
        case hy58 => (go_simp <;> with_reducible rfl)
        simp only [Go.Act.put, List.setIfInBounds_toArray, List.set_cons_zero, List.set_cons_succ]
        refine takeW 4 (v := ?v59) rfl (by kernel_rfl) (by kernel_rfl) (by kernel_rfl) (by kernel_rfl) (fun _ _ _ h => h) (.inr hSS) (.inl ⟨by rfl, fun w => ?hy59⟩) ?rest59
        case hy59 => (go_simp <;> with_reducible rfl)
        simp only [Go.Act.put, List.setIfInBounds_toArray, List.set_cons_zero, List.set_cons_succ]
        refine takeW 5 (v := ?v60) rfl (by kernel_rfl) (by kernel_rfl) (by kernel_rfl) (by kernel_rfl) (fun _ _ _ h => h) (.inr hSS) (.inl ⟨by rfl, fun w => ?hy60⟩) ?rest60
        case hy60 => (go_simp <;> with_reducible rfl)
        simp only [Go.Act.put, List.setIfInBounds_toArray, List.set_cons_zero, List.set_cons_succ]
        clear hSS
        refine lastG 6 rfl (by kernel_rfl) (by kernel_rfl) (fun K hK => ?_)
        go_wp2
        refine hK _ _ ?_
        clear hK
        refine doneG (by kernel_rfl) ?_ _
        go_wp2
        refine bodyPost_ret (v := .tuple #[u, .bool false, .iface 82 (.int .i64 z)]) (by simp [results, Tryz.results11, go_sem]) rfl ?_
        exact ⟨HFIN.out, hb9⟩
end Go.Proofs.YtidabcoodolddaaGreatDoor

namespace Go.Proofs.YtidabcoodolddaaGreatDoor
open Go.RowKit Go.Maps

theorem putF_pats {X : Nat → Nat → Int} {p p' t t' v v' : Nat → Int} {n : Nat} (e : ∀ k, k < n → p k = p' k ∧ t k = t' k ∧ v k = v' k) (i j : Nat) : putF X p t v n i j = putF X p' t' v' n i j := by
  induction n with
  | zero => rfl
  | succ n ih =>
    simp only [putF]
    rw [ih fun k hk => e k (by omega), (e n (by omega)).1, (e n (by omega)).2.1, (e n (by omega)).2.2]
theorem PartsIn.base {w : World} {B0 : Nat} {v : Value} {n : Nat} {nm : Nat → ByteArray} {B B' : Nat → Int} {M : Nat → Nat} {X : Nat → Nat → Int} {g : Nat} {A : Nat → Option Addr} {C G : Nat → Nat} (h : PartsIn w B0 v n nm B M X g A C G) (e : ∀ i, i < n → B i = B' i) : PartsIn w B0 v n nm B' M X g A C G :=
  ⟨h.out, by
    have := h.own
    rwa [joinC_congr (g := partC nm B A M C) (h := partC nm B' A M C) fun i hi => by unfold partC; rw [e i hi]] at this⟩
theorem held_putE {D : DataW Unit} {kf k : Nat} {E : Nat → EntF} {en : EntF} (h : ∀ i, i < k → Held D kf (E i)) (he : Held D kf en) : ∀ i, i < (putE E k en).2.2 → Held D kf ((putE E k en).2.1 i) := by
  have key : ∀ j n, (∀ i, i < n → i ≠ j → i < k) → ∀ i, i < n → Held D kf (addV E j en i) := fun j n hn i hi => by
    unfold addV
    by_cases e : i = j
    · rw [if_pos e]; exact he
    · rw [if_neg e]; exact h i (hn i hi e)
  unfold putE
  split
  · exact h
  · split
    · exact key _ _ fun i hi _ => hi
    · split
      · exact h
      · exact key _ _ fun i hi e => by
          have : i < k + 1 := hi
          omega
theorem held_dropE {D : DataW Unit} {kf k : Nat} {E : Nat → EntF} {root : ByteArray} (h : ∀ i, i < k → Held D kf (E i)) : ∀ i, i < (dropE E k root).2.2 → Held D kf ((dropE E k root).2.1 i) := by
  unfold dropE
  split
  · exact h
  · intro i hi
    have hi' : i < k - 1 := hi
    show Held D kf (cutV E _ i)
    unfold cutV
    split
    · exact h i (by omega)
    · exact h (i + 1) (by omega)
theorem errV_zero {F : Nat} (h : errV F = .nilIface) : F = 0 := by
  cases F with
  | zero => rfl
  | succ n => cases h
theorem kept_load {w : World} {B0 : Nat} {D : DataW Unit} {kf : Nat} {T : ByteArray → ByteArray} {S : ByteArray → Int} {re en : EntF} {u : Value} {F : Nat} {root : ByteArray} (hI : Inv D kf) (hT : Texts D T) (hS : Stamps D S) (hH : Held D kf re) (hr : re.root = root) (hs : SameE en re)
    (hf : (!staleTo D S en.pName en.pStamp en.nP && decide (0 < en.nP)) = true) (hu : UseEnd w B0 D S (rdD D T) en.nP en.pName en.pStamp en.pBase en.nQ en.qPart en.qAt en.qWord (.returned (.tuple #[u, errV F]))) : LoadEnd w B0 (rdD D T) root (.returned (.tuple #[u, errV F])) ∧ F = 0 := by
  obtain ⟨D0, k0, T0, S0, m, B, P, Q, hM⟩ := hH
  subst hr
  have hSE := hs.trans hM.same
  have e1 : en.nP = m := hSE.nP
  have e2 : en.nQ = (patsAt (rdD D0 T0) re.root m B P Q).length := hSE.nQ
  have e3 : ∀ i, i < m → en.pName i = nmAt (rdD D0 T0) re.root i ∧ en.pStamp i = S0 (nmAt (rdD D0 T0) re.root i) ∧ en.pBase i = B i := hSE.parts
  have e4 : ∀ i, i < (patsAt (rdD D0 T0) re.root m B P Q).length → en.qPart i = pP (patsAt (rdD D0 T0) re.root m B P Q) i ∧ en.qAt i = pT (patsAt (rdD D0 T0) re.root m B P Q) i ∧ en.qWord i = pV (patsAt (rdD D0 T0) re.root m B P Q) i := hSE.pats
  have hst0 : staleTo D S (nmAt (rdD D0 T0) re.root) (fun j => S0 (nmAt (rdD D0 T0) re.root j)) m = false := by
    have h0 : staleTo D S en.pName en.pStamp en.nP = false := by
      cases e : staleTo D S en.pName en.pStamp en.nP with
      | false => rfl
      | true => rw [e] at hf; cases hf
    rw [e1] at h0
    rw [← h0]
    unfold staleTo
    exact anyTo_congr fun i hi => by rw [(e3 i hi).1, (e3 i hi).2.1]
  have hrd := hM.reads hI hT hS hst0
  obtain ⟨h1, h2, h3⟩ := reckoned_same hM.reck hrd
  have hO : ∀ i, i < m → rdD D T (en.pName i) = rdD D T (nmAt (rdD D T) re.root i) := fun i hi => by rw [(e3 i hi).1, (h3 i hi).1]
  have hok : ∀ j, j < m → ObjOk (obAt (rdD D T) re.root j) := fun j hj => rd_ok (ofIs_read h1.of rfl j hj).2
  have hpo := pats_ok (O := obAt (rdD D T) re.root) (P := P) (Q := Q) (B := B) (m := m) hok
  rw [← h2] at e2 e4
  generalize hE : Ending.returned (.tuple #[u, errV F]) = e at hu
  cases hu with
  | stale h => rw [hf] at h; cases h
  | bad i hi h0 hb =>
    have hi' : i < m := by rw [← e1]; exact hi
    rw [hO i hi'] at hb
    exact absurd (ofIs_read h1.of rfl i hi').2 hb
  | lay e h h0 hl =>
    cases hl with
    | bad hbd =>
      obtain ⟨k, hk, hbk⟩ := hbd
      have hk' : k < (patsAt (rdD D T) re.root m B P Q).length := by rw [← e2]; exact hk
      have hp : patOk m (fun i => (obAt (rdD D T) re.root i).nW) (pP (patsAt (rdD D T) re.root m B P Q) k) (pT (patsAt (rdD D T) re.root m B P Q) k) = true := hpo k hk'
      dsimp only at hbk
      rw [e1, (e4 k hk').1, (e4 k hk').2.1] at hbk
      unfold patOk at hbk hp
      dsimp only at hbk hp
      rw [Bool.and_eq_true] at hp
      obtain ⟨hp1, hp2⟩ := hp
      have hlt : (pP (patsAt (rdD D T) re.root m B P Q) k).toNat < m := by
        unfold isPlaceF at hp1
        simp only [Bool.and_eq_true, decide_eq_true_eq] at hp1
        omega
      rw [hp1, hO _ hlt, hp2] at hbk
      cases hbk
    | ok u2 g A C G h5 ho hu2 =>
      have hPI : PartsIn w B0 u2 en.nP en.pName en.pBase (fun i => (rdD D T (en.pName i)).2.nW) (putF (fun i j => (rdD D T (en.pName i)).2.words j) en.qPart en.qAt en.qWord en.nQ) g A C G := ⟨ho, hu2⟩
      rw [e1, e2] at hPI
      have hPJ := (hPI.base (B' := B) fun i hi => (e3 i hi).2.2).congr (nm' := nmAt (rdD D T) re.root) (M' := fun i => (obAt (rdD D T) re.root i).nW) (X' := boundW (rdD D T) re.root m B P Q) fun i hi =>
        ⟨(e3 i hi).1.trans (h3 i hi).1.symm, by rw [hO i hi], fun j => (putF_pats e4 i j).trans (putF_same (fun j => by rw [hO i hi]) _ _)⟩
      have hF : F = 0 := errV_zero (by
        injection hE with hE
        injection hE with hE
        have := congrArg (fun a : Array Value => a[1]?) hE
        simpa using this)
      exact ⟨.ok m B P Q u2 g A C G h1 hPJ, hF⟩
theorem ret2 {u u' v v' : Value} (h : Ending.returned (.tuple #[u, v]) = .returned (.tuple #[u', v'])) : u = u' ∧ v = v' := by
  simpa using h
/-- what is loaded where it can be reckoned. -/
theorem LoadEnd.good {w : World} {B0 : Nat} {rd : ByteArray → Nat × ObjF} {root : ByteArray} {u : Value} {F m : Nat} {B : Nat → Int} {P Q : ByteArray → Int} (h : LoadEnd w B0 rd root (.returned (.tuple #[u, errV F]))) (hR : Reckoned rd root m B P Q) :
    F = 0 ∧ ∃ g A C G, PartsIn w B0 u m (nmAt rd root) B (fun i => (obAt rd root i).nW) (boundW rd root m B P Q) g A C G := by
  generalize hE : Ending.returned (.tuple #[u, errV F]) = e at h
  cases h with
  | bad F' h hf => exact (h.not hR).elim
  | ok m' B' P' Q' u' g A C G h hu =>
    obtain ⟨rfl, rfl, rfl, rfl⟩ := h.unique hR
    obtain ⟨rfl, h2⟩ := ret2 hE
    exact ⟨errV_zero h2, g, A, C, G, hu⟩
theorem errV_inj {F F' : Nat} (h : errV F = errV F') : F = F' := by
  cases F with
  | zero => cases F' with
    | zero => rfl
    | succ n => cases h
  | succ n => cases F' with
    | zero => cases h
    | succ m =>
      have h1 : ((n + 1 : Nat) : Int) = ((m + 1 : Nat) : Int) := by
        injection h with _ h
        injection h
      omega
/-- what is loaded: nothing, with the number of the error, or the parts. -/
theorem LoadEnd.which {w : World} {B0 : Nat} {rd : ByteArray → Nat × ObjF} {root : ByteArray} {u : Value} {F : Nat} (h : LoadEnd w B0 rd root (.returned (.tuple #[u, errV F]))) :
    (F ≠ 0 ∧ u = .slice none 0 0 ∧ ReckIs rd root F) ∨ (F = 0 ∧ ∃ m B P Q g A C G, Reckoned rd root m B P Q ∧ PartsIn w B0 u m (nmAt rd root) B (fun i => (obAt rd root i).nW) (boundW rd root m B P Q) g A C G) := by
  generalize hE : Ending.returned (.tuple #[u, errV F]) = e at h
  cases h with
  | bad F' h hf =>
    obtain ⟨rfl, h2⟩ := ret2 hE
    obtain rfl := errV_inj h2
    exact .inl ⟨hf, rfl, h⟩
  | ok m' B' P' Q' u' g A C G h hu =>
    obtain ⟨rfl, h2⟩ := ret2 hE
    exact .inr ⟨errV_zero h2, m', B', P', Q', g, A, C, G, h, hu⟩
end Go.Proofs.YtidabcoodolddaaGreatDoor

namespace Go.Proofs.YtidabcoodolddaaGreatDoor
open Go.RowKit Go.Maps

/-- files, a disk that stands, a loader over both. -/
structure KeptAt (w wc : World) (B p pf bm l g : Nat) (s : DSt) (E : Nat → EntF) (k : Nat) (D : DataW Unit) (kf : Nat) : Prop where
  disk : Disk wc B p 112 s
  stands : Stands s 112 E k
  files : FilesAt wc pf bm D kf
  inv : Inv D kf
  names : NamesOk D
  pos : StampsPos D
  held : ∀ i, i < k → Held D kf (E i)
  loader : LoaderAt wc l pf g
  shelf : ShelfAt wc g p
  below : Below w.heap.size w wc
/-- the disk fell: one of two shelves stands behind it. -/
structure FallAt (w wc : World) (B p pf bm : Nat) (s : DSt) (E : Nat → EntF) (k : Nat) (E' : Nat → EntF) (k' : Nat) (D : DataW Unit) (kf : Nat) : Prop where
  disk : Disk wc B p 112 s
  split : Split s 112 E k E' k'
  files : FilesAt wc pf bm D kf
  inv : Inv D kf
  names : NamesOk D
  pos : StampsPos D
  held : ∀ i, i < k → Held D kf (E i)
  held' : ∀ i, i < k' → Held D kf (E' i)
  below : Below w.heap.size w wc
/-- what an act leaves. -/
def StepTo (w wc : World) (B p pf bm l g : Nat) (s0 s : DSt) (D : DataW Unit) (kf : Nat) : Prop :=
  ((s0.left = -1 → s.left = -1) ∧ ∃ E k, KeptAt w wc B p pf bm l g s E k D kf) ∨ (s0.left ≠ -1 ∧ ∃ E k E' k', FallAt w wc B p pf bm s E k E' k' D kf)
theorem KeptAt.later {w wc w' : World} {B p pf bm l g : Nat} {s : DSt} {E : Nat → EntF} {k : Nat} {D : DataW Unit} {kf : Nat} (h : KeptAt w wc B p pf bm l g s E k D kf) (hb : Below wc.heap.size wc w') : KeptAt w w' B p pf bm l g s E k D kf :=
  { h with disk := h.disk.later hb, files := h.files.later hb, loader := h.loader.later hb, shelf := h.shelf.later hb, below := h.below.trans (hb.mono h.below.size) }
theorem KeptAt.put {w wc w' : World} {B p pf bm l g : Nat} {s s' : DSt} {E : Nat → EntF} {k : Nat} {D : DataW Unit} {kf : Nat} {r : Nat × (Nat → EntF) × Nat} {e : Ending} (h : KeptAt w wc B p pf bm l g s E k D kf) (hBw : w.heap.size ≤ B) (hP : ShPut s 112 E k r s' e) (hh : ∀ i, i < r.2.2 → Held D kf (r.2.1 i)) (hD : Disk w' B p 112 s') (hS : Spun B wc w') : StepTo w w' B p pf bm l g s s' D kf := by
  have hb := h.below.trans (hS.below.mono hBw)
  cases hP with
  | bad _ hs =>
    subst hs
    exact .inl ⟨id, E, k, { h with disk := hD, files := h.files.spun hS, loader := h.loader.spun hS, shelf := h.shelf.spun hS, below := hb }⟩
  | keep _ _ hk =>
    cases hk with
    | ok hSt hl => exact .inl ⟨hl, r.2.1, r.2.2, { h with disk := hD, stands := hSt, held := hh, files := h.files.spun hS, loader := h.loader.spun hS, shelf := h.shelf.spun hS, below := hb }⟩
    | fell hl hSp => exact .inr ⟨hl, E, k, r.2.1, r.2.2, ⟨hD, hSp, h.files.spun hS, h.inv, h.names, h.pos, h.held, hh, hb⟩⟩
abbrev kBuild : ByteArray := ⟨#[98, 117, 105, 108, 100]⟩
abbrev kDrop : ByteArray := ⟨#[100, 114, 111, 112]⟩
abbrev kOpen : ByteArray := ⟨#[111, 112, 101, 110]⟩
set_option maxRecDepth 100000 in
set_option maxHeartbeats 16000000 in
theorem play_any (w w0 : World) (B p pf bm l0 g0 : Nat) (s0 : DSt) (E0 : Nat → EntF) (k0 : Nat) (D0 : DataW Unit) (kf0 : Nat) (a : Option Addr) (n c : Nat) (X : Nat → ActF) (hE : Env w) (hK0 : KeptAt w w0 B p pf bm l0 g0 s0 E0 k0 D0 kf0) (hBw : w.heap.size ≤ B) (hpf : w.heap.size ≤ pf) (hbm : w.heap.size ≤ bm)
    (hr : ActsRow w a n X) (hsz : ∀ i, i < n → (X i).s.size ≤ 100 ∧ (X i).t.size ≤ 1300) (hn : n ≤ 1000) (hk : kf0 ≤ 1000) (hc : n ≤ c) (hone : s0.left = -1 ∨ n ≤ 1) :
    Calls Tryz.prog 10 #[.pointer (some ⟨pf, 0, none⟩), .pointer (some ⟨l0, 0, none⟩), .pointer (some ⟨p, 0, none⟩), .slice a n c] w0 fun e w' => ∃ l' g' s' D' kf', e = .returned (.pointer (some ⟨l', 0, none⟩)) ∧ StepTo w w' B p pf bm l' g' s0 s' D' kf' ∧ kf' ≤ kf0 + n ∧ ((∀ i, i < n → (X i).kind ≠ kOpen) → l' = l0 ∧ g' = g0) := by
  go_enter Tryz.func10, Tryz.ntmps10
  go_wp2
  go_loopw [1, 9] (fun y1 y9 wr => ∃ (i l g : Nat) (s : DSt) (D : DataW Unit) (kf : Nat), i ≤ n ∧ y9 = .int .i64 i ∧ y1 = .pointer (some ⟨l, 0, none⟩) ∧ kf ≤ kf0 + i ∧ ((∀ j, j < n → (X j).kind ≠ kOpen) → l = l0 ∧ g = g0) ∧ StepTo w wr B p pf bm l g s0 s D kf ∧ (i < n → ∃ E k, KeptAt w wr B p pf bm l g s E k D kf)) (fun _ y9 _ => n - (intOf y9).toNat)
  case atStart => exact ⟨0, l0, g0, s0, D0, kf0, Nat.zero_le _, rfl, rfl, Nat.le_refl _, fun _ => ⟨rfl, rfl⟩, .inl ⟨id, E0, k0, hK0⟩, fun _ => ⟨E0, k0, hK0⟩⟩
  case round =>
    clear hK0
    obtain ⟨i, l, g, s, D, kf, hi, rfl, rfl, hkf, HLG, hStep, hKK⟩ := hrel
    have hLG : Hid ((∀ j, j < n → (X j).kind ≠ kOpen) → l = l0 ∧ g = g0) := HLG
    clear HLG
    by_cases hlt : i < n
    · obtain ⟨E, k, hK⟩ := hKK hlt
      clear hKK
      have hcalm : s0.left = -1 → s.left = -1 := by
        rcases hStep with h | h
        · exact h.1
        · exact fun e => absurd e h.1
      -- what an act leaves, told of the beginning
      have HNEXT : ∀ w' l' g' s' D' kf', StepTo w w' B p pf bm l' g' s s' D' kf' → StepTo w w' B p pf bm l' g' s0 s' D' kf' ∧ (i + 1 < n → ∃ E k, KeptAt w w' B p pf bm l' g' s' E k D' kf') := fun w' l' g' s' D' kf' h => by
        rcases h with ⟨h1, h2⟩ | ⟨h1, h2⟩
        · exact ⟨.inl ⟨fun e => h1 (hcalm e), h2⟩, fun _ => h2⟩
        · have h3 : s0.left ≠ -1 := fun e => h1 (hcalm e)
          exact ⟨.inr ⟨h3, h2⟩, fun h4 => by
            rcases hone with h5 | h5
            · exact absurd h5 h3
            · omega⟩
      have hb := hK.below
      have hr2 := hr.later hb
      rcases hr2 with h0 | ⟨bk, o, hao, hcc⟩
      · omega
      have H := hcc i hlt
      obtain ⟨T, hT⟩ := texts_some D
      obtain ⟨S, hS⟩ := stamps_some D
      obtain ⟨hs1, _⟩ := hsz i hlt
      have hml : (X i).s.size ≤ maxLen := by simp only [maxLen]; omega
      have d0 := H.c0
      have d1 := H.c1
      have hi0 : (0 : Int) ≤ (i : Int) := by omega
      have hi1 : (i : Int) < (n : Int) := by omega
      subst hao
      clear hStep
      by_cases hk1 : (X i).kind = kBuild
      · have e1 : ((X i).kind.toList == [98, 117, 105, 108, 100]) = true := by rw [hk1, ByteArray.toList_eq]; rfl
        have HB := loaderBuild_any wr B p 112 l g pf bm s E k D kf T S (X i).s hK.disk hK.stands hK.loader hK.shelf (hE.later hb) hK.files hK.inv hK.names hK.pos hT hS (by omega) hml
        clear hk1 hcc hr H hsz
        generalize X i = x at *
        go_wp2_with fail
        refine (show Calls _ _ _ _ _ from HB).mono ?_
        rintro e w1 ⟨s', hBE, hD1, hS1⟩
        clear HB
        have hST : StepTo w w1 B p pf bm l g s s' D kf := by
          cases hBE with
          | bad F h1 hf hs =>
            subst hs
            exact .inl ⟨id, E, k, { hK with disk := hD1, files := hK.files.spun hS1, loader := hK.loader.spun hS1, shelf := hK.shelf.spun hS1, below := hb.trans (hS1.below.mono hBw) }⟩
          | put m Bs P Q e h1 hp => exact hK.put hBw hp (held_putE hK.held (Held.new hK.inv hT hS h1)) hD1 hS1
        obtain ⟨v, rfl⟩ : ∃ v, e = .returned v := by
          cases hBE with
          | bad _ _ _ _ => exact ⟨_, rfl⟩
          | put _ _ _ _ _ _ hp =>
            cases hp with
            | bad _ _ => exact ⟨_, rfl⟩
            | keep _ _ hk => cases hk <;> exact ⟨_, rfl⟩
        obtain ⟨hN1, hN2⟩ := HNEXT w1 l g s' D kf hST
        clear hBE hST HNEXT hK hD1 hS1
        go_wp2
        go_roundw
        case rel => exact ⟨i + 1, l, g, s', D, kf, by omega, by go_num, rfl, by omega, hLG.out, hN1, hN2⟩
        case measure => simp [intOf]; omega
      have e1 : ((X i).kind.toList == [98, 117, 105, 108, 100]) = false := by have := bytes_ne hk1; rwa [show kBuild.toList = [98, 117, 105, 108, 100] by rw [ByteArray.toList_eq]] at this
      by_cases hk2 : (X i).kind = kDrop
      · have e2 : ((X i).kind.toList == [100, 114, 111, 112]) = true := by rw [hk2, ByteArray.toList_eq]; rfl
        have HB := loaderDrop_any wr B p 112 l pf g s E k (X i).s hK.disk hK.stands hK.loader hK.shelf (hE.later hb)
        clear hk1 hk2 hcc hr H hsz
        generalize X i = x at *
        go_wp2_with fail
        refine (show Calls _ _ _ _ _ from HB).mono ?_
        rintro e w1 ⟨s', hp, hD1, hS1⟩
        clear HB
        have hST : StepTo w w1 B p pf bm l g s s' D kf := hK.put hBw hp (held_dropE hK.held) hD1 hS1
        obtain ⟨v, rfl⟩ : ∃ v, e = .returned v := by
          cases hp with
          | bad _ _ => exact ⟨_, rfl⟩
          | keep _ _ hk => cases hk <;> exact ⟨_, rfl⟩
        obtain ⟨hN1, hN2⟩ := HNEXT w1 l g s' D kf hST
        clear hp hST HNEXT hK hD1 hS1
        go_wp2
        go_roundw
        case rel => exact ⟨i + 1, l, g, s', D, kf, by omega, by go_num, rfl, by omega, hLG.out, hN1, hN2⟩
        case measure => simp [intOf]; omega
      have e2 : ((X i).kind.toList == [100, 114, 111, 112]) = false := by have := bytes_ne hk2; rwa [show kDrop.toList = [100, 114, 111, 112] by rw [ByteArray.toList_eq]] at this
      by_cases hk3 : (X i).kind = kOpen
      · have e3 : ((X i).kind.toList == [111, 112, 101, 110]) = true := by rw [hk3, ByteArray.toList_eq]; rfl
        have HB := loaderNew_any wr B p 112 pf s E k hK.disk hK.stands (hE.later hb)
        have hLO0 : ∀ l1 g1 : Nat, (∀ j, j < n → (X j).kind ≠ kOpen) → l1 = l0 ∧ g1 = g0 := fun _ _ h => absurd hk3 (h i hlt)
        clear hk1 hk2 hk3 hcc hr H hsz
        have HLO0 : Hid (∀ l1 g1 : Nat, (∀ j, j < n → (X j).kind ≠ kOpen) → l1 = l0 ∧ g1 = g0) := hLO0
        clear hLO0 hLG
        generalize X i = x at *
        go_wp2_with fail
        refine (show Calls _ _ _ _ _ from HB).mono ?_
        rintro e w1 ⟨l1, g1, rfl, _, hl1, hg1, hb1⟩
        have hLO : Hid ((∀ j, j < n → (X j).kind ≠ kOpen) → l1 = l0 ∧ g1 = g0) := HLO0.out l1 g1
        clear HB
        have hST : StepTo w w1 B p pf bm l1 g1 s s D kf := .inl ⟨id, E, k, { hK.later hb1 with loader := hl1, shelf := hg1 }⟩
        obtain ⟨hN1, hN2⟩ := HNEXT w1 l1 g1 s D kf hST
        clear hST HNEXT hK hl1 hg1 hb1
        go_wp2
        go_roundw
        case rel => exact ⟨i + 1, l1, g1, s, D, kf, by omega, by go_num, rfl, by omega, hLO.out, hN1, hN2⟩
        case measure => simp [intOf]; omega
      have e3 : ((X i).kind.toList == [111, 112, 101, 110]) = false := by have := bytes_ne hk3; rwa [show kOpen.toList = [111, 112, 101, 110] by rw [ByteArray.toList_eq]] at this
      have HB := done_any wr pf bm D kf (some ⟨bk, o + i * 8, none⟩) 1 (c - i) (fun j => X (i + j)) w.heap.size hK.files hK.inv hb.size hpf hbm (by decide)
        (fun W hW => .inr ⟨bk, o + i * 8, rfl, fun j hj => by
          obtain rfl : j = 0 := by omega
          rcases hr.later (hb.trans hW) with h0 | ⟨bk', o', ha', hc'⟩
          · omega
          · injection ha' with ha'
            injection ha' with q1 q2 _
            subst q1
            subst q2
            have := hc' i hlt
            simpa using this⟩) (fun j hj => hsz (i + j) (by omega))
      have hdi := doneD_inv (X := fun j => X (i + j)) (q := (D, kf)) hK.inv 1
      obtain ⟨hdn, hdk⟩ := doneD_more (X := fun j => X (i + j)) (q := (D, kf)) hK.names 1
      have hdp := doneD_pos (X := fun j => X (i + j)) (q := (D, kf)) hK.inv hK.pos 1
      have hdh : ∀ j, j < k → Held (doneD (D, kf) (fun j => X (i + j)) 1).1 (doneD (D, kf) (fun j => X (i + j)) 1).2 (E j) := fun j hj => (hK.held j hj).step fun D0 k0 h => h.done (q := (D, kf)) hK.inv 1
      generalize (doneD (D, kf) (fun j => X (i + j)) 1).1 = D' at *
      generalize (doneD (D, kf) (fun j => X (i + j)) 1).2 = kf' at *
      have hci : (i : Int) + 1 ≤ (c : Int) := by omega
      clear hk1 hk2 hk3 hcc hr H hsz
      generalize X i = x at *
      go_wp2_with fail
      refine (show Calls _ _ _ _ _ from HB).mono ?_
      rintro e w1 ⟨rfl, hF1, hT1⟩
      clear HB
      have hST : StepTo w w1 B p pf bm l g s s D' kf' := .inl ⟨id, E, k, ⟨hK.disk.turned hK.files hT1, hK.stands, hF1, hdi.1, hdn, hdp, hdh, hK.loader.turned hK.files hT1, hK.shelf.turned hK.files hT1, hb.trans (hT1.below hb.size hpf hbm)⟩⟩
      obtain ⟨hN1, hN2⟩ := HNEXT w1 l g s D' kf' hST
      have hk' : kf' ≤ kf0 + (i + 1) := by omega
      clear hST HNEXT hK hF1 hT1 hdi hdn hdk hdp hdh
      go_wp2
      go_roundw
      case rel => exact ⟨i + 1, l, g, s, D', kf', by omega, by go_num, rfl, hk', hLG.out, hN1, hN2⟩
      case measure => simp [intOf]; omega
    · obtain rfl : i = n := by omega
      have HF : Hid (∃ l' g' s' D' kf', Ending.returned (.pointer (some ⟨l, 0, none⟩)) = .returned (.pointer (some ⟨l', 0, none⟩)) ∧ StepTo w wr B p pf bm l' g' s0 s' D' kf' ∧ kf' ≤ kf0 + i ∧ ((∀ j, j < i → (X j).kind ≠ kOpen) → l' = l0 ∧ g' = g0)) := ⟨l, g, s, D, kf, rfl, hStep, hkf, hLG.out⟩
      clear hStep hKK hr hsz
      go_wp2
      go_ret
      exact HF.out
end Go.Proofs.YtidabcoodolddaaGreatDoor
