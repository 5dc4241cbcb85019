/-
  Plain words on what is reckoned for a root, with nothing of the program's memory: who belongs to it, where they lie, what hangs on that; that there is just one answer.
  What Reckon of package image returns, over any files and any root: names, objects, bases and patches, or the number of the error; memory that was there stays as it was.
  What Load of package image returns, over any files and any root: the parts, laid and bound, or the number of the error; memory that was there stays as it was.
-/
import Derived.Test.YtidabcoodolddaaGreatDoorScopeAll
import Derived.Test.YtidabcoodolddaaGreatDoorPlain
import Derived.Test.YtidabcoodolddaaGreatDoorAtAll
import Derived.Test.YtidabcoodolddaaGreatDoorImageSmall
import Derived.Test.YtidabcoodolddaaGreatDoorPatRows
import Derived.Test.YtidabcoodolddaaGreatDoorPlaceBoth
import Derived.Deep.Onto
import Derived.Test.YtidabcoodolddaaGreatDoorImageLay
namespace Go.Proofs.YtidabcoodolddaaGreatDoor
open Go.RowKit Go.Maps

/-- the j-th object of a root. -/
abbrev obAt (rd : ByteArray → Nat × ObjF) (root : ByteArray) (j : Nat) : ObjF := (rd (nmAt rd root j)).2
abbrev szAt (rd : ByteArray → Nat × ObjF) (root : ByteArray) (j : Nat) : Int := ((obAt rd root j).nW : Int)
/-- the number of the error of what can't be reckoned. -/
inductive ReckIs (rd : ByteArray → Nat × ObjF) (root : ByteArray) : Nat → Prop
  | of {F : Nat} (i : Nat) (h : OfIs rd root F i) (hf : F ≠ 0) : ReckIs rd root F
  | bases {F : Nat} (m : Nat) (B : Nat → Int) (h : OfIs rd root 0 m) (hb : BasesAre m (szAt rd root) 0 (fun _ => 0) (fun _ => 0) F B) (hf : F ≠ 0) : ReckIs rd root F
  | all {F : Nat} (m : Nat) (B : Nat → Int) (P Q : ByteArray → Int) (h : OfIs rd root 0 m) (hb : BasesAre m (szAt rd root) 0 (fun _ => 0) (fun _ => 0) 0 B) (hz : ∀ j, m ≤ j → B j = 0) (hP : Finds (symsF m (obAt rd root)) P Q) (he : allF m (obAt rd root) P Q m B = F) (hf : F ≠ 0) : ReckIs rd root F
/-- what was reckoned. -/
structure Reckoned (rd : ByteArray → Nat × ObjF) (root : ByteArray) (m : Nat) (B : Nat → Int) (P Q : ByteArray → Int) : Prop where
  of : OfIs rd root 0 m
  bases : BasesAre m (szAt rd root) 0 (fun _ => 0) (fun _ => 0) 0 B
  zero : ∀ j, m ≤ j → B j = 0
  finds : Finds (symsF m (obAt rd root)) P Q
  all : allF m (obAt rd root) P Q m B = 0
theorem Finds.uniq {L : SymsF} {P Q P' Q' : ByteArray → Int} (h : Finds L P Q) (h' : Finds L P' Q') : P = P' ∧ Q = Q' :=
  ⟨funext fun s => (h'.eq (h.is s)).1, funext fun s => (h'.eq (h.is s)).2⟩
theorem bases_fun {m : Nat} {sz : Nat → Int} {B B' : Nat → Int} (h : BasesAre m sz 0 (fun _ => 0) (fun _ => 0) 0 B) (h' : BasesAre m sz 0 (fun _ => 0) (fun _ => 0) 0 B') (hz : ∀ j, m ≤ j → B j = 0) (hz' : ∀ j, m ≤ j → B' j = 0) : B = B' :=
  funext fun j => by
    by_cases e : j < m
    · exact (h.unique h').2 rfl j e
    · rw [hz j (by omega), hz' j (by omega)]
theorem ReckIs.unique {rd : ByteArray → Nat × ObjF} {root : ByteArray} {F G : Nat} (h : ReckIs rd root F) (h' : ReckIs rd root G) : F = G := by
  cases h with
  | of i h hf =>
    cases h' with
    | of i' h' hf' => exact (h.unique h').1
    | bases m' B' h' hb' hf' => exact absurd (h.unique h').1 hf
    | all m' B' P' Q' h' hb' hz' hP' he' hf' => exact absurd (h.unique h').1 hf
  | bases m B h hb hf =>
    cases h' with
    | of i' h' hf' => exact absurd (h'.unique h).1 hf'
    | bases m' B' h' hb' hf' =>
      obtain ⟨_, rfl⟩ := h.unique h'
      exact (hb.unique hb').1
    | all m' B' P' Q' h' hb' hz' hP' he' hf' =>
      obtain ⟨_, rfl⟩ := h.unique h'
      exact absurd (hb.unique hb').1 hf
  | all m B P Q h hb hz hP he hf =>
    cases h' with
    | of i' h' hf' => exact absurd (h'.unique h).1 hf'
    | bases m' B' h' hb' hf' =>
      obtain ⟨_, rfl⟩ := h.unique h'
      exact absurd (hb'.unique hb).1 hf'
    | all m' B' P' Q' h' hb' hz' hP' he' hf' =>
      obtain ⟨_, rfl⟩ := h.unique h'
      obtain rfl := bases_fun hb hb' hz hz'
      obtain ⟨rfl, rfl⟩ := hP.uniq hP'
      exact he.symm.trans he'
theorem ReckIs.not {rd : ByteArray → Nat × ObjF} {root : ByteArray} {F m : Nat} {B : Nat → Int} {P Q : ByteArray → Int} (h : ReckIs rd root F) (h' : Reckoned rd root m B P Q) : False := by
  cases h with
  | of i h hf => exact hf (h.unique h'.of).1
  | bases m B h hb hf =>
    obtain ⟨_, rfl⟩ := h.unique h'.of
    exact hf (hb.unique h'.bases).1
  | all m B P Q h hb hz hP he hf =>
    obtain ⟨_, rfl⟩ := h.unique h'.of
    obtain rfl := bases_fun hb h'.bases hz h'.zero
    obtain ⟨rfl, rfl⟩ := hP.uniq h'.finds
    exact hf (he.symm.trans h'.all)
theorem Reckoned.unique {rd : ByteArray → Nat × ObjF} {root : ByteArray} {m m' : Nat} {B B' : Nat → Int} {P Q P' Q' : ByteArray → Int} (h : Reckoned rd root m B P Q) (h' : Reckoned rd root m' B' P' Q') : m = m' ∧ B = B' ∧ P = P' ∧ Q = Q' := by
  obtain ⟨_, rfl⟩ := h.of.unique h'.of
  obtain rfl := bases_fun h.bases h'.bases h.zero h'.zero
  obtain ⟨rfl, rfl⟩ := h.finds.uniq h'.finds
  exact ⟨rfl, rfl, rfl, rfl⟩
/-- its patches. -/
abbrev patsAt (rd : ByteArray → Nat × ObjF) (root : ByteArray) (m : Nat) (B : Nat → Int) (P Q : ByteArray → Int) : List (Nat × Int × Int) := patsTo (obAt rd root) P Q B m
/-- each patch is of one of the parts, and of one of its words. -/
theorem patsOf_mem {O : Nat → ObjF} {P Q : ByteArray → Int} {B : Nat → Int} {i k : Nat} {x : Nat × Int × Int} (h : x ∈ patsOf O P Q B i k) : ∃ q, q < k ∧ x = (i, (O i).tAt q, (tieW O P Q B i q).2) := by
  induction k with
  | zero => cases h
  | succ k ih =>
    rcases List.mem_append.1 h with h | h
    · obtain ⟨q, hq, e⟩ := ih h
      exact ⟨q, by omega, e⟩
    · exact ⟨k, by omega, by simpa using h⟩
theorem patsTo_mem {O : Nat → ObjF} {P Q : ByteArray → Int} {B : Nat → Int} {m : Nat} {x : Nat × Int × Int} (h : x ∈ patsTo O P Q B m) : ∃ i q, i < m ∧ q < (O i).nT ∧ x = (i, (O i).tAt q, (tieW O P Q B i q).2) := by
  induction m with
  | zero => cases h
  | succ m ih =>
    rcases List.mem_append.1 h with h | h
    · obtain ⟨i, q, hi, hq, e⟩ := ih h
      exact ⟨i, q, by omega, hq, e⟩
    · obtain ⟨q, hq, e⟩ := patsOf_mem h
      exact ⟨m, q, by omega, hq, e⟩
/-- bases that are 0 behind the last one. -/
def cutB (m : Nat) (b : Nat → Int) : Nat → Int := fun j => if j < m then b j else 0
theorem cutB_is {m : Nat} {b : Nat → Int} {j : Nat} (h : j < m) : b j = cutB m b j := (if_pos h).symm
theorem cutB_zero {m : Nat} {b : Nat → Int} (j : Nat) (h : m ≤ j) : cutB m b j = 0 := if_neg (by omega)
theorem BasesAre.cut {m : Nat} {sz tf tm b : Nat → Int} {nt : Nat} (h : BasesAre m sz nt tf tm 0 b) : BasesAre m sz nt tf tm 0 (cutB m b) := by
  obtain ⟨h0, hl⟩ := h.laid rfl
  exact .ok _ h0 fun j hj => (hl j hj).congr fun i hi => cutB_is (by omega)
end Go.Proofs.YtidabcoodolddaaGreatDoor

namespace Go.Proofs.YtidabcoodolddaaGreatDoor
open Go.RowKit Go.Maps

theorem results_tmp5 {fn : Func} {t u v x y : Tmp} (h : fn.results = #[.tmp t, .tmp u, .tmp v, .tmp x, .tmp y]) (tmps : Array Value) (P : Program) (w : World) :
    (results fn tmps).run P w = .ok (.tuple #[tmps.getD t undef, tmps.getD u undef, tmps.getD v undef, tmps.getD x undef, tmps.getD y undef]) w := by
  simp [results, h]
/-- a call of Reckon that returned. -/
inductive ReckEnd (w : World) (B0 : Nat) (rd : ByteArray → Nat × ObjF) (root : ByteArray) : Ending → Prop
  | bad (F : Nat) (h : ReckIs rd root F) (hf : F ≠ 0) : ReckEnd w B0 rd root (.returned (.tuple #[.slice none 0 0, .slice none 0 0, .slice none 0 0, .slice none 0 0, errV F]))
  | ok (m : Nat) (B : Nat → Int) (P Q : ByteArray → Int) (u x b p : Value) (V : Nat → ObjV) (h : Reckoned rd root m B P Q) (hu : OwnTx w B0 u (namesAt rd root m)) (hx : ObjsIn w B0 x m V (obAt rd root))
      (hb : w.ownsRow B0 3 1 b m (joinC (intC B) m)) (hp : w.ownsRow B0 167 3 p (patsAt rd root m B P Q).length (patsC (patsAt rd root m B P Q))) : ReckEnd w B0 rd root (.returned (.tuple #[u, x, b, p, .nilIface]))
theorem ObjsIn.below {w w' : World} {B n : Nat} {x : Value} {V : Nat → ObjV} {O : Nat → ObjF} (h : ObjsIn w B x n V O) (hb : Below w.heap.size w w') : ObjsIn w' B x n V O := ⟨owns_below h.own hb, fun j hj => (h.at' j hj).later hb⟩
theorem ObjsIn.base {w : World} {B B' n : Nat} {x : Value} {V : Nat → ObjV} {O : Nat → ObjF} (h : ObjsIn w B x n V O) (hb : B' ≤ B) : ObjsIn w B' x n V O := ⟨World.ownsRow.mono h.own hb, h.at'⟩

set_option maxRecDepth 100000 in
set_option maxHeartbeats 4000000 in
theorem reckon_any (w : World) (p bm : Nat) (D : DataW Unit) (k : Nat) (T : ByteArray → ByteArray) (root : ByteArray) (h : FilesAt w p bm D k) (hI : Inv D k) (hT : Texts D T) (hE : Env w) (hroot : root.size ≤ maxLen) :
    Calls Tryz.prog 34 #[.pointer (some ⟨p, 0, none⟩), .string root] w fun e w' => ReckEnd w' w.heap.size (rdD D T) root e ∧ Below w.heap.size w w' := by
  have HO := of_any w p bm D k T root h hI hT hE hroot
  have hfew := rd_few (T := T) hI
  go_enter Tryz.func34, Tryz.ntmps34
  go_wp2_with fail
  refine HO.mono ?_
  rintro e w1 ⟨he, hb1⟩
  clear HO h hT hE hroot hI
  cases he with
  | bad F i h hf =>
    obtain ⟨z, hz⟩ := errV_pos hf
    rw [hz]
    go_wp2
    (try simp only [Exit.inBlock, Exit.then])
    refine bodyPost_ret (results_tmp5 rfl _ _ _) rfl ?_
    rw [← hz]
    exact ⟨.bad F (.of i h hf) hf, hb1⟩
  | ok m u x V h hu hx =>
    obtain ⟨hS, hlen, hnm⟩ := scope_of h hfew
    have hok : ∀ j, j < m → ObjOk (obAt (rdD D T) root j) := fun j hj => rd_ok (by rw [hS.read j hj])
    have hm6 := hS.few
    clear hS hfew hlen hnm
    obtain ⟨xa, xc, rfl, _, hrow⟩ := hx.own.row hx.at'
    have HZ := sizes_any xa m xc V (obAt (rdD D T) root) w1 (by omega) (fun i hi => by have := (hok i hi).nW; unfold maxLen; omega) hrow
    go_wp2_with fail
    refine HZ.mono ?_
    rintro e w2 ⟨⟨v2, rfl, ho2⟩, hb2⟩
    have hb12 := hb1.trans (hb2.mono hb1.size)
    obtain ⟨a2, c2, rfl, _, hr2⟩ := rows_int ho2
    have HB := bases_any (szAt (rdD D T) root) (fun _ => 0) (fun _ => 0) a2 none m c2 0 0 w2 (by unfold maxLen; omega) (by unfold maxLen; omega) hr2 (.inl rfl)
    have hu2 := owns_below hu hb2
    have hx2 := hx.below hb2
    clear HZ ho2 hr2 hu hx hrow
    go_wp2_with fail
    refine HB.mono ?_
    rintro e w3 ⟨he, hb3⟩
    have hb13 := hb12.trans (hb3.mono hb12.size)
    have hu3 := owns_below hu2 hb3
    have hx3 := hx2.below hb3
    clear HB hu2 hx2
    cases he with
    | bad F B hf hB =>
      obtain ⟨z, hz⟩ := errV_pos hf
      rw [hz]
      go_wp2
      (try simp only [Exit.inBlock, Exit.then])
      refine bodyPost_ret (results_tmp5 rfl _ _ _) rfl ?_
      rw [← hz]
      exact ⟨.bad F (.bases m B h hB hf) hf, hb13⟩
    | ok B v3 hB hv3 =>
      obtain ⟨P, Q, hP⟩ := finds_some (symsF m (obAt (rdD D T) root))
      have hBc := hB.cut
      have hz := fun j => cutB_zero (m := m) (b := B) j
      rw [joinC_congr (h := intC (cutB m B)) (fun i hi => by unfold intC; rw [← cutB_is (b := B) hi])] at hv3
      clear hB
      generalize cutB m B = B' at *
      obtain ⟨xa, xc, hxe, _, hrow⟩ := hx3.own.row hx3.at'
      cases hxe
      obtain ⟨a3, c3, rfl, _, hr3⟩ := rows_int hv3
      have HA := all_any xa a3 m xc m c3 V (obAt (rdD D T) root) B' P Q w3 (by omega) (by unfold maxLen; omega) hrow hr3 hok hP
      clear hr3 hrow
      go_wp2_with fail
      refine HA.mono ?_
      rintro e w4 ⟨he, hb4⟩
      have hb14 := hb13.trans (hb4.mono hb13.size)
      have hu4 := owns_below hu3 hb4
      have hx4 := hx3.below hb4
      have hv4 := owns_below hv3 hb4
      clear HA hu3 hx3 hv3
      cases he with
      | bad hf =>
        obtain ⟨z, hz2⟩ := errV_pos hf
        rw [hz2]
        go_wp2
        (try simp only [Exit.inBlock, Exit.then])
        refine bodyPost_ret (results_tmp5 rfl _ _ _) rfl ?_
        rw [← hz2]
        exact ⟨.bad _ (.all m B' P Q h hBc hz hP rfl hf) hf, hb14⟩
      | ok hf v4 ho4 =>
        go_wp2
        (try simp only [Exit.inBlock, Exit.then])
        refine bodyPost_ret (results_tmp5 rfl _ _ _) rfl ?_
        exact ⟨.ok m B' P Q _ _ _ _ V ⟨h, hBc, hz, hP, hf⟩ hu4 hx4 (World.ownsRow.mono hv4 hb12.size) (World.ownsRow.mono ho4 hb13.size), hb14⟩
end Go.Proofs.YtidabcoodolddaaGreatDoor

namespace Go.Proofs.YtidabcoodolddaaGreatDoor
open Go.RowKit Go.Maps

/-- the words of all parts, bound. -/
abbrev boundW (rd : ByteArray → Nat × ObjF) (root : ByteArray) (m : Nat) (B : Nat → Int) (P Q : ByteArray → Int) : Nat → Nat → Int :=
  putF (fun i j => (obAt rd root i).words j) (pP (patsAt rd root m B P Q)) (pT (patsAt rd root m B P Q)) (pV (patsAt rd root m B P Q)) (patsAt rd root m B P Q).length
/-- parts of the call's own. -/
structure PartsIn (w : World) (B0 : Nat) (v : Value) (n : Nat) (nm : Nat → ByteArray) (B : Nat → Int) (M : Nat → Nat) (X : Nat → Nat → Int) (g : Nat) (A : Nat → Option Addr) (C G : Nat → Nat) : Prop where
  out : OutAt w B0 g n M A C G X
  own : w.ownsRow B0 86 3 v n (joinC (partC nm B A M C) n)
/-- a call of Load that returned. -/
inductive LoadEnd (w : World) (B0 : Nat) (rd : ByteArray → Nat × ObjF) (root : ByteArray) : Ending → Prop
  | bad (F : Nat) (h : ReckIs rd root F) (hf : F ≠ 0) : LoadEnd w B0 rd root (.returned (.tuple #[.slice none 0 0, errV F]))
  | ok (m : Nat) (B : Nat → Int) (P Q : ByteArray → Int) (u : Value) (g : Nat) (A : Nat → Option Addr) (C G : Nat → Nat) (h : Reckoned rd root m B P Q)
      (hu : PartsIn w B0 u m (nmAt rd root) B (fun i => (obAt rd root i).nW) (boundW rd root m B P Q) g A C G) : LoadEnd w B0 rd root (.returned (.tuple #[u, .nilIface]))
theorem pats_ok {O : Nat → ObjF} {P Q : ByteArray → Int} {B : Nat → Int} {m : Nat} (h : ∀ j, j < m → ObjOk (O j)) : AllOk (fun k => patOk m (fun i => (O i).nW) (pP (patsTo O P Q B m) k) (pT (patsTo O P Q B m) k)) (patsTo O P Q B m).length := fun k hk => by
  have hm : (patsTo O P Q B m).getD k (0, 0, 0) ∈ patsTo O P Q B m := by
    rw [List.getD_eq_getElem?_getD, List.getElem?_eq_getElem hk]
    exact List.getElem_mem hk
  obtain ⟨i, q, hi, hq, e⟩ := patsTo_mem hm
  have ht := (h i hi).ties q hq
  show (isPlaceF ((patsTo O P Q B m).getD k (0, 0, 0)).1 (m : Int) && isPlaceF ((patsTo O P Q B m).getD k (0, 0, 0)).2.1 ((O (((patsTo O P Q B m).getD k (0, 0, 0)).1 : Int).toNat).nW : Int)) = true
  rw [e]
  show (isPlaceF (i : Int) (m : Int) && isPlaceF ((O i).tAt q) ((O (i : Int).toNat).nW : Int)) = true
  rw [Int.toNat_natCast]
  simp only [isPlaceF, Bool.and_eq_true, decide_eq_true_eq]
  omega

set_option maxRecDepth 100000 in
set_option maxHeartbeats 4000000 in
theorem load_any (w : World) (p bm : Nat) (D : DataW Unit) (k : Nat) (T : ByteArray → ByteArray) (root : ByteArray) (h : FilesAt w p bm D k) (hI : Inv D k) (hT : Texts D T) (hE : Env w) (hroot : root.size ≤ maxLen) :
    Calls Tryz.prog 12 #[.pointer (some ⟨p, 0, none⟩), .string root] w fun e w' => LoadEnd w' w.heap.size (rdD D T) root e ∧ Below w.heap.size w w' := by
  have HR := reckon_any w p bm D k T root h hI hT hE hroot
  have hfew := rd_few (T := T) hI
  go_enter Tryz.func12, Tryz.ntmps12
  go_wp2_with fail
  refine HR.mono ?_
  rintro e w1 ⟨he, hb1⟩
  clear HR h hT hE hroot hI
  cases he with
  | bad F h hf =>
    obtain ⟨z, hz⟩ := errV_pos hf
    rw [hz]
    go_wp2
    go_ret2
    rw [← hz]
    exact ⟨.bad F h hf, hb1⟩
  | ok m B P Q u x b p V h hu hx hb hp =>
    obtain ⟨hS, hlen, hnm⟩ := scope_of h.of hfew
    have hok : ∀ j, j < m → ObjOk (obAt (rdD D T) root j) := fun j hj => rd_ok (by rw [hS.read j hj])
    have hm6 := hS.few
    obtain ⟨xa, xc, rfl, _, hrow⟩ := hx.own.row hx.at'
    obtain ⟨ua, uc, rfl, _, hur⟩ := ownTx_row hu
    obtain ⟨ba, bc, rfl, _, hbr⟩ := rows_int hb
    obtain ⟨pa, pc, rfl, _, hpr⟩ := rows_pat hp
    rw [hlen] at hur ⊢
    have hur2 : RowAt w1 ua m fun i => .string (nmAt (rdD D T) root i) := by
      rcases hur with h0 | ⟨bk, o, ha, hc⟩
      · exact .inl h0
      · exact .inr ⟨bk, o, ha, fun i hi => by rw [hc i hi]; show some (Value.string _) = _; rw [hnm i hi]⟩
    have hnp : (patsAt (rdD D T) root m B P Q).length ≤ 1000 := by
      have := patsTo_le (O := obAt (rdD D T) root) P Q B (i := m) fun j hj => (hok j hj).nT
      show (patsTo (obAt (rdD D T) root) P Q B m).length ≤ 1000
      omega
    have HL := lay_any ua ba xa pa m uc bc xc (patsAt (rdD D T) root m B P Q).length pc (nmAt (rdD D T) root) B V (obAt (rdD D T) root) _ _ _ w1 (by omega) (fun i hi => by have := (hok i hi).nW; omega) hnp hur2 hbr hrow hpr
    have hpo := pats_ok (P := P) (Q := Q) (B := B) hok
    clear hur hur2 hbr hpr hrow hp hb hu hx hS hlen hnm hfew
    go_wp2_with fail
    refine HL.mono ?_
    rintro e w2 ⟨he, hb2⟩
    have hb12 := hb1.trans (hb2.mono hb1.size)
    clear HL
    cases he with
    | bad hbad => exact (hbad.not hpo).elim
    | ok u g A C G hal ho hu =>
      go_wp2
      go_ret2
      exact ⟨.ok m B P Q _ g A C G h ⟨{ ho with hB := Nat.le_trans hb1.size ho.hB, own := fun i hi hm => Nat.le_trans hb1.size (ho.own i hi hm) }, World.ownsRow.mono hu hb1.size⟩, hb12⟩
end Go.Proofs.YtidabcoodolddaaGreatDoor
