/- Plain words: where all lie farther by as much, what is near stays as it is, and all else is farther by as much, but what is tied to nobody. Plain words: parts that are laid lie apart, inside; so a place is had of one part at most. Parts of a call's own, read. Plain words on an image that is bound: what stands at a word that is tied, and at one that isn't. Plain words: what was made of a root passes for an entry. What Build and Load of the document's shelf return, for all files, every shelf and every root. What Drop of package shelf does, on a disk on which a shelf stands. -/
import Derived.Test.YtagfngiaogckpaaGreatDoorPlainStale
namespace Go.Proofs.YtagfngiaogckpaaGreatDoor
theorem ties_none {O : Nat -> ObjF} {P Q : ByteArray -> Int} {B : Nat -> Int} {n : Nat} (h : tiesF O P Q B n = 0) {i k : Nat} (hi : i < n) (hk : k < (O i).nT) : (tieW O P Q B i k).1 = 0 := faultTo_zero (faultTo_zero h i hi) k hk
end Go.Proofs.YtagfngiaogckpaaGreatDoor
namespace Go.Proofs.YtagfngiaogckpaaGreatDoor
open Go.RowKit Go.Maps
theorem parts_row {w : World} {B0 : Nat} {v : Value} {n : Nat} {nm : Nat -> ByteArray} {B : Nat -> Int} {M : Nat -> Nat} {X : Nat -> Nat -> Int} {g : Nat} {A : Nat -> Option Addr} {C G : Nat -> Nat} (h : PartsIn w B0 v n nm B M X g A C G) :
 ∃ a c,v = .slice a n c /\ n <= c /\ PartRow w a n nm B A M C X := by
 obtain ⟨a,c,rfl,hc⟩ := owns_shape h.own
 refine ⟨a,c,rfl,hc,?_⟩
 by_cases h0 : n = 0
 ·exact .inl h0
 ·have key : ∀ i,i < n -> ∀ j u,(partC nm B A M C i)[j]? = some u -> j < 3 -> ∃ g,a = some ⟨g,0,none⟩ /\ B0 <= g /\ w.cell? ⟨g,i * 3 + j,none⟩ = some u := fun i hi j u hu hj =>
   owns_cell h.own (by rw [joinC_at (s := 3) (fun i _ => rfl) hi hj]; exact hu)
  obtain ⟨g0,ha,_,_⟩ := key 0 (by omega) 0 _ rfl (by omega)
  refine .inr ⟨g0,0,ha,fun i hi => ?_⟩
  have get : ∀ j u,(partC nm B A M C i)[j]? = some u -> j < 3 -> w.cell? ⟨g0,i * 3 + j,none⟩ = some u := fun j u hu hj => by
   obtain ⟨g',ha',_,hc'⟩ := key i hi j u hu hj
   rw [ha] at ha'
   injection ha' with ha'
   injection ha' with ha'
   subst ha'
   exact hc'
  refine ⟨by rw [Nat.zero_add]; exact get 0 _ rfl (by omega),by rw [Nat.zero_add]; exact get 1 _ rfl (by omega),by rw [Nat.zero_add]; exact get 2 _ rfl (by omega),?_⟩
  by_cases hm : M i = 0
  ·exact .inl hm
  ·exact .inr ⟨G i,0,h.out.adr i hi (by omega),fun j hj => by rw [Nat.zero_add]; exact h.out.row i hi j hj⟩
end Go.Proofs.YtagfngiaogckpaaGreatDoor
namespace Go.Proofs.YtagfngiaogckpaaGreatDoor
open Go.RowKit Go.Maps
section
variable {O : Nat -> ObjF} {P Q : ByteArray -> Int} {B : Nat -> Int} {m : Nat}
end
structure TieIs (O : Nat -> ObjF) (P Q : ByteArray -> Int) (B : Nat -> Int) (m i q : Nat) (p : Int) : Prop where
 word : (tieW O P Q B i q).2 = if (O i).tKind q = 3 then p + (O i).tAdd q - (B i + (O i).tAt q) else p + (O i).tAdd q
 base : (O i).tKind q = 1 -> p = B i
 nobody : (O i).tKind q ≠ 1 -> P ((O i).tName q) < 0 -> p = 0 /\ (O i).tWeak q = true
 found : (O i).tKind q ≠ 1 -> ¬ P ((O i).tName q) < 0 -> ∃ x y : Nat,P ((O i).tName q) = x /\ Q ((O i).tName q) = y /\ x < m /\ y < (O x).nS /\ p = B x + (O x).sAt y
theorem allF_none {O : Nat -> ObjF} {P Q : ByteArray -> Int} {B : Nat -> Int} {m : Nat} (h : allF m O P Q m B = 0) {i q : Nat} (hi : i < m) (hq : q < (O i).nT) : (tieW O P Q B i q).1 = 0 := by
 unfold allF at h
 rw [if_neg (by simp)] at h
 split at h
 ·cases h
 ·exact ties_none h hi hq
def StampsPos (D : DataW Unit) : Prop := ∀ s t n,Maps.has D (keyB s) = true -> D.atKey (keyB s) (fileD [] 0) = fileD t n -> 1 <= n
theorem StampsPos.empty : StampsPos (.map []) := fun s t n h _ => by simp [Maps.has] at h
theorem StampsPos.put {D : DataW Unit} {k : Nat} {s : ByteArray} {t : List UInt8} (hI : Inv D k) (h : StampsPos D) : StampsPos (D.put (keyB s) (fileD t ((k : Int) + 1))) := fun x t' n hx ha => by
 by_cases e : x = s
 ·subst e
  rw [atKey_put_same hI.tidy.isMap (keyB_key x)] at ha
  have := fileD_stamp ha
  omega
 ·rw [has_put_other (fun q => e (keyB_inj' q))] at hx
  rw [atKey_put_other (fun q => e (keyB_inj' q))] at ha
  exact h x t' n hx ha
theorem StampsPos.del {D : DataW Unit} {s : ByteArray} (h : StampsPos D) : StampsPos (D.del (keyB s)) := fun x t' n hx ha => by
 by_cases e : x = s
 ·subst e; rw [has_del_same] at hx; cases hx
 ·rw [has_del_other (fun q => e (keyB_inj' q))] at hx
  rw [atKey_del_other (fun q => e (keyB_inj' q))] at ha
  exact h x t' n hx ha
theorem doneD_pos {q : DataW Unit × Nat} {X : Nat -> ActF} (hI : Inv q.1 q.2) (h : StampsPos q.1) (m : Nat) : StampsPos (doneD q X m).1 := by
 induction m with
 | zero => exact h
 | succ m ih =>
  have hIm := (doneD_inv (X := X) (q := q) hI m).1
  show StampsPos (actD (doneD q X m) (X m)).1
  unfold actD
  by_cases h1 : (X m).kind = kWrite
  ·rw [if_pos h1]
   by_cases h2 : writeF (doneD q X m).1 (doneD q X m).2 (X m).s (X m).t = 0
   ·rw [if_pos h2]; exact ih.put hIm
   ·rw [if_neg h2]; exact ih
  ·rw [if_neg h1]
   by_cases h2 : (X m).kind = kRemove
   ·rw [if_pos h2]; exact ih.del
   ·rw [if_neg h2]; exact ih
theorem hang_word {kind base at' add : Int} {wh : Option Int} (h : (hangF kind base at' add wh).1 = 0) : isWordF (hangF kind base at' add wh).2 = true := by
 unfold hangF at *
 cases wh with
 | none => cases h
 | some p =>
  dsimp only at *
  by_cases hk : kind = 3
  ·rw [if_pos hk] at *
   by_cases hp : p + add - (base + at') < -500 ∨ 500 < p + add - (base + at')
   ·rw [if_pos hp] at h; cases h
   ·rw [if_neg hp]
    simp [isWordF]; omega
  ·rw [if_neg hk] at *
   by_cases hw : isWordF (p + add) = true
   ·rw [if_pos hw]; exact hw
   ·rw [if_neg hw] at h; cases h
theorem base_ok {m : Nat} {sz : Nat -> Int} {B : Nat -> Int} (h : BasesAre m sz 0 (fun _ => 0) (fun _ => 0) 0 B) {j : Nat} (hj : j < m) (h1 : 1 <= sz j) (h2 : sz j <= 40) : 0 <= B j /\ B j < 256 /\ B j % 16 = 0 := by
 have key : ∀ F,BasesAre m sz 0 (fun _ => 0) (fun _ => 0) F B -> F = 0 -> Laid (fun _ => 0) (fun _ => 0) 0 sz B j := fun F h hF => by
  cases h with
  | bad _ h => exact absurd hF h
  | full _ _ => cases hF
  | ok _ _ hl => exact hl j hj
 obtain ⟨k,hk,hb⟩ := key 0 h rfl
 have hin := hb.inside
 have hr := roundF_many h1 h2
 omega
def madeE (rd : ByteArray -> Nat × ObjF) (S : ByteArray -> Int) (root : ByteArray) (m : Nat) (B : Nat -> Int) (l : List (Nat × Int × Int)) : EntF := ⟨root,m,nmAt rd root,fun j => S (nmAt rd root j),B,l.length,pP l,pT l,pV l⟩
theorem faultTo_none {g : Nat -> Nat} {n : Nat} (h : ∀ i,i < n -> g i = 0) : faultTo g n = 0 := by
 induction n with
 | zero => rfl
 | succ n ih => exact faultTo_ok (ih fun i hi => h i (by omega)) (h n (by omega))
theorem made_entF {D : DataW Unit} {k : Nat} {T : ByteArray -> ByteArray} {S : ByteArray -> Int} {root : ByteArray} {m : Nat} {B : Nat -> Int} {P Q : ByteArray -> Int} (hI : Inv D k) (hN : NamesOk D) (hP : StampsPos D) (hS : Stamps D S) (hk : k <= 1000000) (h : Reckoned (rdD D T) root m B P Q) :
 entF (madeE (rdD D T) S root m B (patsAt (rdD D T) root m B P Q)) = 0 := by
 obtain ⟨hSc,_,_⟩ := scope_of h.of (rd_few (T := T) hI)
 have hhas := made_has hI h.of
 have hok : ∀ j,j < m -> ObjOk (obAt (rdD D T) root j) := fun j hj => rd_ok (D := D) (T := T) (s := nmAt (rdD D T) root j) (by rw [hSc.read j hj])
 have hlen : (patsAt (rdD D T) root m B P Q).length <= 6 * m := patsTo_le (O := obAt (rdD D T) root) P Q B (i := m) fun j hj => (hok j hj).nT
 have hm := hSc.few
 have hp := hSc.pos
 unfold entF madeE
 have e1 : nameF root.data.toList = 0 := by have := hN _ (hhas 0 hp); rwa [hSc.root] at this
 have e2 : mayBeB (m : Int) ((patsAt (rdD D T) root m B P Q).length : Int) = true := by unfold mayBeB; exact decide_eq_true (by omega)
 rw [e1,seqF_zero]
 dsimp only
 rw [if_pos e2,seqF_zero]
 have e3 : partsF (madeE (rdD D T) S root m B (patsAt (rdD D T) root m B P Q)) m = 0 := faultTo_none fun i hi => by
  show stampedF (nmAt (rdD D T) root i) (S (nmAt (rdD D T) root i)) (B i) = 0
  unfold stampedF
  obtain ⟨t,n,ha,_⟩ := hI.st _ (hhas i hi)
  have h1 := hP _ t n (hhas i hi) ha
  have h2 := hS.is _ t n (hhas i hi) ha
  have h3 := stamp_le hI hS (hhas i hi)
  have hb := base_ok h.bases hi (by show (1 : Int) <= ((obAt (rdD D T) root i).nW : Int); have := (hok i hi).nW0; omega) (by show ((obAt (rdD D T) root i).nW : Int) <= 40; have := (hok i hi).nW; omega)
  rw [hN _ (hhas i hi),seqF_zero,if_neg (by omega),if_neg (by omega)]
 have e4 : patchesF (madeE (rdD D T) S root m B (patsAt (rdD D T) root m B P Q)) (patsAt (rdD D T) root m B P Q).length = 0 := faultTo_none fun i hi => by
  show patchedF m (pP (patsAt (rdD D T) root m B P Q) i) (pT (patsAt (rdD D T) root m B P Q) i) (pV (patsAt (rdD D T) root m B P Q) i) = 0
  have hmem : (patsAt (rdD D T) root m B P Q).getD i (0,0,0) ∈ patsAt (rdD D T) root m B P Q := by
   rw [List.getD_eq_getElem?_getD,List.getElem?_eq_getElem hi]
   exact List.getElem_mem hi
  obtain ⟨a,q,ha,hq,e⟩ := patsTo_mem hmem
  have ht := (hok a ha).ties q hq
  have hw := hang_word (allF_none h.all ha hq)
  unfold patchedF
  rw [if_pos]
  refine ⟨?_,?_,?_⟩
  ·show isPlaceF ((((patsAt (rdD D T) root m B P Q).getD i (0,0,0)).1 : Nat) : Int) (m : Int) = true
   rw [e]; simp [isPlaceF]; omega
  ·show isPlaceF ((patsAt (rdD D T) root m B P Q).getD i (0,0,0)).2.1 40 = true
   rw [e]
   show isPlaceF ((obAt (rdD D T) root a).tAt q) 40 = true
   have hw40 := (hok a ha).nW
   simp only [isPlaceF,Bool.and_eq_true,decide_eq_true_eq]
   omega
  ·show isWordF ((patsAt (rdD D T) root m B P Q).getD i (0,0,0)).2.2 = true
   rw [e]; exact hw
 show seqF (partsF (madeE (rdD D T) S root m B (patsAt (rdD D T) root m B P Q)) m) (patchesF (madeE (rdD D T) S root m B (patsAt (rdD D T) root m B P Q)) (patsAt (rdD D T) root m B P Q).length) = 0
 rw [e3,seqF_zero]
 exact e4
inductive RBuilt (E : Nat -> EntF) (k : Nat) (rd : ByteArray -> Nat × ObjF) (S : ByteArray -> Int) (root : ByteArray) : Nat -> (Nat -> EntF) × Nat -> Prop
 | bad (F : Nat) (h : ReckIs rd root F) (hf : F ≠ 0) : RBuilt E k rd S root F (E,k)
 | put (m : Nat) (Bs : Nat -> Int) (P Q : ByteArray -> Int) (h : Reckoned rd root m Bs P Q) : RBuilt E k rd S root (putE E k (madeE rd S root m Bs (patsAt rd root m Bs P Q))).1 (putE E k (madeE rd S root m Bs (patsAt rd root m Bs P Q))).2
theorem grown_of_below {w w' : World} (h : Below w.heap.size w w') (row : Option Nat) : w.grownBy w' row := ⟨h.os,h.tape,h.output,h.size,fun k hk _ => h.block k hk⟩
theorem made_in {w : World} {B0 B m : Nat} {aP aQ : Option Addr} {cP cQ : Nat} {rd : ByteArray -> Nat × ObjF} {S : ByteArray -> Int} {root : ByteArray} {Bs : Nat -> Int} {l : List (Nat × Int × Int)} (hp : w.ownsRow B0 108 3 (.slice aP m cP) m (joinC (stmC (nmAt rd root) S Bs) m)) (hq : w.ownsRow B0 144 3 (.slice aQ l.length cQ) l.length (patsC l)) :
 EntIn w B ⟨aP,cP,aQ,cQ⟩ (madeE rd S root m Bs l) := by
 refine ⟨⟨rows_stm hp,?_⟩,?_,?_⟩
 ·obtain ⟨qa,qc,eq,_,rQ⟩ := rows_pat hq
  cases eq
  exact rQ
 ·rcases hp.2 with ⟨_,h0⟩ | ⟨g,cap,cur,hv,_,hg,_⟩
  ·exact .inl h0
  ·injection hv with hv _ _
   exact .inr ⟨g,0,hv,.inr ⟨cur,hg⟩⟩
 ·rcases hq.2 with ⟨_,h0⟩ | ⟨g,cap,cur,hv,_,hg,_⟩
  ·exact .inl h0
  ·injection hv with hv _ _
   exact .inr ⟨g,0,hv,.inr ⟨cur,hg⟩⟩
set_option maxRecDepth 100000 in
set_option maxHeartbeats 4000000 in
theorem refBuild_any (Bf B0 B : Nat) (w : World) (m q : Nat) (vl : Value) (k : Nat) (V : Nat -> EntV) (E : Nat -> EntF) (L : List FileR) (kf : Nat) (D : DataW Unit) (T : ByteArray -> ByteArray) (S : ByteArray -> Int) (root : ByteArray) (hR : RShelf w B0 B m vl k V E) (hB0 : B0 <= B) (hBm : B <= m) (h : RAt Bf w q L kf) (hL : L.length <= 1000) (hA : Agree D L) (hI : Inv D kf) (hN : NamesOk D) (hP : StampsPos D) (hk : kf <= 1000000) (hT : Texts D T) (hSt : Stamps D S) :
 Calls Tryz.prog 15 #[.pointer (some ⟨m,0,none⟩),.pointer (some ⟨q,0,none⟩),.string root] w fun e w' => ∃ (F : Nat) (r : (Nat -> EntF) × Nat),e = .returned (.int .i64 (F : Int)) /\ RBuilt E k (rdD D T) S root F r /\ (∃ vl' V',RShelf w' B0 B m vl' r.2 V' r.1) /\ w.grownBy w' (some m) := by
 have HM := refEntry_any Bf w q L kf D T S root h hL hA hI hT hSt
 have hBw : B0 <= w.heap.size := by have := hR.lt; omega
 go_enter Tryz.func15,Tryz.ntmps15
 go_wp2_with fail
 refine (show Calls _ _ _ _ _ from HM).mono ?_
 rintro e w1 ⟨hM,hb1⟩
 clear HM
 cases hM with
 | bad F h1 hf =>
  have hpos : (0 : Int) < (F : Int) := by omega
  have hbn : Below w1.heap.size w1 (w1.alloc (.cells #[.string ⟨#[]⟩,.slice none 0 0,.slice none 0 0] 48)) := (Below.refl _ _).alloc (Nat.le_refl _) _
  have hb2 := hb1.trans (hbn.mono hb1.size)
  have HB : Hid (RBuilt E k (rdD D T) S root F (E,k)) := .bad F h1 hf
  have hR2 := hR.later hBw hb2
  clear hbn hb1 h1 hf
  go_wp2
  go_ret
  exact ⟨F,(E,k),rfl,HB.out,⟨vl,V,hR2⟩,grown_of_below hb2 _⟩
 | ok mm Bs P Q aP aQ cP cQ h1 hp1 hq1 =>
  have hEF := made_entF (S := S) hI hN hP hSt hk h1
  have hfit := (entOk hEF).fit
  have hIn1 : EntIn w1 B0 ⟨aP,cP,aQ,cQ⟩ (madeE (rdD D T) S root mm Bs (patsAt (rdD D T) root mm Bs P Q)) := made_in hp1 hq1
  have HB : Hid (∀ (F : Nat) (r : (Nat -> EntF) × Nat),(putE E k (madeE (rdD D T) S root mm Bs (patsAt (rdD D T) root mm Bs P Q))).1 = F -> (putE E k (madeE (rdD D T) S root mm Bs (patsAt (rdD D T) root mm Bs P Q))).2 = r -> RBuilt E k (rdD D T) S root F r) := fun F r e1 e2 => by subst e1; subst e2; exact .put mm Bs P Q h1
  obtain ⟨en,hen⟩ : ∃ en,madeE (rdD D T) S root mm Bs (patsAt (rdD D T) root mm Bs P Q) = en := ⟨_,rfl⟩
  have q0 : Hid (en.root = root) := by show en.root = root; rw [<- hen]; rfl
  have q1 : Hid (en.nP = mm) := by show en.nP = mm; rw [<- hen]; rfl
  have q2 : Hid (en.nQ = (patsAt (rdD D T) root mm Bs P Q).length) := by show en.nQ = _; rw [<- hen]; rfl
  rw [hen] at hIn1 hfit HB
  rw [<- q2.out]
  clear hp1 hq1 hEF h1 hen
  have hbn : Below w1.heap.size w1 (w1.alloc (.cells #[.string root,.slice aP mm cP,.slice aQ en.nQ cQ] 48)) := (Below.refl _ _).alloc (Nat.le_refl _) _
  have hb2 := hb1.trans (hbn.mono hb1.size)
  have hR2 := hR.later hBw hb2
  have hIn2 := hIn1.keeps (Keeps.of_below (Nat.le_trans hBw hb1.size) hbn)
  have HPU := refPut_any _ B0 B m k vl V E ⟨aP,cP,aQ,cQ⟩ en hR2 hB0 hBm hIn2 hfit
  generalize hr : putE E k en = r at HPU HB
  obtain ⟨rn,rr⟩ := r
  have HBB := HB.out rn rr rfl rfl
  have HBH : Hid (RBuilt E k (rdD D T) S root rn rr) := HBB
  unfold entCs at HPU
  dsimp only at HPU
  rw [q0.out,q1.out] at HPU
  have hgw := grown_of_below hb2 (some m)
  clear hIn1 hIn2 hfit hR2 hbn hb1 HB HBB hr q0 q1 q2
  go_wp2_with fail
  refine (show Calls _ _ _ _ _ from HPU).mono ?_
  rintro e w3 ⟨rfl,hR3,hG3⟩
  clear HPU
  have hG := hgw.andThen hG3 (fun j hj => .inr hj)
  go_wp2
  go_ret
  exact ⟨rn,rr,rfl,HBH.out,hR3,hG⟩
set_option maxRecDepth 100000 in
set_option maxHeartbeats 4000000 in
theorem refLoad_any (Bf B0 B : Nat) (w : World) (m q : Nat) (vl : Value) (k : Nat) (V : Nat -> EntV) (E : Nat -> EntF) (L : List FileR) (kf : Nat) (D : DataW Unit) (T : ByteArray -> ByteArray) (S : ByteArray -> Int) (root : ByteArray) (hR : RShelf w B0 B m vl k V E) (hB0 : B0 <= w.heap.size) (h : RAt Bf w q L kf) (hL : L.length <= 1000) (hA : Agree D L) (hI : Inv D kf) (hT : Texts D T) (hSt : Stamps D S) (hnP : (getE E k root).2.nP <= 1000) :
 Calls Tryz.prog 19 #[.pointer (some ⟨m,0,none⟩),.pointer (some ⟨q,0,none⟩),.string root] w fun e w' => (∃ (u v : Value) (F B1 : Nat),e = .returned (.tuple #[u,.bool ((getE E k root).1 && (!staleTo D S (getE E k root).2.pName (getE E k root).2.pStamp (getE E k root).2.nP && decide (0 < (getE E k root).2.nP))),.int .i64 (F : Int)]) /\ RLoadEnd w' B1 (rdD D T) root (.returned (.tuple #[u,v,.int .i64 (F : Int)]))) /\ Below w.heap.size w w' := by
 have HG := refGet_any w B0 B m k vl V E root hR hB0
 generalize getE E k root = r at *
 obtain ⟨rb,re⟩ := r
 dsimp only at *
 obtain ⟨fr,hfr⟩ : ∃ fr,(!staleTo D S re.pName re.pStamp re.nP && decide (0 < re.nP)) = fr := ⟨_,rfl⟩
 rw [hfr]
 have HFR : Hid ((!staleTo D S re.pName re.pStamp re.nP && decide (0 < re.nP)) = fr) := hfr
 clear hfr
 go_enter Tryz.func19,Tryz.ntmps19
 go_wp2_with fail
 refine (show Calls _ _ _ _ _ from HG).mono ?_
 rintro e w1 ⟨v,rfl,hA1,hb1⟩
 clear HG
 have hbn : Below w1.heap.size w1 (w1.alloc (.cells #[.string re.root,.slice v.aP re.nP v.cP,.slice v.aQ re.nQ v.cQ] 48)) := (Below.refl _ _).alloc (Nat.le_refl _) _
 have hb2 := hb1.trans (hbn.mono hb1.size)
 have HF := refFresh_any Bf _ q L kf D S re.root re.nP re.nQ re.pName re.pStamp re.pBase v.aP v.aQ v.cP v.cQ (h.later hb2) hL hA hI hSt hnP (hA1.parts.later hbn)
 have hh2 := h.later hb2
 rw [HFR.out] at HF
 clear hA1 hnP HFR hbn hb1
 unfold entCs
 go_wp2_with fail
 refine (show Calls _ _ _ _ _ from HF).mono ?_
 rintro e w3 ⟨rfl,hb3⟩
 clear HF
 have hb4 := hb2.trans (hb3.mono hb2.size)
 have HL := refLoaded_any Bf w3 q L kf D T root (h.later hb4) hL hA hI hT
 clear hh2 hb2 hb3
 go_wp2_with fail
 refine (show Calls _ _ _ _ _ from HL).mono ?_
 rintro e w5 ⟨hLE,hb5⟩
 clear HL
 have hb6 := hb4.trans (hb5.mono hb4.size)
 obtain ⟨u,v',F,rfl⟩ : ∃ u v' F,e = .returned (.tuple #[u,v',.int .i64 ((F : Nat) : Int)]) := by
  cases hLE with
  | bad F _ _ => exact ⟨_,_,F,rfl⟩
  | ok _ _ _ _ u v _ _ _ _ _ => exact ⟨u,v,0,rfl⟩
 have HLE : Hid (RLoadEnd w5 w3.heap.size (rdD D T) root (.returned (.tuple #[u,v',.int .i64 (F : Int)]))) := hLE
 clear hLE hb4 hb5
 cases rb with
 | true =>
  go_wp2
  go_ret3
  exact ⟨⟨u,v',F,w3.heap.size,rfl,HLE.out⟩,hb6⟩
 | false =>
  go_wp2
  go_ret3
  exact ⟨⟨u,v',F,w3.heap.size,rfl,HLE.out⟩,hb6⟩
end Go.Proofs.YtagfngiaogckpaaGreatDoor
namespace Go.Proofs.YtagfngiaogckpaaGreatDoor
open Go.RowKit
set_option maxRecDepth 100000 in
set_option maxHeartbeats 8000000 in
theorem drop_any (w : World) (B p n g : Nat) (s : DSt) (E : Nat -> EntF) (k : Nat) (root : ByteArray) (h : Disk w B p n s) (hS : Stands s n E k) (hg : ShelfAt w g p) (hE : Env w) :
 Calls Tryz.prog 38 #[.pointer (some ⟨g,0,none⟩),.string root] w fun e w' => ∃ s',ShPut s n E k (dropE E k root) s' e /\ Disk w' B p n s' /\ Spun B w w' := by
 have hB := h.base
 have HE := entries_any w B p n g s E k h hS hg hE
 go_enter Tryz.func38,Tryz.ntmps38
 go_wp2_with fail
 refine (show Calls _ _ _ _ _ from HE).mono ?_
 rintro e w1 ⟨vl,V,E',rfl,hEO,hSm,hb1⟩
 clear HE
 obtain ⟨a,c,rfl,hRow⟩ := hEO.ents
 have hk3 := hS.good.few
 have HF := shelfFind_any a k c V E' root w1 (by omega) hRow
 have efind : findF E' root k 0 = findF E root k 0 := findF_congr (fun i hi => (hSm i hi).root) _ 0 rfl
 rw [efind] at HF
 have hGood : ShelfOk E' k := hS.good.same fun i hi => (hSm i hi).symm
 clear efind
 go_wp2_with fail
 refine (show Calls _ _ _ _ _ from HF).mono ?_
 rintro e w2 ⟨rfl,hb2⟩
 clear HF
 have hbB := hb1.trans (hb2.mono hb1.size)
 have hEO2 := hEO.later (Nat.zero_le _) hb2
 clear hEO hRow
 by_cases hneg : findF E root k 0 < 0
 ·have HEND : ShPut s n E k (dropE E k root) s (.returned (errV 5)) := by
   have e := dropE_none hneg
   have := ShPut.bad (s := s) (n := n) (E := E) (k := k) (r := dropE E k root) (s' := s) (by rw [e]; exact (by decide : (5 : Nat) ≠ 0)) rfl
   rw [e] at this ⊢
   exact this
  generalize findF E root k 0 = f at *
  go_wp2
  go_ret
  exact ⟨s,HEND,h.later hbB,Spun.of hB hbB⟩
 ·obtain ⟨j,_,hj,_,hfj⟩ := findF_some _ 0 rfl (show 0 <= findF E root k 0 by omega)
  have HP : Hid (dropE E k root = (0,cutV E j,k - 1)) := dropE_cut hfj
  rw [hfj]
  obtain ⟨m,rfl⟩ : ∃ m,k = m + 1 := ⟨k - 1,by omega⟩
  obtain ⟨ga,ca,hv⟩ := ownsRow_succ hEO2.row
  cases hv
  have HDel := entDelete_any w2 w.heap.size ga m c j V E' hEO2 (by omega) (by omega)
  have hG2 : ShelfOk (cutV E' j) m := by
   have := cut_ok hGood hj
   rw [Nat.add_sub_cancel] at this
   exact this
  rw [Nat.add_sub_cancel] at HP
  have hsame : ∀ i,i < m -> SameE (cutV E' j i) (cutV E j i) := fun i hi => by
   unfold cutV
   split
   ·exact hSm i (by omega)
   ·exact hSm (i + 1) (by omega)
  clear hneg hfj hEO2
  go_wp2_with fail
  refine (show Calls _ _ _ _ _ from HDel).mono ?_
  rintro e w3 ⟨rfl,hEO3,hb3⟩
  clear HDel
  have hb4 := hbB.trans hb3
  obtain ⟨a3,c3,hv3,hRow3⟩ := hEO3.ents
  cases hv3
  have HKE := keep_any w3 B p n g s E (m + 1) (some ⟨ga,0,none⟩) c _ _ m (h.later hb4) hS (hg.later hb4) (hE.later hb4) hRow3 hG2
  clear hEO3 hRow3
  go_wp2_with fail
  refine (show Calls _ _ _ _ _ from HKE).mono ?_
  rintro e w6 ⟨s',hKE,hD6,hS6⟩
  have HEND : ShPut s n E (m + 1) (dropE E (m + 1) root) s' e := by rw [HP.out]; exact .keep e rfl (hKE.same hsame)
  clear HKE
  cases hKE with
  | ok _ _ =>
   go_wp2
   go_ret
   exact ⟨s',HEND,hD6,(Spun.of hB hb4).trans hS6⟩
  | fell _ _ =>
   go_wp2
   go_ret
   exact ⟨s',HEND,hD6,(Spun.of hB hb4).trans hS6⟩
end Go.Proofs.YtagfngiaogckpaaGreatDoor
