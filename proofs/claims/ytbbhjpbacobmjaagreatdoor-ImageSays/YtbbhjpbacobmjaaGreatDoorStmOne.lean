/-
  What SameNumbers returns, for every two lists of numbers: whether they are alike; memory stays as it was.
  Plain words on the closed fact bound: two files, of which the first one needs the second one; what is reckoned for the first one.
  The closed fact bound returns true; memory that was there stays as it was.
  Plain words: what is reckoned for a root hangs only on the files of those who belong to it.
  Plain words on files that read as they did but for one name.
  What Make of package entry returns, over any files and any root: an entry of what is reckoned, with the stamps of its files, or the number of the error; memory that was there stays as it was.
  A row of an entry's parts in memory; what is read of a row of the call's own.
  What Fresh of package entry returns, over any files; what Use returns of an entry that isn't fresh; memory that was there stays as it was.
  Plain words on the stamps of files that are as they were but for one name; what Make returns over them.
  Plain words on entries that are fresh, and on such that aren't: files whose names may be names, stamps that tell that a file was written.
-/
import Derived.Test.YtbbhjpbacobmjaaGreatDoorRows
import Derived.Test.YtbbhjpbacobmjaaGreatDoorAtAll
import Derived.Deep.QuietTactic
import Derived.BigQuiet
import Derived.Test.YtbbhjpbacobmjaaGreatDoorLayOne
import Derived.Test.YtbbhjpbacobmjaaGreatDoorPlainTop
import Derived.Test.YtbbhjpbacobmjaaGreatDoorActsOne
import Derived.Test.YtbbhjpbacobmjaaGreatDoorFilesOne
import Derived.Deep.RegionLaw
import Derived.RegionTactic
import Derived.BigRegion
namespace Go.Proofs.YtbbhjpbacobmjaaGreatDoor
open Go.RowKit

theorem bool_ret {a b : Bool} (h : a = b) : Ending.returned (.bool a) = .returned (.bool b) := by rw [h]

theorem sameNumbers_zero (a c : Option Addr) (ca cb : Nat) (w : World) :
    Calls Tryz.prog 68 #[.slice a 0 ca, .slice c 0 cb] w fun e w' => e = .returned (.bool true) ∧ ∃ k, w' = w.drewN k := by
  go_enter Tryz.func68, Tryz.ntmps68
  go_wp2
  refine wp_loop_rounds 1 ?_
  rw [rounds_succ]
  go_wp2
  go_ret
  exact ⟨rfl, 0, rfl⟩

set_option maxHeartbeats 400000 in
theorem sameNumbers_some (f g : Nat → Int) (n : Nat) (bx ox cx bY oY cy : Nat) (w : World) (hm : n ≤ 1000000000)
    (hx : ∀ i, i < n → w.cell? ⟨bx, ox + i, none⟩ = some (.int .i64 (f i)))
    (hy : ∀ i, i < n → w.cell? ⟨bY, oY + i, none⟩ = some (.int .i64 (g i))) :
    Calls Tryz.prog 68 #[.slice (some ⟨bx, ox, none⟩) n cx, .slice (some ⟨bY, oY, none⟩) n cy] w fun e w' => e = .returned (.bool (eqTo f g n)) ∧ ∃ k, w' = w.drewN k := by
  go_enter Tryz.func68, Tryz.ntmps68
  go_wp2
  go_loopw [5] (fun i wr => ∃ k j : Nat, k ≤ n ∧ i = .int .i64 k ∧ wr = w.drewN j ∧ Hid (eqTo f g k = true)) (fun i _ => n - (intOf i).toNat)
  case atStart => exact ⟨0, 0, Nat.zero_le _, rfl, rfl, rfl⟩
  case round =>
    obtain ⟨k, j, hk, rfl, rfl, HK⟩ := hrel
    by_cases hlt : k < n
    · have hxk := hx k hlt
      have hyk := hy k hlt
      by_cases he : f k = g k
      · have hne : (f k != g k) = false := bne_eq_false_iff_eq.2 he
        have HE : Hid (f k = g k) := he
        clear he hx hy
        go_wp2
        go_quiet (fail)
        go_wp2
        go_roundw
        case rel => exact ⟨k + 1, j + nq, by omega, by go_num, rfl, eqTo_succ HK.out HE.out⟩
        case measure => simp [intOf]; omega
      · have hne : (f k != g k) = true := bne_iff_ne.2 he
        have HE : Hid (eqTo f g n = false) := eqTo_stop he hlt
        clear he hx hy
        go_wp2
        go_quiet (fail)
        go_wp2
        go_ret
        exact ⟨bool_ret HE.out.symm, j + nq, by rw [World.drewN_drewN]⟩
    · have hkn : k = n := by omega
      subst hkn
      clear hx hy
      go_wp2
      go_ret
      exact ⟨bool_ret HK.out.symm, j, rfl⟩

set_option maxHeartbeats 400000 in
theorem sameNumbers_other (a c : Option Addr) (n m ca cb : Nat) (w : World) (hm : n ≠ m) :
    Calls Tryz.prog 68 #[.slice a n ca, .slice c m cb] w fun e w' => e = .returned (.bool false) ∧ ∃ k, w' = w.drewN k := by
  have hne : ((n : Int) != (m : Int)) = true := bne_iff_ne.2 (by omega)
  clear hm
  go_enter Tryz.func68, Tryz.ntmps68
  go_wp2
  go_ret
  exact ⟨rfl, 0, rfl⟩

theorem sameNumbers_any (f g : Nat → Int) (n m : Nat) (a c : Option Addr) (ca cb : Nat) (w : World) (hm : n ≤ 1000000000)
    (hx : RowAt w a n fun i => .int .i64 (f i)) (hy : RowAt w c m fun i => .int .i64 (g i)) :
    Calls Tryz.prog 68 #[.slice a n ca, .slice c m cb] w fun e w' => e = .returned (.bool (decide (n = m) && eqTo f g n)) ∧ ∃ k, w' = w.drewN k := by
  by_cases h : n = m
  · subst h
    rcases hx with h0 | ⟨b, o, rfl, hx⟩
    · subst h0
      refine (sameNumbers_zero a c ca cb w).mono ?_
      rintro e w' ⟨rfl, hw⟩
      exact ⟨rfl, hw⟩
    · rcases hy with h0 | ⟨b', o', rfl, hy⟩
      · subst h0
        refine (sameNumbers_zero _ c ca cb w).mono ?_
        rintro e w' ⟨rfl, hw⟩
        exact ⟨rfl, hw⟩
      · refine (sameNumbers_some f g n b o ca b' o' cb w hm hx hy).mono ?_
        rintro e w' ⟨rfl, hw⟩
        exact ⟨bool_ret (by simp), hw⟩
  · refine (sameNumbers_other a c n m ca cb w h).mono ?_
    rintro e w' ⟨rfl, hw⟩
    exact ⟨bool_ret (by simp [h]), hw⟩
end Go.Proofs.YtbbhjpbacobmjaaGreatDoor

namespace Go.Proofs.YtbbhjpbacobmjaaGreatDoor
open Go.RowKit Go.Maps

abbrev bnA : ByteArray := ⟨#[97]⟩
theorem itoa_zero : Lib.itoa 0 = [48] := by
  unfold Lib.itoa
  rw [if_neg (by decide), Lib.decDigits_one (by decide)]
  rfl
theorem parse_is {o : ObjF} {t : ByteArray} (ho : objF o = 0) (hl : textL o = t.data.toList) (hn : ¬ 1200 < t.data.toList.length) : (parseF t).1 = 0 ∧ SameO (parseF t).2 o := by
  have he : textF o = (0, t.data.toList) := by
    unfold textF
    rw [if_pos ho, hl, if_neg hn]
  exact parse_text (by rw [he]) (by rw [he])
theorem BasesAre.sizes {m : Nat} {sz sz' tf tm b : Nat → Int} {nt : Nat} (h : BasesAre m sz nt tf tm 0 b) (e : ∀ i, i < m → sz i = sz' i) : BasesAre m sz' nt tf tm 0 b := by
  obtain ⟨h0, hl⟩ := h.laid rfl
  have h0' : placeF m sz' nt tf tm = 0 := by
    rw [← h0]
    unfold placeF
    rw [anyTo_congr (p := fun i => decide (sz' i < 1 ∨ 40 < sz' i)) (q := fun i => decide (sz i < 1 ∨ 40 < sz i)) fun i hi => by rw [e i hi]]
  refine .ok _ h0' fun j hj => ?_
  obtain ⟨k, hk, hb⟩ := hl j hj
  refine ⟨k, hk, ?_⟩
  rw [← e j hj]
  exact hb.congr fun i hi => ⟨rfl, by
    unfold heldF
    split
    · rfl
    · show roundF (sz (i - nt)) = roundF (sz' (i - nt))
      rw [e _ (by omega)]⟩
end Go.Proofs.YtbbhjpbacobmjaaGreatDoor

namespace Go.Proofs.YtbbhjpbacobmjaaGreatDoor
open Go.RowKit Go.Maps

end Go.Proofs.YtbbhjpbacobmjaaGreatDoor

namespace Go.Proofs.YtbbhjpbacobmjaaGreatDoor
open Go.RowKit Go.Maps

theorem names_same {rd rd' : ByteArray → Nat × ObjF} {root : ByteArray} {m : Nat} (e : ∀ j, j < m → rd' (nmAt rd root j) = rd (nmAt rd root j)) : ∀ i, i ≤ m → namesAt rd' root i = namesAt rd root i
  | 0, _ => rfl
  | i + 1, hi => by
    have ih := names_same e i (by omega)
    have he : rd' (nmAt rd root i) = rd (nmAt rd root i) := e i (by omega)
    have hn : nmAt rd' root i = nmAt rd root i := by unfold nmAt; rw [ih]
    show joinL (namesAt rd' root i) (needsTo (rd' (nmAt rd' root i)).2 (rd' (nmAt rd' root i)).2.nN) = joinL (namesAt rd root i) (needsTo (rd (nmAt rd root i)).2 (rd (nmAt rd root i)).2.nN)
    rw [ih, hn, he]
theorem nm_same {rd rd' : ByteArray → Nat × ObjF} {root : ByteArray} {m : Nat} (e : ∀ j, j < m → rd' (nmAt rd root j) = rd (nmAt rd root j)) {i : Nat} (hi : i ≤ m) : nmAt rd' root i = nmAt rd root i := by
  unfold nmAt; rw [names_same e i hi]
theorem ob_same {rd rd' : ByteArray → Nat × ObjF} {root : ByteArray} {m : Nat} (e : ∀ j, j < m → rd' (nmAt rd root j) = rd (nmAt rd root j)) {i : Nat} (hi : i < m) : obAt rd' root i = obAt rd root i := by
  show (rd' (nmAt rd' root i)).2 = (rd (nmAt rd root i)).2
  rw [nm_same e (by omega), e i hi]
theorem of_same {rd rd' : ByteArray → Nat × ObjF} {root : ByteArray} {m : Nat} (h : OfIs rd root 0 m) (e : ∀ j, j < m → rd' (nmAt rd root j) = rd (nmAt rd root j)) : OfIs rd' root 0 m := by
  generalize hF : (0 : Nat) = F at h
  cases h with
  | bad _ _ _ hf => exact absurd hF.symm hf
  | ok _ h hi =>
    refine .ok m (fun j hj => ?_) (by rw [names_same e m (Nat.le_refl _)]; exact hi)
    rw [names_same e j (by omega), nm_same e (by omega), e j hj]
    exact h j hj
theorem bases_same {m : Nat} {sz sz' b : Nat → Int} {F : Nat} (h : BasesAre m sz 0 (fun _ => 0) (fun _ => 0) F b) (e : ∀ i, i < m → sz i = sz' i) : BasesAre m sz' 0 (fun _ => 0) (fun _ => 0) F b := by
  have hp : placeF m sz 0 (fun _ => 0) (fun _ => 0) = placeF m sz' 0 (fun _ => 0) (fun _ => 0) := by
    unfold placeF
    rw [anyTo_congr (p := fun i => decide (sz i < 1 ∨ 40 < sz i)) (q := fun i => decide (sz' i < 1 ∨ 40 < sz' i)) fun i hi => by rw [e i hi]]
  have hh : ∀ i, i < m → ∀ j, j < 0 + i → heldF (fun _ => 0) 0 b j = heldF (fun _ => 0) 0 b j ∧ heldF (fun _ => 0) 0 (fun j => roundF (sz j)) j = heldF (fun _ => 0) 0 (fun j => roundF (sz' j)) j := fun i hi j hj => ⟨rfl, by
    unfold heldF
    rw [if_neg (by omega), if_neg (by omega)]
    show roundF (sz (j - 0)) = roundF (sz' (j - 0))
    rw [e _ (by omega)]⟩
  have hl : ∀ i, i < m → Laid (fun _ => 0) (fun _ => 0) 0 sz b i → Laid (fun _ => 0) (fun _ => 0) 0 sz' b i := fun i hi ⟨k, hk, hb⟩ => ⟨k, hk, by rw [← e i hi]; exact hb.congr (hh i hi)⟩
  cases h with
  | bad _ h => rw [hp] at h ⊢; exact .bad _ h
  | full _ i h hi hl' hn => exact .full _ i (by rw [← hp]; exact h) hi (fun j hj => hl j (by omega) (hl' j hj)) (by unfold LaidNot; rw [← e i hi]; exact NoBase.congr hn (hh i hi))
  | ok _ h hl' => exact .ok _ (by rw [← hp]; exact h) fun j hj => hl j hj (hl' j hj)
theorem hit_same {m : Nat} {O O' : Nat → ObjF} (e : ∀ i, i < m → O' i = O i) {s : ByteArray} {i k : Nat} (h : Hit (symsF m O) s i k) : Hit (symsF m O') s i k ∧ (symsF m O').wk i k = (symsF m O).wk i k := by
  obtain ⟨h1, h2, h3⟩ := h
  have h1' : i < m := h1
  refine ⟨⟨h1, ?_, ?_⟩, ?_⟩
  · show k < (O' i).nS
    rw [e i h1']; exact h2
  · show (O' i).sName k = s
    rw [e i h1']; exact h3
  · show (O' i).sWeak k = (O i).sWeak k
    rw [e i h1']
theorem found_same {m : Nat} {O O' : Nat → ObjF} (e : ∀ i, i < m → O' i = O i) {s : ByteArray} {p q : Int} (h : IsFound (symsF m O) s p q) : IsFound (symsF m O') s p q := by
  have e' : ∀ i, i < m → O i = O' i := fun i hi => (e i hi).symm
  cases h with
  | strong i k h hw hb => exact .strong i k (hit_same e h).1 (by rw [(hit_same e h).2]; exact hw) fun a b hh hbf => by rw [(hit_same e (hit_same e' hh).1).2]; exact hb a b (hit_same e' hh).1 hbf
  | weak i k h hf hw => exact .weak i k (hit_same e h).1 (fun a b hh => hf a b (hit_same e' hh).1) fun a b hh => by rw [(hit_same e (hit_same e' hh).1).2]; exact hw a b (hit_same e' hh).1
  | none h => exact .none fun a b hh => h a b (hit_same e' hh).1
theorem finds_same {m : Nat} {O O' : Nat → ObjF} (e : ∀ i, i < m → O' i = O i) {P Q : ByteArray → Int} (h : Finds (symsF m O) P Q) : Finds (symsF m O') P Q := ⟨fun s => found_same e (h.is s)⟩
theorem tie_same {m : Nat} {O O' : Nat → ObjF} (e : ∀ i, i < m → O' i = O i) {P Q : ByteArray → Int} (h : Finds (symsF m O) P Q) (B : Nat → Int) {i : Nat} (hi : i < m) (k : Nat) : tieW O' P Q B i k = tieW O P Q B i k := by
  unfold tieW whereF
  rw [e i hi]
  split
  · rfl
  · split
    · rename_i hp
      rcases h.shape ((O i).tName k) with ⟨h1, _⟩ | ⟨x, y, h1, h2, h3, _, _⟩
      · rw [h1] at hp; omega
      · rw [h1, h2, Int.toNat_natCast, e x h3]
    · rfl
theorem patsOf_same {m : Nat} {O O' : Nat → ObjF} (e : ∀ i, i < m → O' i = O i) {P Q : ByteArray → Int} (h : Finds (symsF m O) P Q) (B : Nat → Int) {i : Nat} (hi : i < m) (k : Nat) : patsOf O' P Q B i k = patsOf O P Q B i k := by
  induction k with
  | zero => rfl
  | succ k ih => simp only [patsOf]; rw [ih, tie_same e h B hi, e i hi]
theorem patsTo_same {m : Nat} {O O' : Nat → ObjF} (e : ∀ i, i < m → O' i = O i) {P Q : ByteArray → Int} (h : Finds (symsF m O) P Q) (B : Nat → Int) : ∀ n, n ≤ m → patsTo O' P Q B n = patsTo O P Q B n
  | 0, _ => rfl
  | n + 1, hn => by simp only [patsTo]; rw [patsTo_same e h B n (by omega), e n (by omega), patsOf_same e h B (by omega)]
theorem faultTo_same {g h : Nat → Nat} {n : Nat} (e : ∀ i, i < n → g i = h i) : faultTo g n = faultTo h n := by
  induction n with
  | zero => rfl
  | succ n ih => simp only [faultTo]; rw [ih fun i hi => e i (by omega), e n (by omega)]
theorem all_same {m : Nat} {O O' : Nat → ObjF} (e : ∀ i, i < m → O' i = O i) {P Q : ByteArray → Int} (h : Finds (symsF m O) P Q) (B : Nat → Int) : allF m O' P Q m B = allF m O P Q m B := by
  have key : faultTo (fun i => faultTo (fun k => (tieW O' P Q B i k).1) (O' i).nT) m = faultTo (fun i => faultTo (fun k => (tieW O P Q B i k).1) (O i).nT) m := faultTo_same fun i hi => by
    show faultTo (fun k => (tieW O' P Q B i k).1) (O' i).nT = faultTo (fun k => (tieW O P Q B i k).1) (O i).nT
    rw [e i hi]
    exact faultTo_same fun k _ => by rw [tie_same e h B hi]
  unfold allF tiesF
  rw [key]
theorem reckIs_same {rd rd' : ByteArray → Nat × ObjF} {root : ByteArray} {m F : Nat} (hO : OfIs rd root 0 m) (e : ∀ j, j < m → rd' (nmAt rd root j) = rd (nmAt rd root j)) (h : ReckIs rd root F) : ReckIs rd' root F := by
  have ho : ∀ i, i < m → obAt rd' root i = obAt rd root i := fun i hi => ob_same e hi
  cases h with
  | of i h hf => exact absurd (h.unique hO).1 hf
  | bases m' B h hb hf =>
    obtain ⟨_, rfl⟩ := h.unique hO
    exact .bases m' B (of_same hO e) (bases_same hb fun i hi => by show ((obAt rd root i).nW : Int) = ((obAt rd' root i).nW : Int); rw [ho i hi]) hf
  | all m' B P Q h hb hz hP he hf =>
    obtain ⟨_, rfl⟩ := h.unique hO
    exact .all m' B P Q (of_same hO e) (bases_same hb fun i hi => by show ((obAt rd root i).nW : Int) = ((obAt rd' root i).nW : Int); rw [ho i hi]) hz (finds_same ho hP) (by rw [all_same ho hP]; exact he) hf
theorem reckoned_same {rd rd' : ByteArray → Nat × ObjF} {root : ByteArray} {m : Nat} {B : Nat → Int} {P Q : ByteArray → Int} (h : Reckoned rd root m B P Q) (e : ∀ j, j < m → rd' (nmAt rd root j) = rd (nmAt rd root j)) :
    Reckoned rd' root m B P Q ∧ patsAt rd' root m B P Q = patsAt rd root m B P Q ∧ (∀ i, i < m → nmAt rd' root i = nmAt rd root i ∧ obAt rd' root i = obAt rd root i) := by
  have ho : ∀ i, i < m → obAt rd' root i = obAt rd root i := fun i hi => ob_same e hi
  exact ⟨⟨of_same h.of e, bases_same h.bases fun i hi => by show ((obAt rd root i).nW : Int) = ((obAt rd' root i).nW : Int); rw [ho i hi], h.zero, finds_same ho h.finds, by rw [all_same ho h.finds]; exact h.all⟩, patsTo_same ho h.finds B m (Nat.le_refl _), fun i hi => ⟨nm_same e (by omega), ho i hi⟩⟩
theorem putF_same {X X' : Nat → Nat → Int} {p t v : Nat → Int} {i : Nat} (e : ∀ j, X' i j = X i j) (n j : Nat) : putF X' p t v n i j = putF X p t v n i j := by
  induction n with
  | zero => exact e j
  | succ n ih => simp only [putF]; rw [ih]
theorem boundW_same {rd rd' : ByteArray → Nat × ObjF} {root : ByteArray} {m : Nat} {B : Nat → Int} {P Q : ByteArray → Int} (hp : patsAt rd' root m B P Q = patsAt rd root m B P Q) {i : Nat} (ho : obAt rd' root i = obAt rd root i) (j : Nat) : boundW rd' root m B P Q i j = boundW rd root m B P Q i j := by
  unfold boundW
  rw [hp]
  exact putF_same (fun j => by rw [ho]) _ _
theorem PartsIn.congr {w : World} {B0 : Nat} {v : Value} {n : Nat} {nm nm' : Nat → ByteArray} {B : Nat → Int} {M M' : Nat → Nat} {X X' : Nat → Nat → Int} {g : Nat} {A : Nat → Option Addr} {C G : Nat → Nat} (h : PartsIn w B0 v n nm B M X g A C G)
    (e : ∀ i, i < n → nm i = nm' i ∧ M i = M' i ∧ ∀ j, X i j = X' i j) : PartsIn w B0 v n nm' B M' X' g A C G where
  out := { h.out with
    top := fun i hi => by rw [← (e i hi).2.1]; exact h.out.top i hi
    adr := fun i hi hm => h.out.adr i hi (by rw [(e i hi).2.1]; exact hm)
    own := fun i hi hm => h.out.own i hi (by rw [(e i hi).2.1]; exact hm)
    ne := fun i hi hm => h.out.ne i hi (by rw [(e i hi).2.1]; exact hm)
    row := fun i hi j hj => by rw [← (e i hi).2.2 j]; exact h.out.row i hi j (by rw [(e i hi).2.1]; exact hj)
    rfree := fun i hi hm => h.out.rfree i hi (by rw [(e i hi).2.1]; exact hm)
    apart := fun i j hi hj hij hmi hmj => h.out.apart i j hi hj hij (by rw [(e i hi).2.1]; exact hmi) (by rw [(e j hj).2.1]; exact hmj) }
  own := by
    have := h.own
    rwa [joinC_congr (g := partC nm B A M C) (h := partC nm' B A M' C) fun i hi => by unfold partC; rw [(e i hi).1, (e i hi).2.1]] at this
/-- what Load returns over files in which those that are needed are the same. -/
theorem LoadEnd.same {w : World} {B0 : Nat} {rd rd' : ByteArray → Nat × ObjF} {root : ByteArray} {m : Nat} {e : Ending} (h : LoadEnd w B0 rd' root e) (hO : OfIs rd root 0 m) (hs : ∀ j, j < m → rd' (nmAt rd root j) = rd (nmAt rd root j)) : LoadEnd w B0 rd root e := by
  have hs' : ∀ j, j < m → rd (nmAt rd' root j) = rd' (nmAt rd' root j) := fun j hj => by rw [nm_same hs (by omega)]; exact (hs j hj).symm
  have hO' := of_same hO hs
  cases h with
  | bad F h hf => exact .bad F (reckIs_same hO' hs' h) hf
  | ok m' B P Q u g A C G h hu =>
    obtain ⟨_, rfl⟩ := h.of.unique hO'
    obtain ⟨h1, h2, h3⟩ := reckoned_same h hs'
    exact .ok m' B P Q u g A C G h1 (hu.congr fun i hi => ⟨(h3 i hi).1.symm, by rw [(h3 i hi).2], fun j => (boundW_same h2 (h3 i hi).2 j).symm⟩)
/-- blocks from B on stay. -/
def Stays (B : Nat) (w w' : World) : Prop := w.heap.size ≤ w'.heap.size ∧ ∀ j, B ≤ j → j < w.heap.size → w'.heap[j]? = w.heap[j]?
theorem Stays.trans {B : Nat} {a b c : World} (h : Stays B a b) (g : Stays B b c) : Stays B a c := ⟨Nat.le_trans h.1 g.1, fun j hB hj => (g.2 j hB (Nat.lt_of_lt_of_le hj h.1)).trans (h.2 j hB hj)⟩
theorem Stays.of {B : Nat} {w w' : World} (h : Below w.heap.size w w') : Stays B w w' := ⟨h.size, fun j _ hj => h.block j hj⟩
theorem Stays.turned {B p bm : Nat} {w w' : World} (h : Turned p bm w w') (hp : p < B) (hbm : bm < B) : Stays B w w' := ⟨h.size, fun j hB hj => h.block j hj (by omega) (by omega)⟩
end Go.Proofs.YtbbhjpbacobmjaaGreatDoor

namespace Go.Proofs.YtbbhjpbacobmjaaGreatDoor
open Go.RowKit Go.Maps

theorem texts_at {D : DataW Unit} {k : Nat} {T : ByteArray → ByteArray} (hI : Inv D k) (hT : Texts D T) {x : ByteArray} (h : Maps.has D (keyB x) = true) : ∃ n, D.atKey (keyB x) (fileD [] 0) = fileD (T x).data.toList n := by
  obtain ⟨t, n, h1, _⟩ := hI.st _ h
  have h2 : D.atKey (keyB x) (fileD [] 0) = fileD (⟨t.toArray⟩ : ByteArray).data.toList n := by simpa using h1
  exact ⟨n, by rw [← hT.is x _ n h h2]; exact h2⟩
theorem rd_del_other {D : DataW Unit} {k : Nat} {T T' : ByteArray → ByteArray} {s : ByteArray} (hI : Inv D k) (hT : Texts D T) (hT' : Texts (D.del (keyB s)) T') {x : ByteArray} (hx : x ≠ s) : rdD (D.del (keyB s)) T' x = rdD D T x := by
  have hk : keyB x ≠ keyB s := fun e => hx (keyB_inj' e)
  unfold rdD
  rw [has_del_other hk]
  split
  · rename_i h
    obtain ⟨n, hn⟩ := texts_at hI hT h
    rw [hT'.is x (T x) n (by rw [has_del_other hk]; exact h) (by rw [atKey_del_other hk]; exact hn)]
  · rfl
/-- files that read as they did but for one name. -/
structure Else (D : DataW Unit) (T : ByteArray → ByteArray) (s : ByteArray) (D' : DataW Unit) (k' : Nat) : Prop where
  inv : Inv D' k'
  read : ∀ T', Texts D' T' → ∀ x, x ≠ s → rdD D' T' x = rdD D T x
theorem Else.refl {D : DataW Unit} {k : Nat} {T : ByteArray → ByteArray} {s : ByteArray} (hI : Inv D k) (hT : Texts D T) : Else D T s D k := ⟨hI, fun T' hT' x _ => by
  unfold rdD
  split
  · rename_i h
    obtain ⟨n, hn⟩ := texts_at hI hT h
    rw [hT'.is x (T x) n h hn]
  · rfl⟩
theorem Else.del {D D' : DataW Unit} {k' : Nat} {T : ByteArray → ByteArray} {s : ByteArray} (h : Else D T s D' k') : Else D T s (D'.del (keyB s)) k' := by
  obtain ⟨T1, hT1⟩ := texts_some D'
  exact ⟨h.inv.del, fun T' hT' x hx => (rd_del_other h.inv hT1 hT' hx).trans (h.read T1 hT1 x hx)⟩
end Go.Proofs.YtbbhjpbacobmjaaGreatDoor

namespace Go.Proofs.YtbbhjpbacobmjaaGreatDoor
open Go.RowKit Go.Maps

/-- the stamps of files. -/
structure Stamps (D : DataW Unit) (S : ByteArray → Int) : Prop where
  is : ∀ s t n, Maps.has D (keyB s) = true → D.atKey (keyB s) (fileD [] 0) = fileD t n → n = S s
theorem fileD_stamp {t t' : List UInt8} {n n' : Int} (h : fileD t n = fileD t' n') : n = n' := by
  simp [fileD] at h
  exact h.2
/-- a part's three cells. -/
def stmC (nm : Nat → ByteArray) (S : ByteArray → Int) (B : Nat → Int) (i : Nat) : List Value := [.string (nm i), .int .i64 (S (nm i)), .int .i64 (B i)]
theorem growStm {B0 : Nat} {w : World} {v : Value} {n : Nat} {xs : List Value} (s : ByteArray) (x y : Int) (hB : B0 ≤ w.heap.size) (h : w.ownsRow B0 145 3 v n xs) (hn : n < 1000) :
    ∃ v' W, (Builtin.append_ #[64, 64] 64 #[v, .slice (some ⟨w.heap.size, 0, none⟩) 1 1]).run Tryz.prog (w.alloc (.cells #[.string s, .int .i64 x, .int .i64 y] 145)) = .ok v' W ∧ Grown B0 145 3 (w.alloc (.cells #[.string s, .int .i64 x, .int .i64 y] 145)) v (n + 1) (xs ++ [.string s, .int .i64 x, .int .i64 y]) v' W :=
  append_from 64 145 3 32 (.agg #[.string ⟨#[]⟩, .int .i64 0, .int .i64 0]) (by kernel_rfl) (by kernel_rfl) (by rfl) (by decide) B0 _ v n _ (h.alloc _) (some ⟨w.heap.size, 0, none⟩) 1 1 [.string s, .int .i64 x, .int .i64 y] rfl
    (.inr ⟨_, _, rfl, fun j u hj => by
      match j, hj with
      | 0, hj => simp at hj; subst hj; simp [go_sem]
      | 1, hj => simp at hj; subst hj; simp [go_sem]
      | 2, hj => simp at hj; subst hj; simp [go_sem]
      | j + 3, hj => simp at hj⟩) (fun u hu => by simp at hu; rcases hu with rfl | rfl | rfl <;> rfl) (by simp; omega) (by omega) (by decide)
/-- what stands while parts are put into an entry. -/
structure MakeSt (w4 wr : World) (be : Nat) (root : ByteArray) (q : Value) (nm : Nat → ByteArray) (S : ByteArray → Int) (B : Nat → Int) (i : Nat) (v : Value) : Prop where
  blk : wr.heap[be]? = some (.cells #[.string root, v, q] 66 (0, 0))
  own : wr.ownsRow (be + 1) 145 3 v i (joinC (stmC nm S B) i)
  below : Below be w4 wr
theorem MakeSt.later {w4 wr w' : World} {be : Nat} {root : ByteArray} {q : Value} {nm : Nat → ByteArray} {S : ByteArray → Int} {B : Nat → Int} {i : Nat} {v : Value} (h : MakeSt w4 wr be root q nm S B i v) (hb : Below wr.heap.size wr w') : MakeSt w4 w' be root q nm S B i v :=
  ⟨(hb.block be (Array.getElem?_eq_some_iff.1 h.blk).1).trans h.blk, owns_below h.own hb, h.below.trans (hb.mono (Nat.le_of_lt (Array.getElem?_eq_some_iff.1 h.blk).1))⟩
theorem MakeSt.grow {w4 wr : World} {be : Nat} {root : ByteArray} {q : Value} {nm : Nat → ByteArray} {S : ByteArray → Int} {B : Nat → Int} {i : Nat} {v : Value} (h : MakeSt w4 wr be root q nm S B i v) (hi : i < 1000) :
    ∃ v' W, (Builtin.append_ #[64, 64] 64 #[v, .slice (some ⟨wr.heap.size, 0, none⟩) 1 1]).run Tryz.prog (wr.alloc (.cells #[.string (nm i), .int .i64 (S (nm i)), .int .i64 (B i)] 145)) = .ok v' W ∧ W.cell? ⟨be, 1, none⟩ = some v ∧ W.frozen? ⟨be, 1, none⟩ = false ∧ MakeSt w4 (W.setCell ⟨be, 1, none⟩ v') be root q nm S B (i + 1) v' := by
  have hlt := (Array.getElem?_eq_some_iff.1 h.blk).1
  obtain ⟨v', W, happ, hG⟩ := growStm (nm i) (S (nm i)) (B i) (by omega) h.own hi
  have hb2 : Below (be + 1) wr W := ((Below.refl (be + 1) wr).alloc (by omega) _).trans hG.below
  have hW : W.heap[be]? = some (.cells #[.string root, v, q] 66 (0, 0)) := (hb2.block be (by omega)).trans h.blk
  refine ⟨v', W, happ, by simp [World.cell?, hW], by simp [World.frozen?, hW], heap_setCell W be 1 _ _ v' hW, kept_set hG.own hW (by decide), ?_⟩
  exact (h.below.trans (hb2.mono (by omega))).trans ⟨rfl, rfl, rfl, by simp [World.setCell], fun k hk => Below.heap_setCell _ _ _ _ (Nat.ne_of_lt hk)⟩
/-- a call of Make that returned. -/
inductive MadeEnd (w : World) (B0 : Nat) (rd : ByteArray → Nat × ObjF) (S : ByteArray → Int) (root : ByteArray) : Ending → Prop
  | bad (F : Nat) (h : ReckIs rd root F) (hf : F ≠ 0) : MadeEnd w B0 rd S root (.returned (.tuple #[.agg #[.string ⟨#[]⟩, .slice none 0 0, .slice none 0 0], errV F]))
  | ok (m : Nat) (B : Nat → Int) (P Q : ByteArray → Int) (aP aQ : Option Addr) (cP cQ : Nat) (h : Reckoned rd root m B P Q) (hp : w.ownsRow B0 145 3 (.slice aP m cP) m (joinC (stmC (nmAt rd root) S B) m))
      (hq : w.ownsRow B0 136 3 (.slice aQ (patsAt rd root m B P Q).length cQ) (patsAt rd root m B P Q).length (patsC (patsAt rd root m B P Q))) : MadeEnd w B0 rd S root (.returned (.tuple #[.agg #[.string root, .slice aP m cP, .slice aQ (patsAt rd root m B P Q).length cQ], .nilIface]))
end Go.Proofs.YtbbhjpbacobmjaaGreatDoor

namespace Go.Proofs.YtbbhjpbacobmjaaGreatDoor
open Go.RowKit Go.Maps

/-- the n parts behind 'a': name, stamp, base. -/
def StmRow (w : World) (a : Option Addr) (n : Nat) (s : Nat → ByteArray) (k b : Nat → Int) : Prop :=
  n = 0 ∨ ∃ bk o, a = some ⟨bk, o, none⟩ ∧ ∀ i, i < n → w.cell? ⟨bk, o + i * 3, none⟩ = some (.string (s i)) ∧ w.cell? ⟨bk, o + i * 3 + 1, none⟩ = some (.int .i64 (k i)) ∧ w.cell? ⟨bk, o + i * 3 + 2, none⟩ = some (.int .i64 (b i))
theorem StmRow.later {w w' : World} {a : Option Addr} {n : Nat} {s : Nat → ByteArray} {k b : Nat → Int} (h : StmRow w a n s k b) (hb : Below w.heap.size w w') : StmRow w' a n s k b := by
  rcases h with h | ⟨bk, o, ha, hc⟩
  · exact .inl h
  · exact .inr ⟨bk, o, ha, fun i hi => ⟨cell_later hb (hc i hi).1, cell_later hb (hc i hi).2.1, cell_later hb (hc i hi).2.2⟩⟩
end Go.Proofs.YtbbhjpbacobmjaaGreatDoor

namespace Go.Proofs.YtbbhjpbacobmjaaGreatDoor
open Go.RowKit Go.Maps

end Go.Proofs.YtbbhjpbacobmjaaGreatDoor

namespace Go.Proofs.YtbbhjpbacobmjaaGreatDoor
open Go.RowKit Go.Maps

theorem MadeEnd.same {w : World} {B0 : Nat} {rd rd' : ByteArray → Nat × ObjF} {S S' : ByteArray → Int} {root : ByteArray} {m : Nat} {e : Ending} (h : MadeEnd w B0 rd' S' root e) (hO : OfIs rd root 0 m) (hs : ∀ j, j < m → rd' (nmAt rd root j) = rd (nmAt rd root j)) (hS : ∀ j, j < m → S' (nmAt rd root j) = S (nmAt rd root j)) : MadeEnd w B0 rd S root e := by
  have hs' : ∀ j, j < m → rd (nmAt rd' root j) = rd' (nmAt rd' root j) := fun j hj => by rw [nm_same hs (by omega)]; exact (hs j hj).symm
  have hO' := of_same hO hs
  cases h with
  | bad F h hf => exact .bad F (reckIs_same hO' hs' h) hf
  | ok m' B P Q aP aQ cP cQ h hp hq =>
    obtain ⟨_, rfl⟩ := h.of.unique hO'
    obtain ⟨h1, h2, h3⟩ := reckoned_same h hs'
    rw [← h2] at hq ⊢
    refine .ok m' B P Q aP aQ cP cQ h1 ?_ hq
    rwa [joinC_congr (g := stmC (nmAt rd' root) S' B) (h := stmC (nmAt rd root) S B) fun i hi => by unfold stmC; rw [← (h3 i hi).1, hS i hi]] at hp
end Go.Proofs.YtbbhjpbacobmjaaGreatDoor

namespace Go.Proofs.YtbbhjpbacobmjaaGreatDoor
open Go.RowKit Go.Maps

/-- each file's name may be one. -/
def NamesOk (D : DataW Unit) : Prop := ∀ s, Maps.has D (keyB s) = true → nameF s.data.toList = 0
theorem NamesOk.empty : NamesOk (.map []) := fun s h => by simp [Maps.has] at h
theorem writeF_name {D : DataW Unit} {k : Nat} {s t : ByteArray} (h : writeF D k s t = 0) : nameF s.data.toList = 0 := by
  unfold writeF at h
  exact (seqF_zero_iff.1 h).1
theorem NamesOk.put {D : DataW Unit} {k : Nat} {s t : ByteArray} {d : DataW Unit} (h : NamesOk D) (hF : writeF D k s t = 0) : NamesOk (D.put (keyB s) d) := fun x hx => by
  by_cases e : x = s
  · subst e; exact writeF_name hF
  · rw [has_put_other (fun q => e (keyB_inj' q))] at hx
    exact h x hx
theorem NamesOk.del {D : DataW Unit} {s : ByteArray} (h : NamesOk D) : NamesOk (D.del (keyB s)) := fun x hx => by
  by_cases e : x = s
  · subst e; rw [has_del_same] at hx; cases hx
  · rw [has_del_other (fun q => e (keyB_inj' q))] at hx
    exact h x hx
theorem FilesAt.set {w : World} {p bm be i : Nat} {D : DataW Unit} {k : Nat} {v : Value} (h : FilesAt w p bm D k) (hp : be ≠ p) (hbm : be ≠ bm) : FilesAt (w.setCell ⟨be, i, none⟩ v) p bm D k :=
  ⟨(Below.heap_setCell _ _ _ _ (Ne.symm hp)).trans h.blk, h.own.kept (row := some be) (grownBy_setCell w be i v) (fun e => hbm (Option.some.inj e).symm)⟩
end Go.Proofs.YtbbhjpbacobmjaaGreatDoor
