/-
  Plain words: what is reckoned for a root hangs only on the files of those who belong to it.
  Plain words on files that read as they did but for one name.
  What Make of package entry returns, over any files and any root: an entry of what is reckoned, with the stamps of its files, or the number of the error; memory that was there stays as it was.
  A row of an entry's parts in memory; what is read of a row of the call's own.
  What Fresh of package entry returns, over any files; what Use returns of an entry that isn't fresh; memory that was there stays as it was.
  Plain words on the stamps of files that are as they were but for one name; what Make returns over them.
  Plain words on entries that are fresh, and on such that aren't: files whose names may be names, stamps that tell that a file was written.
-/
import Derived.Test.YtidabcoodolddaaGreatDoorImageLoad
namespace Go.Proofs.YtidabcoodolddaaGreatDoor
open Go.RowKit Go.Maps

theorem names_same {rd rd' : ByteArray → Nat × ObjF} {root : ByteArray} {m : Nat} (e : ∀ j, j < m → rd' (nmAt rd root j) = rd (nmAt rd root j)) : ∀ i, i ≤ m → namesAt rd' root i = namesAt rd root i
  | 0, _ => rfl
  | i + 1, hi => by
    have ih := names_same e i (by omega)
    have he : rd' (nmAt rd root i) = rd (nmAt rd root i) := e i (by omega)
    have hn : nmAt rd' root i = nmAt rd root i := by unfold nmAt; rw [ih]
    show joinL (namesAt rd' root i) (needsTo (rd' (nmAt rd' root i)).2 (rd' (nmAt rd' root i)).2.nN) = joinL (namesAt rd root i) (needsTo (rd (nmAt rd root i)).2 (rd (nmAt rd root i)).2.nN)
    rw [ih, hn, he]
theorem nm_same {rd rd' : ByteArray → Nat × ObjF} {root : ByteArray} {m : Nat} (e : ∀ j, j < m → rd' (nmAt rd root j) = rd (nmAt rd root j)) {i : Nat} (hi : i ≤ m) : nmAt rd' root i = nmAt rd root i := by
  unfold nmAt; rw [names_same e i hi]
theorem ob_same {rd rd' : ByteArray → Nat × ObjF} {root : ByteArray} {m : Nat} (e : ∀ j, j < m → rd' (nmAt rd root j) = rd (nmAt rd root j)) {i : Nat} (hi : i < m) : obAt rd' root i = obAt rd root i := by
  show (rd' (nmAt rd' root i)).2 = (rd (nmAt rd root i)).2
  rw [nm_same e (by omega), e i hi]
theorem of_same {rd rd' : ByteArray → Nat × ObjF} {root : ByteArray} {m : Nat} (h : OfIs rd root 0 m) (e : ∀ j, j < m → rd' (nmAt rd root j) = rd (nmAt rd root j)) : OfIs rd' root 0 m := by
  generalize hF : (0 : Nat) = F at h
  cases h with
  | bad _ _ _ hf => exact absurd hF.symm hf
  | ok _ h hi =>
    refine .ok m (fun j hj => ?_) (by rw [names_same e m (Nat.le_refl _)]; exact hi)
    rw [names_same e j (by omega), nm_same e (by omega), e j hj]
    exact h j hj
theorem bases_same {m : Nat} {sz sz' b : Nat → Int} {F : Nat} (h : BasesAre m sz 0 (fun _ => 0) (fun _ => 0) F b) (e : ∀ i, i < m → sz i = sz' i) : BasesAre m sz' 0 (fun _ => 0) (fun _ => 0) F b := by
  have hp : placeF m sz 0 (fun _ => 0) (fun _ => 0) = placeF m sz' 0 (fun _ => 0) (fun _ => 0) := by
    unfold placeF
    rw [anyTo_congr (p := fun i => decide (sz i < 1 ∨ 40 < sz i)) (q := fun i => decide (sz' i < 1 ∨ 40 < sz' i)) fun i hi => by rw [e i hi]]
  have hh : ∀ i, i < m → ∀ j, j < 0 + i → heldF (fun _ => 0) 0 b j = heldF (fun _ => 0) 0 b j ∧ heldF (fun _ => 0) 0 (fun j => roundF (sz j)) j = heldF (fun _ => 0) 0 (fun j => roundF (sz' j)) j := fun i hi j hj => ⟨rfl, by
    unfold heldF
    rw [if_neg (by omega), if_neg (by omega)]
    show roundF (sz (j - 0)) = roundF (sz' (j - 0))
    rw [e _ (by omega)]⟩
  have hl : ∀ i, i < m → Laid (fun _ => 0) (fun _ => 0) 0 sz b i → Laid (fun _ => 0) (fun _ => 0) 0 sz' b i := fun i hi ⟨k, hk, hb⟩ => ⟨k, hk, by rw [← e i hi]; exact hb.congr (hh i hi)⟩
  cases h with
  | bad _ h => rw [hp] at h ⊢; exact .bad _ h
  | full _ i h hi hl' hn => exact .full _ i (by rw [← hp]; exact h) hi (fun j hj => hl j (by omega) (hl' j hj)) (by unfold LaidNot; rw [← e i hi]; exact NoBase.congr hn (hh i hi))
  | ok _ h hl' => exact .ok _ (by rw [← hp]; exact h) fun j hj => hl j hj (hl' j hj)
theorem hit_same {m : Nat} {O O' : Nat → ObjF} (e : ∀ i, i < m → O' i = O i) {s : ByteArray} {i k : Nat} (h : Hit (symsF m O) s i k) : Hit (symsF m O') s i k ∧ (symsF m O').wk i k = (symsF m O).wk i k := by
  obtain ⟨h1, h2, h3⟩ := h
  have h1' : i < m := h1
  refine ⟨⟨h1, ?_, ?_⟩, ?_⟩
  · show k < (O' i).nS
    rw [e i h1']; exact h2
  · show (O' i).sName k = s
    rw [e i h1']; exact h3
  · show (O' i).sWeak k = (O i).sWeak k
    rw [e i h1']
theorem found_same {m : Nat} {O O' : Nat → ObjF} (e : ∀ i, i < m → O' i = O i) {s : ByteArray} {p q : Int} (h : IsFound (symsF m O) s p q) : IsFound (symsF m O') s p q := by
  have e' : ∀ i, i < m → O i = O' i := fun i hi => (e i hi).symm
  cases h with
  | strong i k h hw hb => exact .strong i k (hit_same e h).1 (by rw [(hit_same e h).2]; exact hw) fun a b hh hbf => by rw [(hit_same e (hit_same e' hh).1).2]; exact hb a b (hit_same e' hh).1 hbf
  | weak i k h hf hw => exact .weak i k (hit_same e h).1 (fun a b hh => hf a b (hit_same e' hh).1) fun a b hh => by rw [(hit_same e (hit_same e' hh).1).2]; exact hw a b (hit_same e' hh).1
  | none h => exact .none fun a b hh => h a b (hit_same e' hh).1
theorem finds_same {m : Nat} {O O' : Nat → ObjF} (e : ∀ i, i < m → O' i = O i) {P Q : ByteArray → Int} (h : Finds (symsF m O) P Q) : Finds (symsF m O') P Q := ⟨fun s => found_same e (h.is s)⟩
theorem tie_same {m : Nat} {O O' : Nat → ObjF} (e : ∀ i, i < m → O' i = O i) {P Q : ByteArray → Int} (h : Finds (symsF m O) P Q) (B : Nat → Int) {i : Nat} (hi : i < m) (k : Nat) : tieW O' P Q B i k = tieW O P Q B i k := by
  unfold tieW whereF
  rw [e i hi]
  split
  · rfl
  · split
    · rename_i hp
      rcases h.shape ((O i).tName k) with ⟨h1, _⟩ | ⟨x, y, h1, h2, h3, _, _⟩
      · rw [h1] at hp; omega
      · rw [h1, h2, Int.toNat_natCast, e x h3]
    · rfl
theorem patsOf_same {m : Nat} {O O' : Nat → ObjF} (e : ∀ i, i < m → O' i = O i) {P Q : ByteArray → Int} (h : Finds (symsF m O) P Q) (B : Nat → Int) {i : Nat} (hi : i < m) (k : Nat) : patsOf O' P Q B i k = patsOf O P Q B i k := by
  induction k with
  | zero => rfl
  | succ k ih => simp only [patsOf]; rw [ih, tie_same e h B hi, e i hi]
theorem patsTo_same {m : Nat} {O O' : Nat → ObjF} (e : ∀ i, i < m → O' i = O i) {P Q : ByteArray → Int} (h : Finds (symsF m O) P Q) (B : Nat → Int) : ∀ n, n ≤ m → patsTo O' P Q B n = patsTo O P Q B n
  | 0, _ => rfl
  | n + 1, hn => by simp only [patsTo]; rw [patsTo_same e h B n (by omega), e n (by omega), patsOf_same e h B (by omega)]
theorem faultTo_same {g h : Nat → Nat} {n : Nat} (e : ∀ i, i < n → g i = h i) : faultTo g n = faultTo h n := by
  induction n with
  | zero => rfl
  | succ n ih => simp only [faultTo]; rw [ih fun i hi => e i (by omega), e n (by omega)]
theorem all_same {m : Nat} {O O' : Nat → ObjF} (e : ∀ i, i < m → O' i = O i) {P Q : ByteArray → Int} (h : Finds (symsF m O) P Q) (B : Nat → Int) : allF m O' P Q m B = allF m O P Q m B := by
  have key : faultTo (fun i => faultTo (fun k => (tieW O' P Q B i k).1) (O' i).nT) m = faultTo (fun i => faultTo (fun k => (tieW O P Q B i k).1) (O i).nT) m := faultTo_same fun i hi => by
    show faultTo (fun k => (tieW O' P Q B i k).1) (O' i).nT = faultTo (fun k => (tieW O P Q B i k).1) (O i).nT
    rw [e i hi]
    exact faultTo_same fun k _ => by rw [tie_same e h B hi]
  unfold allF tiesF
  rw [key]
theorem reckIs_same {rd rd' : ByteArray → Nat × ObjF} {root : ByteArray} {m F : Nat} (hO : OfIs rd root 0 m) (e : ∀ j, j < m → rd' (nmAt rd root j) = rd (nmAt rd root j)) (h : ReckIs rd root F) : ReckIs rd' root F := by
  have ho : ∀ i, i < m → obAt rd' root i = obAt rd root i := fun i hi => ob_same e hi
  cases h with
  | of i h hf => exact absurd (h.unique hO).1 hf
  | bases m' B h hb hf =>
    obtain ⟨_, rfl⟩ := h.unique hO
    exact .bases m' B (of_same hO e) (bases_same hb fun i hi => by show ((obAt rd root i).nW : Int) = ((obAt rd' root i).nW : Int); rw [ho i hi]) hf
  | all m' B P Q h hb hz hP he hf =>
    obtain ⟨_, rfl⟩ := h.unique hO
    exact .all m' B P Q (of_same hO e) (bases_same hb fun i hi => by show ((obAt rd root i).nW : Int) = ((obAt rd' root i).nW : Int); rw [ho i hi]) hz (finds_same ho hP) (by rw [all_same ho hP]; exact he) hf
theorem reckoned_same {rd rd' : ByteArray → Nat × ObjF} {root : ByteArray} {m : Nat} {B : Nat → Int} {P Q : ByteArray → Int} (h : Reckoned rd root m B P Q) (e : ∀ j, j < m → rd' (nmAt rd root j) = rd (nmAt rd root j)) :
    Reckoned rd' root m B P Q ∧ patsAt rd' root m B P Q = patsAt rd root m B P Q ∧ (∀ i, i < m → nmAt rd' root i = nmAt rd root i ∧ obAt rd' root i = obAt rd root i) := by
  have ho : ∀ i, i < m → obAt rd' root i = obAt rd root i := fun i hi => ob_same e hi
  exact ⟨⟨of_same h.of e, bases_same h.bases fun i hi => by show ((obAt rd root i).nW : Int) = ((obAt rd' root i).nW : Int); rw [ho i hi], h.zero, finds_same ho h.finds, by rw [all_same ho h.finds]; exact h.all⟩, patsTo_same ho h.finds B m (Nat.le_refl _), fun i hi => ⟨nm_same e (by omega), ho i hi⟩⟩
theorem putF_same {X X' : Nat → Nat → Int} {p t v : Nat → Int} {i : Nat} (e : ∀ j, X' i j = X i j) (n j : Nat) : putF X' p t v n i j = putF X p t v n i j := by
  induction n with
  | zero => exact e j
  | succ n ih => simp only [putF]; rw [ih]
theorem boundW_same {rd rd' : ByteArray → Nat × ObjF} {root : ByteArray} {m : Nat} {B : Nat → Int} {P Q : ByteArray → Int} (hp : patsAt rd' root m B P Q = patsAt rd root m B P Q) {i : Nat} (ho : obAt rd' root i = obAt rd root i) (j : Nat) : boundW rd' root m B P Q i j = boundW rd root m B P Q i j := by
  unfold boundW
  rw [hp]
  exact putF_same (fun j => by rw [ho]) _ _
theorem PartsIn.congr {w : World} {B0 : Nat} {v : Value} {n : Nat} {nm nm' : Nat → ByteArray} {B : Nat → Int} {M M' : Nat → Nat} {X X' : Nat → Nat → Int} {g : Nat} {A : Nat → Option Addr} {C G : Nat → Nat} (h : PartsIn w B0 v n nm B M X g A C G)
    (e : ∀ i, i < n → nm i = nm' i ∧ M i = M' i ∧ ∀ j, X i j = X' i j) : PartsIn w B0 v n nm' B M' X' g A C G where
  out := { h.out with
    top := fun i hi => by rw [← (e i hi).2.1]; exact h.out.top i hi
    adr := fun i hi hm => h.out.adr i hi (by rw [(e i hi).2.1]; exact hm)
    own := fun i hi hm => h.out.own i hi (by rw [(e i hi).2.1]; exact hm)
    ne := fun i hi hm => h.out.ne i hi (by rw [(e i hi).2.1]; exact hm)
    row := fun i hi j hj => by rw [← (e i hi).2.2 j]; exact h.out.row i hi j (by rw [(e i hi).2.1]; exact hj)
    rfree := fun i hi hm => h.out.rfree i hi (by rw [(e i hi).2.1]; exact hm)
    apart := fun i j hi hj hij hmi hmj => h.out.apart i j hi hj hij (by rw [(e i hi).2.1]; exact hmi) (by rw [(e j hj).2.1]; exact hmj) }
  own := by
    have := h.own
    rwa [joinC_congr (g := partC nm B A M C) (h := partC nm' B A M' C) fun i hi => by unfold partC; rw [(e i hi).1, (e i hi).2.1]] at this
/-- what Load returns over files in which those that are needed are the same. -/
theorem LoadEnd.same {w : World} {B0 : Nat} {rd rd' : ByteArray → Nat × ObjF} {root : ByteArray} {m : Nat} {e : Ending} (h : LoadEnd w B0 rd' root e) (hO : OfIs rd root 0 m) (hs : ∀ j, j < m → rd' (nmAt rd root j) = rd (nmAt rd root j)) : LoadEnd w B0 rd root e := by
  have hs' : ∀ j, j < m → rd (nmAt rd' root j) = rd' (nmAt rd' root j) := fun j hj => by rw [nm_same hs (by omega)]; exact (hs j hj).symm
  have hO' := of_same hO hs
  cases h with
  | bad F h hf => exact .bad F (reckIs_same hO' hs' h) hf
  | ok m' B P Q u g A C G h hu =>
    obtain ⟨_, rfl⟩ := h.of.unique hO'
    obtain ⟨h1, h2, h3⟩ := reckoned_same h hs'
    exact .ok m' B P Q u g A C G h1 (hu.congr fun i hi => ⟨(h3 i hi).1.symm, by rw [(h3 i hi).2], fun j => (boundW_same h2 (h3 i hi).2 j).symm⟩)
theorem FilesAt.ltm {w : World} {p bm : Nat} {D : DataW Unit} {k : Nat} (h : FilesAt w p bm D k) : bm < w.heap.size := by
  obtain ⟨es, clock, hb, _⟩ := h.own
  exact (Array.getElem?_eq_some_iff.1 hb).1
/-- blocks from B on stay. -/
def Stays (B : Nat) (w w' : World) : Prop := w.heap.size ≤ w'.heap.size ∧ ∀ j, B ≤ j → j < w.heap.size → w'.heap[j]? = w.heap[j]?
theorem Stays.trans {B : Nat} {a b c : World} (h : Stays B a b) (g : Stays B b c) : Stays B a c := ⟨Nat.le_trans h.1 g.1, fun j hB hj => (g.2 j hB (Nat.lt_of_lt_of_le hj h.1)).trans (h.2 j hB hj)⟩
theorem Stays.of {B : Nat} {w w' : World} (h : Below w.heap.size w w') : Stays B w w' := ⟨h.size, fun j _ hj => h.block j hj⟩
theorem Stays.turned {B p bm : Nat} {w w' : World} (h : Turned p bm w w') (hp : p < B) (hbm : bm < B) : Stays B w w' := ⟨h.size, fun j hB hj => h.block j hj (by omega) (by omega)⟩
theorem owns_stays {w w' : World} {B : Nat} {e : TypeId} {s n : Nat} {v : Value} {xs : List Value} (h : w.ownsRow B e s v n xs) (hs : Stays B w w') : w'.ownsRow B e s v n xs := by
  refine ⟨h.1, ?_⟩
  rcases h.2 with h0 | ⟨g, cap, cur, hv, hB, hg, hr⟩
  · exact .inl h0
  · exact .inr ⟨g, cap, cur, hv, hB, (hs.2 g hB (Array.getElem?_eq_some_iff.1 hg).1).trans hg, hr⟩
theorem cell_stays {w w' : World} {B b i : Nat} {v : Value} (h : w.cell? ⟨b, i, none⟩ = some v) (hs : Stays B w w') (hB : B ≤ b) : w'.cell? ⟨b, i, none⟩ = some v :=
  (World.cell?_of_block (hs.2 b hB (World.block_lt_of_cell? _ _ h))).trans h
theorem PartsIn.stays {w w' : World} {B0 : Nat} {v : Value} {n : Nat} {nm : Nat → ByteArray} {B : Nat → Int} {M : Nat → Nat} {X : Nat → Nat → Int} {g : Nat} {A : Nat → Option Addr} {C G : Nat → Nat} (h : PartsIn w B0 v n nm B M X g A C G) (hs : Stays B0 w w') : PartsIn w' B0 v n nm B M X g A C G where
  out := { h.out with
    lt := Nat.lt_of_lt_of_le h.out.lt hs.1
    top := fun i hi => cell_stays (h.out.top i hi) hs h.out.hB
    free := fun i => by
      have := h.out.free i
      unfold World.frozen? at this ⊢
      rw [hs.2 g h.out.hB h.out.lt]
      exact this
    row := fun i hi j hj => cell_stays (h.out.row i hi j hj) hs (h.out.own i hi (by omega))
    rfree := fun i hi hm j => by
      have := h.out.rfree i hi hm j
      have hlt := World.block_lt_of_cell? _ _ (h.out.row i hi 0 hm)
      unfold World.frozen? at this ⊢
      rw [hs.2 (G i) (h.out.own i hi hm) hlt]
      exact this }
  own := owns_stays h.own hs
end Go.Proofs.YtidabcoodolddaaGreatDoor

namespace Go.Proofs.YtidabcoodolddaaGreatDoor
open Go.RowKit Go.Maps

theorem texts_at {D : DataW Unit} {k : Nat} {T : ByteArray → ByteArray} (hI : Inv D k) (hT : Texts D T) {x : ByteArray} (h : Maps.has D (keyB x) = true) : ∃ n, D.atKey (keyB x) (fileD [] 0) = fileD (T x).data.toList n := by
  obtain ⟨t, n, h1, _⟩ := hI.st _ h
  have h2 : D.atKey (keyB x) (fileD [] 0) = fileD (⟨t.toArray⟩ : ByteArray).data.toList n := by simpa using h1
  exact ⟨n, by rw [← hT.is x _ n h h2]; exact h2⟩
theorem rd_put_other {D : DataW Unit} {k : Nat} {T T' : ByteArray → ByteArray} {s : ByteArray} {d : DataW Unit} (hI : Inv D k) (hT : Texts D T) (hT' : Texts (D.put (keyB s) d) T') {x : ByteArray} (hx : x ≠ s) : rdD (D.put (keyB s) d) T' x = rdD D T x := by
  have hk : keyB x ≠ keyB s := fun e => hx (keyB_inj' e)
  unfold rdD
  rw [has_put_other hk]
  split
  · rename_i h
    obtain ⟨n, hn⟩ := texts_at hI hT h
    rw [hT'.is x (T x) n (by rw [has_put_other hk]; exact h) (by rw [atKey_put_other hk]; exact hn)]
  · rfl
theorem rd_del_other {D : DataW Unit} {k : Nat} {T T' : ByteArray → ByteArray} {s : ByteArray} (hI : Inv D k) (hT : Texts D T) (hT' : Texts (D.del (keyB s)) T') {x : ByteArray} (hx : x ≠ s) : rdD (D.del (keyB s)) T' x = rdD D T x := by
  have hk : keyB x ≠ keyB s := fun e => hx (keyB_inj' e)
  unfold rdD
  rw [has_del_other hk]
  split
  · rename_i h
    obtain ⟨n, hn⟩ := texts_at hI hT h
    rw [hT'.is x (T x) n (by rw [has_del_other hk]; exact h) (by rw [atKey_del_other hk]; exact hn)]
  · rfl
/-- files that read as they did but for one name. -/
structure Else (D : DataW Unit) (T : ByteArray → ByteArray) (s : ByteArray) (D' : DataW Unit) (k' : Nat) : Prop where
  inv : Inv D' k'
  read : ∀ T', Texts D' T' → ∀ x, x ≠ s → rdD D' T' x = rdD D T x
theorem Else.refl {D : DataW Unit} {k : Nat} {T : ByteArray → ByteArray} {s : ByteArray} (hI : Inv D k) (hT : Texts D T) : Else D T s D k := ⟨hI, fun T' hT' x _ => by
  unfold rdD
  split
  · rename_i h
    obtain ⟨n, hn⟩ := texts_at hI hT h
    rw [hT'.is x (T x) n h hn]
  · rfl⟩
theorem else_write {D : DataW Unit} {k : Nat} {T : ByteArray → ByteArray} {s text : ByteArray} (hI : Inv D k) (hT : Texts D T) {w w' : World} {p bm F : Nat} {e : Ending} (hF : F = writeF D k s text) (h : WriteEnd w p bm D k s text F e w') : ∃ D' k', FilesAt w' p bm D' k' ∧ Else D T s D' k' := by
  by_cases h0 : F = 0
  · exact ⟨_, _, h.yes h0, hI.put (hF.symm.trans h0), fun T' hT' x hx => rd_put_other hI hT hT' hx⟩
  · exact ⟨_, _, h.no h0, Else.refl hI hT⟩
theorem Else.del {D D' : DataW Unit} {k' : Nat} {T : ByteArray → ByteArray} {s : ByteArray} (h : Else D T s D' k') : Else D T s (D'.del (keyB s)) k' := by
  obtain ⟨T1, hT1⟩ := texts_some D'
  exact ⟨h.inv.del, fun T' hT' x hx => (rd_del_other h.inv hT1 hT' hx).trans (h.read T1 hT1 x hx)⟩
end Go.Proofs.YtidabcoodolddaaGreatDoor

namespace Go.Proofs.YtidabcoodolddaaGreatDoor
open Go.RowKit Go.Maps

/-- the stamps of files. -/
structure Stamps (D : DataW Unit) (S : ByteArray → Int) : Prop where
  is : ∀ s t n, Maps.has D (keyB s) = true → D.atKey (keyB s) (fileD [] 0) = fileD t n → n = S s
theorem fileD_stamp {t t' : List UInt8} {n n' : Int} (h : fileD t n = fileD t' n') : n = n' := by
  simp [fileD] at h
  exact h.2
theorem stamps_some (D : DataW Unit) : ∃ S, Stamps D S := by
  have h : ∀ s : ByteArray, ∃ S : Int, ∀ t n, D.atKey (keyB s) (fileD [] 0) = fileD t n → n = S := fun s => by
    by_cases e : ∃ t n, D.atKey (keyB s) (fileD [] 0) = fileD t n
    · obtain ⟨t, n, e⟩ := e
      exact ⟨n, fun t' n' e' => fileD_stamp (e'.symm.trans e)⟩
    · exact ⟨0, fun t n e' => absurd ⟨t, n, e'⟩ e⟩
  obtain ⟨f, hf⟩ := Classical.axiomOfChoice h
  exact ⟨f, ⟨fun s t n _ he => hf s t n he⟩⟩
theorem rd_has {D : DataW Unit} {T : ByteArray → ByteArray} {x : ByteArray} (h : (rdD D T x).1 = 0) : Maps.has D (keyB x) = true := by
  cases e : Maps.has D (keyB x) with
  | true => rfl
  | false => unfold rdD at h; rw [if_neg (by simp [e])] at h; cases h
/-- a part's three cells. -/
def stmC (nm : Nat → ByteArray) (S : ByteArray → Int) (B : Nat → Int) (i : Nat) : List Value := [.string (nm i), .int .i64 (S (nm i)), .int .i64 (B i)]
theorem growStm {B0 : Nat} {w : World} {v : Value} {n : Nat} {xs : List Value} (s : ByteArray) (x y : Int) (hB : B0 ≤ w.heap.size) (h : w.ownsRow B0 115 3 v n xs) (hn : n < 1000) :
    ∃ v' W, (Builtin.append_ #[59, 59] 59 #[v, .slice (some ⟨w.heap.size, 0, none⟩) 1 1]).run Tryz.prog (w.alloc (.cells #[.string s, .int .i64 x, .int .i64 y] 115)) = .ok v' W ∧ Grown B0 115 3 (w.alloc (.cells #[.string s, .int .i64 x, .int .i64 y] 115)) v (n + 1) (xs ++ [.string s, .int .i64 x, .int .i64 y]) v' W :=
  append_from 59 115 3 32 (.agg #[.string ⟨#[]⟩, .int .i64 0, .int .i64 0]) (by kernel_rfl) (by kernel_rfl) (by rfl) (by decide) B0 _ v n _ (h.alloc _) (some ⟨w.heap.size, 0, none⟩) 1 1 [.string s, .int .i64 x, .int .i64 y] rfl
    (.inr ⟨_, _, rfl, fun j u hj => by
      match j, hj with
      | 0, hj => simp at hj; subst hj; simp [go_sem]
      | 1, hj => simp at hj; subst hj; simp [go_sem]
      | 2, hj => simp at hj; subst hj; simp [go_sem]
      | j + 3, hj => simp at hj⟩) (fun u hu => by simp at hu; rcases hu with rfl | rfl | rfl <;> rfl) (by simp; omega) (by omega) (by decide)
/-- what stands while parts are put into an entry. -/
structure MakeSt (w4 wr : World) (be : Nat) (root : ByteArray) (q : Value) (nm : Nat → ByteArray) (S : ByteArray → Int) (B : Nat → Int) (i : Nat) (v : Value) : Prop where
  blk : wr.heap[be]? = some (.cells #[.string root, v, q] 62 (0, 0))
  own : wr.ownsRow (be + 1) 115 3 v i (joinC (stmC nm S B) i)
  below : Below be w4 wr
theorem MakeSt.later {w4 wr w' : World} {be : Nat} {root : ByteArray} {q : Value} {nm : Nat → ByteArray} {S : ByteArray → Int} {B : Nat → Int} {i : Nat} {v : Value} (h : MakeSt w4 wr be root q nm S B i v) (hb : Below wr.heap.size wr w') : MakeSt w4 w' be root q nm S B i v :=
  ⟨(hb.block be (Array.getElem?_eq_some_iff.1 h.blk).1).trans h.blk, owns_below h.own hb, h.below.trans (hb.mono (Nat.le_of_lt (Array.getElem?_eq_some_iff.1 h.blk).1))⟩
theorem MakeSt.grow {w4 wr : World} {be : Nat} {root : ByteArray} {q : Value} {nm : Nat → ByteArray} {S : ByteArray → Int} {B : Nat → Int} {i : Nat} {v : Value} (h : MakeSt w4 wr be root q nm S B i v) (hi : i < 1000) :
    ∃ v' W, (Builtin.append_ #[59, 59] 59 #[v, .slice (some ⟨wr.heap.size, 0, none⟩) 1 1]).run Tryz.prog (wr.alloc (.cells #[.string (nm i), .int .i64 (S (nm i)), .int .i64 (B i)] 115)) = .ok v' W ∧ W.cell? ⟨be, 1, none⟩ = some v ∧ W.frozen? ⟨be, 1, none⟩ = false ∧ MakeSt w4 (W.setCell ⟨be, 1, none⟩ v') be root q nm S B (i + 1) v' := by
  have hlt := (Array.getElem?_eq_some_iff.1 h.blk).1
  obtain ⟨v', W, happ, hG⟩ := growStm (nm i) (S (nm i)) (B i) (by omega) h.own hi
  have hb2 : Below (be + 1) wr W := ((Below.refl (be + 1) wr).alloc (by omega) _).trans hG.below
  have hW : W.heap[be]? = some (.cells #[.string root, v, q] 62 (0, 0)) := (hb2.block be (by omega)).trans h.blk
  refine ⟨v', W, happ, by simp [World.cell?, hW], by simp [World.frozen?, hW], heap_setCell W be 1 _ _ v' hW, kept_set hG.own hW (by decide), ?_⟩
  exact (h.below.trans (hb2.mono (by omega))).trans ⟨rfl, rfl, rfl, by simp [World.setCell], fun k hk => Below.heap_setCell _ _ _ _ (Nat.ne_of_lt hk)⟩
/-- a call of Make that returned. -/
inductive MadeEnd (w : World) (B0 : Nat) (rd : ByteArray → Nat × ObjF) (S : ByteArray → Int) (root : ByteArray) : Ending → Prop
  | bad (F : Nat) (h : ReckIs rd root F) (hf : F ≠ 0) : MadeEnd w B0 rd S root (.returned (.tuple #[.agg #[.string ⟨#[]⟩, .slice none 0 0, .slice none 0 0], errV F]))
  | ok (m : Nat) (B : Nat → Int) (P Q : ByteArray → Int) (aP aQ : Option Addr) (cP cQ : Nat) (h : Reckoned rd root m B P Q) (hp : w.ownsRow B0 115 3 (.slice aP m cP) m (joinC (stmC (nmAt rd root) S B) m))
      (hq : w.ownsRow B0 167 3 (.slice aQ (patsAt rd root m B P Q).length cQ) (patsAt rd root m B P Q).length (patsC (patsAt rd root m B P Q))) : MadeEnd w B0 rd S root (.returned (.tuple #[.agg #[.string root, .slice aP m cP, .slice aQ (patsAt rd root m B P Q).length cQ], .nilIface]))
theorem below_store3 {B g : Nat} {w w' : World} (h : Below B w w') (hg : B ≤ g) (a0 a1 a2 : Value) : Below B w (((w'.setCell ⟨g, 0, none⟩ a0).setCell ⟨g, 1, none⟩ a1).setCell ⟨g, 2, none⟩ a2) :=
  h.trans ⟨rfl, rfl, rfl, by simp [World.setCell], fun k hk => ((Below.heap_setCell _ _ _ _ (Nat.ne_of_lt (Nat.lt_of_lt_of_le hk hg))).trans (Below.heap_setCell _ _ _ _ (Nat.ne_of_lt (Nat.lt_of_lt_of_le hk hg)))).trans (Below.heap_setCell _ _ _ _ (Nat.ne_of_lt (Nat.lt_of_lt_of_le hk hg)))⟩
theorem owns_store3 {w : World} {B s n g : Nat} {e t : TypeId} {v : Value} {xs : List Value} {c : Array Value} (h : w.ownsRow B e s v n xs) (hb : w.heap[g]? = some (.cells c t (0, 0))) (hne : e ≠ t) (a0 a1 a2 : Value) : (((w.setCell ⟨g, 0, none⟩ a0).setCell ⟨g, 1, none⟩ a1).setCell ⟨g, 2, none⟩ a2).ownsRow B e s v n xs :=
  have h0 := heap_setCell w g 0 c t a0 hb
  have h1 := heap_setCell _ g 1 _ t a1 h0
  kept_set (kept_set (kept_set h hb hne) h0 hne) h1 hne

set_option maxRecDepth 100000 in
set_option maxHeartbeats 4000000 in
theorem make_any (w : World) (p bm : Nat) (D : DataW Unit) (k : Nat) (T : ByteArray → ByteArray) (S : ByteArray → Int) (root : ByteArray) (h : FilesAt w p bm D k) (hI : Inv D k) (hT : Texts D T) (hSt : Stamps D S) (hE : Env w) (hroot : root.size ≤ maxLen) :
    Calls Tryz.prog 37 #[.pointer (some ⟨p, 0, none⟩), .string root] w fun e w' => MadeEnd w' w.heap.size (rdD D T) S root e ∧ Below w.heap.size w w' := by
  have hb0 : Below w.heap.size w (w.alloc (.cells #[.string ⟨#[]⟩, .slice none 0 0, .slice none 0 0] 62)) := (Below.refl _ _).alloc (Nat.le_refl _) _
  have HR := reckon_any (w.alloc (.cells #[.string ⟨#[]⟩, .slice none 0 0, .slice none 0 0] 62)) p bm D k T root (h.later hb0) hI hT (hE.later hb0) hroot
  have hfew := rd_few (T := T) hI
  have hres0 : (w.alloc (.cells #[.string ⟨#[]⟩, .slice none 0 0, .slice none 0 0] 62)).heap[w.heap.size]? = some (.cells #[.string ⟨#[]⟩, .slice none 0 0, .slice none 0 0] 62 (0, 0)) := by
    show (w.heap.push _)[w.heap.size]? = _
    rw [Array.getElem?_push_size]
  have hsz0 : (w.alloc (.cells #[.string ⟨#[]⟩, .slice none 0 0, .slice none 0 0] 62)).heap.size = w.heap.size + 1 := by simp
  go_enter Tryz.func37, Tryz.ntmps37
  go_wp2_with fail
  refine HR.mono ?_
  rintro e w1 ⟨he, hb1⟩
  rw [hsz0] at he hb1
  have hbw := hb0.trans (hb1.mono (by omega))
  have hres1 : w1.heap[w.heap.size]? = some (.cells #[.string ⟨#[]⟩, .slice none 0 0, .slice none 0 0] 62 (0, 0)) := (hb1.block _ (by omega)).trans hres0
  clear HR hE hb0 hres0 hsz0
  cases he with
  | bad F hR hf =>
    obtain ⟨z, hz⟩ := errV_pos hf
    rw [hz]
    have q0 : w1.cell? ⟨w.heap.size, 0, none⟩ = some (.string ⟨#[]⟩) := by simp [World.cell?, hres1]
    have q1 : w1.cell? ⟨w.heap.size, 1, none⟩ = some (.slice none 0 0) := by simp [World.cell?, hres1]
    have q2 : w1.cell? ⟨w.heap.size, 2, none⟩ = some (.slice none 0 0) := by simp [World.cell?, hres1]
    have f0 : w1.frozen? ⟨w.heap.size, 0, none⟩ = false := by simp [World.frozen?, hres1]
    have f1 : w1.frozen? ⟨w.heap.size, 1, none⟩ = false := by simp [World.frozen?, hres1]
    have f2 : w1.frozen? ⟨w.heap.size, 2, none⟩ = false := by simp [World.frozen?, hres1]
    have hNB := below_store3 hbw (Nat.le_refl w.heap.size) (.string ⟨#[]⟩) (.slice none 0 0) (.slice none 0 0)
    go_wp2
    refine bodyPost_ret (v := .tuple #[.agg #[.string ⟨#[]⟩, .slice none 0 0, .slice none 0 0], .iface 82 (.int .i64 z)]) (by simp [results, Tryz.results37, go_sem, q0, q1, q2]) rfl ?_
    rw [← hz]
    exact ⟨.bad F hR hf, hNB⟩
  | ok m B P Q u x b pv V hR hu hx hb hp =>
    obtain ⟨hS, hlen, hnm⟩ := scope_of hR.of hfew
    have hm6 := hS.few
    have hok : ∀ j, j < m → ObjOk (obAt (rdD D T) root j) := fun j hj => rd_ok (by rw [hS.read j hj])
    have hnz : ∀ j, j < m → (nmAt (rdD D T) root j).size ≤ maxLen := fun j hj => by
      by_cases h0 : j = 0
      · subst h0; rw [hS.root]; exact hroot
      · obtain ⟨q, z, hq, hz, e⟩ := hS.want j (by omega) hj
        have h1 := nameF_len ((hok q (by omega)).needs z hz)
        rw [e] at h1
        have : (nmAt (rdD D T) root j).data.toList.length = (nmAt (rdD D T) root j).size := by simp
        simp only [maxLen]
        omega
    have hhas : ∀ j, j < m → Maps.has D (keyB (nmAt (rdD D T) root j)) = true := fun j hj => rd_has (by rw [hS.read j hj])
    obtain ⟨ua, uc, rfl, _, hur⟩ := ownTx_row hu
    obtain ⟨ba, bc, rfl, _, hbr⟩ := rows_int hb
    obtain ⟨pa, pc, rfl, _⟩ := owns_shape hp
    rw [hlen] at hur ⊢
    have hur2 : RowAt w1 ua m fun i => .string (nmAt (rdD D T) root i) := by
      rcases hur with h0 | ⟨bk, o, ha, hc⟩
      · exact .inl h0
      · exact .inr ⟨bk, o, ha, fun i hi => by rw [hc i hi]; show some (Value.string _) = _; rw [hnm i hi]⟩
    have hF1 := h.later hbw
    have hsz1 : w.heap.size < w1.heap.size := (Array.getElem?_eq_some_iff.1 hres1).1
    have hb4 : Below w1.heap.size w1 (w1.alloc (.cells #[.string root, .slice none 0 0, .slice pa (patsAt (rdD D T) root m B P Q).length pc] 62)) := (Below.refl _ _).alloc (Nat.le_refl _) _
    have hM0 : MakeSt (w1.alloc (.cells #[.string root, .slice none 0 0, .slice pa (patsAt (rdD D T) root m B P Q).length pc] 62)) (w1.alloc (.cells #[.string root, .slice none 0 0, .slice pa (patsAt (rdD D T) root m B P Q).length pc] 62)) w1.heap.size root (.slice pa (patsAt (rdD D T) root m B P Q).length pc) (nmAt (rdD D T) root) S B 0 (.slice none 0 0) := ⟨by
        show (w1.heap.push _)[w1.heap.size]? = _
        rw [Array.getElem?_push_size], World.ownsRow_nil _ _ _ _, Below.refl _ _⟩
    generalize hlE : patsAt (rdD D T) root m B P Q = l at *
    generalize hnE : nmAt (rdD D T) root = nm at *
    have HLE : Hid (patsAt (rdD D T) root m B P Q = l) := hlE
    have HNE : Hid (nmAt (rdD D T) root = nm) := hnE
    clear hlE hnE
    clear hS hlen hnm hur hu hb hx h hfew hok
    go_wp2
    generalize w1.alloc (.cells #[.string root, .slice none 0 0, .slice pa l.length pc] 62) = w4 at *
    go_loopw [34] (fun y wr => ∃ (i : Nat) (v : Value), i ≤ m ∧ y = .int .i64 i ∧ MakeSt w4 wr w1.heap.size root (.slice pa l.length pc) nm S B i v) (fun y _ => m - (intOf y).toNat)
    case atStart => exact ⟨0, _, Nat.zero_le _, rfl, hM0⟩
    case round =>
      obtain ⟨i, v, hi, rfl, hM⟩ := hrel
      obtain ⟨av, cv, rfl, _⟩ := owns_shape hM.own
      have hbr4 : Below w1.heap.size w1 wr := hb4.trans (hM.below)
      by_cases hlt : i < m
      · have hni : ∃ bu ou, ua = some ⟨bu, ou, none⟩ ∧ w1.cell? ⟨bu, ou + i, none⟩ = some (.string (nm i)) := by
          rcases hur2 with h0 | ⟨bu, ou, ha, hc⟩
          · omega
          · exact ⟨bu, ou, ha, hc i hlt⟩
        have hbi : ∃ bv ov, ba = some ⟨bv, ov, none⟩ ∧ w1.cell? ⟨bv, ov + i, none⟩ = some (.int .i64 (B i)) := by
          rcases hbr with h0 | ⟨bu, ou, ha, hc⟩
          · omega
          · exact ⟨bu, ou, ha, hc i hlt⟩
        obtain ⟨bu, ou, rfl, hn1⟩ := hni
        obtain ⟨bv, ov, rfl, hv1⟩ := hbi
        have hn2 := cell_later hbr4 hn1
        have HRd := fileRead_any wr p bm D k (nm i) (hF1.later hbr4) (hnz i hlt)
        clear hur2 hbr
        go_wp2_with fail
        refine HRd.mono ?_
        rintro e w9 ⟨⟨t, nst, f, rfl, hRI⟩, hb9⟩
        obtain ⟨rfl, ht⟩ := hRI.yes (hhas i hlt)
        obtain rfl := hSt.is (nm i) _ nst (hhas i hlt) ht
        have hM9 := hM.later hb9
        have hn9 := cell_later hb9 hn2
        have hv9 := cell_later hb9 (cell_later hbr4 hv1)
        have hMd : MakeSt w4 w9.drew w1.heap.size root (.slice pa l.length pc) nm S B i (.slice av i cv) := hM9.later (Below.refl _ _).drew
        obtain ⟨v', W, happ, g0, gz, hMn⟩ := hMd.grow (by omega)
        obtain ⟨av2, cv2, rfl, _⟩ := owns_shape hMn.own
        have hC : w9.cell? ⟨w1.heap.size, 1, none⟩ = some (.slice av i cv) := by simp [World.cell?, hM9.blk]
        have hlt9 : w1.heap.size < w9.heap.size := (Array.getElem?_eq_some_iff.1 hM9.blk).1
        have q0 : errV 0 = .nilIface := rfl
        rw [q0]
        clear HRd hRI ht hM hMd hM9 hn1 hv1 hn2 q0 hhas hnz
        go_wp2
        go_region_law (refine step_run rfl (.tmp 52) (.tmp 63) 59 rfl (.slice av i cv) (.slice (some ⟨w9.heap.size, 0, none⟩) 1 1) _ rfl rfl happ ?_)
        all_goals
          go_wp2
          go_roundw
          case rel => exact ⟨i + 1, _, by omega, by go_num, hMn⟩
          case measure => simp [intOf]; omega
      · have e : i = m := by omega
        subst e
        have hres : wr.heap[w.heap.size]? = some (.cells #[.string ⟨#[]⟩, .slice none 0 0, .slice none 0 0] 62 (0, 0)) := (hbr4.block _ hsz1).trans hres1
        have q0 : wr.cell? ⟨w.heap.size, 0, none⟩ = some (.string ⟨#[]⟩) := by simp [World.cell?, hres]
        have q1 : wr.cell? ⟨w.heap.size, 1, none⟩ = some (.slice none 0 0) := by simp [World.cell?, hres]
        have q2 : wr.cell? ⟨w.heap.size, 2, none⟩ = some (.slice none 0 0) := by simp [World.cell?, hres]
        have f0 : wr.frozen? ⟨w.heap.size, 0, none⟩ = false := by simp [World.frozen?, hres]
        have f1 : wr.frozen? ⟨w.heap.size, 1, none⟩ = false := by simp [World.frozen?, hres]
        have f2 : wr.frozen? ⟨w.heap.size, 2, none⟩ = false := by simp [World.frozen?, hres]
        have e0 : wr.cell? ⟨w1.heap.size, 0, none⟩ = some (.string root) := by simp [World.cell?, hM.blk]
        have e1 : wr.cell? ⟨w1.heap.size, 1, none⟩ = some (.slice av i cv) := by simp [World.cell?, hM.blk]
        have e2 : wr.cell? ⟨w1.heap.size, 2, none⟩ = some (.slice pa l.length pc) := by simp [World.cell?, hM.blk]
        have hNB := below_store3 (hbw.trans (hbr4.mono hbw.size)) (Nat.le_refl w.heap.size) (.string root) (.slice av i cv) (.slice pa l.length pc)
        have hO1 := owns_store3 (World.ownsRow.mono hM.own (show w.heap.size ≤ w1.heap.size + 1 by omega)) hres (by decide) (.string root) (.slice av i cv) (.slice pa l.length pc)
        have hO2 := owns_store3 (World.ownsRow.mono (owns_below hp hbr4) (Nat.le_succ w.heap.size)) hres (by decide) (.string root) (.slice av i cv) (.slice pa l.length pc)
        clear hM hres hur2 hbr hp
        go_wp2
        refine bodyPost_ret (v := .tuple #[.agg #[.string root, .slice av i cv, .slice pa l.length pc], .nilIface]) (by simp [results, Tryz.results37, go_sem, q0, q1, q2]) rfl ?_
        have hl1 := HLE.out
        have hn1 := HNE.out
        subst hl1
        subst hn1
        exact ⟨.ok i B P Q av pa cv pc hR hO1 hO2, hNB⟩
end Go.Proofs.YtidabcoodolddaaGreatDoor

namespace Go.Proofs.YtidabcoodolddaaGreatDoor
open Go.RowKit Go.Maps

/-- the n parts behind 'a': name, stamp, base. -/
def StmRow (w : World) (a : Option Addr) (n : Nat) (s : Nat → ByteArray) (k b : Nat → Int) : Prop :=
  n = 0 ∨ ∃ bk o, a = some ⟨bk, o, none⟩ ∧ ∀ i, i < n → w.cell? ⟨bk, o + i * 3, none⟩ = some (.string (s i)) ∧ w.cell? ⟨bk, o + i * 3 + 1, none⟩ = some (.int .i64 (k i)) ∧ w.cell? ⟨bk, o + i * 3 + 2, none⟩ = some (.int .i64 (b i))
theorem StmRow.later {w w' : World} {a : Option Addr} {n : Nat} {s : Nat → ByteArray} {k b : Nat → Int} (h : StmRow w a n s k b) (hb : Below w.heap.size w w') : StmRow w' a n s k b := by
  rcases h with h | ⟨bk, o, ha, hc⟩
  · exact .inl h
  · exact .inr ⟨bk, o, ha, fun i hi => ⟨cell_later hb (hc i hi).1, cell_later hb (hc i hi).2.1, cell_later hb (hc i hi).2.2⟩⟩
theorem rows_stm {w : World} {B0 : Nat} {e : TypeId} {a : Option Addr} {n c : Nat} {nm : Nat → ByteArray} {S : ByteArray → Int} {B : Nat → Int} (h : w.ownsRow B0 e 3 (.slice a n c) n (joinC (stmC nm S B) n)) : StmRow w a n nm (fun i => S (nm i)) B := by
  by_cases h0 : n = 0
  · exact .inl h0
  · have key : ∀ i, i < n → ∀ j u, (stmC nm S B i)[j]? = some u → j < 3 → ∃ g, a = some ⟨g, 0, none⟩ ∧ B0 ≤ g ∧ w.cell? ⟨g, i * 3 + j, none⟩ = some u := fun i hi j u hu hj =>
      owns_cell h (by rw [joinC_at (s := 3) (fun i _ => rfl) hi hj]; exact hu)
    obtain ⟨g0, ha, _, _⟩ := key 0 (by omega) 0 _ rfl (by omega)
    refine .inr ⟨g0, 0, ha, fun i hi => ?_⟩
    have get : ∀ j u, (stmC nm S B i)[j]? = some u → j < 3 → w.cell? ⟨g0, i * 3 + j, none⟩ = some u := fun j u hu hj => by
      obtain ⟨g', ha', _, hc'⟩ := key i hi j u hu hj
      rw [ha] at ha'
      injection ha' with ha'
      injection ha' with ha'
      subst ha'
      exact hc'
    exact ⟨by rw [Nat.zero_add]; exact get 0 _ rfl (by omega), by rw [Nat.zero_add]; exact get 1 _ rfl (by omega), by rw [Nat.zero_add]; exact get 2 _ rfl (by omega)⟩
end Go.Proofs.YtidabcoodolddaaGreatDoor

namespace Go.Proofs.YtidabcoodolddaaGreatDoor
open Go.RowKit Go.Maps

/-- has one of the first n another stamp, or none? -/
def staleTo (D : DataW Unit) (S : ByteArray → Int) (s : Nat → ByteArray) (st : Nat → Int) : Nat → Bool := anyTo fun i => !(Maps.has D (keyB (s i)) && decide (S (s i) = st i))

set_option maxRecDepth 100000 in
set_option maxHeartbeats 2000000 in
theorem fresh_any (w : World) (p bm : Nat) (D : DataW Unit) (k : Nat) (S : ByteArray → Int) (root : ByteArray) (n nq : Nat) (s : Nat → ByteArray) (st b : Nat → Int) (aP aQ : Option Addr) (cP cQ : Nat) (h : FilesAt w p bm D k) (hS : Stamps D S) (hn : n ≤ 1000) (hs : ∀ i, i < n → (s i).size ≤ maxLen) (hr : StmRow w aP n s st b) :
    Calls Tryz.prog 32 #[.agg #[.string root, .slice aP n cP, .slice aQ nq cQ], .pointer (some ⟨p, 0, none⟩)] w fun e w' => e = .returned (.bool (!staleTo D S s st n && decide (0 < n))) ∧ Below w.heap.size w w' := by
  generalize hF : staleTo D S s st n = F
  have HF : Hid (staleTo D S s st n = F) := hF
  clear hF
  have hb0 : Below w.heap.size w (w.alloc (.cells #[.string root, .slice aP n cP, .slice aQ nq cQ] 62)) := (Below.refl _ _).alloc (Nat.le_refl _) _
  have e1 : (w.alloc (.cells #[.string root, .slice aP n cP, .slice aQ nq cQ] 62)).cell? ⟨w.heap.size, 1, none⟩ = some (.slice aP n cP) := by simp [go_sem]
  have h1 := h.later hb0
  have hr1 := hr.later hb0
  clear h hr
  go_enter Tryz.func32, Tryz.ntmps32
  go_wp2
  generalize w.alloc (.cells #[.string root, .slice aP n cP, .slice aQ nq cQ] 62) = W at *
  go_loopw [12] (fun y wr => ∃ i : Nat, i ≤ n ∧ y = .int .i64 i ∧ Hid (staleTo D S s st i = false) ∧ Below W.heap.size W wr) (fun y _ => n - (intOf y).toNat)
  case atStart => exact ⟨0, Nat.zero_le _, rfl, rfl, Below.refl _ _⟩
  case round =>
    obtain ⟨i, hi, rfl, HK, hb⟩ := hrel
    have hb2 : Below w.heap.size w wr := hb0.trans (hb.mono hb0.size)
    have e1r := cell_later hb e1
    by_cases hlt : i < n
    · have hr2 := hr1.later hb
      rcases hr2 with h0 | ⟨bk, o, rfl, hc⟩
      · omega
      obtain ⟨x0, x1, x2⟩ := hc i hlt
      have HR := fileRead_any wr p bm D k (s i) (h1.later hb) (hs i hlt)
      clear hc hr1
      go_wp2_with fail
      refine HR.mono ?_
      rintro e w2 ⟨⟨t, nst, f, rfl, hRI⟩, hb3⟩
      replace e1r := cell_later hb3 e1r
      replace x1 := cell_later hb3 x1
      have hb4 := hb2.trans (hb3.mono hb2.size)
      have hb5 := hb.trans (hb3.mono hb.size)
      clear HR x0 x2
      cases hh : Maps.has D (keyB (s i)) with
      | false =>
        obtain ⟨rfl, rfl, rfl⟩ := hRI.no hh
        have HE : Hid (F = true) := HF.out.symm.trans (anyTo_yes hlt (by rw [hh]; rfl))
        have q5 : errV 5 = .iface 82 (.int .i64 5) := rfl
        rw [q5]
        clear hRI hh
        go_wp2
        go_ret
        exact ⟨ret_bool (by rw [HE.out]; rfl), hb4⟩
      | true =>
        obtain ⟨rfl, hat⟩ := hRI.yes hh
        obtain rfl := hS.is (s i) _ nst hh hat
        have q0 : errV 0 = .nilIface := rfl
        rw [q0]
        by_cases he : S (s i) = st i
        · have hne : (S (s i) != st i) = false := by rw [bne_eq_false_iff_eq]; exact he
          have HE : Hid (staleTo D S s st (i + 1) = false) := anyTo_no HK.out (by rw [hh, decide_eq_true he]; rfl)
          clear hRI hh hat he HK
          go_wp2
          go_roundw
          case rel => exact ⟨i + 1, by omega, by go_num, HE, hb5⟩
          case measure => simp [intOf]; omega
        · have hne : (S (s i) != st i) = true := by rw [bne_iff_ne]; exact he
          have HE : Hid (F = true) := HF.out.symm.trans (anyTo_yes hlt (by rw [hh, decide_eq_false he]; rfl))
          clear hRI hh hat he HK
          go_wp2
          go_ret
          exact ⟨ret_bool (by rw [HE.out]; rfl), hb4⟩
    · have HE : Hid (F = false) := by
        have e : i = n := by omega
        subst e
        exact HF.out.symm.trans HK.out
      clear hr1 HK
      go_wp2
      go_ret
      exact ⟨ret_bool (by rw [HE.out]; simp), hb2⟩

set_option maxRecDepth 100000 in
set_option maxHeartbeats 2000000 in
theorem use_stale (w : World) (p bm : Nat) (D : DataW Unit) (k : Nat) (S : ByteArray → Int) (root : ByteArray) (n nq : Nat) (s : Nat → ByteArray) (st b : Nat → Int) (aP aQ : Option Addr) (cP cQ : Nat) (h : FilesAt w p bm D k) (hS : Stamps D S) (hn : n ≤ 1000) (hs : ∀ i, i < n → (s i).size ≤ maxLen) (hr : StmRow w aP n s st b) (hst : staleTo D S s st n = true) :
    Calls Tryz.prog 33 #[.agg #[.string root, .slice aP n cP, .slice aQ nq cQ], .pointer (some ⟨p, 0, none⟩)] w fun e w' => e = .returned (.tuple #[.slice none 0 0, .iface 82 (.int .i64 10)]) ∧ Below w.heap.size w w' := by
  have hb0 : Below w.heap.size w (w.alloc (.cells #[.string root, .slice aP n cP, .slice aQ nq cQ] 62)) := (Below.refl _ _).alloc (Nat.le_refl _) _
  have HF := fresh_any _ p bm D k S root n nq s st b aP aQ cP cQ (h.later hb0) hS hn hs (hr.later hb0)
  rw [hst] at HF
  go_enter Tryz.func33, Tryz.ntmps33
  go_wp2_with fail
  refine HF.mono ?_
  rintro e w1 ⟨rfl, hb1⟩
  have hb2 := hb0.trans (hb1.mono hb0.size)
  clear HF
  go_wp2
  go_ret2
  exact ⟨rfl, hb2⟩
end Go.Proofs.YtidabcoodolddaaGreatDoor

namespace Go.Proofs.YtidabcoodolddaaGreatDoor
open Go.RowKit Go.Maps

theorem stamps_else {D : DataW Unit} {k : Nat} {S : ByteArray → Int} {s text : ByteArray} (hI : Inv D k) (hS : Stamps D S) {S' : ByteArray → Int} (hS' : Stamps (D.put (keyB s) (fileD text.data.toList ((k : Int) + 1))) S') {x : ByteArray} (hx : x ≠ s) (h : Maps.has D (keyB x) = true) : S' x = S x := by
  have hk : keyB x ≠ keyB s := fun e => hx (keyB_inj' e)
  obtain ⟨t, n, h1, _⟩ := hI.st _ h
  have e1 := hS.is x t n h h1
  have e2 := hS'.is x t n (by rw [has_put_other hk]; exact h) (by rw [atKey_put_other hk]; exact h1)
  omega
theorem stamps_same {D : DataW Unit} {k : Nat} {S S' : ByteArray → Int} (hI : Inv D k) (hS : Stamps D S) (hS' : Stamps D S') {x : ByteArray} (h : Maps.has D (keyB x) = true) : S' x = S x := by
  obtain ⟨t, n, h1, _⟩ := hI.st _ h
  have e1 := hS.is x t n h h1
  have e2 := hS'.is x t n h h1
  omega
theorem else_write2 {D : DataW Unit} {k : Nat} {T : ByteArray → ByteArray} {S : ByteArray → Int} {s text : ByteArray} (hI : Inv D k) (hT : Texts D T) (hS : Stamps D S) {w w' : World} {p bm F : Nat} {e : Ending} (hF : F = writeF D k s text) (h : WriteEnd w p bm D k s text F e w') :
    ∃ D' k', FilesAt w' p bm D' k' ∧ Else D T s D' k' ∧ ∀ S', Stamps D' S' → ∀ x, x ≠ s → Maps.has D (keyB x) = true → S' x = S x := by
  by_cases h0 : F = 0
  · exact ⟨_, _, h.yes h0, ⟨hI.put (hF.symm.trans h0), fun T' hT' x hx => rd_put_other hI hT hT' hx⟩, fun S' hS' x hx hh => stamps_else hI hS hS' hx hh⟩
  · exact ⟨_, _, h.no h0, Else.refl hI hT, fun S' hS' x _ hh => stamps_same hI hS hS' hh⟩
theorem MadeEnd.same {w : World} {B0 : Nat} {rd rd' : ByteArray → Nat × ObjF} {S S' : ByteArray → Int} {root : ByteArray} {m : Nat} {e : Ending} (h : MadeEnd w B0 rd' S' root e) (hO : OfIs rd root 0 m) (hs : ∀ j, j < m → rd' (nmAt rd root j) = rd (nmAt rd root j)) (hS : ∀ j, j < m → S' (nmAt rd root j) = S (nmAt rd root j)) : MadeEnd w B0 rd S root e := by
  have hs' : ∀ j, j < m → rd (nmAt rd' root j) = rd' (nmAt rd' root j) := fun j hj => by rw [nm_same hs (by omega)]; exact (hs j hj).symm
  have hO' := of_same hO hs
  cases h with
  | bad F h hf => exact .bad F (reckIs_same hO' hs' h) hf
  | ok m' B P Q aP aQ cP cQ h hp hq =>
    obtain ⟨_, rfl⟩ := h.of.unique hO'
    obtain ⟨h1, h2, h3⟩ := reckoned_same h hs'
    rw [← h2] at hq ⊢
    refine .ok m' B P Q aP aQ cP cQ h1 ?_ hq
    rwa [joinC_congr (g := stmC (nmAt rd' root) S' B) (h := stmC (nmAt rd root) S B) fun i hi => by unfold stmC; rw [← (h3 i hi).1, hS i hi]] at hp
/-- two calls of Make that returned the same. -/
theorem made_has {D : DataW Unit} {T : ByteArray → ByteArray} {root : ByteArray} {m : Nat} {k : Nat} (hI : Inv D k) (hO : OfIs (rdD D T) root 0 m) : ∀ j, j < m → Maps.has D (keyB (nmAt (rdD D T) root j)) = true := fun j hj => by
  obtain ⟨hS, _, _⟩ := scope_of hO (rd_few (T := T) hI)
  exact rd_has (by rw [hS.read j hj])
end Go.Proofs.YtidabcoodolddaaGreatDoor

namespace Go.Proofs.YtidabcoodolddaaGreatDoor
open Go.RowKit Go.Maps

/-- each file's name may be one. -/
def NamesOk (D : DataW Unit) : Prop := ∀ s, Maps.has D (keyB s) = true → nameF s.data.toList = 0
theorem NamesOk.empty : NamesOk (.map []) := fun s h => by simp [Maps.has] at h
theorem writeF_name {D : DataW Unit} {k : Nat} {s t : ByteArray} (h : writeF D k s t = 0) : nameF s.data.toList = 0 := by
  unfold writeF at h
  exact (seqF_zero_iff.1 h).1
theorem NamesOk.put {D : DataW Unit} {k : Nat} {s t : ByteArray} {d : DataW Unit} (h : NamesOk D) (hF : writeF D k s t = 0) : NamesOk (D.put (keyB s) d) := fun x hx => by
  by_cases e : x = s
  · subst e; exact writeF_name hF
  · rw [has_put_other (fun q => e (keyB_inj' q))] at hx
    exact h x hx
theorem NamesOk.del {D : DataW Unit} {s : ByteArray} (h : NamesOk D) : NamesOk (D.del (keyB s)) := fun x hx => by
  by_cases e : x = s
  · subst e; rw [has_del_same] at hx; cases hx
  · rw [has_del_other (fun q => e (keyB_inj' q))] at hx
    exact h x hx
theorem actD_more {q : DataW Unit × Nat} {x : ActF} (h : NamesOk q.1) : NamesOk (actD q x).1 ∧ (actD q x).2 ≤ q.2 + 1 := by
  unfold actD
  by_cases h1 : x.kind = kWrite
  · rw [if_pos h1]
    by_cases h2 : writeF q.1 q.2 x.s x.t = 0
    · rw [if_pos h2]; exact ⟨h.put h2, Nat.le_refl _⟩
    · rw [if_neg h2]; exact ⟨h, Nat.le_succ _⟩
  · rw [if_neg h1]
    by_cases h2 : x.kind = kRemove
    · rw [if_pos h2]; exact ⟨h.del, Nat.le_succ _⟩
    · rw [if_neg h2]; exact ⟨h, Nat.le_succ _⟩
theorem doneD_more {q : DataW Unit × Nat} {X : Nat → ActF} (h : NamesOk q.1) (m : Nat) : NamesOk (doneD q X m).1 ∧ (doneD q X m).2 ≤ q.2 + m := by
  induction m with
  | zero => exact ⟨h, Nat.le_refl _⟩
  | succ m ih =>
    have := actD_more (x := X m) ih.1
    refine ⟨this.1, ?_⟩
    show (actD (doneD q X m) (X m)).2 ≤ _
    omega
/-- who is there may be written again. -/
theorem write_again {D : DataW Unit} {k : Nat} {x t : ByteArray} (hI : Inv D k) (hN : NamesOk D) (hx : Maps.has D (keyB x) = true) (ht : t.size ≤ 1200) (hk : k < 1000000) : writeF D k x t = 0 := by
  unfold writeF
  rw [hN x hx, seqF_zero, if_neg (by omega), if_neg]
  unfold othersF
  rw [if_pos hx]
  have := hI.size
  omega
theorem write_removed {D : DataW Unit} {k : Nat} {x t : ByteArray} (hI : Inv D k) (hN : NamesOk D) (hx : Maps.has D (keyB x) = true) (ht : t.size ≤ 1200) (hk : k < 1000000) : writeF (D.del (keyB x)) k x t = 0 := by
  unfold writeF
  rw [hN x hx, seqF_zero, if_neg (by omega), if_neg]
  unfold othersF
  rw [if_neg (by rw [has_del_same]; simp)]
  have h1 := size_del (k := keyB x) hI.tidy
  rw [hx] at h1
  have := hI.size
  simp at h1
  omega
theorem stamp_le {D : DataW Unit} {k : Nat} {S : ByteArray → Int} (hI : Inv D k) (hS : Stamps D S) {x : ByteArray} (h : Maps.has D (keyB x) = true) : S x ≤ (k : Int) := by
  obtain ⟨t, n, h1, h2⟩ := hI.st _ h
  have := hS.is x t n h h1
  omega
theorem stamp_new {D : DataW Unit} {k : Nat} {S' : ByteArray → Int} {x t : ByteArray} (hI : Inv D k) (hS' : Stamps (D.put (keyB x) (fileD t.data.toList ((k : Int) + 1))) S') : Maps.has (D.put (keyB x) (fileD t.data.toList ((k : Int) + 1))) (keyB x) = true ∧ S' x = (k : Int) + 1 := by
  have h1 := has_put_same hI.tidy.isMap (keyB_key x) (fileD t.data.toList ((k : Int) + 1))
  exact ⟨h1, (hS'.is x _ _ h1 (atKey_put_same hI.tidy.isMap (keyB_key x) _ _)).symm⟩
/-- as long as nothing was written, it is fresh. -/
theorem fresh_still {D : DataW Unit} {k : Nat} {S S' : ByteArray → Int} (hI : Inv D k) (hS : Stamps D S) (hS' : Stamps D S') {nm : Nat → ByteArray} {m : Nat} (hh : ∀ j, j < m → Maps.has D (keyB (nm j)) = true) : staleTo D S' nm (fun j => S (nm j)) m = false := by
  unfold staleTo
  cases e : anyTo (fun i => !(Maps.has D (keyB (nm i)) && decide (S' (nm i) = S (nm i)))) m with
  | false => rfl
  | true =>
    obtain ⟨i, hi, h⟩ := anyTo_iff.1 e
    rw [hh i hi, decide_eq_true (stamps_same hI hS hS' (hh i hi))] at h
    cases h
/-- when a file is written, just who has it as its own isn't fresh any more. -/
theorem stale_own {D : DataW Unit} {k : Nat} {S S' : ByteArray → Int} {s text : ByteArray} (hI : Inv D k) (hS : Stamps D S) (hS' : Stamps (D.put (keyB s) (fileD text.data.toList ((k : Int) + 1))) S') {nm : Nat → ByteArray} {m : Nat} (hh : ∀ j, j < m → Maps.has D (keyB (nm j)) = true) :
    staleTo (D.put (keyB s) (fileD text.data.toList ((k : Int) + 1))) S' nm (fun j => S (nm j)) m = anyTo (fun j => decide (nm j = s)) m := by
  unfold staleTo
  refine anyTo_congr fun i hi => ?_
  show (!(_ && decide (S' (nm i) = S (nm i)))) = decide (nm i = s)
  by_cases e : nm i = s
  · obtain ⟨h1, h2⟩ := stamp_new hI hS'
    have h3 := stamp_le hI hS (hh i hi)
    rw [e] at h3 ⊢
    rw [h1, h2, decide_eq_false (by omega), decide_eq_true rfl]
    rfl
  · rw [has_put_other (fun q => e (keyB_inj' q)), hh i hi, decide_eq_true (stamps_else hI hS hS' e (hh i hi)), decide_eq_false e]
    rfl
theorem rd_text {D : DataW Unit} {T : ByteArray → ByteArray} {x : ByteArray} (h : (rdD D T x).1 = 0) : (T x).size ≤ 1200 := by
  have h1 := rd_has h
  unfold rdD at h
  rw [if_pos h1] at h
  unfold parseF at h
  by_cases h2 : 1200 < (T x).size
  · rw [if_pos h2] at h; cases h
  · omega
theorem FilesAt.set {w : World} {p bm be i : Nat} {D : DataW Unit} {k : Nat} {v : Value} (h : FilesAt w p bm D k) (hp : be ≠ p) (hbm : be ≠ bm) : FilesAt (w.setCell ⟨be, i, none⟩ v) p bm D k :=
  ⟨(Below.heap_setCell _ _ _ _ (Ne.symm hp)).trans h.blk, h.own.kept (row := some be) (grownBy_setCell w be i v) (fun e => hbm (Option.some.inj e).symm)⟩
theorem i64_and1023 (n : Int) : bits .and .i64 n 1023 = n % 1024 := by
  have h1 : (BitVec.ofInt 64 1023).toNat = 2 ^ 10 - 1 := by decide
  have key : (BitVec.ofInt 64 n &&& BitVec.ofInt 64 1023).toNat = (n % ((2 ^ 64 : Nat) : Int)).toNat % 2 ^ 10 := by
    rw [BitVec.toNat_and, BitVec.toNat_ofInt, h1, Nat.and_two_pow_sub_one_eq_mod]
  show IntKind.i64.wrap ((BitVec.ofInt 64 n &&& BitVec.ofInt 64 1023).toNat : Nat) = n % 1024
  rw [key, IntKind.wrap_i64]
  omega
theorem which_of (x : Int) {n : Nat} (hn : 0 < n) : ∃ k : Nat, k < n ∧ (bits .and .i64 x 1023).tmod (n : Int) = k := by
  rw [i64_and1023]
  have h0 : 0 ≤ x % 1024 := by omega
  rw [Int.tmod_eq_emod_of_nonneg h0]
  have h1 : 0 ≤ x % 1024 % (n : Int) := Int.emod_nonneg _ (by omega)
  have h2 : x % 1024 % (n : Int) < (n : Int) := Int.emod_lt_of_pos _ (by omega)
  exact ⟨(x % 1024 % (n : Int)).toNat, by omega, by omega⟩
end Go.Proofs.YtidabcoodolddaaGreatDoor
