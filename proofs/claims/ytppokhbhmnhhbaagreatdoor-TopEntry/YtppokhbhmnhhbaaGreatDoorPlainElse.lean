/-
  Plain words: what is reckoned for a root hangs only on the files of those who belong to it.
  Plain words on files that read as they did but for one name.
-/
import Derived.Test.YtppokhbhmnhhbaaGreatDoorImageLoad
namespace Go.Proofs.YtppokhbhmnhhbaaGreatDoor
open Go.RowKit Go.Maps

theorem names_same {rd rd' : ByteArray → Nat × ObjF} {root : ByteArray} {m : Nat} (e : ∀ j, j < m → rd' (nmAt rd root j) = rd (nmAt rd root j)) : ∀ i, i ≤ m → namesAt rd' root i = namesAt rd root i
  | 0, _ => rfl
  | i + 1, hi => by
    have ih := names_same e i (by omega)
    have he : rd' (nmAt rd root i) = rd (nmAt rd root i) := e i (by omega)
    have hn : nmAt rd' root i = nmAt rd root i := by unfold nmAt; rw [ih]
    show joinL (namesAt rd' root i) (needsTo (rd' (nmAt rd' root i)).2 (rd' (nmAt rd' root i)).2.nN) = joinL (namesAt rd root i) (needsTo (rd (nmAt rd root i)).2 (rd (nmAt rd root i)).2.nN)
    rw [ih, hn, he]
theorem nm_same {rd rd' : ByteArray → Nat × ObjF} {root : ByteArray} {m : Nat} (e : ∀ j, j < m → rd' (nmAt rd root j) = rd (nmAt rd root j)) {i : Nat} (hi : i ≤ m) : nmAt rd' root i = nmAt rd root i := by
  unfold nmAt; rw [names_same e i hi]
theorem ob_same {rd rd' : ByteArray → Nat × ObjF} {root : ByteArray} {m : Nat} (e : ∀ j, j < m → rd' (nmAt rd root j) = rd (nmAt rd root j)) {i : Nat} (hi : i < m) : obAt rd' root i = obAt rd root i := by
  show (rd' (nmAt rd' root i)).2 = (rd (nmAt rd root i)).2
  rw [nm_same e (by omega), e i hi]
theorem of_same {rd rd' : ByteArray → Nat × ObjF} {root : ByteArray} {m : Nat} (h : OfIs rd root 0 m) (e : ∀ j, j < m → rd' (nmAt rd root j) = rd (nmAt rd root j)) : OfIs rd' root 0 m := by
  generalize hF : (0 : Nat) = F at h
  cases h with
  | bad _ _ _ hf => exact absurd hF.symm hf
  | ok _ h hi =>
    refine .ok m (fun j hj => ?_) (by rw [names_same e m (Nat.le_refl _)]; exact hi)
    rw [names_same e j (by omega), nm_same e (by omega), e j hj]
    exact h j hj
theorem bases_same {m : Nat} {sz sz' b : Nat → Int} {F : Nat} (h : BasesAre m sz 0 (fun _ => 0) (fun _ => 0) F b) (e : ∀ i, i < m → sz i = sz' i) : BasesAre m sz' 0 (fun _ => 0) (fun _ => 0) F b := by
  have hp : placeF m sz 0 (fun _ => 0) (fun _ => 0) = placeF m sz' 0 (fun _ => 0) (fun _ => 0) := by
    unfold placeF
    rw [anyTo_congr (p := fun i => decide (sz i < 1 ∨ 40 < sz i)) (q := fun i => decide (sz' i < 1 ∨ 40 < sz' i)) fun i hi => by rw [e i hi]]
  have hh : ∀ i, i < m → ∀ j, j < 0 + i → heldF (fun _ => 0) 0 b j = heldF (fun _ => 0) 0 b j ∧ heldF (fun _ => 0) 0 (fun j => roundF (sz j)) j = heldF (fun _ => 0) 0 (fun j => roundF (sz' j)) j := fun i hi j hj => ⟨rfl, by
    unfold heldF
    rw [if_neg (by omega), if_neg (by omega)]
    show roundF (sz (j - 0)) = roundF (sz' (j - 0))
    rw [e _ (by omega)]⟩
  have hl : ∀ i, i < m → Laid (fun _ => 0) (fun _ => 0) 0 sz b i → Laid (fun _ => 0) (fun _ => 0) 0 sz' b i := fun i hi ⟨k, hk, hb⟩ => ⟨k, hk, by rw [← e i hi]; exact hb.congr (hh i hi)⟩
  cases h with
  | bad _ h => rw [hp] at h ⊢; exact .bad _ h
  | full _ i h hi hl' hn => exact .full _ i (by rw [← hp]; exact h) hi (fun j hj => hl j (by omega) (hl' j hj)) (by unfold LaidNot; rw [← e i hi]; exact NoBase.congr hn (hh i hi))
  | ok _ h hl' => exact .ok _ (by rw [← hp]; exact h) fun j hj => hl j hj (hl' j hj)
theorem hit_same {m : Nat} {O O' : Nat → ObjF} (e : ∀ i, i < m → O' i = O i) {s : ByteArray} {i k : Nat} (h : Hit (symsF m O) s i k) : Hit (symsF m O') s i k ∧ (symsF m O').wk i k = (symsF m O).wk i k := by
  obtain ⟨h1, h2, h3⟩ := h
  have h1' : i < m := h1
  refine ⟨⟨h1, ?_, ?_⟩, ?_⟩
  · show k < (O' i).nS
    rw [e i h1']; exact h2
  · show (O' i).sName k = s
    rw [e i h1']; exact h3
  · show (O' i).sWeak k = (O i).sWeak k
    rw [e i h1']
theorem found_same {m : Nat} {O O' : Nat → ObjF} (e : ∀ i, i < m → O' i = O i) {s : ByteArray} {p q : Int} (h : IsFound (symsF m O) s p q) : IsFound (symsF m O') s p q := by
  have e' : ∀ i, i < m → O i = O' i := fun i hi => (e i hi).symm
  cases h with
  | strong i k h hw hb => exact .strong i k (hit_same e h).1 (by rw [(hit_same e h).2]; exact hw) fun a b hh hbf => by rw [(hit_same e (hit_same e' hh).1).2]; exact hb a b (hit_same e' hh).1 hbf
  | weak i k h hf hw => exact .weak i k (hit_same e h).1 (fun a b hh => hf a b (hit_same e' hh).1) fun a b hh => by rw [(hit_same e (hit_same e' hh).1).2]; exact hw a b (hit_same e' hh).1
  | none h => exact .none fun a b hh => h a b (hit_same e' hh).1
theorem finds_same {m : Nat} {O O' : Nat → ObjF} (e : ∀ i, i < m → O' i = O i) {P Q : ByteArray → Int} (h : Finds (symsF m O) P Q) : Finds (symsF m O') P Q := ⟨fun s => found_same e (h.is s)⟩
theorem tie_same {m : Nat} {O O' : Nat → ObjF} (e : ∀ i, i < m → O' i = O i) {P Q : ByteArray → Int} (h : Finds (symsF m O) P Q) (B : Nat → Int) {i : Nat} (hi : i < m) (k : Nat) : tieW O' P Q B i k = tieW O P Q B i k := by
  unfold tieW whereF
  rw [e i hi]
  split
  · rfl
  · split
    · rename_i hp
      rcases h.shape ((O i).tName k) with ⟨h1, _⟩ | ⟨x, y, h1, h2, h3, _, _⟩
      · rw [h1] at hp; omega
      · rw [h1, h2, Int.toNat_natCast, e x h3]
    · rfl
theorem patsOf_same {m : Nat} {O O' : Nat → ObjF} (e : ∀ i, i < m → O' i = O i) {P Q : ByteArray → Int} (h : Finds (symsF m O) P Q) (B : Nat → Int) {i : Nat} (hi : i < m) (k : Nat) : patsOf O' P Q B i k = patsOf O P Q B i k := by
  induction k with
  | zero => rfl
  | succ k ih => simp only [patsOf]; rw [ih, tie_same e h B hi, e i hi]
theorem patsTo_same {m : Nat} {O O' : Nat → ObjF} (e : ∀ i, i < m → O' i = O i) {P Q : ByteArray → Int} (h : Finds (symsF m O) P Q) (B : Nat → Int) : ∀ n, n ≤ m → patsTo O' P Q B n = patsTo O P Q B n
  | 0, _ => rfl
  | n + 1, hn => by simp only [patsTo]; rw [patsTo_same e h B n (by omega), e n (by omega), patsOf_same e h B (by omega)]
theorem faultTo_same {g h : Nat → Nat} {n : Nat} (e : ∀ i, i < n → g i = h i) : faultTo g n = faultTo h n := by
  induction n with
  | zero => rfl
  | succ n ih => simp only [faultTo]; rw [ih fun i hi => e i (by omega), e n (by omega)]
theorem all_same {m : Nat} {O O' : Nat → ObjF} (e : ∀ i, i < m → O' i = O i) {P Q : ByteArray → Int} (h : Finds (symsF m O) P Q) (B : Nat → Int) : allF m O' P Q m B = allF m O P Q m B := by
  have key : faultTo (fun i => faultTo (fun k => (tieW O' P Q B i k).1) (O' i).nT) m = faultTo (fun i => faultTo (fun k => (tieW O P Q B i k).1) (O i).nT) m := faultTo_same fun i hi => by
    show faultTo (fun k => (tieW O' P Q B i k).1) (O' i).nT = faultTo (fun k => (tieW O P Q B i k).1) (O i).nT
    rw [e i hi]
    exact faultTo_same fun k _ => by rw [tie_same e h B hi]
  unfold allF tiesF
  rw [key]
theorem reckIs_same {rd rd' : ByteArray → Nat × ObjF} {root : ByteArray} {m F : Nat} (hO : OfIs rd root 0 m) (e : ∀ j, j < m → rd' (nmAt rd root j) = rd (nmAt rd root j)) (h : ReckIs rd root F) : ReckIs rd' root F := by
  have ho : ∀ i, i < m → obAt rd' root i = obAt rd root i := fun i hi => ob_same e hi
  cases h with
  | of i h hf => exact absurd (h.unique hO).1 hf
  | bases m' B h hb hf =>
    obtain ⟨_, rfl⟩ := h.unique hO
    exact .bases m' B (of_same hO e) (bases_same hb fun i hi => by show ((obAt rd root i).nW : Int) = ((obAt rd' root i).nW : Int); rw [ho i hi]) hf
  | all m' B P Q h hb hz hP he hf =>
    obtain ⟨_, rfl⟩ := h.unique hO
    exact .all m' B P Q (of_same hO e) (bases_same hb fun i hi => by show ((obAt rd root i).nW : Int) = ((obAt rd' root i).nW : Int); rw [ho i hi]) hz (finds_same ho hP) (by rw [all_same ho hP]; exact he) hf
theorem reckoned_same {rd rd' : ByteArray → Nat × ObjF} {root : ByteArray} {m : Nat} {B : Nat → Int} {P Q : ByteArray → Int} (h : Reckoned rd root m B P Q) (e : ∀ j, j < m → rd' (nmAt rd root j) = rd (nmAt rd root j)) :
    Reckoned rd' root m B P Q ∧ patsAt rd' root m B P Q = patsAt rd root m B P Q ∧ (∀ i, i < m → nmAt rd' root i = nmAt rd root i ∧ obAt rd' root i = obAt rd root i) := by
  have ho : ∀ i, i < m → obAt rd' root i = obAt rd root i := fun i hi => ob_same e hi
  exact ⟨⟨of_same h.of e, bases_same h.bases fun i hi => by show ((obAt rd root i).nW : Int) = ((obAt rd' root i).nW : Int); rw [ho i hi], h.zero, finds_same ho h.finds, by rw [all_same ho h.finds]; exact h.all⟩, patsTo_same ho h.finds B m (Nat.le_refl _), fun i hi => ⟨nm_same e (by omega), ho i hi⟩⟩
theorem putF_same {X X' : Nat → Nat → Int} {p t v : Nat → Int} {i : Nat} (e : ∀ j, X' i j = X i j) (n j : Nat) : putF X' p t v n i j = putF X p t v n i j := by
  induction n with
  | zero => exact e j
  | succ n ih => simp only [putF]; rw [ih]
theorem boundW_same {rd rd' : ByteArray → Nat × ObjF} {root : ByteArray} {m : Nat} {B : Nat → Int} {P Q : ByteArray → Int} (hp : patsAt rd' root m B P Q = patsAt rd root m B P Q) {i : Nat} (ho : obAt rd' root i = obAt rd root i) (j : Nat) : boundW rd' root m B P Q i j = boundW rd root m B P Q i j := by
  unfold boundW
  rw [hp]
  exact putF_same (fun j => by rw [ho]) _ _
theorem PartsIn.congr {w : World} {B0 : Nat} {v : Value} {n : Nat} {nm nm' : Nat → ByteArray} {B : Nat → Int} {M M' : Nat → Nat} {X X' : Nat → Nat → Int} {g : Nat} {A : Nat → Option Addr} {C G : Nat → Nat} (h : PartsIn w B0 v n nm B M X g A C G)
    (e : ∀ i, i < n → nm i = nm' i ∧ M i = M' i ∧ ∀ j, X i j = X' i j) : PartsIn w B0 v n nm' B M' X' g A C G where
  out := { h.out with
    top := fun i hi => by rw [← (e i hi).2.1]; exact h.out.top i hi
    adr := fun i hi hm => h.out.adr i hi (by rw [(e i hi).2.1]; exact hm)
    own := fun i hi hm => h.out.own i hi (by rw [(e i hi).2.1]; exact hm)
    ne := fun i hi hm => h.out.ne i hi (by rw [(e i hi).2.1]; exact hm)
    row := fun i hi j hj => by rw [← (e i hi).2.2 j]; exact h.out.row i hi j (by rw [(e i hi).2.1]; exact hj)
    rfree := fun i hi hm => h.out.rfree i hi (by rw [(e i hi).2.1]; exact hm)
    apart := fun i j hi hj hij hmi hmj => h.out.apart i j hi hj hij (by rw [(e i hi).2.1]; exact hmi) (by rw [(e j hj).2.1]; exact hmj) }
  own := by
    have := h.own
    rwa [joinC_congr (g := partC nm B A M C) (h := partC nm' B A M' C) fun i hi => by unfold partC; rw [(e i hi).1, (e i hi).2.1]] at this
/-- what Load returns over files in which those that are needed are the same. -/
theorem LoadEnd.same {w : World} {B0 : Nat} {rd rd' : ByteArray → Nat × ObjF} {root : ByteArray} {m : Nat} {e : Ending} (h : LoadEnd w B0 rd' root e) (hO : OfIs rd root 0 m) (hs : ∀ j, j < m → rd' (nmAt rd root j) = rd (nmAt rd root j)) : LoadEnd w B0 rd root e := by
  have hs' : ∀ j, j < m → rd (nmAt rd' root j) = rd' (nmAt rd' root j) := fun j hj => by rw [nm_same hs (by omega)]; exact (hs j hj).symm
  have hO' := of_same hO hs
  cases h with
  | bad F h hf => exact .bad F (reckIs_same hO' hs' h) hf
  | ok m' B P Q u g A C G h hu =>
    obtain ⟨_, rfl⟩ := h.of.unique hO'
    obtain ⟨h1, h2, h3⟩ := reckoned_same h hs'
    exact .ok m' B P Q u g A C G h1 (hu.congr fun i hi => ⟨(h3 i hi).1.symm, by rw [(h3 i hi).2], fun j => (boundW_same h2 (h3 i hi).2 j).symm⟩)
theorem FilesAt.ltm {w : World} {p bm : Nat} {D : DataW Unit} {k : Nat} (h : FilesAt w p bm D k) : bm < w.heap.size := by
  obtain ⟨es, clock, hb, _⟩ := h.own
  exact (Array.getElem?_eq_some_iff.1 hb).1
/-- blocks from B on stay. -/
def Stays (B : Nat) (w w' : World) : Prop := w.heap.size ≤ w'.heap.size ∧ ∀ j, B ≤ j → j < w.heap.size → w'.heap[j]? = w.heap[j]?
theorem Stays.trans {B : Nat} {a b c : World} (h : Stays B a b) (g : Stays B b c) : Stays B a c := ⟨Nat.le_trans h.1 g.1, fun j hB hj => (g.2 j hB (Nat.lt_of_lt_of_le hj h.1)).trans (h.2 j hB hj)⟩
theorem Stays.of {B : Nat} {w w' : World} (h : Below w.heap.size w w') : Stays B w w' := ⟨h.size, fun j _ hj => h.block j hj⟩
theorem Stays.turned {B p bm : Nat} {w w' : World} (h : Turned p bm w w') (hp : p < B) (hbm : bm < B) : Stays B w w' := ⟨h.size, fun j hB hj => h.block j hj (by omega) (by omega)⟩
theorem owns_stays {w w' : World} {B : Nat} {e : TypeId} {s n : Nat} {v : Value} {xs : List Value} (h : w.ownsRow B e s v n xs) (hs : Stays B w w') : w'.ownsRow B e s v n xs := by
  refine ⟨h.1, ?_⟩
  rcases h.2 with h0 | ⟨g, cap, cur, hv, hB, hg, hr⟩
  · exact .inl h0
  · exact .inr ⟨g, cap, cur, hv, hB, (hs.2 g hB (Array.getElem?_eq_some_iff.1 hg).1).trans hg, hr⟩
theorem cell_stays {w w' : World} {B b i : Nat} {v : Value} (h : w.cell? ⟨b, i, none⟩ = some v) (hs : Stays B w w') (hB : B ≤ b) : w'.cell? ⟨b, i, none⟩ = some v :=
  (World.cell?_of_block (hs.2 b hB (World.block_lt_of_cell? _ _ h))).trans h
theorem PartsIn.stays {w w' : World} {B0 : Nat} {v : Value} {n : Nat} {nm : Nat → ByteArray} {B : Nat → Int} {M : Nat → Nat} {X : Nat → Nat → Int} {g : Nat} {A : Nat → Option Addr} {C G : Nat → Nat} (h : PartsIn w B0 v n nm B M X g A C G) (hs : Stays B0 w w') : PartsIn w' B0 v n nm B M X g A C G where
  out := { h.out with
    lt := Nat.lt_of_lt_of_le h.out.lt hs.1
    top := fun i hi => cell_stays (h.out.top i hi) hs h.out.hB
    free := fun i => by
      have := h.out.free i
      unfold World.frozen? at this ⊢
      rw [hs.2 g h.out.hB h.out.lt]
      exact this
    row := fun i hi j hj => cell_stays (h.out.row i hi j hj) hs (h.out.own i hi (by omega))
    rfree := fun i hi hm j => by
      have := h.out.rfree i hi hm j
      have hlt := World.block_lt_of_cell? _ _ (h.out.row i hi 0 hm)
      unfold World.frozen? at this ⊢
      rw [hs.2 (G i) (h.out.own i hi hm) hlt]
      exact this }
  own := owns_stays h.own hs
end Go.Proofs.YtppokhbhmnhhbaaGreatDoor

namespace Go.Proofs.YtppokhbhmnhhbaaGreatDoor
open Go.RowKit Go.Maps

theorem texts_at {D : DataW Unit} {k : Nat} {T : ByteArray → ByteArray} (hI : Inv D k) (hT : Texts D T) {x : ByteArray} (h : Maps.has D (keyB x) = true) : ∃ n, D.atKey (keyB x) (fileD [] 0) = fileD (T x).data.toList n := by
  obtain ⟨t, n, h1, _⟩ := hI.st _ h
  have h2 : D.atKey (keyB x) (fileD [] 0) = fileD (⟨t.toArray⟩ : ByteArray).data.toList n := by simpa using h1
  exact ⟨n, by rw [← hT.is x _ n h h2]; exact h2⟩
theorem rd_put_other {D : DataW Unit} {k : Nat} {T T' : ByteArray → ByteArray} {s : ByteArray} {d : DataW Unit} (hI : Inv D k) (hT : Texts D T) (hT' : Texts (D.put (keyB s) d) T') {x : ByteArray} (hx : x ≠ s) : rdD (D.put (keyB s) d) T' x = rdD D T x := by
  have hk : keyB x ≠ keyB s := fun e => hx (keyB_inj' e)
  unfold rdD
  rw [has_put_other hk]
  split
  · rename_i h
    obtain ⟨n, hn⟩ := texts_at hI hT h
    rw [hT'.is x (T x) n (by rw [has_put_other hk]; exact h) (by rw [atKey_put_other hk]; exact hn)]
  · rfl
theorem rd_del_other {D : DataW Unit} {k : Nat} {T T' : ByteArray → ByteArray} {s : ByteArray} (hI : Inv D k) (hT : Texts D T) (hT' : Texts (D.del (keyB s)) T') {x : ByteArray} (hx : x ≠ s) : rdD (D.del (keyB s)) T' x = rdD D T x := by
  have hk : keyB x ≠ keyB s := fun e => hx (keyB_inj' e)
  unfold rdD
  rw [has_del_other hk]
  split
  · rename_i h
    obtain ⟨n, hn⟩ := texts_at hI hT h
    rw [hT'.is x (T x) n (by rw [has_del_other hk]; exact h) (by rw [atKey_del_other hk]; exact hn)]
  · rfl
/-- files that read as they did but for one name. -/
structure Else (D : DataW Unit) (T : ByteArray → ByteArray) (s : ByteArray) (D' : DataW Unit) (k' : Nat) : Prop where
  inv : Inv D' k'
  read : ∀ T', Texts D' T' → ∀ x, x ≠ s → rdD D' T' x = rdD D T x
theorem Else.refl {D : DataW Unit} {k : Nat} {T : ByteArray → ByteArray} {s : ByteArray} (hI : Inv D k) (hT : Texts D T) : Else D T s D k := ⟨hI, fun T' hT' x _ => by
  unfold rdD
  split
  · rename_i h
    obtain ⟨n, hn⟩ := texts_at hI hT h
    rw [hT'.is x (T x) n h hn]
  · rfl⟩
theorem else_write {D : DataW Unit} {k : Nat} {T : ByteArray → ByteArray} {s text : ByteArray} (hI : Inv D k) (hT : Texts D T) {w w' : World} {p bm F : Nat} {e : Ending} (hF : F = writeF D k s text) (h : WriteEnd w p bm D k s text F e w') : ∃ D' k', FilesAt w' p bm D' k' ∧ Else D T s D' k' := by
  by_cases h0 : F = 0
  · exact ⟨_, _, h.yes h0, hI.put (hF.symm.trans h0), fun T' hT' x hx => rd_put_other hI hT hT' hx⟩
  · exact ⟨_, _, h.no h0, Else.refl hI hT⟩
theorem Else.del {D D' : DataW Unit} {k' : Nat} {T : ByteArray → ByteArray} {s : ByteArray} (h : Else D T s D' k') : Else D T s (D'.del (keyB s)) k' := by
  obtain ⟨T1, hT1⟩ := texts_some D'
  exact ⟨h.inv.del, fun T' hT' x hx => (rd_del_other h.inv hT1 hT' hx).trans (h.read T1 hT1 x hx)⟩
end Go.Proofs.YtppokhbhmnhhbaaGreatDoor
