/-
  Rows of entries of a call's own: where they lie, and what keeps them.
-/
import Derived.Test.YtlcdacldhalnnaaGreatDoorShelfSmall
import Derived.Test.YtlcdacldhalnnaaGreatDoorEntParse
import Derived.Test.YtlcdacldhalnnaaGreatDoorDiskAll
import Derived.Test.YtlcdacldhalnnaaGreatDoorPlainLine
namespace Go.Proofs.YtlcdacldhalnnaaGreatDoor
open Go.RowKit

/-- the rows of an entry lie below B, or in blocks of their own kind. -/
structure EntIn (w : World) (B : Nat) (v : EntV) (e : EntF) : Prop where
  here : EntAt w v e
  tP : e.nP = 0 ∨ ∃ bk o, v.aP = some ⟨bk, o, none⟩ ∧ (bk < B ∨ ∃ C, w.heap[bk]? = some (.cells C 60 (0, 0)))
  tQ : e.nQ = 0 ∨ ∃ bk o, v.aQ = some ⟨bk, o, none⟩ ∧ (bk < B ∨ ∃ C, w.heap[bk]? = some (.cells C 92 (0, 0)))
theorem EntNew.within {w : World} {v : EntV} {e : EntF} (h : EntNew w v e) (B : Nat) : EntIn w B v e :=
  ⟨h.here, h.tP.imp id fun ⟨bk, o, C, ha, hC⟩ => ⟨bk, o, ha, .inr ⟨C, hC⟩⟩, h.tQ.imp id fun ⟨bk, o, C, ha, hC⟩ => ⟨bk, o, ha, .inr ⟨C, hC⟩⟩⟩
/-- an entry that lay there when memory was w. -/
theorem EntAt.within {w : World} {v : EntV} {e : EntF} (h : EntAt w v e) : EntIn w w.heap.size v e := by
  refine ⟨h, ?_, ?_⟩
  · rcases h.parts with h0 | ⟨bk, o, ha, hc⟩
    · exact .inl h0
    · by_cases h0 : e.nP = 0
      · exact .inl h0
      · exact .inr ⟨bk, o, ha, .inl (World.block_lt_of_cell? _ _ (hc 0 (by omega)).1)⟩
  · rcases h.pats with h0 | ⟨bk, o, ha, hc⟩
    · exact .inl h0
    · by_cases h0 : e.nQ = 0
      · exact .inl h0
      · exact .inr ⟨bk, o, ha, .inl (World.block_lt_of_cell? _ _ (hc 0 (by omega)).1)⟩
/-- what lies below B, and the rows of entries, stay. -/
structure Keeps (B : Nat) (w w' : World) : Prop where
  low : ∀ k : Nat, k < B → w'.heap[k]? = w.heap[k]?
  kind : ∀ (k : Nat) (C : Array Value) (t : TypeId), (t = 60 ∨ t = 92) → w.heap[k]? = some (.cells C t (0, 0)) → w'.heap[k]? = w.heap[k]?
theorem Keeps.refl (B : Nat) (w : World) : Keeps B w w := ⟨fun _ _ => rfl, fun _ _ _ _ _ => rfl⟩
theorem Keeps.trans {B : Nat} {a b c : World} (h : Keeps B a b) (g : Keeps B b c) : Keeps B a c :=
  ⟨fun k hk => (g.low k hk).trans (h.low k hk), fun k C t ht hk => (g.kind k C t ht ((h.kind k C t ht hk).trans hk)).trans (h.kind k C t ht hk)⟩
theorem Keeps.of_below {B : Nat} {w w' : World} (hB : B ≤ w.heap.size) (h : Below w.heap.size w w') : Keeps B w w' :=
  ⟨fun k hk => h.block k (by omega), fun k _ _ _ hk => h.block k (Array.getElem?_eq_some_iff.1 hk).1⟩
theorem Keeps.of_spun {B : Nat} {w w' : World} (h : Spun B w w') : Keeps B w w' :=
  ⟨fun k hk => h.below.block k hk, fun k C t ht hk => (h.block k _ hk (fun ⟨c, t', f, e, h'⟩ => by
    injection e with _ e2 _
    subst e2
    rcases ht with rfl | rfl <;> exact absurd h' (by decide))).trans hk.symm⟩
theorem Keeps.set {B g i : Nat} {w : World} {C : Array Value} {t : TypeId} {f : Nat × Nat} (hg : w.heap[g]? = some (.cells C t f)) (ht : t ≠ 60 ∧ t ≠ 92) (hB : B ≤ g) (v : Value) : Keeps B w (w.setCell ⟨g, i, none⟩ v) :=
  ⟨fun k hk => Below.heap_setCell _ _ _ _ (by show k ≠ g; omega), fun k C' t' ht' hk => Below.heap_setCell _ _ _ _ (fun e => by
    have e : k = g := e
    subst e
    rw [hg] at hk
    injection hk with hk
    injection hk with _ h2 _
    subst h2
    rcases ht' with h | h
    · exact ht.1 h
    · exact ht.2 h)⟩
/-- another row grew. -/
theorem Keeps.grown {B B1 : Nat} {w w' : World} {e : TypeId} {s n : Nat} {v : Value} {xs : List Value} (hB : B ≤ B1) (hw : B ≤ w.heap.size) (h : w.ownsRow B1 e s v n xs) (he : e ≠ 60 ∧ e ≠ 92) (hg : w.grownBy w' v.ownBlock) : Keeps B w w' := by
  have key : ∀ k, some k = v.ownBlock → B1 ≤ k ∧ ∃ C, w.heap[k]? = some (.cells C e (0, 0)) := fun k hk => by
    rcases h.2 with ⟨rfl, _⟩ | ⟨g, cap, cur, rfl, hb, hgb, _⟩
    · simp [Value.ownBlock] at hk
    · have : k = g := by simpa [Value.ownBlock] using hk
      subst this
      exact ⟨hb, cur, hgb⟩
  refine ⟨fun k hk => hg.block k (by omega) (fun e' => by have := (key k e').1; omega), fun k C t ht hk => hg.block k (Array.getElem?_eq_some_iff.1 hk).1 (fun e' => ?_)⟩
  obtain ⟨C', hC'⟩ := (key k e').2
  rw [hC'] at hk
  injection hk with hk
  injection hk with _ h2 _
  subst h2
  rcases ht with h | h
  · exact he.1 h
  · exact he.2 h
theorem EntIn.keeps {w w' : World} {B : Nat} {v : EntV} {e : EntF} (h : EntIn w B v e) (hk : Keeps B w w') : EntIn w' B v e := by
  have kP : ∀ bk, (bk < B ∨ ∃ C, w.heap[bk]? = some (.cells C 60 (0, 0))) → w'.heap[bk]? = w.heap[bk]? := fun bk hb => by
    rcases hb with hb | ⟨C, hC⟩
    · exact hk.low bk hb
    · exact hk.kind bk C _ (.inl rfl) hC
  have kQ : ∀ bk, (bk < B ∨ ∃ C, w.heap[bk]? = some (.cells C 92 (0, 0))) → w'.heap[bk]? = w.heap[bk]? := fun bk hb => by
    rcases hb with hb | ⟨C, hC⟩
    · exact hk.low bk hb
    · exact hk.kind bk C _ (.inr rfl) hC
  refine ⟨⟨?_, ?_⟩, h.tP.imp id fun ⟨bk, o, ha, hb⟩ => ⟨bk, o, ha, hb.imp id fun ⟨C, hC⟩ => ⟨C, (kP bk (.inr ⟨C, hC⟩)).trans hC⟩⟩, h.tQ.imp id fun ⟨bk, o, ha, hb⟩ => ⟨bk, o, ha, hb.imp id fun ⟨C, hC⟩ => ⟨C, (kQ bk (.inr ⟨C, hC⟩)).trans hC⟩⟩⟩
  · rcases h.tP with h0 | ⟨bk, o, ha, hb⟩
    · exact .inl h0
    · have hs := kP bk hb
      rcases h.here.parts with h0 | ⟨bk', o', ha', hc⟩
      · exact .inl h0
      · rw [ha] at ha'
        injection ha' with ha'
        injection ha' with h1 h2
        subst h1 h2
        exact .inr ⟨bk, o, ha, fun i hi => ⟨(World.cell?_of_block (a := ⟨bk, _, none⟩) hs).trans (hc i hi).1, (World.cell?_of_block (a := ⟨bk, _, none⟩) hs).trans (hc i hi).2.1, (World.cell?_of_block (a := ⟨bk, _, none⟩) hs).trans (hc i hi).2.2⟩⟩
  · rcases h.tQ with h0 | ⟨bk, o, ha, hb⟩
    · exact .inl h0
    · have hs := kQ bk hb
      rcases h.here.pats with h0 | ⟨bk', o', ha', hc⟩
      · exact .inl h0
      · rw [ha] at ha'
        injection ha' with ha'
        injection ha' with h1 h2
        subst h1 h2
        exact .inr ⟨bk, o, ha, fun i hi => ⟨(World.cell?_of_block (a := ⟨bk, _, none⟩) hs).trans (hc i hi).1, (World.cell?_of_block (a := ⟨bk, _, none⟩) hs).trans (hc i hi).2.1, (World.cell?_of_block (a := ⟨bk, _, none⟩) hs).trans (hc i hi).2.2⟩⟩
theorem EntIn.more {w : World} {B B' : Nat} {v : EntV} {e : EntF} (h : EntIn w B v e) (hB : B ≤ B') : EntIn w B' v e :=
  ⟨h.here, h.tP.imp id fun ⟨bk, o, ha, hb⟩ => ⟨bk, o, ha, hb.imp (fun h => Nat.lt_of_lt_of_le h hB) id⟩, h.tQ.imp id fun ⟨bk, o, ha, hb⟩ => ⟨bk, o, ha, hb.imp (fun h => Nat.lt_of_lt_of_le h hB) id⟩⟩

/-- the cells of entries. -/
def entL (V : Nat → EntV) (E : Nat → EntF) (i : Nat) : List Value := [.string (E i).root, .slice (V i).aP (E i).nP (V i).cP, .slice (V i).aQ (E i).nQ (V i).cQ]
/-- a row of k entries of the call's own (from B on); what they lead to lies below B0, or in blocks of its own kind. -/
structure EntsOwn (w : World) (B0 B : Nat) (v : Value) (k : Nat) (V : Nat → EntV) (E : Nat → EntF) : Prop where
  row : w.ownsRow B 43 3 v k (joinC (entL V E) k)
  ins : ∀ i, i < k → EntIn w B0 (V i) (E i)
theorem EntsOwn.ents {w : World} {B0 B : Nat} {v : Value} {k : Nat} {V : Nat → EntV} {E : Nat → EntF} (h : EntsOwn w B0 B v k V E) : ∃ a c, v = .slice a k c ∧ EntsRow w a k V E := by
  obtain ⟨a, c, rfl, hr⟩ := rows3 (fun _ => rfl) h.row
  refine ⟨a, c, rfl, ?_⟩
  rcases hr with h0 | ⟨bk, hbk, ha, hc, _⟩
  · exact .inl h0
  · refine .inr ⟨bk, 0, ha, fun i hi => ⟨?_, ?_, ?_, (h.ins i hi).here⟩⟩
    · have := hc i hi 0 _ rfl
      simpa using this
    · have := hc i hi 1 _ rfl
      simpa using this
    · have := hc i hi 2 _ rfl
      simpa using this
theorem EntsOwn.keeps {w w' : World} {B0 B : Nat} {v : Value} {k : Nat} {V : Nat → EntV} {E : Nat → EntF} (h : EntsOwn w B0 B v k V E) (hk : Keeps B0 w w') (hr : ∀ b, v.ownBlock = some b → w'.heap[b]? = w.heap[b]?) : EntsOwn w' B0 B v k V E :=
  ⟨own_kept h.row hr, fun i hi => (h.ins i hi).keeps hk⟩
theorem EntsOwn.later {w w' : World} {B0 B : Nat} {v : Value} {k : Nat} {V : Nat → EntV} {E : Nat → EntF} (h : EntsOwn w B0 B v k V E) (hB : B0 ≤ w.heap.size) (hb : Below w.heap.size w w') : EntsOwn w' B0 B v k V E :=
  h.keeps (Keeps.of_below hB hb) fun b e => by
    obtain ⟨C, hC⟩ := own_kind h.row e
    exact hb.block b (Array.getElem?_eq_some_iff.1 hC).1
theorem EntsOwn.spun {w w' : World} {B0 B : Nat} {v : Value} {k : Nat} {V : Nat → EntV} {E : Nat → EntF} (h : EntsOwn w B0 B v k V E) (hs : Spun B0 w w') : EntsOwn w' B0 B v k V E :=
  h.keeps (Keeps.of_spun hs) fun b e => by
    obtain ⟨C, hC⟩ := own_kind h.row e
    exact (hs.block b _ hC (fun ⟨c, t', f, e, h'⟩ => by
      injection e with _ e2 _
      subst e2
      exact absurd h' (by decide))).trans hC.symm
theorem EntsOwn.congr {w : World} {B0 B : Nat} {v : Value} {k : Nat} {V V' : Nat → EntV} {E E' : Nat → EntF} (h : EntsOwn w B0 B v k V E) (e : ∀ i, i < k → V i = V' i ∧ E i = E' i) : EntsOwn w B0 B v k V' E' :=
  ⟨by
    rw [← joinC_congr (g := entL V E) (fun i hi => by unfold entL; rw [(e i hi).1, (e i hi).2])]
    exact h.row, fun i hi => by rw [← (e i hi).1, ← (e i hi).2]; exact h.ins i hi⟩
/-- an entry more. -/
def addV {α : Type} (V : Nat → α) (k : Nat) (x : α) (i : Nat) : α := if i = k then x else V i
theorem EntsOwn.added {w' : World} {B0 B : Nat} {v' : Value} {k : Nat} {V : Nat → EntV} {E : Nat → EntF} {x : EntV} {e : EntF} (hi : ∀ i, i < k → EntIn w' B0 (V i) (E i)) (he : EntIn w' B0 x e)
    (hr : w'.ownsRow B 43 3 v' (k + 1) (joinC (entL V E) k ++ [.string e.root, .slice x.aP e.nP x.cP, .slice x.aQ e.nQ x.cQ])) : EntsOwn w' B0 B v' (k + 1) (addV V k x) (addV E k e) := by
  refine ⟨?_, fun i hlt => ?_⟩
  · show w'.ownsRow B _ 3 v' (k + 1) (joinC (entL (addV V k x) (addV E k e)) k ++ entL (addV V k x) (addV E k e) k)
    rw [joinC_congr (h := entL V E) (fun i hi => by unfold entL addV; rw [if_neg (by omega), if_neg (by omega)])]
    unfold entL addV
    rw [if_pos rfl, if_pos rfl]
    exact hr
  · unfold addV
    by_cases h : i = k
    · rw [if_pos h, if_pos h]; exact he
    · rw [if_neg h, if_neg h]; exact hi i (by omega)
end Go.Proofs.YtlcdacldhalnnaaGreatDoor
