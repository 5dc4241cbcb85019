/-
  What stands while read of package entry takes an entry's parts, and its patches, one after another; a text's words.
-/
import Derived.Test.YthdccmjdbcllkaaGreatDoorEntNumb
namespace Go.Proofs.YthdccmjdbcllkaaGreatDoor
open Go.RowKit

theorem wordB_size (sep : ByteArray) : ∀ (k : Nat) (s x : ByteArray), x ∈ Lib.splitB sep 0 k s → x.size ≤ s.size
  | 0, s, x, h => by
    rw [Lib.splitB_zero, List.mem_singleton] at h
    rw [h]; exact Nat.le_refl _
  | k + 1, s, x, h => by
    unfold Lib.splitB at h
    split at h
    · rw [List.mem_singleton] at h
      rw [h]; exact Nat.le_refl _
    · rcases List.mem_cons.1 h with h | h
      · rw [h]; simp; omega
      · have := wordB_size sep k _ x h
        have h2 : (s.extract ((Lib.indexB s sep).toNat + sep.size) s.size).size ≤ s.size := by simp
        omega

theorem trim_le (s p : List UInt8) : (Lib.trimSuffix s p).length ≤ s.length := by
  unfold Lib.trimSuffix
  split <;> simp
theorem wd_size (s : ByteArray) (i : Nat) : (wd (wordsE s) i).size ≤ s.size := by
  unfold wd
  by_cases h : i < (wordsE s).length
  · rw [List.getD_eq_getElem?_getD, List.getElem?_eq_getElem h]
    refine Nat.le_trans (wordB_size _ _ _ _ (List.getElem_mem h)) ?_
    have := trim_le s.data.toList [10]
    exact this
  · rw [List.getD_eq_getElem?_getD, List.getElem?_eq_none (by omega)]
    exact Nat.zero_le _
/-- strings.SplitN, here. -/
structure Words (w : World) (bW : Nat) (ws : List ByteArray) : Prop where
  at_ : ∀ j, j < ws.length → w.cell? ⟨bW, j, none⟩ = some (.string (wd ws j))
theorem splitE (s : ByteArray) (w : World) (hE : Env w) (hs : s.size ≤ 1000000) :
    Calls Tryz.prog 62 #[.string ⟨(Lib.trimSuffix s.data.toList [10]).toArray⟩, .string ⟨#[32]⟩, .int .i64 129] w fun e w' => ∃ cap, e = .returned (.slice (some ⟨w.heap.size, 0, none⟩) (wordsE s).length cap) ∧ (wordsE s).length ≤ cap ∧ cap ≤ 129 ∧ Words w' w.heap.size (wordsE s) ∧ w'.heap.size = w.heap.size + 1 ∧ Below w.heap.size w w' := by
  obtain ⟨m, hm⟩ := hE.maxLen
  have hz : (⟨(Lib.trimSuffix s.data.toList [10]).toArray⟩ : ByteArray).size ≤ s.size := by
    have := trim_le s.data.toList [10]
    exact this
  have hl : (wordsE s).length ≤ min 129 ((⟨(Lib.trimSuffix s.data.toList [10]).toArray⟩ : ByteArray).size + 1) := by
    have := Lib.splitB_length_le ⟨#[32]⟩ 0 (min 129 ((⟨(Lib.trimSuffix s.data.toList [10]).toArray⟩ : ByteArray).size + 1) - 1) ⟨(Lib.trimSuffix s.data.toList [10]).toArray⟩
    unfold wordsE
    omega
  refine (Tryz.strings_SplitN ⟨(Lib.trimSuffix s.data.toList [10]).toArray⟩ ⟨#[32]⟩ 129 m w (by omega) hm (by decide) (by decide) (by decide)).mono ?_
  rintro e w' ⟨rfl, rfl⟩
  refine ⟨_, rfl, hl, Nat.min_le_left _ _, ⟨fun j hj => ?_⟩, by simp, (Below.refl _ _).alloc (Nat.le_refl _) _⟩
  rw [World.cell?_alloc_mark]
  show (Lib.cellsOf (wordsE s) _)[j]? = _
  unfold Lib.cellsOf wd
  simp [List.getElem?_append_left, hj]
theorem Words.later {w w' : World} {b : Nat} {ws : List ByteArray} (h : Words w b ws) (hb : Below w.heap.size w w') : Words w' b ws := ⟨fun j hj => cell_later hb (h.at_ j hj)⟩

/-- what stands while a row goes into an entry. -/
structure Rd (t : TypeId) (c : Value → Array Value) (w5 wr : World) (be : Nat) (g : Nat → List Value) (j : Nat) (v : Value) : Prop where
  lt : be < w5.heap.size
  blk : wr.heap[be]? = some (.cells (c v) 26 (0, 0))
  own : wr.ownsRow w5.heap.size t 3 v j (joinC g j)
  low : Below be w5 wr
  kept : ∀ k, k < w5.heap.size → k ≠ be → wr.heap[k]? = w5.heap[k]?
theorem Rd.later {t : TypeId} {c : Value → Array Value} {w5 wr w' : World} {be : Nat} {g : Nat → List Value} {j : Nat} {v : Value} (h : Rd t c w5 wr be g j v) (hb : Below wr.heap.size wr w') : Rd t c w5 w' be g j v :=
  ⟨h.lt, (hb.block be (Array.getElem?_eq_some_iff.1 h.blk).1).trans h.blk, owns_below h.own hb, h.low.trans (hb.mono (Nat.le_of_lt (Array.getElem?_eq_some_iff.1 h.blk).1)), fun k hk hne => (hb.block k (Nat.lt_of_lt_of_le hk h.low.size)).trans (h.kept k hk hne)⟩
theorem Rd.cell {t : TypeId} {c : Value → Array Value} {w5 wr : World} {be : Nat} {g : Nat → List Value} {j : Nat} {v : Value} (h : Rd t c w5 wr be g j v) {b o : Nat} {u : Value} (hu : w5.cell? ⟨b, o, none⟩ = some u) (hne : b ≠ be) : wr.cell? ⟨b, o, none⟩ = some u := by
  have hk := h.kept b (World.block_lt_of_cell? _ _ hu) hne
  unfold World.cell? at hu ⊢
  rw [hk]
  exact hu
theorem Rd.words {t : TypeId} {c : Value → Array Value} {w5 wr : World} {be : Nat} {g : Nat → List Value} {j : Nat} {v : Value} (h : Rd t c w5 wr be g j v) {b : Nat} {ws : List ByteArray} (hw : Words w5 b ws) (hne : b ≠ be) : Words wr b ws := ⟨fun j hj => h.cell (hw.at_ j hj) hne⟩
theorem setE {w : World} {B b i s n : Nat} {e : TypeId} {v u : Value} {xs : List Value} (h : w.ownsRow B e s v n xs) (hlt : b < B) : (w.setCell ⟨b, i, none⟩ u).ownsRow B e s v n xs := by
  refine ⟨h.1, ?_⟩
  rcases h.2 with ⟨rfl, h0⟩ | ⟨g, cap, cur, rfl, h1, hg, h2⟩
  · exact .inl ⟨rfl, h0⟩
  · exact .inr ⟨g, cap, cur, rfl, h1, (Below.heap_setCell _ _ _ _ (by show g ≠ b; omega)).trans hg, h2⟩
theorem below3 {B g : Nat} {w w' : World} (h : Below B w w') (hg : B ≤ g) (a0 a1 a2 : Value) : Below B w (((w'.setCell ⟨g, 0, none⟩ a0).setCell ⟨g, 1, none⟩ a1).setCell ⟨g, 2, none⟩ a2) :=
  h.trans ⟨rfl, rfl, rfl, by simp [World.setCell], fun k hk => ((Below.heap_setCell _ _ _ _ (Nat.ne_of_lt (Nat.lt_of_lt_of_le hk hg))).trans (Below.heap_setCell _ _ _ _ (Nat.ne_of_lt (Nat.lt_of_lt_of_le hk hg)))).trans (Below.heap_setCell _ _ _ _ (Nat.ne_of_lt (Nat.lt_of_lt_of_le hk hg)))⟩
theorem setE3 {w : World} {B b s n : Nat} {e : TypeId} {v : Value} {xs : List Value} (h : w.ownsRow B e s v n xs) (hlt : b < B) (a0 a1 a2 : Value) : (((w.setCell ⟨b, 0, none⟩ a0).setCell ⟨b, 1, none⟩ a1).setCell ⟨b, 2, none⟩ a2).ownsRow B e s v n xs := setE (setE (setE h hlt) hlt) hlt
/-- three words in a row. -/
structure Three (w : World) (b o : Nat) (x y z : Value) : Prop where
  c0 : w.cell? ⟨b, o, none⟩ = some x
  c1 : w.cell? ⟨b, o + 1, none⟩ = some y
  c2 : w.cell? ⟨b, o + 2, none⟩ = some z
theorem Three.later {w w' : World} {b o : Nat} {x y z : Value} (h : Three w b o x y z) (hb : Below w.heap.size w w') : Three w' b o x y z := ⟨cell_later hb h.c0, cell_later hb h.c1, cell_later hb h.c2⟩
theorem Three.drew {w : World} {b o : Nat} {x y z : Value} (h : Three w b o x y z) : Three w.drew b o x y z := ⟨h.c0, h.c1, h.c2⟩
theorem Three.alloc1 {w : World} {b o : Nat} {x y z : Value} (h : Three w b o x y z) (bl : Obj) : Three (w.alloc bl) b o x y z := h.later ((Below.refl _ _).alloc (Nat.le_refl _) _)
theorem Three.lower {B : Nat} {w w' : World} {b o : Nat} {x y z : Value} (h : Three w b o x y z) (hb : Below B w w') (hlt : b < B) : Three w' b o x y z := by
  have hk := hb.block b hlt
  obtain ⟨h0, h1, h2⟩ := h
  unfold World.cell? at h0 h1 h2
  refine ⟨?_, ?_, ?_⟩ <;> (unfold World.cell?; rw [hk]; assumption)
theorem Three.set {w : World} {b o be i : Nat} {x y z : Value} (h : Three w b o x y z) (hne : b ≠ be) (v : Value) : Three (w.setCell ⟨be, i, none⟩ v) b o x y z := by
  have hk : (w.setCell ⟨be, i, none⟩ v).heap[b]? = w.heap[b]? := Below.heap_setCell _ _ _ _ hne
  obtain ⟨h0, h1, h2⟩ := h
  unfold World.cell? at h0 h1 h2
  refine ⟨?_, ?_, ?_⟩ <;> (unfold World.cell?; rw [hk]; assumption)
/-- the box of the result, unturned. -/
structure ResAt (w : World) (b : Nat) : Prop where
  q0 : w.cell? ⟨b, 0, none⟩ = some (.string ⟨#[]⟩)
  q1 : w.cell? ⟨b, 1, none⟩ = some (.slice none 0 0)
  q2 : w.cell? ⟨b, 2, none⟩ = some (.slice none 0 0)
  f0 : w.frozen? ⟨b, 0, none⟩ = false
  f1 : w.frozen? ⟨b, 1, none⟩ = false
  f2 : w.frozen? ⟨b, 2, none⟩ = false
theorem resAt {w : World} {b : Nat} (h : w.heap[b]? = some (.cells #[.string ⟨#[]⟩, .slice none 0 0, .slice none 0 0] 26 (0, 0))) : ResAt w b :=
  ⟨by simp [World.cell?, h], by simp [World.cell?, h], by simp [World.cell?, h], by simp [World.frozen?, h], by simp [World.frozen?, h], by simp [World.frozen?, h]⟩
theorem Rd.put {t : TypeId} {c : Value → Array Value} {w5 wr W : World} {be i : Nat} {g : Nat → List Value} {j : Nat} {v v' : Value} (h : Rd t c w5 wr be g j v) (bl : Obj) (hG : Grown w5.heap.size t 3 (wr.alloc bl) v (j + 1) (joinC g j ++ g j) v' W) (hset : (c v).set! i v' = c v') (hi : (c v)[i]? = some v) :
    W.cell? ⟨be, i, none⟩ = some v ∧ W.frozen? ⟨be, i, none⟩ = false ∧ Below w5.heap.size wr W ∧ Rd t c w5 (W.setCell ⟨be, i, none⟩ v') be g (j + 1) v' := by
  have hz : w5.heap.size ≤ wr.heap.size := h.low.size
  have hb2 : Below w5.heap.size wr W := ((Below.refl _ wr).alloc hz _).trans hG.below
  have hW : W.heap[be]? = some (.cells (c v) 26 (0, 0)) := (hb2.block be h.lt).trans h.blk
  refine ⟨by simp [World.cell?, hW, hi], by simp [World.frozen?, hW], hb2, h.lt, ?_, setE hG.own h.lt, ?_, ?_⟩
  · rw [← hset]
    show (W.heap.modify be _)[be]? = _
    rw [Array.getElem?_modify, if_pos rfl, hW]
    rfl
  · exact (h.low.trans (hb2.mono (Nat.le_of_lt h.lt))).trans ⟨rfl, rfl, rfl, by simp [World.setCell], fun k hk => Below.heap_setCell _ _ _ _ (Nat.ne_of_lt hk)⟩
  · intro k hk hne
    rw [Below.heap_setCell _ _ _ _ hne, hb2.block k hk]
    exact h.kept k hk hne
theorem grow3 {B0 : Nat} {w : World} {v : Value} {n : Nat} {xs : List Value} (s : ByteArray) (x y : Int) (hB : B0 ≤ w.heap.size) (h : w.ownsRow B0 69 3 v n xs) (hn : n < 1000) :
    ∃ v' W, (Builtin.append_ #[23, 23] 23 #[v, .slice (some ⟨w.heap.size, 0, none⟩) 1 1]).run Tryz.prog (w.alloc (.cells #[.string s, .int .i64 x, .int .i64 y] 69)) = .ok v' W ∧ Grown B0 69 3 (w.alloc (.cells #[.string s, .int .i64 x, .int .i64 y] 69)) v (n + 1) (xs ++ [.string s, .int .i64 x, .int .i64 y]) v' W :=
  append_from 23 69 3 32 (.agg #[.string ⟨#[]⟩, .int .i64 0, .int .i64 0]) (by kernel_rfl) (by kernel_rfl) (by rfl) (by decide) B0 _ v n _ (h.alloc _) (some ⟨w.heap.size, 0, none⟩) 1 1 [.string s, .int .i64 x, .int .i64 y] rfl
    (.inr ⟨_, _, rfl, fun j u hj => by
      match j, hj with
      | 0, hj => simp at hj; subst hj; simp [go_sem]
      | 1, hj => simp at hj; subst hj; simp [go_sem]
      | 2, hj => simp at hj; subst hj; simp [go_sem]
      | j + 3, hj => simp at hj⟩) (fun u hu => by simp at hu; rcases hu with rfl | rfl | rfl <;> rfl) (by simp; omega) (by omega) (by decide)
theorem growI3 {B0 : Nat} {w : World} {v : Value} {n : Nat} {xs : List Value} (s x y : Int) (hB : B0 ≤ w.heap.size) (h : w.ownsRow B0 67 3 v n xs) (hn : n < 1000) :
    ∃ v' W, (Builtin.append_ #[24, 24] 24 #[v, .slice (some ⟨w.heap.size, 0, none⟩) 1 1]).run Tryz.prog (w.alloc (.cells #[.int .i64 s, .int .i64 x, .int .i64 y] 67)) = .ok v' W ∧ Grown B0 67 3 (w.alloc (.cells #[.int .i64 s, .int .i64 x, .int .i64 y] 67)) v (n + 1) (xs ++ [.int .i64 s, .int .i64 x, .int .i64 y]) v' W :=
  append_from 24 67 3 24 (.agg #[.int .i64 0, .int .i64 0, .int .i64 0]) (by kernel_rfl) (by kernel_rfl) (by rfl) (by decide) B0 _ v n _ (h.alloc _) (some ⟨w.heap.size, 0, none⟩) 1 1 [.int .i64 s, .int .i64 x, .int .i64 y] rfl
    (.inr ⟨_, _, rfl, fun j u hj => by
      match j, hj with
      | 0, hj => simp at hj; subst hj; simp [go_sem]
      | 1, hj => simp at hj; subst hj; simp [go_sem]
      | 2, hj => simp at hj; subst hj; simp [go_sem]
      | j + 3, hj => simp at hj⟩) (fun u hu => by simp at hu; rcases hu with rfl | rfl | rfl <;> rfl) (by simp; omega) (by omega) (by decide)
end Go.Proofs.YthdccmjdbcllkaaGreatDoor
