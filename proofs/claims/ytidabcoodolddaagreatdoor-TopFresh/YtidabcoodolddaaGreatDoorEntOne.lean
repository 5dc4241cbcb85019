/-
  What number of package entry returns, of any text; what the library's Clone does here.
  What stands while read of package entry takes an entry's parts, and its patches, one after another; a text's words.
  What read of package entry returns, of any text: what it can take of it; memory that was there stays as it was.
  What Parse of package entry returns, of any text: the entry that is written so, or ErrText; memory that was there stays as it was.
-/
import Derived.Test.YtidabcoodolddaaGreatDoorEntCheck
import Derived.Test.YtidabcoodolddaaGreatDoorEnvUse
import Derived.Test.YtidabcoodolddaaGreatDoorPlainNumb
import Derived.Deep.RegionHeld3
import Derived.Test.YtidabcoodolddaaGreatDoorShelfLow
import Derived.Test.YtidabcoodolddaaGreatDoorEntText
import Derived.WideShapes
namespace Go.Proofs.YtidabcoodolddaaGreatDoor
open Go.RowKit

theorem entNumber_any (s : ByteArray) (w : World) (hE : Env w) (hs : s.size ≤ 1000000) :
    Calls Tryz.prog 152 #[.string s] w fun e w' => e = .returned (.int .i64 (numF s.data.toList)) ∧ Below w.heap.size w w' := by
  generalize hF : numF s.data.toList = F
  unfold numF at hF
  cases hq : Lib.atoiAll s.data.toList with
  | ok v =>
    rw [hq] at hF
    have HA := Tryz.strconv_Atoi_ok s (by omega) v hq w
    have HE : Hid (v = F) := hF
    clear hF hq
    go_enter Tryz.func152, Tryz.ntmps152
    go_wp2_with fail
    refine HA.mono ?_
    rintro e w' ⟨rfl, hw⟩
    have hb : Below w.heap.size w w' := by
      rcases hw with rfl | ⟨t, rfl⟩
      · exact Below.refl _ _
      · exact Lib.bytesWorld_below _ _ _
    clear hw HA
    go_wp2
    go_ret
    exact ⟨ret_int HE.out, hb⟩
  | range =>
    rw [hq] at hF
    obtain ⟨ev, hv, hev⟩ := hE.errR
    have HA := Tryz.strconv_Atoi_range s (by omega) hq ev w hv hev
    have HE : Hid (Lib.atoiSat s.data.toList = F) := hF
    generalize Lib.atoiSat s.data.toList = v at *
    clear hF hq hv hev
    go_enter Tryz.func152, Tryz.ntmps152
    go_wp2_with fail
    refine HA.mono ?_
    rintro e w' ⟨N, rfl, _, _, hb⟩
    clear HA
    go_wp2
    go_ret
    exact ⟨ret_int HE.out, hb⟩
  | _ =>
    rw [hq] at hF
    obtain ⟨ev, hv, hev⟩ := hE.errS
    have HA := Tryz.strconv_Atoi_syntax s (by omega) hq ev w hv hev
    have HE : Hid (0 = F) := hF
    clear hF hq hv hev
    go_enter Tryz.func152, Tryz.ntmps152
    go_wp2_with fail
    refine HA.mono ?_
    rintro e w' ⟨N, rfl, _, _, hb⟩
    clear HA
    go_wp2
    go_ret
    exact ⟨ret_int HE.out, hb⟩

theorem entClone_any (s : ByteArray) (w : World) (hs : s.size ≤ 1000000) :
    Calls Tryz.prog 49 #[.string s] w fun e w' => e = .returned (.string s) ∧ Below w.heap.size w w' := by
  have HA := Tryz.stringslite_Clone s w (by omega)
  go_enter Tryz.func49, Tryz.ntmps49
  go_wp2_with fail
  refine HA.mono ?_
  rintro e w' ⟨rfl, hb⟩
  clear HA
  go_wp2
  go_ret
  exact ⟨rfl, hb⟩
end Go.Proofs.YtidabcoodolddaaGreatDoor

namespace Go.Proofs.YtidabcoodolddaaGreatDoor
open Go.RowKit

theorem wordB_size (sep : ByteArray) : ∀ (k : Nat) (s x : ByteArray), x ∈ Lib.splitB sep 0 k s → x.size ≤ s.size
  | 0, s, x, h => by
    rw [Lib.splitB_zero, List.mem_singleton] at h
    rw [h]; exact Nat.le_refl _
  | k + 1, s, x, h => by
    unfold Lib.splitB at h
    split at h
    · rw [List.mem_singleton] at h
      rw [h]; exact Nat.le_refl _
    · rcases List.mem_cons.1 h with h | h
      · rw [h]; simp; omega
      · have := wordB_size sep k _ x h
        have h2 : (s.extract ((Lib.indexB s sep).toNat + sep.size) s.size).size ≤ s.size := by simp
        omega

theorem trim_le (s p : List UInt8) : (Lib.trimSuffix s p).length ≤ s.length := by
  unfold Lib.trimSuffix
  split <;> simp
theorem wd_size (s : ByteArray) (i : Nat) : (wd (wordsE s) i).size ≤ s.size := by
  unfold wd
  by_cases h : i < (wordsE s).length
  · rw [List.getD_eq_getElem?_getD, List.getElem?_eq_getElem h]
    refine Nat.le_trans (wordB_size _ _ _ _ (List.getElem_mem h)) ?_
    have := trim_le s.data.toList [10]
    exact this
  · rw [List.getD_eq_getElem?_getD, List.getElem?_eq_none (by omega)]
    exact Nat.zero_le _
/-- strings.SplitN, here. -/
structure Words (w : World) (bW : Nat) (ws : List ByteArray) : Prop where
  at_ : ∀ j, j < ws.length → w.cell? ⟨bW, j, none⟩ = some (.string (wd ws j))
theorem splitE (s : ByteArray) (w : World) (hE : Env w) (hs : s.size ≤ 1000000) :
    Calls Tryz.prog 150 #[.string ⟨(Lib.trimSuffix s.data.toList [10]).toArray⟩, .string ⟨#[32]⟩, .int .i64 129] w fun e w' => ∃ cap, e = .returned (.slice (some ⟨w.heap.size, 0, none⟩) (wordsE s).length cap) ∧ (wordsE s).length ≤ cap ∧ cap ≤ 129 ∧ Words w' w.heap.size (wordsE s) ∧ w'.heap.size = w.heap.size + 1 ∧ Below w.heap.size w w' := by
  obtain ⟨m, hm⟩ := hE.maxLen
  have hz : (⟨(Lib.trimSuffix s.data.toList [10]).toArray⟩ : ByteArray).size ≤ s.size := by
    have := trim_le s.data.toList [10]
    exact this
  have hl : (wordsE s).length ≤ min 129 ((⟨(Lib.trimSuffix s.data.toList [10]).toArray⟩ : ByteArray).size + 1) := by
    have := Lib.splitB_length_le ⟨#[32]⟩ 0 (min 129 ((⟨(Lib.trimSuffix s.data.toList [10]).toArray⟩ : ByteArray).size + 1) - 1) ⟨(Lib.trimSuffix s.data.toList [10]).toArray⟩
    unfold wordsE
    omega
  refine (Tryz.strings_SplitN ⟨(Lib.trimSuffix s.data.toList [10]).toArray⟩ ⟨#[32]⟩ 129 m w (by omega) hm (by decide) (by decide) (by decide)).mono ?_
  rintro e w' ⟨rfl, rfl⟩
  refine ⟨_, rfl, hl, Nat.min_le_left _ _, ⟨fun j hj => ?_⟩, by simp, (Below.refl _ _).alloc (Nat.le_refl _) _⟩
  rw [World.cell?_alloc_mark]
  show (Lib.cellsOf (wordsE s) _)[j]? = _
  unfold Lib.cellsOf wd
  simp [List.getElem?_append_left, hj]
theorem Words.later {w w' : World} {b : Nat} {ws : List ByteArray} (h : Words w b ws) (hb : Below w.heap.size w w') : Words w' b ws := ⟨fun j hj => cell_later hb (h.at_ j hj)⟩

/-- what stands while a row goes into an entry. -/
structure Rd (t : TypeId) (c : Value → Array Value) (w5 wr : World) (be : Nat) (g : Nat → List Value) (j : Nat) (v : Value) : Prop where
  lt : be < w5.heap.size
  blk : wr.heap[be]? = some (.cells (c v) 62 (0, 0))
  own : wr.ownsRow w5.heap.size t 3 v j (joinC g j)
  low : Below be w5 wr
  kept : ∀ k, k < w5.heap.size → k ≠ be → wr.heap[k]? = w5.heap[k]?
theorem Rd.later {t : TypeId} {c : Value → Array Value} {w5 wr w' : World} {be : Nat} {g : Nat → List Value} {j : Nat} {v : Value} (h : Rd t c w5 wr be g j v) (hb : Below wr.heap.size wr w') : Rd t c w5 w' be g j v :=
  ⟨h.lt, (hb.block be (Array.getElem?_eq_some_iff.1 h.blk).1).trans h.blk, owns_below h.own hb, h.low.trans (hb.mono (Nat.le_of_lt (Array.getElem?_eq_some_iff.1 h.blk).1)), fun k hk hne => (hb.block k (Nat.lt_of_lt_of_le hk h.low.size)).trans (h.kept k hk hne)⟩
theorem Rd.cell {t : TypeId} {c : Value → Array Value} {w5 wr : World} {be : Nat} {g : Nat → List Value} {j : Nat} {v : Value} (h : Rd t c w5 wr be g j v) {b o : Nat} {u : Value} (hu : w5.cell? ⟨b, o, none⟩ = some u) (hne : b ≠ be) : wr.cell? ⟨b, o, none⟩ = some u := by
  have hk := h.kept b (World.block_lt_of_cell? _ _ hu) hne
  unfold World.cell? at hu ⊢
  rw [hk]
  exact hu
theorem Rd.words {t : TypeId} {c : Value → Array Value} {w5 wr : World} {be : Nat} {g : Nat → List Value} {j : Nat} {v : Value} (h : Rd t c w5 wr be g j v) {b : Nat} {ws : List ByteArray} (hw : Words w5 b ws) (hne : b ≠ be) : Words wr b ws := ⟨fun j hj => h.cell (hw.at_ j hj) hne⟩
theorem setE {w : World} {B b i s n : Nat} {e : TypeId} {v u : Value} {xs : List Value} (h : w.ownsRow B e s v n xs) (hlt : b < B) : (w.setCell ⟨b, i, none⟩ u).ownsRow B e s v n xs := by
  refine ⟨h.1, ?_⟩
  rcases h.2 with ⟨rfl, h0⟩ | ⟨g, cap, cur, rfl, h1, hg, h2⟩
  · exact .inl ⟨rfl, h0⟩
  · exact .inr ⟨g, cap, cur, rfl, h1, (Below.heap_setCell _ _ _ _ (by show g ≠ b; omega)).trans hg, h2⟩
theorem below3 {B g : Nat} {w w' : World} (h : Below B w w') (hg : B ≤ g) (a0 a1 a2 : Value) : Below B w (((w'.setCell ⟨g, 0, none⟩ a0).setCell ⟨g, 1, none⟩ a1).setCell ⟨g, 2, none⟩ a2) :=
  h.trans ⟨rfl, rfl, rfl, by simp [World.setCell], fun k hk => ((Below.heap_setCell _ _ _ _ (Nat.ne_of_lt (Nat.lt_of_lt_of_le hk hg))).trans (Below.heap_setCell _ _ _ _ (Nat.ne_of_lt (Nat.lt_of_lt_of_le hk hg)))).trans (Below.heap_setCell _ _ _ _ (Nat.ne_of_lt (Nat.lt_of_lt_of_le hk hg)))⟩
/-- three words in a row. -/
structure Three (w : World) (b o : Nat) (x y z : Value) : Prop where
  c0 : w.cell? ⟨b, o, none⟩ = some x
  c1 : w.cell? ⟨b, o + 1, none⟩ = some y
  c2 : w.cell? ⟨b, o + 2, none⟩ = some z
theorem Three.later {w w' : World} {b o : Nat} {x y z : Value} (h : Three w b o x y z) (hb : Below w.heap.size w w') : Three w' b o x y z := ⟨cell_later hb h.c0, cell_later hb h.c1, cell_later hb h.c2⟩
theorem Three.drew {w : World} {b o : Nat} {x y z : Value} (h : Three w b o x y z) : Three w.drew b o x y z := ⟨h.c0, h.c1, h.c2⟩
theorem Three.alloc1 {w : World} {b o : Nat} {x y z : Value} (h : Three w b o x y z) (bl : Obj) : Three (w.alloc bl) b o x y z := h.later ((Below.refl _ _).alloc (Nat.le_refl _) _)
theorem Three.lower {B : Nat} {w w' : World} {b o : Nat} {x y z : Value} (h : Three w b o x y z) (hb : Below B w w') (hlt : b < B) : Three w' b o x y z := by
  have hk := hb.block b hlt
  obtain ⟨h0, h1, h2⟩ := h
  unfold World.cell? at h0 h1 h2
  refine ⟨?_, ?_, ?_⟩ <;> (unfold World.cell?; rw [hk]; assumption)
theorem Three.set {w : World} {b o be i : Nat} {x y z : Value} (h : Three w b o x y z) (hne : b ≠ be) (v : Value) : Three (w.setCell ⟨be, i, none⟩ v) b o x y z := by
  have hk : (w.setCell ⟨be, i, none⟩ v).heap[b]? = w.heap[b]? := Below.heap_setCell _ _ _ _ hne
  obtain ⟨h0, h1, h2⟩ := h
  unfold World.cell? at h0 h1 h2
  refine ⟨?_, ?_, ?_⟩ <;> (unfold World.cell?; rw [hk]; assumption)
/-- the box of the result, unturned. -/
structure ResAt (w : World) (b : Nat) : Prop where
  q0 : w.cell? ⟨b, 0, none⟩ = some (.string ⟨#[]⟩)
  q1 : w.cell? ⟨b, 1, none⟩ = some (.slice none 0 0)
  q2 : w.cell? ⟨b, 2, none⟩ = some (.slice none 0 0)
  f0 : w.frozen? ⟨b, 0, none⟩ = false
  f1 : w.frozen? ⟨b, 1, none⟩ = false
  f2 : w.frozen? ⟨b, 2, none⟩ = false
theorem resAt {w : World} {b : Nat} (h : w.heap[b]? = some (.cells #[.string ⟨#[]⟩, .slice none 0 0, .slice none 0 0] 62 (0, 0))) : ResAt w b :=
  ⟨by simp [World.cell?, h], by simp [World.cell?, h], by simp [World.cell?, h], by simp [World.frozen?, h], by simp [World.frozen?, h], by simp [World.frozen?, h]⟩
theorem Rd.put {t : TypeId} {c : Value → Array Value} {w5 wr W : World} {be i : Nat} {g : Nat → List Value} {j : Nat} {v v' : Value} (h : Rd t c w5 wr be g j v) (bl : Obj) (hG : Grown w5.heap.size t 3 (wr.alloc bl) v (j + 1) (joinC g j ++ g j) v' W) (hset : (c v).set! i v' = c v') (hi : (c v)[i]? = some v) :
    W.cell? ⟨be, i, none⟩ = some v ∧ W.frozen? ⟨be, i, none⟩ = false ∧ Below w5.heap.size wr W ∧ Rd t c w5 (W.setCell ⟨be, i, none⟩ v') be g (j + 1) v' := by
  have hz : w5.heap.size ≤ wr.heap.size := h.low.size
  have hb2 : Below w5.heap.size wr W := ((Below.refl _ wr).alloc hz _).trans hG.below
  have hW : W.heap[be]? = some (.cells (c v) 62 (0, 0)) := (hb2.block be h.lt).trans h.blk
  refine ⟨by simp [World.cell?, hW, hi], by simp [World.frozen?, hW], hb2, h.lt, ?_, setE hG.own h.lt, ?_, ?_⟩
  · rw [← hset]
    show (W.heap.modify be _)[be]? = _
    rw [Array.getElem?_modify, if_pos rfl, hW]
    rfl
  · exact (h.low.trans (hb2.mono (Nat.le_of_lt h.lt))).trans ⟨rfl, rfl, rfl, by simp [World.setCell], fun k hk => Below.heap_setCell _ _ _ _ (Nat.ne_of_lt hk)⟩
  · intro k hk hne
    rw [Below.heap_setCell _ _ _ _ hne, hb2.block k hk]
    exact h.kept k hk hne
theorem grow3 {B0 : Nat} {w : World} {v : Value} {n : Nat} {xs : List Value} (s : ByteArray) (x y : Int) (hB : B0 ≤ w.heap.size) (h : w.ownsRow B0 115 3 v n xs) (hn : n < 1000) :
    ∃ v' W, (Builtin.append_ #[59, 59] 59 #[v, .slice (some ⟨w.heap.size, 0, none⟩) 1 1]).run Tryz.prog (w.alloc (.cells #[.string s, .int .i64 x, .int .i64 y] 115)) = .ok v' W ∧ Grown B0 115 3 (w.alloc (.cells #[.string s, .int .i64 x, .int .i64 y] 115)) v (n + 1) (xs ++ [.string s, .int .i64 x, .int .i64 y]) v' W :=
  append_from 59 115 3 32 (.agg #[.string ⟨#[]⟩, .int .i64 0, .int .i64 0]) (by kernel_rfl) (by kernel_rfl) (by rfl) (by decide) B0 _ v n _ (h.alloc _) (some ⟨w.heap.size, 0, none⟩) 1 1 [.string s, .int .i64 x, .int .i64 y] rfl
    (.inr ⟨_, _, rfl, fun j u hj => by
      match j, hj with
      | 0, hj => simp at hj; subst hj; simp [go_sem]
      | 1, hj => simp at hj; subst hj; simp [go_sem]
      | 2, hj => simp at hj; subst hj; simp [go_sem]
      | j + 3, hj => simp at hj⟩) (fun u hu => by simp at hu; rcases hu with rfl | rfl | rfl <;> rfl) (by simp; omega) (by omega) (by decide)
theorem growI3 {B0 : Nat} {w : World} {v : Value} {n : Nat} {xs : List Value} (s x y : Int) (hB : B0 ≤ w.heap.size) (h : w.ownsRow B0 167 3 v n xs) (hn : n < 1000) :
    ∃ v' W, (Builtin.append_ #[60, 60] 60 #[v, .slice (some ⟨w.heap.size, 0, none⟩) 1 1]).run Tryz.prog (w.alloc (.cells #[.int .i64 s, .int .i64 x, .int .i64 y] 167)) = .ok v' W ∧ Grown B0 167 3 (w.alloc (.cells #[.int .i64 s, .int .i64 x, .int .i64 y] 167)) v (n + 1) (xs ++ [.int .i64 s, .int .i64 x, .int .i64 y]) v' W :=
  append_from 60 167 3 24 (.agg #[.int .i64 0, .int .i64 0, .int .i64 0]) (by kernel_rfl) (by kernel_rfl) (by rfl) (by decide) B0 _ v n _ (h.alloc _) (some ⟨w.heap.size, 0, none⟩) 1 1 [.int .i64 s, .int .i64 x, .int .i64 y] rfl
    (.inr ⟨_, _, rfl, fun j u hj => by
      match j, hj with
      | 0, hj => simp at hj; subst hj; simp [go_sem]
      | 1, hj => simp at hj; subst hj; simp [go_sem]
      | 2, hj => simp at hj; subst hj; simp [go_sem]
      | j + 3, hj => simp at hj⟩) (fun u hu => by simp at hu; rcases hu with rfl | rfl | rfl <;> rfl) (by simp; omega) (by omega) (by decide)
end Go.Proofs.YtidabcoodolddaaGreatDoor

namespace Go.Proofs.YtidabcoodolddaaGreatDoor
open Go.RowKit
theorem readW_no {ws : List ByteArray} (h : ¬ (3 ≤ ws.length ∧ mayBeB (nu ws 1) (nu ws 2) = true ∧ (ws.length : Int) = 3 + 3 * (nu ws 1 + nu ws 2))) : readW ws = emptyE := by unfold readW; rw [if_neg h]
/-- an entry in memory, its rows in blocks of their own kind. -/
structure EntNew (w : World) (v : EntV) (e : EntF) : Prop where
  here : EntAt w v e
  tP : e.nP = 0 ∨ ∃ bk o C, v.aP = some ⟨bk, o, none⟩ ∧ w.heap[bk]? = some (.cells C 115 (0, 0))
  tQ : e.nQ = 0 ∨ ∃ bk o C, v.aQ = some ⟨bk, o, none⟩ ∧ w.heap[bk]? = some (.cells C 167 (0, 0))
theorem EntNew.later {w w' : World} {v : EntV} {e : EntF} (h : EntNew w v e) (hb : Below w.heap.size w w') : EntNew w' v e :=
  ⟨h.here.later hb, h.tP.imp id fun ⟨bk, o, C, ha, hC⟩ => ⟨bk, o, C, ha, (hb.block _ (Array.getElem?_eq_some_iff.1 hC).1).trans hC⟩, h.tQ.imp id fun ⟨bk, o, C, ha, hC⟩ => ⟨bk, o, C, ha, (hb.block _ (Array.getElem?_eq_some_iff.1 hC).1).trans hC⟩⟩
theorem empty_new (w : World) : EntNew w ⟨none, 0, none, 0⟩ emptyE := ⟨⟨.inl rfl, .inl rfl⟩, .inl rfl, .inl rfl⟩
theorem heap_set3 {w : World} {g k : Nat} (hne : k ≠ g) (a0 a1 a2 : Value) : (((w.setCell ⟨g, 0, none⟩ a0).setCell ⟨g, 1, none⟩ a1).setCell ⟨g, 2, none⟩ a2).heap[k]? = w.heap[k]? :=
  (Below.heap_setCell _ _ _ _ hne).trans ((Below.heap_setCell _ _ _ _ hne).trans (Below.heap_setCell _ _ _ _ hne))
/-- two words. -/
structure Two (w : World) (b : Nat) (x y : Value) : Prop where
  c1 : w.cell? ⟨b, 1, none⟩ = some x
  c2 : w.cell? ⟨b, 2, none⟩ = some y
theorem Two.later {w w' : World} {b : Nat} {x y : Value} (h : Two w b x y) (hb : Below w.heap.size w w') : Two w' b x y := ⟨cell_later hb h.c1, cell_later hb h.c2⟩
/-- a row of threes, cell by cell. -/
theorem own_kind {w : World} {B : Nat} {e : TypeId} {s n : Nat} {v : Value} {xs : List Value} (h : w.ownsRow B e s v n xs) {k : Nat} (hk : v.ownBlock = some k) : ∃ c, w.heap[k]? = some (.cells c e (0, 0)) := by
  rcases h.2 with ⟨rfl, _⟩ | ⟨g, cap, cur, rfl, _, hg, _⟩
  · simp [Value.ownBlock] at hk
  · simp [Value.ownBlock] at hk
    subst hk
    exact ⟨cur, hg⟩
theorem rows3 {w : World} {B n : Nat} {e : TypeId} {v : Value} {g : Nat → List Value} (hg : ∀ i, (g i).length = 3) (h : w.ownsRow B e 3 v n (joinC g n)) : ∃ a c, v = .slice a n c ∧ (n = 0 ∨ ∃ bk, B ≤ bk ∧ a = some ⟨bk, 0, none⟩ ∧ (∀ i, i < n → ∀ j u, (g i)[j]? = some u → w.cell? ⟨bk, i * 3 + j, none⟩ = some u) ∧ ∃ C, w.heap[bk]? = some (.cells C e (0, 0))) := by
  obtain ⟨a, c, rfl, hc⟩ := owns_shape h
  refine ⟨a, c, rfl, ?_⟩
  by_cases h0 : n = 0
  · exact .inl h0
  · have lt3 : ∀ i j u, (g i)[j]? = some u → j < 3 := fun i j u hu => by
      have := (List.getElem?_eq_some_iff.1 hu).1
      rw [hg] at this; exact this
    have key : ∀ i, i < n → ∀ j u, (g i)[j]? = some u → ∃ k, a = some ⟨k, 0, none⟩ ∧ B ≤ k ∧ w.cell? ⟨k, i * 3 + j, none⟩ = some u := fun i hi j u hu =>
      owns_cell h (by rw [joinC_at (s := 3) (fun i _ => hg i) hi (lt3 i j u hu)]; exact hu)
    obtain ⟨u0, hu0⟩ : ∃ u, (g 0)[0]? = some u := ⟨_, List.getElem?_eq_getElem (by rw [hg]; decide)⟩
    obtain ⟨k, ha, hk, _⟩ := key 0 (by omega) 0 u0 hu0
    refine .inr ⟨k, hk, ha, fun i hi j u hu => ?_, own_kind h (by rw [ha]; rfl)⟩
    obtain ⟨k', ha', _, hc'⟩ := key i hi j u hu
    rw [ha] at ha'
    injection ha' with ha'
    injection ha' with ha'
    subst ha'
    exact hc'
theorem cell_set3 {w : World} {b o g : Nat} {u : Value} (h : w.cell? ⟨b, o, none⟩ = some u) (hne : b ≠ g) (a0 a1 a2 : Value) : (((w.setCell ⟨g, 0, none⟩ a0).setCell ⟨g, 1, none⟩ a1).setCell ⟨g, 2, none⟩ a2).cell? ⟨b, o, none⟩ = some u := by
  have hk : (((w.setCell ⟨g, 0, none⟩ a0).setCell ⟨g, 1, none⟩ a1).setCell ⟨g, 2, none⟩ a2).heap[b]? = w.heap[b]? := ((Below.heap_setCell _ _ _ _ hne).trans (Below.heap_setCell _ _ _ _ hne)).trans (Below.heap_setCell _ _ _ _ hne)
  unfold World.cell? at h ⊢
  rw [hk]
  exact h
theorem readW_yes {ws : List ByteArray} {p q : Nat} (h1 : 3 ≤ ws.length) (h2 : mayBeB (p : Int) q = true) (hp : nu ws 1 = p) (hq : nu ws 2 = q) (h3 : ws.length = 3 + 3 * (p + q)) :
    readW ws = ⟨wd ws 0, p, fun i => wd ws (3 + 3 * i), fun i => nu ws (3 + 3 * i + 1), fun i => nu ws (3 + 3 * i + 2), q, fun i => nu ws (3 + 3 * p + 3 * i), fun i => nu ws (3 + 3 * p + 3 * i + 1), fun i => nu ws (3 + 3 * p + 3 * i + 2)⟩ := by
  unfold readW
  rw [hp, hq, if_pos ⟨h1, h2, by omega⟩]
  simp only [Int.toNat_natCast]
attribute [local go_sem ↓] Go.wp_at_zero Go.wp_at_succ
set_option maxRecDepth 100000 in
set_option maxHeartbeats 16000000 in
theorem entRead_any (s : ByteArray) (w : World) (hE : Env w) (hs : s.size ≤ 1000000) :
    Calls Tryz.prog 126 #[.string s] w fun e w' => ∃ v, e = .returned (.agg (entCs v (readE s))) ∧ EntNew w' v (readE s) ∧ Below w.heap.size w w' := by
  have hb0 : Below w.heap.size w (w.alloc (.cells #[.string ⟨#[]⟩, .slice none 0 0, .slice none 0 0] 62)) := (Below.refl _ _).alloc (Nat.le_refl _) _
  have hres : (w.alloc (.cells #[.string ⟨#[]⟩, .slice none 0 0, .slice none 0 0] 62)).heap[w.heap.size]? = some (.cells #[.string ⟨#[]⟩, .slice none 0 0, .slice none 0 0] 62 (0, 0)) := Array.getElem?_push_size
  have hz0 : (w.alloc (.cells #[.string ⟨#[]⟩, .slice none 0 0, .slice none 0 0] 62)).heap.size = w.heap.size + 1 := by simp
  have hE0 := hE.later hb0
  have HT := fun W => Tryz.strings_TrimSuffix s ⟨#[10]⟩ W (by omega)
  have HS := splitE s _ hE0 hs
  have hsz := fun i => Nat.le_trans (wd_size s i) hs
  have HR : Hid (readE s = readW (wordsE s)) := rfl
  rw [HR.out]
  clear HR hE
  generalize hW : w.alloc (.cells #[.string ⟨#[]⟩, .slice none 0 0, .slice none 0 0] 62) = W0 at *
  generalize hws : wordsE s = ws at *
  go_enter Tryz.func126, Tryz.ntmps126
  go_wp2_with fail
  refine (HT _).mono ?_
  rintro e w1 ⟨rfl, rfl⟩
  clear HT
  go_wp2_with fail
  refine (show Calls _ _ _ _ _ from HS).mono ?_
  rintro e w2 ⟨cap, rfl, hcap, hcap9, hWd, hz2, hb2⟩
  clear HS
  have hn9 : ws.length ≤ 129 := by omega
  have hlt1 : w.heap.size < w1.heap.size := by omega
  have hlt2 : w1.heap.size < w2.heap.size := by omega
  clear hz0 hz2
  have hbA : Below w.heap.size w w2 := hb0.trans (hb2.mono hb0.size)
  have hres2 : w2.heap[w.heap.size]? = some (.cells #[.string ⟨#[]⟩, .slice none 0 0, .slice none 0 0] 62 (0, 0)) := (hb2.block _ (by omega)).trans hres
  by_cases hl : ws.length < 3
  · have HR : Hid (readW ws = emptyE) := readW_no (fun h => by have := h.1; omega)
    clear hWd hsz hws
    have hresX := hres2
    obtain ⟨q0, q1, q2, f0, f1, f2⟩ := resAt hresX
    have hNB := below3 hbA (Nat.le_refl w.heap.size) (.string ⟨#[]⟩) (.slice none 0 0) (.slice none 0 0)
    clear hres hresX
    go_wp2
    refine bodyPost_ret (v := .agg #[.string ⟨#[]⟩, .slice none 0 0, .slice none 0 0]) (by simp [results, Tryz.results126, go_sem, q0, q1, q2]) rfl ?_
    rw [HR.out]
    exact ⟨⟨none, 0, none, 0⟩, rfl, empty_new _, hNB⟩
  · have y1 := hWd.at_ 1 (by omega)
    have y2 := hWd.at_ 2 (by omega)
    have z1 := hsz 1
    have z2 := hsz 2
    have hE2 := hE0.later hb2
    have hbB := Below.refl w2.heap.size w2
    have HP : Hid (nu ws 1 = numF (wd ws 1).data.toList) := rfl
    have HQ : Hid (nu ws 2 = numF (wd ws 2).data.toList) := rfl
    generalize hx1 : wd ws 1 = x1 at *
    generalize hx2 : wd ws 2 = x2 at *
    clear hx1 hx2
    have hY := Two.mk y1 y2
    have i1 : (1 : Int) < (ws.length : Int) := by omega
    have i2 : (2 : Int) < (ws.length : Int) := by omega
    go_wp2
    go_region_held3 (fun w' => w'.cell? ⟨w1.heap.size, 1, none⟩ = some (.string x1) ∧ w'.cell? ⟨w1.heap.size, 2, none⟩ = some (.string x2))
      (first | exact ⟨hY.c1, hY.c2⟩ | go_keep)
      (first | (go_at_call 152; refine (entNumber_any _ _ ?hE ?hs).mono ?_; (case hE => first | exact hE2 | exact hE2.drew); (case hs => assumption); rintro e w3 ⟨rfl, hb3⟩; (try replace hb3 := below_undrew hb3); replace hE2 := hE2.later hb3; replace hY := hY.later hb3; replace hbB := hbB.trans (hb3.mono hbB.size); clear hb3))
    have hres3 := (hbB.block _ (Nat.lt_trans hlt1 hlt2)).trans hres2
    have hWd3 : Words w3 w1.heap.size ws := hWd.later hbB
    have hb3 := hbA.trans (hbB.mono hbA.size)
    have hlt3 : w1.heap.size < w3.heap.size := Nat.lt_of_lt_of_le hlt2 hbB.size
    generalize hP : numF x1.data.toList = P at *
    generalize hQ : numF x2.data.toList = Q at *
    have HM := mayBe_any P Q w3
    clear hY hWd hbB hbA hres2 y1 y2 z1 z2 hb2 hlt2 hP hQ i1 i2 hws
    by_cases hm : mayBeB P Q = true
    · rw [hm] at HM
      have hm2 : 1 ≤ P ∧ P ≤ 6 ∧ 0 ≤ Q ∧ Q ≤ 36 := by unfold mayBeB at hm; simpa using hm
      have HMB : Hid (mayBeB P Q = true) := hm
      clear hm
      obtain ⟨p, rfl⟩ : ∃ p : Nat, P = p := ⟨P.toNat, by omega⟩
      obtain ⟨q, rfl⟩ : ∃ q : Nat, Q = q := ⟨Q.toNat, by omega⟩
      obtain ⟨p1, p6, _, q6⟩ := hm2
      by_cases hsum : (ws.length : Int) = 3 + 3 * (p + q)
      · have y0 := hWd3.at_ 0 (by omega)
        have z0 := hsz 0
        generalize hroot : wd ws 0 = root at *
        have HRT : Hid (wd ws 0 = root) := hroot
        have HC := entClone_any root w3 z0
        have hwl : ws.length = 3 + 3 * (p + q) := by omega
        have HL : Hid (ws.length = 3 + 3 * (p + q)) := hwl
        clear hroot z0
        go_wp2_with fail
        refine HM.mono ?_
        rintro e w4 ⟨rfl, rfl⟩
        clear HM
        go_wp2_with fail
        refine (show Calls _ _ _ _ _ from HC).mono ?_
        rintro e w5 ⟨rfl, hb5⟩
        clear HC
        have hE5 := hE2.later hb5
        have hWd5 := hWd3.later hb5
        have hres5 := (hb5.block _ (Nat.lt_trans hlt1 hlt3)).trans hres3
        have hbW5 := hb3.trans (hb5.mono hb3.size)
        have hlt5 : w1.heap.size < w5.heap.size := Nat.lt_of_lt_of_le hlt3 hb5.size
        have hbe : Below w5.heap.size w5 (w5.alloc (.cells #[.string root, .slice none 0 0, .slice none 0 0] 62)) := (Below.refl _ _).alloc (Nat.le_refl _) _
        have hblk : (w5.alloc (.cells #[.string root, .slice none 0 0, .slice none 0 0] 62)).heap[w5.heap.size]? = some (.cells #[.string root, .slice none 0 0, .slice none 0 0] 62 (0, 0)) := Array.getElem?_push_size
        have hbz : w5.heap.size < (w5.alloc (.cells #[.string root, .slice none 0 0, .slice none 0 0] 62)).heap.size := by simp
        have jw : (3 : Int) ≤ (ws.length : Int) := by omega
        clear hres3 hWd3 hb3 hb5 hres y0 hE2 hl hsum
        go_wp2
        generalize w5.alloc (.cells #[.string root, .slice none 0 0, .slice none 0 0] 62) = W6 at *
        have hR0 : Rd 115 (fun v => #[.string root, v, .slice none 0 0]) W6 W6 w5.heap.size (fun i => [.string (wd ws (3 + 3 * i)), .int .i64 (nu ws (3 + 3 * i + 1)), .int .i64 (nu ws (3 + 3 * i + 2))]) 0 (.slice none 0 0) := ⟨hbz, hblk, World.ownsRow_nil _ _ _ _, Below.refl _ _, fun _ _ _ => rfl⟩
        have hWd6 := hWd5.later hbe
        go_loopw [49] (fun y wr => ∃ (i : Nat) (v : Value), i ≤ p ∧ y = .int .i64 i ∧ Rd 115 (fun v => #[.string root, v, .slice none 0 0]) W6 wr w5.heap.size (fun i => [.string (wd ws (3 + 3 * i)), .int .i64 (nu ws (3 + 3 * i + 1)), .int .i64 (nu ws (3 + 3 * i + 2))]) i v) (fun y _ => p - (intOf y).toNat)
        case atStart => exact ⟨0, _, Nat.zero_le _, rfl, hR0⟩
        case round =>
          obtain ⟨i, v, hi, rfl, hR⟩ := hrel
          by_cases hlt : i < p
          · have hWr := hR.words hWd6 (Nat.ne_of_lt hlt5)
            have hEr := hE5.later (hbe.trans hR.low)
            have x0 := hWr.at_ (3 + 3 * i) (by omega)
            have x1 := hWr.at_ (3 + 3 * i + 1) (by omega)
            have x2 := hWr.at_ (3 + 3 * i + 2) (by omega)
            have z0 := hsz (3 + 3 * i)
            have z1 := hsz (3 + 3 * i + 1)
            have z2 := hsz (3 + 3 * i + 2)
            have HV : Hid ([.string (wd ws (3 + 3 * i)), .int .i64 (numF (wd ws (3 + 3 * i + 1)).data.toList), .int .i64 (numF (wd ws (3 + 3 * i + 2)).data.toList)] = (fun i => [Value.string (wd ws (3 + 3 * i)), .int .i64 (nu ws (3 + 3 * i + 1)), .int .i64 (nu ws (3 + 3 * i + 2))]) i) := rfl
            have j0 : (0 : Int) ≤ 3 * (i : Int) := by omega
            have j1 : 3 * (i : Int) ≤ ((ws.length - 3 : Nat) : Int) := by omega
            generalize ha : wd ws (3 + 3 * i) = a at *
            generalize hb : wd ws (3 + 3 * i + 1) = b at *
            generalize hc : wd ws (3 + 3 * i + 2) = c at *
            clear ha hb hc hWr hR0 hsz
            obtain ⟨av, cv, rfl, _⟩ := owns_shape hR.own
            have hC : wr.cell? ⟨w5.heap.size, 1, none⟩ = some (.slice av i cv) := by simp [World.cell?, hR.blk]
            have hY := Three.mk x0 x1 x2
            have qs : w5.heap.size < wr.heap.size := (Array.getElem?_eq_some_iff.1 hR.blk).1
            have k0 : (0 : Int) < ((3 * (p + q) - 3 * i : Nat) : Int) := by omega
            have k1 : (1 : Int) < ((3 * (p + q) - 3 * i : Nat) : Int) := by omega
            have k3 : i < p + q := by omega
            have k2 : (2 : Int) < ((3 * (p + q) - 3 * i : Nat) : Int) := by omega
            have hlt6 : w1.heap.size < W6.heap.size := Nat.lt_trans hlt5 hbz
            have hne6 : w1.heap.size ≠ w5.heap.size := Nat.ne_of_lt hlt5
            clear hY hlt6 hne6
            go_wp2
            generalize hL : 3 * (p + q) - 3 * i = L at *
            have k4 : 0 < L := by omega
            have k5 : L ≠ 0 := by omega
            clear hL
            have hSS : (fun w' : World => w'.cell? ⟨w5.heap.size, 1, none⟩ = some (.slice av i cv) ∧ w'.cell? ⟨w1.heap.size, 3 + 3 * i, none⟩ = some (.string a) ∧ w'.cell? ⟨w1.heap.size, 3 + 3 * i + 1, none⟩ = some (.string b) ∧ w'.cell? ⟨w1.heap.size, 3 + 3 * i + 2, none⟩ = some (.string c)) wr.drew := ⟨hC, x0, x1, x2⟩
            refine wp_region_G (fun w' : World => w'.cell? ⟨w5.heap.size, 1, none⟩ = some (.slice av i cv) ∧ w'.cell? ⟨w1.heap.size, 3 + 3 * i, none⟩ = some (.string a) ∧ w'.cell? ⟨w1.heap.size, 3 + 3 * i + 1, none⟩ = some (.string b) ∧ w'.cell? ⟨w1.heap.size, 3 + 3 * i + 2, none⟩ = some (.string c)) 16 19 (by kernel_rfl) rfl ?_
            refine takeW 0 (v := ?v1) rfl (by kernel_rfl) (by kernel_rfl) (by kernel_rfl) (by kernel_rfl) (fun _ _ _ h => h) (.inr hSS) (.inl ⟨by rfl, fun w => ?hy1⟩) ?rest1
            case hy1 => (go_simp <;> with_reducible rfl)
            simp only [Go.Act.put, List.setIfInBounds_toArray, List.set_cons_zero, List.set_cons_succ]
            refine takeW 2 (v := ?v2) rfl (by kernel_rfl) (by kernel_rfl) (by kernel_rfl) (by kernel_rfl) (fun _ _ _ h => h) (.inr hSS) (.inl ⟨by rfl, fun w => ?hy2⟩) ?rest2
            case hy2 => (go_simp <;> with_reducible rfl)
            simp only [Go.Act.put, List.setIfInBounds_toArray, List.set_cons_zero, List.set_cons_succ]
            refine takeW 3 (v := ?v3) rfl (by kernel_rfl) (by kernel_rfl) (by kernel_rfl) (by kernel_rfl) (fun _ _ _ h => h) (.inr hSS) (.inl ⟨by rfl, fun w => ?hy3⟩) ?rest3
            case hy3 => (go_simp <;> with_reducible rfl)
            simp only [Go.Act.put, List.setIfInBounds_toArray, List.set_cons_zero, List.set_cons_succ]
            refine takeW 6 (v := ?v4) rfl (by kernel_rfl) (by kernel_rfl) (by kernel_rfl) (by kernel_rfl) (fun _ _ _ h => h) (.inr hSS) (.inl ⟨by rfl, fun w => ?hy4⟩) ?rest4
            case hy4 => (go_simp <;> with_reducible rfl)
            simp only [Go.Act.put, List.setIfInBounds_toArray, List.set_cons_zero, List.set_cons_succ]
            refine takeW 7 (v := ?v5) rfl (by kernel_rfl) (by kernel_rfl) (by kernel_rfl) (by kernel_rfl) (fun _ _ _ h => h) (.inr hSS) (.inl ⟨by rfl, fun w => ?hy5⟩) ?rest5
            case hy5 => (go_simp <;> with_reducible rfl)
            simp only [Go.Act.put, List.setIfInBounds_toArray, List.set_cons_zero, List.set_cons_succ]
            refine takeW 10 (v := ?v6) rfl (by kernel_rfl) (by kernel_rfl) (by kernel_rfl) (by kernel_rfl) (fun _ _ _ h => h) (.inr hSS) (.inl ⟨by rfl, fun w => ?hy6⟩) ?rest6
            case hy6 => (go_simp <;> with_reducible rfl)
            simp only [Go.Act.put, List.setIfInBounds_toArray, List.set_cons_zero, List.set_cons_succ]
            refine takeW 11 (v := ?v7) rfl (by kernel_rfl) (by kernel_rfl) (by kernel_rfl) (by kernel_rfl) (fun _ _ _ h => h) (.inr hSS) (.inl ⟨by rfl, fun w => ?hy7⟩) ?rest7
            case hy7 => (go_simp <;> with_reducible rfl)
            simp only [Go.Act.put, List.setIfInBounds_toArray, List.set_cons_zero, List.set_cons_succ]
            refine takeR 1 [] (v := ?v8) rfl (by kernel_rfl) (by kernel_rfl) (by kernel_rfl) (by kernel_rfl) (by kernel_rfl) (fun _ _ _ h => h) hSS (.inl ⟨by rfl, fun w hSw => ?hy8⟩) ?rest8
            case hy8 => ((try dsimp only at hSw); go_simp <;> with_reducible rfl)
            simp only [Go.Act.put, List.setIfInBounds_toArray, List.set_cons_zero, List.set_cons_succ]
            refine takeR 4 [13, 9, 5] (v := ?v9) rfl (by kernel_rfl) (by kernel_rfl) (by kernel_rfl) (by kernel_rfl) (by kernel_rfl) (fun _ _ _ h => h) hSS (.inl ⟨by rfl, fun w hSw => ?hy9⟩) ?rest9
            case hy9 => ((try dsimp only at hSw); go_simp <;> with_reducible rfl)
            simp only [Go.Act.put, List.setIfInBounds_toArray, List.set_cons_zero, List.set_cons_succ]
            refine takeR 8 [13, 9] (v := ?v10) rfl (by kernel_rfl) (by kernel_rfl) (by kernel_rfl) (by kernel_rfl) (by kernel_rfl) (fun _ _ _ h => h) hSS (.inl ⟨by rfl, fun w hSw => ?hy10⟩) ?rest10
            case hy10 => ((try dsimp only at hSw); go_simp <;> with_reducible rfl)
            simp only [Go.Act.put, List.setIfInBounds_toArray, List.set_cons_zero, List.set_cons_succ]
            refine takeR 12 [13] (v := ?v11) rfl (by kernel_rfl) (by kernel_rfl) (by kernel_rfl) (by kernel_rfl) (by kernel_rfl) (fun _ _ _ h => h) hSS (.inl ⟨by rfl, fun w hSw => ?hy11⟩) ?rest11
            case hy11 => ((try dsimp only at hSw); go_simp <;> with_reducible rfl)
            simp only [Go.Act.put, List.setIfInBounds_toArray, List.set_cons_zero, List.set_cons_succ]
            refine onlyG 5 rfl (by kernel_rfl) (fun K hK => ?_)
            go_wp2_with fail
            refine (show Calls _ _ _ _ _ from entClone_any a wr.drew z0).mono ?_
            rintro e w7 ⟨rfl, hb7⟩
            replace hb7 := below_undrew hb7
            have hE7 := hEr.later hb7
            have hR7 := hR.later hb7
            clear hSS
            have hSS : (fun w' : World => w'.cell? ⟨w5.heap.size, 1, none⟩ = some (.slice av i cv) ∧ w'.cell? ⟨w1.heap.size, 3 + 3 * i, none⟩ = some (.string a) ∧ w'.cell? ⟨w1.heap.size, 3 + 3 * i + 1, none⟩ = some (.string b) ∧ w'.cell? ⟨w1.heap.size, 3 + 3 * i + 2, none⟩ = some (.string c)) w7 := ⟨cell_later hb7 hC, cell_later hb7 x0, cell_later hb7 x1, cell_later hb7 x2⟩
            go_wp2_with fail
            refine hK _ _ hSS ?_
            clear hK hb7 hC x0 x1 x2
            refine onlyG 9 rfl (by kernel_rfl) (fun K hK => ?_)
            go_wp2_with fail
            refine (show Calls _ _ _ _ _ from entNumber_any b w7 hE7 z1).mono ?_
            rintro e w8 ⟨rfl, hb8⟩
            have hE8 := hE7.later hb8
            have hR8 := hR7.later hb8
            have hSS' := hSS
            clear hSS
            have hSS : (fun w' : World => w'.cell? ⟨w5.heap.size, 1, none⟩ = some (.slice av i cv) ∧ w'.cell? ⟨w1.heap.size, 3 + 3 * i, none⟩ = some (.string a) ∧ w'.cell? ⟨w1.heap.size, 3 + 3 * i + 1, none⟩ = some (.string b) ∧ w'.cell? ⟨w1.heap.size, 3 + 3 * i + 2, none⟩ = some (.string c)) w8 := ⟨cell_later hb8 hSS'.1, cell_later hb8 hSS'.2.1, cell_later hb8 hSS'.2.2.1, cell_later hb8 hSS'.2.2.2⟩
            clear hSS'
            go_wp2_with fail
            refine hK _ _ hSS ?_
            clear hK hb8
            refine onlyG 13 rfl (by kernel_rfl) (fun K hK => ?_)
            go_wp2_with fail
            refine (show Calls _ _ _ _ _ from entNumber_any c w8 hE8 z2).mono ?_
            rintro e w9 ⟨rfl, hb9⟩
            have hR9 := hR8.later hb9
            have hSS' := hSS
            clear hSS
            have hSS : (fun w' : World => w'.cell? ⟨w5.heap.size, 1, none⟩ = some (.slice av i cv) ∧ w'.cell? ⟨w1.heap.size, 3 + 3 * i, none⟩ = some (.string a) ∧ w'.cell? ⟨w1.heap.size, 3 + 3 * i + 1, none⟩ = some (.string b) ∧ w'.cell? ⟨w1.heap.size, 3 + 3 * i + 2, none⟩ = some (.string c)) w9 := ⟨cell_later hb9 hSS'.1, cell_later hb9 hSS'.2.1, cell_later hb9 hSS'.2.2.1, cell_later hb9 hSS'.2.2.2⟩
            clear hSS'
            go_wp2_with fail
            refine hK _ _ hSS ?_
            clear hK hb9
            refine takeW 14 (v := ?v15) rfl (by kernel_rfl) (by kernel_rfl) (by kernel_rfl) (by kernel_rfl) (fun _ _ _ h => h) (.inr hSS) (.inl ⟨by rfl, fun w => ?hy15⟩) ?rest15
            case hy15 => (go_simp <;> with_reducible rfl)
            simp only [Go.Act.put, List.setIfInBounds_toArray, List.set_cons_zero, List.set_cons_succ]
            refine onlyG 15 rfl (by kernel_rfl) (fun K hK => ?_)
            go_wp2_with fail
            refine hK _ _ ⟨cell_later ((Below.refl _ _).alloc (Nat.le_refl _) _) hSS.1, cell_later ((Below.refl _ _).alloc (Nat.le_refl _) _) hSS.2.1, cell_later ((Below.refl _ _).alloc (Nat.le_refl _) _) hSS.2.2.1, cell_later ((Below.refl _ _).alloc (Nat.le_refl _) _) hSS.2.2.2⟩ ?_
            clear hK
            obtain ⟨v9, W9, happ, hG⟩ := grow3 a (numF b.data.toList) (numF c.data.toList) hR9.low.size hR9.own (by omega)
            rw [HV.out] at hG
            obtain ⟨g1, g2, hbG, hRn⟩ := hR9.put (i := 1) _ hG rfl rfl
            obtain ⟨a9, c9, rfl, _⟩ := owns_shape hRn.own
            clear hG hbG hSS
            refine lastG 16 rfl (by kernel_rfl) (by kernel_rfl) (fun K hK => ?_)
            go_wp2_with (at_builtin; refine list_run rfl (.tmp 57) (.tmp 71) 59 rfl _ _ _ rfl rfl happ ?_)
            refine hK _ _ ?_
            clear hK
            refine takeW 17 (v := ?v18) rfl (by kernel_rfl) (by kernel_rfl) (by kernel_rfl) (by kernel_rfl) (fun _ _ _ h => h) (.inl (by kernel_rfl)) (.inl ⟨by rfl, fun w => ?hy18⟩) ?rest18
            case hy18 => (go_simp <;> with_reducible rfl)
            simp only [Go.Act.put, List.setIfInBounds_toArray, List.set_cons_zero, List.set_cons_succ]
            refine lastG 18 rfl (by kernel_rfl) (by kernel_rfl) (fun K hK => ?_)
            go_wp2_with fail
            refine hK _ _ ?_
            clear hK
            refine doneG (by kernel_rfl) ?_ _
            go_wp2
            go_roundw
            case rel => exact ⟨i + 1, _, by omega, by go_num, hRn⟩
            case measure => simp [intOf]; omega
          · have HIP : Hid (i = p) := (by omega : i = p)
            have hWr := hR.words hWd6 (Nat.ne_of_lt hlt5)
            have hEr := hE5.later (hbe.trans hR.low)
            obtain ⟨aP, cP, rfl, HROW⟩ := rows3 (fun _ => rfl) hR.own
            have hbz2 : w5.heap.size < wr.heap.size := (Array.getElem?_eq_some_iff.1 hR.blk).1
            have hblk2 := hR.blk
            have hlow2 := hR.low
            have hres7 := (hR.kept _ (Nat.lt_trans (Nat.lt_trans hlt1 hlt5) hbz) (Nat.ne_of_lt (Nat.lt_trans hlt1 hlt5))).trans ((hbe.block _ (Nat.lt_trans hlt1 hlt5)).trans hres5)
            have HLOW : Hid (W6.heap.size ≤ wr.heap.size) := hR.low.size
            clear hR hR0 hWd6 hWd5 hres5 hblk
            have m1 : 3 * (i : Int) ≤ 3 * (p + q) := by have := HIP.out; omega
            have m0 : (0 : Int) ≤ 3 * (p : Int) := by omega
            have m2 : 3 * (p : Int) ≤ 3 * (p + q) := by omega
            have m3 : 3 * p ≤ 3 * (p + q) := by omega
            have m4 : 3 * (p + q) ≤ cap - 3 := by omega
            have hlt1r : w1.heap.size < wr.heap.size := Nat.lt_trans hlt5 hbz2
            obtain ⟨W7, rfl⟩ : ∃ W, W = wr := ⟨_, rfl⟩
            have hR0 : Rd 167 (fun v => #[.string root, .slice aP i cP, v]) W7 W7 w5.heap.size (fun j => [.int .i64 (nu ws (3 + 3 * p + 3 * j)), .int .i64 (nu ws (3 + 3 * p + 3 * j + 1)), .int .i64 (nu ws (3 + 3 * p + 3 * j + 2))]) 0 (.slice none 0 0) := ⟨hbz2, hblk2, World.ownsRow_nil _ _ _ _, Below.refl _ _, fun _ _ _ => rfl⟩
            clear hblk2
            by_cases hcp : cap - 3 = 3 * p
            · go_wp2
              generalize hL7 : 3 * (p + q) - 3 * p = L7 at *
              go_loopw [80] (fun y wr => ∃ (j : Nat) (v : Value), j ≤ q ∧ y = .int .i64 j ∧ Rd 167 (fun v => #[.string root, .slice aP i cP, v]) W7 wr w5.heap.size (fun j => [.int .i64 (nu ws (3 + 3 * p + 3 * j)), .int .i64 (nu ws (3 + 3 * p + 3 * j + 1)), .int .i64 (nu ws (3 + 3 * p + 3 * j + 2))]) j v) (fun y _ => q - (intOf y).toNat)
              case atStart => exact ⟨0, _, Nat.zero_le _, rfl, hR0⟩
              case round =>
                obtain ⟨j, v, hj, rfl, hR⟩ := hrel
                by_cases hlt : j < q
                · exfalso; omega
                · have HQQ : Hid (j = q) := (by omega : j = q)
                  obtain ⟨aQ, cQ, rfl, HROQ⟩ := rows3 (fun _ => rfl) hR.own
                  have d0 : wr.cell? ⟨w5.heap.size, 0, none⟩ = some (.string root) := by simp [World.cell?, hR.blk]
                  have d1 : wr.cell? ⟨w5.heap.size, 1, none⟩ = some (.slice aP i cP) := by simp [World.cell?, hR.blk]
                  have d2 : wr.cell? ⟨w5.heap.size, 2, none⟩ = some (.slice aQ j cQ) := by simp [World.cell?, hR.blk]
                  have hres8 := (hR.kept _ (Nat.lt_trans hlt1 hlt1r) (Nat.ne_of_lt (Nat.lt_trans hlt1 hlt5))).trans hres7
                  obtain ⟨q0, q1, q2, f0, f1, f2⟩ := resAt hres8
                  have hEnd : Below w.heap.size w wr := ((hbW5.trans (hbe.mono hbW5.size)).trans (hlow2.mono hbW5.size)).trans (hR.low.mono hbW5.size)
                  have hNB := below3 hEnd (Nat.le_refl w.heap.size) (.string root) (.slice aP i cP) (.slice aQ j cQ)
                  have HFIN : Hid (EntNew (((wr.setCell ⟨w.heap.size, 0, none⟩ (.string root)).setCell ⟨w.heap.size, 1, none⟩ (.slice aP i cP)).setCell ⟨w.heap.size, 2, none⟩ (.slice aQ j cQ)) ⟨aP, cP, aQ, cQ⟩ ⟨root, i, fun i => wd ws (3 + 3 * i), fun i => nu ws (3 + 3 * i + 1), fun i => nu ws (3 + 3 * i + 2), j, fun j => nu ws (3 + 3 * p + 3 * j), fun j => nu ws (3 + 3 * p + 3 * j + 1), fun j => nu ws (3 + 3 * p + 3 * j + 2)⟩) := by
                    refine ⟨⟨?_, ?_⟩, ?_, ?_⟩
                    · rcases HROW with h | ⟨bk, hbk, ha, hc, C, hC⟩
                      · exact .inl h
                      · have hn1 : bk ≠ w5.heap.size := by omega
                        have hn2 : bk ≠ w.heap.size := by omega
                        exact .inr ⟨bk, 0, ha, fun k hk => ⟨by rw [Nat.zero_add]; exact cell_set3 (hR.cell (hc k hk 0 _ rfl) hn1) hn2 _ _ _, by rw [Nat.zero_add]; exact cell_set3 (hR.cell (hc k hk 1 _ rfl) hn1) hn2 _ _ _, by rw [Nat.zero_add]; exact cell_set3 (hR.cell (hc k hk 2 _ rfl) hn1) hn2 _ _ _⟩⟩
                    · rcases HROQ with h | ⟨bk, hbk, ha, hc, C, hC⟩
                      · exact .inl h
                      · have hn2 : bk ≠ w.heap.size := by omega
                        exact .inr ⟨bk, 0, ha, fun k hk => ⟨by rw [Nat.zero_add]; exact cell_set3 (hc k hk 0 _ rfl) hn2 _ _ _, by rw [Nat.zero_add]; exact cell_set3 (hc k hk 1 _ rfl) hn2 _ _ _, by rw [Nat.zero_add]; exact cell_set3 (hc k hk 2 _ rfl) hn2 _ _ _⟩⟩
                    · rcases HROW with h | ⟨bk, hbk, ha, hc, C, hC⟩
                      · exact .inl h
                      · have hn1 : bk ≠ w5.heap.size := by omega
                        have hn2 : bk ≠ w.heap.size := by omega
                        exact .inr ⟨bk, 0, C, ha, (heap_set3 hn2 _ _ _).trans ((hR.kept bk (Array.getElem?_eq_some_iff.1 hC).1 hn1).trans hC)⟩
                    · rcases HROQ with h | ⟨bk, hbk, ha, hc, C, hC⟩
                      · exact .inl h
                      · have hn2 : bk ≠ w.heap.size := by omega
                        exact .inr ⟨bk, 0, C, ha, (heap_set3 hn2 _ _ _).trans hC⟩
                  have HIS : Hid (readW ws = ⟨root, i, fun i => wd ws (3 + 3 * i), fun i => nu ws (3 + 3 * i + 1), fun i => nu ws (3 + 3 * i + 2), j, fun j => nu ws (3 + 3 * p + 3 * j), fun j => nu ws (3 + 3 * p + 3 * j + 1), fun j => nu ws (3 + 3 * p + 3 * j + 2)⟩) := by
                    rw [← HRT.out]
                    have hip := HIP.out
                    have hqq := HQQ.out
                    subst hip
                    subst hqq
                    exact readW_yes (by have := HL.out; omega) HMB.out HP.out HQ.out HL.out
                  clear HROW HROQ hres7 hres8 hR hR0
                  go_wp2
                  refine bodyPost_ret (v := .agg #[.string root, .slice aP i cP, .slice aQ j cQ]) (by simp [results, Tryz.results126, go_sem, q0, q1, q2]) rfl ?_
                  rw [HIS.out]
                  exact ⟨⟨aP, cP, aQ, cQ⟩, rfl, HFIN.out, hNB⟩
            · go_wp2
              generalize hL7 : 3 * (p + q) - 3 * p = L7 at *
              go_loopw [80] (fun y wr => ∃ (j : Nat) (v : Value), j ≤ q ∧ y = .int .i64 j ∧ Rd 167 (fun v => #[.string root, .slice aP i cP, v]) W7 wr w5.heap.size (fun j => [.int .i64 (nu ws (3 + 3 * p + 3 * j)), .int .i64 (nu ws (3 + 3 * p + 3 * j + 1)), .int .i64 (nu ws (3 + 3 * p + 3 * j + 2))]) j v) (fun y _ => q - (intOf y).toNat)
              case atStart => exact ⟨0, _, Nat.zero_le _, rfl, hR0⟩
              case round =>
                obtain ⟨j, v, hj, rfl, hR⟩ := hrel
                by_cases hlt : j < q
                · have hWj := hR.words hWr (Nat.ne_of_lt hlt5)
                  have hEj := hE5.later ((hbe.trans hlow2).trans hR.low)
                  have x0 := hWj.at_ (3 + 3 * p + 3 * j) (by omega)
                  have x1 := hWj.at_ (3 + 3 * p + 3 * j + 1) (by omega)
                  have x2 := hWj.at_ (3 + 3 * p + 3 * j + 2) (by omega)
                  have z0 := hsz (3 + 3 * p + 3 * j)
                  have z1 := hsz (3 + 3 * p + 3 * j + 1)
                  have z2 := hsz (3 + 3 * p + 3 * j + 2)
                  have HV : Hid ([.int .i64 (numF (wd ws (3 + 3 * p + 3 * j)).data.toList), .int .i64 (numF (wd ws (3 + 3 * p + 3 * j + 1)).data.toList), .int .i64 (numF (wd ws (3 + 3 * p + 3 * j + 2)).data.toList)] = (fun j => [Value.int .i64 (nu ws (3 + 3 * p + 3 * j)), .int .i64 (nu ws (3 + 3 * p + 3 * j + 1)), .int .i64 (nu ws (3 + 3 * p + 3 * j + 2))]) j) := rfl
                  have j0 : (0 : Int) ≤ 3 * (j : Int) := by omega
                  have j1 : 3 * (j : Int) ≤ (L7 : Int) := by omega
                  have j2 : 3 * j ≤ L7 := by omega
                  have j3 : ¬ cap - 3 - 3 * p = 3 * j := by omega
                  have j4 : L7 ≤ cap - 3 - 3 * p := by omega
                  generalize ha : wd ws (3 + 3 * p + 3 * j) = a at *
                  generalize hb : wd ws (3 + 3 * p + 3 * j + 1) = b at *
                  generalize hc : wd ws (3 + 3 * p + 3 * j + 2) = c at *
                  clear ha hb hc hWj hR0 hsz
                  obtain ⟨av, cv, rfl, _⟩ := owns_shape hR.own
                  have hC : wr.cell? ⟨w5.heap.size, 2, none⟩ = some (.slice av j cv) := by simp [World.cell?, hR.blk]
                  have k0 : (0 : Int) < ((L7 - 3 * j : Nat) : Int) := by omega
                  have k1 : (1 : Int) < ((L7 - 3 * j : Nat) : Int) := by omega
                  have k2 : (2 : Int) < ((L7 - 3 * j : Nat) : Int) := by omega
                  clear hL7 HROW
                  go_wp2
                  generalize hL : L7 - 3 * j = L at *
                  have k4 : 0 < L := by omega
                  have k5 : L ≠ 0 := by omega
                  clear hL
                  have hSS : (fun w' : World => w'.cell? ⟨w5.heap.size, 2, none⟩ = some (.slice av j cv) ∧ w'.cell? ⟨w1.heap.size, 3 + 3 * p + 3 * j, none⟩ = some (.string a) ∧ w'.cell? ⟨w1.heap.size, 3 + 3 * p + 3 * j + 1, none⟩ = some (.string b) ∧ w'.cell? ⟨w1.heap.size, 3 + 3 * p + 3 * j + 2, none⟩ = some (.string c)) wr.drew := ⟨hC, x0, x1, x2⟩
                  refine wp_region_G (fun w' : World => w'.cell? ⟨w5.heap.size, 2, none⟩ = some (.slice av j cv) ∧ w'.cell? ⟨w1.heap.size, 3 + 3 * p + 3 * j, none⟩ = some (.string a) ∧ w'.cell? ⟨w1.heap.size, 3 + 3 * p + 3 * j + 1, none⟩ = some (.string b) ∧ w'.cell? ⟨w1.heap.size, 3 + 3 * p + 3 * j + 2, none⟩ = some (.string c)) 16 19 (by kernel_rfl) rfl ?_
                  refine takeW 0 (v := ?v21) rfl (by kernel_rfl) (by kernel_rfl) (by kernel_rfl) (by kernel_rfl) (fun _ _ _ h => h) (.inr hSS) (.inl ⟨by rfl, fun w => ?hy21⟩) ?rest21
                  case hy21 => (go_simp <;> with_reducible rfl)
                  simp only [Go.Act.put, List.setIfInBounds_toArray, List.set_cons_zero, List.set_cons_succ]
                  refine takeW 2 (v := ?v22) rfl (by kernel_rfl) (by kernel_rfl) (by kernel_rfl) (by kernel_rfl) (fun _ _ _ h => h) (.inr hSS) (.inl ⟨by rfl, fun w => ?hy22⟩) ?rest22
                  case hy22 => (go_simp <;> with_reducible rfl)
                  simp only [Go.Act.put, List.setIfInBounds_toArray, List.set_cons_zero, List.set_cons_succ]
                  refine takeW 3 (v := ?v23) rfl (by kernel_rfl) (by kernel_rfl) (by kernel_rfl) (by kernel_rfl) (fun _ _ _ h => h) (.inr hSS) (.inl ⟨by rfl, fun w => ?hy23⟩) ?rest23
                  case hy23 => (go_simp <;> with_reducible rfl)
                  simp only [Go.Act.put, List.setIfInBounds_toArray, List.set_cons_zero, List.set_cons_succ]
                  refine takeW 6 (v := ?v24) rfl (by kernel_rfl) (by kernel_rfl) (by kernel_rfl) (by kernel_rfl) (fun _ _ _ h => h) (.inr hSS) (.inl ⟨by rfl, fun w => ?hy24⟩) ?rest24
                  case hy24 => (go_simp <;> with_reducible rfl)
                  simp only [Go.Act.put, List.setIfInBounds_toArray, List.set_cons_zero, List.set_cons_succ]
                  refine takeW 7 (v := ?v25) rfl (by kernel_rfl) (by kernel_rfl) (by kernel_rfl) (by kernel_rfl) (fun _ _ _ h => h) (.inr hSS) (.inl ⟨by rfl, fun w => ?hy25⟩) ?rest25
                  case hy25 => (go_simp <;> with_reducible rfl)
                  simp only [Go.Act.put, List.setIfInBounds_toArray, List.set_cons_zero, List.set_cons_succ]
                  refine takeW 10 (v := ?v26) rfl (by kernel_rfl) (by kernel_rfl) (by kernel_rfl) (by kernel_rfl) (fun _ _ _ h => h) (.inr hSS) (.inl ⟨by rfl, fun w => ?hy26⟩) ?rest26
                  case hy26 => (go_simp <;> with_reducible rfl)
                  simp only [Go.Act.put, List.setIfInBounds_toArray, List.set_cons_zero, List.set_cons_succ]
                  refine takeW 11 (v := ?v27) rfl (by kernel_rfl) (by kernel_rfl) (by kernel_rfl) (by kernel_rfl) (fun _ _ _ h => h) (.inr hSS) (.inl ⟨by rfl, fun w => ?hy27⟩) ?rest27
                  case hy27 => (go_simp <;> with_reducible rfl)
                  simp only [Go.Act.put, List.setIfInBounds_toArray, List.set_cons_zero, List.set_cons_succ]
                  refine takeR 1 [] (v := ?v28) rfl (by kernel_rfl) (by kernel_rfl) (by kernel_rfl) (by kernel_rfl) (by kernel_rfl) (fun _ _ _ h => h) hSS (.inl ⟨by rfl, fun w hSw => ?hy28⟩) ?rest28
                  case hy28 => ((try dsimp only at hSw); go_simp <;> with_reducible rfl)
                  simp only [Go.Act.put, List.setIfInBounds_toArray, List.set_cons_zero, List.set_cons_succ]
                  refine takeR 4 [13, 9, 5] (v := ?v29) rfl (by kernel_rfl) (by kernel_rfl) (by kernel_rfl) (by kernel_rfl) (by kernel_rfl) (fun _ _ _ h => h) hSS (.inl ⟨by rfl, fun w hSw => ?hy29⟩) ?rest29
                  case hy29 => ((try dsimp only at hSw); go_simp <;> with_reducible rfl)
                  simp only [Go.Act.put, List.setIfInBounds_toArray, List.set_cons_zero, List.set_cons_succ]
                  refine takeR 8 [13, 9] (v := ?v30) rfl (by kernel_rfl) (by kernel_rfl) (by kernel_rfl) (by kernel_rfl) (by kernel_rfl) (fun _ _ _ h => h) hSS (.inl ⟨by rfl, fun w hSw => ?hy30⟩) ?rest30
                  case hy30 => ((try dsimp only at hSw); go_simp <;> with_reducible rfl)
                  simp only [Go.Act.put, List.setIfInBounds_toArray, List.set_cons_zero, List.set_cons_succ]
                  refine takeR 12 [13] (v := ?v31) rfl (by kernel_rfl) (by kernel_rfl) (by kernel_rfl) (by kernel_rfl) (by kernel_rfl) (fun _ _ _ h => h) hSS (.inl ⟨by rfl, fun w hSw => ?hy31⟩) ?rest31
                  case hy31 => ((try dsimp only at hSw); go_simp <;> with_reducible rfl)
                  simp only [Go.Act.put, List.setIfInBounds_toArray, List.set_cons_zero, List.set_cons_succ]
                  refine onlyG 5 rfl (by kernel_rfl) (fun K hK => ?_)
                  go_wp2_with fail
                  refine (show Calls _ _ _ _ _ from entNumber_any a wr.drew hEj.drew z0).mono ?_
                  rintro e w7 ⟨rfl, hb7⟩
                  replace hb7 := below_undrew hb7
                  have hE7 := hEj.later hb7
                  have hR7 := hR.later hb7
                  clear hSS
                  have hSS : (fun w' : World => w'.cell? ⟨w5.heap.size, 2, none⟩ = some (.slice av j cv) ∧ w'.cell? ⟨w1.heap.size, 3 + 3 * p + 3 * j, none⟩ = some (.string a) ∧ w'.cell? ⟨w1.heap.size, 3 + 3 * p + 3 * j + 1, none⟩ = some (.string b) ∧ w'.cell? ⟨w1.heap.size, 3 + 3 * p + 3 * j + 2, none⟩ = some (.string c)) w7 := ⟨cell_later hb7 hC, cell_later hb7 x0, cell_later hb7 x1, cell_later hb7 x2⟩
                  go_wp2_with fail
                  refine hK _ _ hSS ?_
                  clear hK hb7 hC x0 x1 x2
                  refine onlyG 9 rfl (by kernel_rfl) (fun K hK => ?_)
                  go_wp2_with fail
                  refine (show Calls _ _ _ _ _ from entNumber_any b w7 hE7 z1).mono ?_
                  rintro e w8 ⟨rfl, hb8⟩
                  have hE8 := hE7.later hb8
                  have hR8 := hR7.later hb8
                  have hSS' := hSS
                  clear hSS
                  have hSS : (fun w' : World => w'.cell? ⟨w5.heap.size, 2, none⟩ = some (.slice av j cv) ∧ w'.cell? ⟨w1.heap.size, 3 + 3 * p + 3 * j, none⟩ = some (.string a) ∧ w'.cell? ⟨w1.heap.size, 3 + 3 * p + 3 * j + 1, none⟩ = some (.string b) ∧ w'.cell? ⟨w1.heap.size, 3 + 3 * p + 3 * j + 2, none⟩ = some (.string c)) w8 := ⟨cell_later hb8 hSS'.1, cell_later hb8 hSS'.2.1, cell_later hb8 hSS'.2.2.1, cell_later hb8 hSS'.2.2.2⟩
                  clear hSS'
                  go_wp2_with fail
                  refine hK _ _ hSS ?_
                  clear hK hb8
                  refine onlyG 13 rfl (by kernel_rfl) (fun K hK => ?_)
                  go_wp2_with fail
                  refine (show Calls _ _ _ _ _ from entNumber_any c w8 hE8 z2).mono ?_
                  rintro e w9 ⟨rfl, hb9⟩
                  have hR9 := hR8.later hb9
                  have hSS' := hSS
                  clear hSS
                  have hSS : (fun w' : World => w'.cell? ⟨w5.heap.size, 2, none⟩ = some (.slice av j cv) ∧ w'.cell? ⟨w1.heap.size, 3 + 3 * p + 3 * j, none⟩ = some (.string a) ∧ w'.cell? ⟨w1.heap.size, 3 + 3 * p + 3 * j + 1, none⟩ = some (.string b) ∧ w'.cell? ⟨w1.heap.size, 3 + 3 * p + 3 * j + 2, none⟩ = some (.string c)) w9 := ⟨cell_later hb9 hSS'.1, cell_later hb9 hSS'.2.1, cell_later hb9 hSS'.2.2.1, cell_later hb9 hSS'.2.2.2⟩
                  clear hSS'
                  go_wp2_with fail
                  refine hK _ _ hSS ?_
                  clear hK hb9
                  refine takeW 14 (v := ?v35) rfl (by kernel_rfl) (by kernel_rfl) (by kernel_rfl) (by kernel_rfl) (fun _ _ _ h => h) (.inr hSS) (.inl ⟨by rfl, fun w => ?hy35⟩) ?rest35
                  case hy35 => (go_simp <;> with_reducible rfl)
                  simp only [Go.Act.put, List.setIfInBounds_toArray, List.set_cons_zero, List.set_cons_succ]
                  refine onlyG 15 rfl (by kernel_rfl) (fun K hK => ?_)
                  go_wp2_with fail
                  refine hK _ _ ⟨cell_later ((Below.refl _ _).alloc (Nat.le_refl _) _) hSS.1, cell_later ((Below.refl _ _).alloc (Nat.le_refl _) _) hSS.2.1, cell_later ((Below.refl _ _).alloc (Nat.le_refl _) _) hSS.2.2.1, cell_later ((Below.refl _ _).alloc (Nat.le_refl _) _) hSS.2.2.2⟩ ?_
                  clear hK
                  obtain ⟨v9, W9, happ, hG⟩ := growI3 (numF a.data.toList) (numF b.data.toList) (numF c.data.toList) hR9.low.size hR9.own (by omega)
                  rw [HV.out] at hG
                  obtain ⟨g1, g2, hbG, hRn⟩ := hR9.put (i := 2) _ hG rfl rfl
                  obtain ⟨a9, c9, rfl, _⟩ := owns_shape hRn.own
                  clear hG hbG hSS
                  refine lastG 16 rfl (by kernel_rfl) (by kernel_rfl) (fun K hK => ?_)
                  go_wp2_with (at_builtin; refine list_run rfl (.tmp 88) (.tmp 102) 60 rfl _ _ _ rfl rfl happ ?_)
                  refine hK _ _ ?_
                  clear hK
                  refine takeW 17 (v := ?v38) rfl (by kernel_rfl) (by kernel_rfl) (by kernel_rfl) (by kernel_rfl) (fun _ _ _ h => h) (.inl (by kernel_rfl)) (.inl ⟨by rfl, fun w => ?hy38⟩) ?rest38
                  case hy38 => (go_simp <;> with_reducible rfl)
                  simp only [Go.Act.put, List.setIfInBounds_toArray, List.set_cons_zero, List.set_cons_succ]
                  refine lastG 18 rfl (by kernel_rfl) (by kernel_rfl) (fun K hK => ?_)
                  go_wp2_with fail
                  refine hK _ _ ?_
                  clear hK
                  refine doneG (by kernel_rfl) ?_ _
                  go_wp2
                  go_roundw
                  case rel => exact ⟨j + 1, _, by omega, by go_num, hRn⟩
                  case measure => simp [intOf]; omega
                · have HQQ : Hid (j = q) := (by omega : j = q)
                  obtain ⟨aQ, cQ, rfl, HROQ⟩ := rows3 (fun _ => rfl) hR.own
                  have d0 : wr.cell? ⟨w5.heap.size, 0, none⟩ = some (.string root) := by simp [World.cell?, hR.blk]
                  have d1 : wr.cell? ⟨w5.heap.size, 1, none⟩ = some (.slice aP i cP) := by simp [World.cell?, hR.blk]
                  have d2 : wr.cell? ⟨w5.heap.size, 2, none⟩ = some (.slice aQ j cQ) := by simp [World.cell?, hR.blk]
                  have hres8 := (hR.kept _ (Nat.lt_trans hlt1 hlt1r) (Nat.ne_of_lt (Nat.lt_trans hlt1 hlt5))).trans hres7
                  obtain ⟨q0, q1, q2, f0, f1, f2⟩ := resAt hres8
                  have hEnd : Below w.heap.size w wr := ((hbW5.trans (hbe.mono hbW5.size)).trans (hlow2.mono hbW5.size)).trans (hR.low.mono hbW5.size)
                  have hNB := below3 hEnd (Nat.le_refl w.heap.size) (.string root) (.slice aP i cP) (.slice aQ j cQ)
                  have HFIN : Hid (EntNew (((wr.setCell ⟨w.heap.size, 0, none⟩ (.string root)).setCell ⟨w.heap.size, 1, none⟩ (.slice aP i cP)).setCell ⟨w.heap.size, 2, none⟩ (.slice aQ j cQ)) ⟨aP, cP, aQ, cQ⟩ ⟨root, i, fun i => wd ws (3 + 3 * i), fun i => nu ws (3 + 3 * i + 1), fun i => nu ws (3 + 3 * i + 2), j, fun j => nu ws (3 + 3 * p + 3 * j), fun j => nu ws (3 + 3 * p + 3 * j + 1), fun j => nu ws (3 + 3 * p + 3 * j + 2)⟩) := by
                    refine ⟨⟨?_, ?_⟩, ?_, ?_⟩
                    · rcases HROW with h | ⟨bk, hbk, ha, hc, C, hC⟩
                      · exact .inl h
                      · have hn1 : bk ≠ w5.heap.size := by omega
                        have hn2 : bk ≠ w.heap.size := by omega
                        exact .inr ⟨bk, 0, ha, fun k hk => ⟨by rw [Nat.zero_add]; exact cell_set3 (hR.cell (hc k hk 0 _ rfl) hn1) hn2 _ _ _, by rw [Nat.zero_add]; exact cell_set3 (hR.cell (hc k hk 1 _ rfl) hn1) hn2 _ _ _, by rw [Nat.zero_add]; exact cell_set3 (hR.cell (hc k hk 2 _ rfl) hn1) hn2 _ _ _⟩⟩
                    · rcases HROQ with h | ⟨bk, hbk, ha, hc, C, hC⟩
                      · exact .inl h
                      · have hn2 : bk ≠ w.heap.size := by omega
                        exact .inr ⟨bk, 0, ha, fun k hk => ⟨by rw [Nat.zero_add]; exact cell_set3 (hc k hk 0 _ rfl) hn2 _ _ _, by rw [Nat.zero_add]; exact cell_set3 (hc k hk 1 _ rfl) hn2 _ _ _, by rw [Nat.zero_add]; exact cell_set3 (hc k hk 2 _ rfl) hn2 _ _ _⟩⟩
                    · rcases HROW with h | ⟨bk, hbk, ha, hc, C, hC⟩
                      · exact .inl h
                      · have hn1 : bk ≠ w5.heap.size := by omega
                        have hn2 : bk ≠ w.heap.size := by omega
                        exact .inr ⟨bk, 0, C, ha, (heap_set3 hn2 _ _ _).trans ((hR.kept bk (Array.getElem?_eq_some_iff.1 hC).1 hn1).trans hC)⟩
                    · rcases HROQ with h | ⟨bk, hbk, ha, hc, C, hC⟩
                      · exact .inl h
                      · have hn2 : bk ≠ w.heap.size := by omega
                        exact .inr ⟨bk, 0, C, ha, (heap_set3 hn2 _ _ _).trans hC⟩
                  have HIS : Hid (readW ws = ⟨root, i, fun i => wd ws (3 + 3 * i), fun i => nu ws (3 + 3 * i + 1), fun i => nu ws (3 + 3 * i + 2), j, fun j => nu ws (3 + 3 * p + 3 * j), fun j => nu ws (3 + 3 * p + 3 * j + 1), fun j => nu ws (3 + 3 * p + 3 * j + 2)⟩) := by
                    rw [← HRT.out]
                    have hip := HIP.out
                    have hqq := HQQ.out
                    subst hip
                    subst hqq
                    exact readW_yes (by have := HL.out; omega) HMB.out HP.out HQ.out HL.out
                  clear HROW HROQ hres7 hres8 hR hR0
                  go_wp2
                  refine bodyPost_ret (v := .agg #[.string root, .slice aP i cP, .slice aQ j cQ]) (by simp [results, Tryz.results126, go_sem, q0, q1, q2]) rfl ?_
                  rw [HIS.out]
                  exact ⟨⟨aP, cP, aQ, cQ⟩, rfl, HFIN.out, hNB⟩
      · have HR : Hid (readW ws = emptyE) := readW_no (fun h => by have := h.2.2; rw [HP.out, HQ.out] at this; exact hsum this)
        go_wp2_with fail
        refine HM.mono ?_
        rintro e w4 ⟨rfl, rfl⟩
        clear HM
        have hresX := hres3
        clear hres3
        obtain ⟨q0, q1, q2, f0, f1, f2⟩ := resAt hresX
        have hNB := below3 hb3 (Nat.le_refl w.heap.size) (.string ⟨#[]⟩) (.slice none 0 0) (.slice none 0 0)
        clear hres hresX
        go_wp2
        refine bodyPost_ret (v := .agg #[.string ⟨#[]⟩, .slice none 0 0, .slice none 0 0]) (by simp [results, Tryz.results126, go_sem, q0, q1, q2]) rfl ?_
        rw [HR.out]
        exact ⟨⟨none, 0, none, 0⟩, rfl, empty_new _, hNB⟩
    · have HR : Hid (readW ws = emptyE) := readW_no (fun h => by have := h.2.1; rw [HP.out, HQ.out] at this; exact hm this)
      have hm2 : mayBeB P Q = false := by simpa using hm
      rw [hm2] at HM
      clear hm hm2
      go_wp2_with fail
      refine HM.mono ?_
      rintro e w4 ⟨rfl, rfl⟩
      clear HM
      have hresX := hres3
      clear hres3
      obtain ⟨q0, q1, q2, f0, f1, f2⟩ := resAt hresX
      have hNB := below3 hb3 (Nat.le_refl w.heap.size) (.string ⟨#[]⟩) (.slice none 0 0) (.slice none 0 0)
      clear hres hresX
      go_wp2
      refine bodyPost_ret (v := .agg #[.string ⟨#[]⟩, .slice none 0 0, .slice none 0 0]) (by simp [results, Tryz.results126, go_sem, q0, q1, q2]) rfl ?_
      rw [HR.out]
      exact ⟨⟨none, 0, none, 0⟩, rfl, empty_new _, hNB⟩
end Go.Proofs.YtidabcoodolddaaGreatDoor

namespace Go.Proofs.YtidabcoodolddaaGreatDoor
open Go.RowKit

theorem readE_fit (s : ByteArray) (hs : s.size ≤ 1000000) : EntFit (readE s) := by
  have hsz := fun i => Nat.le_trans (wd_size s i) hs
  unfold readE readW
  split
  · rename_i h
    have hm : 1 ≤ nu (wordsE s) 1 ∧ nu (wordsE s) 1 ≤ 6 ∧ 0 ≤ nu (wordsE s) 2 ∧ nu (wordsE s) 2 ≤ 36 := by
      have := h.2.1
      unfold mayBeB at this
      simpa using this
    refine ⟨?_, ?_, ?_, fun i _ => ?_⟩
    · show (wd (wordsE s) 0).size ≤ maxLen
      have := hsz 0; unfold maxLen; omega
    · show (nu (wordsE s) 1).toNat ≤ maxLen
      unfold maxLen; omega
    · show (nu (wordsE s) 2).toNat ≤ maxLen
      unfold maxLen; omega
    · show (wd (wordsE s) _).size ≤ maxLen
      have := hsz (3 + 3 * i); unfold maxLen; omega
  · exact ⟨by decide, by decide, by decide, fun i h => absurd h (Nat.not_lt_zero _)⟩

theorem bytes_ne {T s : ByteArray} (h : T ≠ s) : (T.toList == s.toList) = false := by
  rw [beq_eq_false_iff_ne]
  intro h2
  apply h
  exact WideShapes.bytes_inj (by rwa [ByteArray.toList_eq, ByteArray.toList_eq] at h2)

/-- in the box of a result there is no number. -/
theorem box_no_int {w : World} {g : Nat} (h : w.heap[g]? = some (.cells #[.string ⟨#[]⟩, .slice none 0 0, .slice none 0 0] 62 (0, 0))) (o : Nat) (k : Int) : w.cell? ⟨g, o, none⟩ ≠ some (.int .i64 k) := by
  intro hc
  match o, hc with
  | 0, hc => simp [World.cell?, h] at hc
  | 1, hc => simp [World.cell?, h] at hc
  | 2, hc => simp [World.cell?, h] at hc
  | o + 3, hc => simp [World.cell?, h] at hc
theorem entAt_set3 {w : World} {g : Nat} {v : EntV} {en : EntF} (hA : EntAt w v en) (h : w.heap[g]? = some (.cells #[.string ⟨#[]⟩, .slice none 0 0, .slice none 0 0] 62 (0, 0))) (a0 a1 a2 : Value) : EntAt (((w.setCell ⟨g, 0, none⟩ a0).setCell ⟨g, 1, none⟩ a1).setCell ⟨g, 2, none⟩ a2) v en := by
  refine ⟨?_, ?_⟩
  · rcases hA.parts with h0 | ⟨bk, o, ha, hc⟩
    · exact .inl h0
    · refine .inr ⟨bk, o, ha, fun i hi => ?_⟩
      obtain ⟨h0, h1, h2⟩ := hc i hi
      have hne : bk ≠ g := fun e => box_no_int h _ _ (e ▸ h1)
      exact ⟨cell_set3 h0 hne _ _ _, cell_set3 h1 hne _ _ _, cell_set3 h2 hne _ _ _⟩
  · rcases hA.pats with h0 | ⟨bk, o, ha, hc⟩
    · exact .inl h0
    · refine .inr ⟨bk, o, ha, fun i hi => ?_⟩
      obtain ⟨h0, h1, h2⟩ := hc i hi
      have hne : bk ≠ g := fun e => box_no_int h _ _ (e ▸ h1)
      exact ⟨cell_set3 h0 hne _ _ _, cell_set3 h1 hne _ _ _, cell_set3 h2 hne _ _ _⟩
theorem entNew_set3 {w : World} {g : Nat} {v : EntV} {en : EntF} (hA : EntNew w v en) (h : w.heap[g]? = some (.cells #[.string ⟨#[]⟩, .slice none 0 0, .slice none 0 0] 62 (0, 0))) (a0 a1 a2 : Value) : EntNew (((w.setCell ⟨g, 0, none⟩ a0).setCell ⟨g, 1, none⟩ a1).setCell ⟨g, 2, none⟩ a2) v en := by
  have key : ∀ {bk : Nat} {C : Array Value} {t : TypeId}, t ≠ 62 → w.heap[bk]? = some (.cells C t (0, 0)) → (((w.setCell ⟨g, 0, none⟩ a0).setCell ⟨g, 1, none⟩ a1).setCell ⟨g, 2, none⟩ a2).heap[bk]? = some (.cells C t (0, 0)) := fun {bk C t} ht hC => by
    have hne : bk ≠ g := fun e => by
      subst e
      rw [h] at hC
      injection hC with hC
      injection hC with _ h2 _
      exact ht h2.symm
    exact (heap_set3 hne _ _ _).trans hC
  exact ⟨entAt_set3 hA.here h _ _ _, hA.tP.imp id fun ⟨bk, o, C, ha, hC⟩ => ⟨bk, o, C, ha, key (by decide) hC⟩, hA.tQ.imp id fun ⟨bk, o, C, ha, hC⟩ => ⟨bk, o, C, ha, key (by decide) hC⟩⟩
set_option maxRecDepth 100000 in
set_option maxHeartbeats 4000000 in
theorem entParse_new (s : ByteArray) (w : World) (hE : Env w) (hs : s.size ≤ 1000000) :
    Calls Tryz.prog 98 #[.string s] w fun e w' => ∃ v, e = .returned (.tuple #[.agg (entCs v (parseE s).2), errV (parseE s).1]) ∧ EntNew w' v (parseE s).2 ∧ Below w.heap.size w w' := by
  have hb0 : Below w.heap.size w (w.alloc (.cells #[.string ⟨#[]⟩, .slice none 0 0, .slice none 0 0] 62)) := (Below.refl _ _).alloc (Nat.le_refl _) _
  have hres : (w.alloc (.cells #[.string ⟨#[]⟩, .slice none 0 0, .slice none 0 0] 62)).heap[w.heap.size]? = some (.cells #[.string ⟨#[]⟩, .slice none 0 0, .slice none 0 0] 62 (0, 0)) := Array.getElem?_push_size
  have hz0 : w.heap.size < (w.alloc (.cells #[.string ⟨#[]⟩, .slice none 0 0, .slice none 0 0] 62)).heap.size := by simp
  have hE0 := hE.later hb0
  have HF := readE_fit s hs
  have HPA : Hid (parseE s = if (textE (readE s)).1 = 0 ∧ (textE (readE s)).2 = s.data.toList then (0, readE s) else (4, emptyE)) := rfl
  have HR := entRead_any s _ hE0 hs
  generalize hW : w.alloc (.cells #[.string ⟨#[]⟩, .slice none 0 0, .slice none 0 0] 62) = W0 at *
  generalize readE s = en at *
  go_enter Tryz.func98, Tryz.ntmps98
  go_wp2_with fail
  refine (show Calls _ _ _ _ _ from HR).mono ?_
  rintro e w1 ⟨v, rfl, hA1, hb1⟩
  clear HR
  have hbe : Below w1.heap.size w1 (w1.alloc (.cells (entCs v en) 62)) := (Below.refl _ _).alloc (Nat.le_refl _) _
  have HT := entText_any v en _ (hA1.here.later hbe) HF ((hE0.later hb1).later hbe)
  have hres1 := (hb1.block _ hz0).trans hres
  have hlt1 : w.heap.size < w1.heap.size := Nat.lt_of_lt_of_le hz0 hb1.size
  have c0 : (w1.alloc (.cells (entCs v en) 62)).cell? ⟨w1.heap.size, 0, none⟩ = some (.string en.root) := by simp [go_sem]
  have c1 : (w1.alloc (.cells (entCs v en) 62)).cell? ⟨w1.heap.size, 1, none⟩ = some (.slice v.aP en.nP v.cP) := by simp [go_sem]
  have c2 : (w1.alloc (.cells (entCs v en) 62)).cell? ⟨w1.heap.size, 2, none⟩ = some (.slice v.aQ en.nQ v.cQ) := by simp [go_sem]
  have hA2 := hA1.later hbe
  have hbA := (hb0.trans (hb1.mono hb0.size)).trans (hbe.mono (Nat.le_of_lt hlt1))
  have hres2 := (hbe.block _ hlt1).trans hres1
  have hlt2 : w.heap.size < (w1.alloc (.cells (entCs v en) 62)).heap.size := by simp; omega
  clear hres hres1 hA1 hb1 hb0 hE0 hE hz0 hs
  go_wp2_with fail
  refine (show Calls _ _ _ _ _ from HT).mono ?_
  rintro e w3 ⟨rfl, hb3⟩
  clear HT
  have hres3 := (hb3.block _ hlt2).trans hres2
  have hb4 := hbA.trans (hb3.mono hbA.size)
  have hA3 := hA2.later hb3
  have d0 := cell_later hb3 c0
  have d1 := cell_later hb3 c1
  have d2 := cell_later hb3 c2
  obtain ⟨q0, q1, q2, f0, f1, f2⟩ := resAt hres3
  clear c0 c1 c2 hA2 hbA hres2 hbe hlt2 hb3
  have hFin := entNew_set3 hA3 hres3
  generalize hTX : (textE en).1 = F at *
  generalize hTL : (textE en).2 = L at *
  clear hres3 hA3
  by_cases h1 : F = 0
  · subst h1
    by_cases h2 : L = s.data.toList
    · have HIS : Hid (parseE s = (0, en)) := by rw [HPA.out, if_pos ⟨rfl, h2⟩]; exact rfl
      have hTs : (⟨L.toArray⟩ : ByteArray) = s := by rw [h2]
      rw [hTs]
      have hse : (s.toList != s.toList) = false := by simp
      have hNB := below3 hb4 (Nat.le_refl w.heap.size) (.string en.root) (.slice v.aP en.nP v.cP) (.slice v.aQ en.nQ v.cQ)
      have hFN := hFin (.string en.root) (.slice v.aP en.nP v.cP) (.slice v.aQ en.nQ v.cQ)
      clear hTs h2 HPA hTX hTL hFin
      simp only [errV]
      go_wp2
      refine bodyPost_ret (v := .tuple #[.agg #[.string en.root, .slice v.aP en.nP v.cP, .slice v.aQ en.nQ v.cQ], .nilIface]) (by simp [results, Tryz.results98, go_sem, q0, q1, q2]) rfl ?_
      rw [HIS.out]
      exact ⟨v, rfl, hFN, hNB⟩
    · have HIS : Hid (parseE s = (4, emptyE)) := by rw [HPA.out, if_neg (fun h => h2 h.2)]; exact rfl
      have hne := bytes_ne (T := ⟨L.toArray⟩) (s := s) (fun h => h2 (by rw [← h]))
      have hNB := below3 hb4 (Nat.le_refl w.heap.size) (.string ⟨#[]⟩) (.slice none 0 0) (.slice none 0 0)
      clear h2 HPA hTX hTL hFin
      generalize (⟨L.toArray⟩ : ByteArray) = T at *
      simp only [errV]
      go_wp2
      refine bodyPost_ret (v := .tuple #[.agg #[.string ⟨#[]⟩, .slice none 0 0, .slice none 0 0], .iface 82 (.int .i64 4)]) (by simp [results, Tryz.results98, go_sem, q0, q1, q2]) rfl ?_
      rw [HIS.out]
      exact ⟨⟨none, 0, none, 0⟩, rfl, empty_new _, hNB⟩
  · have HIS : Hid (parseE s = (4, emptyE)) := by rw [HPA.out, if_neg (fun h => h1 h.1)]; exact rfl
    obtain ⟨f, rfl⟩ : ∃ f, F = f + 1 := ⟨F - 1, by omega⟩
    have hNB := below3 hb4 (Nat.le_refl w.heap.size) (.string ⟨#[]⟩) (.slice none 0 0) (.slice none 0 0)
    clear h1 HPA hTX hTL hFin
    simp only [errV]
    generalize (((f + 1 : Nat) : Int)) = K at *
    go_wp2
    refine bodyPost_ret (v := .tuple #[.agg #[.string ⟨#[]⟩, .slice none 0 0, .slice none 0 0], .iface 82 (.int .i64 4)]) (by simp [results, Tryz.results98, go_sem, q0, q1, q2]) rfl ?_
    rw [HIS.out]
    exact ⟨⟨none, 0, none, 0⟩, rfl, empty_new _, hNB⟩
end Go.Proofs.YtidabcoodolddaaGreatDoor
