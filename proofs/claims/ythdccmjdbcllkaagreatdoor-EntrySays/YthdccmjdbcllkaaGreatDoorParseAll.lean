/-
  What read returns, for every text: what is read of it, line by line; memory that was there stays as it was.
  What Text returns, for every object: its fault, or its text; memory that was there stays as it was.
  What Parse returns, for every text: what is read of it if that has this text, else a fault; memory that was there stays as it was.
-/
import Derived.Test.YthdccmjdbcllkaaGreatDoorPlainRead
import Derived.Test.YthdccmjdbcllkaaGreatDoorTextWalk
namespace Go.Proofs.YthdccmjdbcllkaaGreatDoor
open Go.RowKit

/-- one of a row's own: where it lies. -/
theorem own_at {w : World} {B s n : Nat} {e : TypeId} {v : Value} {g : Nat → List Value} (h : w.ownsRow B e s v n (catV g n)) (hg : ∀ i, i < n → (g i).length = s) :
    ∃ (a : Option Addr) (cap : Nat), v = .slice a n cap ∧ n ≤ cap ∧ (n = 0 ∨ ∃ b, a = some ⟨b, 0, none⟩ ∧ ∀ i, i < n → ∀ j, j < s → w.cell? ⟨b, 0 + i * s + j, none⟩ = (g i)[j]?) := by
  obtain ⟨hl, hv⟩ := h
  rcases hv with ⟨rfl, rfl⟩ | ⟨b, cap, cur, rfl, _, hb, hc, _, hsz, ht⟩
  · exact ⟨none, 0, rfl, Nat.le_refl _, .inl rfl⟩
  · refine ⟨_, cap, rfl, hc, .inr ⟨b, rfl, fun i hi j hj => ?_⟩⟩
    have hlt : i * s + j < n * s := by
      have h1 : (i + 1) * s ≤ n * s := Nat.mul_le_mul_right s (by omega)
      rw [Nat.add_mul] at h1
      omega
    have h1 : cur[i * s + j]? = (g i)[j]? := by
      rw [← catV_at hg hi hj, ← ht, List.getElem?_take, if_pos hlt, Array.getElem?_toList]
    rw [← h1]
    simp [World.cell?, hb]
theorem Reading.objAt {B bo : Nat} {w : World} {vN vW vS vT : Value} {o : ObjF} (h : Reading B w bo vN vW vS vT o) : ∃ v : ObjV, #[vN, vW, vS, vT] = v.cells o ∧ ObjAt w v o := by
  obtain ⟨aN, cN, rfl, lN, hN⟩ := own_at h.needs (fun _ _ => rfl)
  obtain ⟨aW, cW, rfl, lW, hW⟩ := own_at h.words (fun _ _ => rfl)
  obtain ⟨aS, cS, rfl, lS, hS⟩ := own_at h.syms (fun _ _ => rfl)
  obtain ⟨aT, cT, rfl, lT, hT⟩ := own_at h.ties (fun _ _ => rfl)
  refine ⟨⟨aN, cN, aW, cW, aS, cS, aT, cT⟩, rfl, ?_, ?_, ?_, ?_, lN, lS⟩
  · rcases hN with h0 | ⟨b, ha, hc⟩
    · exact .inl h0
    · exact .inr ⟨b, 0, ha, fun i hi => by have := hc i hi 0 (by omega); simpa [needC] using this⟩
  · rcases hW with h0 | ⟨b, ha, hc⟩
    · exact .inl h0
    · exact .inr ⟨b, 0, ha, fun i hi => by have := hc i hi 0 (by omega); simpa [wordC] using this⟩
  · rcases hS with h0 | ⟨b, ha, hc⟩
    · exact .inl h0
    · exact .inr ⟨b, 0, ha, fun i hi => ⟨hc i hi 0 (by omega), hc i hi 1 (by omega), hc i hi 2 (by omega)⟩⟩
  · rcases hT with h0 | ⟨b, ha, hc⟩
    · exact .inl h0
    · exact .inr ⟨b, 0, ha, fun i hi => ⟨hc i hi 0 (by omega), hc i hi 1 (by omega), hc i hi 2 (by omega), hc i hi 3 (by omega), hc i hi 4 (by omega)⟩⟩

theorem Reading.other {B bo g i : Nat} {w : World} {vN vW vS vT u : Value} {o : ObjF} {c : Array Value} (h : Reading B w bo vN vW vS vT o) (hg : w.heap[g]? = some (.cells c 116 (0, 0))) (hne : bo ≠ g) : Reading B (w.setCell ⟨g, i, none⟩ u) bo vN vW vS vT o :=
  ⟨Nat.le_trans h.lo (by simp [World.setCell]), (Below.heap_setCell _ _ _ _ hne).trans h.blk, kept_set h.needs hg (by decide), kept_set h.words hg (by decide), kept_set h.syms hg (by decide), kept_set h.ties hg (by decide)⟩
theorem Reading.store4 {B bo g : Nat} {w : World} {vN vW vS vT : Value} {o : ObjF} {c : Array Value} (h : Reading B w bo vN vW vS vT o) (hg : w.heap[g]? = some (.cells c 116 (0, 0))) (hne : bo ≠ g) (a0 a1 a2 a3 : Value) :
    Reading B ((((w.setCell ⟨g, 0, none⟩ a0).setCell ⟨g, 1, none⟩ a1).setCell ⟨g, 2, none⟩ a2).setCell ⟨g, 3, none⟩ a3) bo vN vW vS vT o := by
  have h1 := heap_setCell w g 0 c _ a0 hg
  have h2 := heap_setCell _ g 1 _ _ a1 h1
  have h3 := heap_setCell _ g 2 _ _ a2 h2
  exact (((h.other hg hne).other h1 hne).other h2 hne).other h3 hne
theorem below_store4 {B g : Nat} {w w' : World} (h : Below B w w') (hg : B ≤ g) (a0 a1 a2 a3 : Value) : Below B w ((((w'.setCell ⟨g, 0, none⟩ a0).setCell ⟨g, 1, none⟩ a1).setCell ⟨g, 2, none⟩ a2).setCell ⟨g, 3, none⟩ a3) :=
  (((h.setCell (p := ⟨g, 0, none⟩) hg _).setCell (p := ⟨g, 1, none⟩) hg _).setCell (p := ⟨g, 2, none⟩) hg _).setCell (p := ⟨g, 3, none⟩) hg _

theorem fold_counts (ls : List ByteArray) : ∀ (o : ObjF) (n : Nat), (o.nN ≤ n ∧ o.nW ≤ n ∧ o.nS ≤ n ∧ o.nT ≤ n) → ((ls.foldl lineF o).nN ≤ n + ls.length ∧ (ls.foldl lineF o).nW ≤ n + ls.length ∧ (ls.foldl lineF o).nS ≤ n + ls.length ∧ (ls.foldl lineF o).nT ≤ n + ls.length) := by
  induction ls with
  | nil => intro o n h; exact h
  | cons l ls ih =>
    intro o n h
    have := ih (lineF o l) (n + 1) (wordsF_counts o _ _ n h)
    simp only [List.foldl_cons, List.length_cons]
    omega

/-- a row that lies from block B on. -/
def NewRow (B : Nat) (a : Option Addr) (n : Nat) : Prop := n = 0 ∨ ∃ b o, a = some ⟨b, o, none⟩ ∧ B ≤ b
theorem NewRow.lower {B B' : Nat} {a : Option Addr} {n : Nat} (h : NewRow B a n) (hB : B' ≤ B) : NewRow B' a n := by
  rcases h with h | ⟨b, o, h1, h2⟩
  · exact .inl h
  · exact .inr ⟨b, o, h1, Nat.le_trans hB h2⟩
theorem newRow_of {w : World} {B : Nat} {e : TypeId} {s n c : Nat} {a : Option Addr} {xs : List Value} (h : w.ownsRow B e s (.slice a n c) n xs) : NewRow B a n := by
  rcases h.2 with ⟨_, h0⟩ | ⟨g, cap, cur, hv, hB, _⟩
  · exact .inl h0
  · injection hv with h1 _ _
    exact .inr ⟨g, 0, h1, hB⟩
/-- an object whose rows lie from block B on. -/
structure ObjNew (B : Nat) (v : ObjV) (o : ObjF) : Prop where
  needs : NewRow B v.aN o.nN
  words : NewRow B v.aW o.nW
  syms : NewRow B v.aS o.nS
  ties : NewRow B v.aT o.nT
theorem ObjNew.lower {B B' : Nat} {v : ObjV} {o : ObjF} (h : ObjNew B v o) (hB : B' ≤ B) : ObjNew B' v o := ⟨h.needs.lower hB, h.words.lower hB, h.syms.lower hB, h.ties.lower hB⟩
/-- what stands while lines are read. -/
structure ReadSt (w3 wr : World) (R : Nat) (o : ObjF) : Prop where
  is : ∃ v0 v1 v2 v3, Reading (R + 3) wr (R + 1) v0 v1 v2 v3 o
  kept : Kept (R + 3) (R + 1) w3 wr

set_option maxRecDepth 100000 in
set_option maxHeartbeats 2000000 in
theorem read_any (s : ByteArray) (w : World) (hE : Env w) (hs : s.size ≤ 100000) :
    Calls Tryz.prog 74 #[.string s] w fun e w' => (∃ v : ObjV, e = .returned (.agg (v.cells (readF s))) ∧ ObjAt w' v (readF s) ∧ ObjNew w.heap.size v (readF s)) ∧ Below w.heap.size w w' := by
  obtain ⟨m, hm⟩ := hE.maxLen
  have hls : (linesOf s).length = Lib.countB s ⟨#[10]⟩ + 1 := Lib.splitB_all ⟨#[10]⟩ (by decide) 0 _ s rfl
  have hcl := Lib.countB_le ⟨#[10]⟩ (by decide) _ s (Nat.le_refl _)
  have hsz : ∀ x ∈ linesOf s, x.size ≤ 100000 := fun x hx => by
    have := splitB_size _ _ _ _ hx
    omega
  have HF : Hid (readF s = (linesOf s).foldl lineF emptyO) := rfl
  have hb1 : Below w.heap.size w ((w.alloc (.cells #[.slice none 0 0, .slice none 0 0, .slice none 0 0, .slice none 0 0] 116)).alloc (.cells #[.slice none 0 0, .slice none 0 0, .slice none 0 0, .slice none 0 0] 116)) := ((Below.refl _ _).alloc (Nat.le_refl _) _).alloc (by simp) _
  have HS := Tryz.strings_Split s ⟨#[10]⟩ m ((w.alloc (.cells #[.slice none 0 0, .slice none 0 0, .slice none 0 0, .slice none 0 0] 116)).alloc (.cells #[.slice none 0 0, .slice none 0 0, .slice none 0 0, .slice none 0 0] 116)) (by omega) (cell_later hb1 hm) (by decide)
  have HL : Lib.splitB ⟨#[10]⟩ 0 (Lib.countB s ⟨#[10]⟩) s = linesOf s := rfl
  rw [HL] at HS
  generalize readF s = F at *
  generalize linesOf s = ls at *
  generalize Lib.countB s ⟨#[10]⟩ = n at *
  clear HL
  have h3a : ∀ j, j < n + 1 → ∃ x, ls[j]? = some x := fun j hj => ⟨ls[j]'(by omega), List.getElem?_eq_getElem _⟩
  have hW : Below w.heap.size w (((w.alloc (.cells #[.slice none 0 0, .slice none 0 0, .slice none 0 0, .slice none 0 0] 116)).alloc (.cells #[.slice none 0 0, .slice none 0 0, .slice none 0 0, .slice none 0 0] 116)).alloc (.cells (ls.map Value.string).toArray 9)) := hb1.alloc (by simp; omega) _
  have hR0 : (((w.alloc (.cells #[.slice none 0 0, .slice none 0 0, .slice none 0 0, .slice none 0 0] 116)).alloc (.cells #[.slice none 0 0, .slice none 0 0, .slice none 0 0, .slice none 0 0] 116)).alloc (.cells (ls.map Value.string).toArray 9)).heap[w.heap.size]? = some (.cells #[.slice none 0 0, .slice none 0 0, .slice none 0 0, .slice none 0 0] 116 (0, 0)) := by
    show (((w.heap.push _).push _).push _)[w.heap.size]? = _
    rw [Array.getElem?_push, if_neg (by simp; omega), Array.getElem?_push, if_neg (by simp), Array.getElem?_push_size]
  have hR1 : (((w.alloc (.cells #[.slice none 0 0, .slice none 0 0, .slice none 0 0, .slice none 0 0] 116)).alloc (.cells #[.slice none 0 0, .slice none 0 0, .slice none 0 0, .slice none 0 0] 116)).alloc (.cells (ls.map Value.string).toArray 9)).heap[w.heap.size + 1]? = some (.cells #[.slice none 0 0, .slice none 0 0, .slice none 0 0, .slice none 0 0] 116 (0, 0)) := by
    show (((w.heap.push _).push _).push _)[w.heap.size + 1]? = _
    rw [Array.getElem?_push, if_neg (by simp), Array.getElem?_push, if_pos (by simp)]
  have hR2 : (((w.alloc (.cells #[.slice none 0 0, .slice none 0 0, .slice none 0 0, .slice none 0 0] 116)).alloc (.cells #[.slice none 0 0, .slice none 0 0, .slice none 0 0, .slice none 0 0] 116)).alloc (.cells (ls.map Value.string).toArray 9)).heap[w.heap.size + 2]? = some (.cells (ls.map Value.string).toArray 9 (0, 0)) := by
    show (((w.heap.push _).push _).push _)[w.heap.size + 2]? = _
    rw [Array.getElem?_push, if_pos (by simp)]
  have hsz3 : (((w.alloc (.cells #[.slice none 0 0, .slice none 0 0, .slice none 0 0, .slice none 0 0] 116)).alloc (.cells #[.slice none 0 0, .slice none 0 0, .slice none 0 0, .slice none 0 0] 116)).alloc (.cells (ls.map Value.string).toArray 9)).heap.size = w.heap.size + 3 := by simp
  clear hb1 hm
  go_enter Tryz.func74, Tryz.ntmps74
  go_wp2_with fail
  refine HS.mono ?_
  rintro e w3 ⟨rfl, hw3⟩
  rw [← hw3] at hW hR0 hR1 hR2 hsz3
  clear hw3 HS
  have hS : ReadSt w3 w3 w.heap.size emptyO := ⟨⟨.slice none 0 0, .slice none 0 0, .slice none 0 0, .slice none 0 0, by omega, hR1, World.ownsRow_nil _ _ _ _, World.ownsRow_nil _ _ _ _, World.ownsRow_nil _ _ _ _, World.ownsRow_nil _ _ _ _⟩, Kept.refl _ _ _⟩
  go_wp2
  go_loopw [9] (fun x wr => ∃ k : Nat, k ≤ n + 1 ∧ x = .int .i64 k ∧ ReadSt w3 wr w.heap.size ((ls.take k).foldl lineF emptyO)) (fun x _ => n + 1 - (intOf x).toNat)
  case atStart => exact ⟨0, Nat.zero_le _, rfl, hS⟩
  case round =>
    clear hS
    obtain ⟨k, hk, rfl, ⟨⟨v0, v1, v2, v3, hRd⟩, hK⟩⟩ := hrel
    have hBw : Below w.heap.size w wr := hW.trans (hK.below.mono (by omega))
    by_cases hlt : k < n + 1
    · obtain ⟨x, hx⟩ := h3a k hlt
      have hE' := hE.later hBw
      have hxs : x.size ≤ 100000 := hsz x (List.mem_of_getElem? hx)
      have hcn := fold_counts (ls.take k) emptyO 0 ⟨Nat.le_refl _, Nat.le_refl _, Nat.le_refl _, Nat.le_refl _⟩
      have htk : (ls.take k).length = k := by rw [List.length_take]; omega
      rw [htk] at hcn
      have hcell : wr.cell? ⟨w.heap.size + 1 + 1, k, none⟩ = some (.string x) := by
        have h2 := (hK.block (w.heap.size + 2) (by omega) (by omega)).trans hR2
        show wr.cell? ⟨w.heap.size + 2, k, none⟩ = _
        simp [World.cell?, h2, hx]
      have HN : Hid ((ls.take (k + 1)).foldl lineF emptyO = lineF ((ls.take k).foldl lineF emptyO) x) := by
        show (ls.take (k + 1)).foldl lineF emptyO = _
        rw [List.take_add_one, hx, List.foldl_append]
        rfl
      clear hx htk hBw h3a hsz hR0 hR1 hR2 HF
      generalize (ls.take k).foldl lineF emptyO = X at *
      go_wp2_with fail
      refine (readLine_any (w.heap.size + 3) (w.heap.size + 1) v0 v1 v2 v3 X x _ hE' hRd (by omega) (by omega)).mono ?_
      rintro e w4 ⟨rfl, hRn, hKn⟩
      have hS : ReadSt w3 w4 w.heap.size ((ls.take (k + 1)).foldl lineF emptyO) := by rw [HN.out]; exact ⟨hRn, hK.trans hKn⟩
      clear hRn hKn hK hRd hcell hE' HN
      go_wp2
      go_roundw
      case rel => exact ⟨k + 1, by omega, by go_num, hS⟩
      case measure => simp [intOf]; omega
    · have e : k = n + 1 := by omega
      subst e
      have et : ls.take (n + 1) = ls := List.take_of_length_le (by omega)
      rw [et, ← HF.out] at hRd
      obtain ⟨v, hv, _⟩ := hRd.objAt
      obtain ⟨rfl, rfl, rfl, rfl⟩ : v0 = .slice v.aN F.nN v.cN ∧ v1 = .slice v.aW F.nW v.cW ∧ v2 = .slice v.aS F.nS v.cS ∧ v3 = .slice v.aT F.nT v.cT := by simpa [ObjV.cells] using hv
      clear hv
      have c0 := hRd.c0
      have c1 := hRd.c1
      have c2 := hRd.c2
      have c3 := hRd.c3
      have hq := (hK.block w.heap.size (by omega) (by omega)).trans hR0
      have q0 : wr.cell? ⟨w.heap.size, 0, none⟩ = some (.slice none 0 0) := by simp [World.cell?, hq]
      have q1 : wr.cell? ⟨w.heap.size, 1, none⟩ = some (.slice none 0 0) := by simp [World.cell?, hq]
      have q2 : wr.cell? ⟨w.heap.size, 2, none⟩ = some (.slice none 0 0) := by simp [World.cell?, hq]
      have q3 : wr.cell? ⟨w.heap.size, 3, none⟩ = some (.slice none 0 0) := by simp [World.cell?, hq]
      have f0 : wr.frozen? ⟨w.heap.size, 0, none⟩ = false := by simp [World.frozen?, hq]
      have f1 : wr.frozen? ⟨w.heap.size, 1, none⟩ = false := by simp [World.frozen?, hq]
      have f2 : wr.frozen? ⟨w.heap.size, 2, none⟩ = false := by simp [World.frozen?, hq]
      have f3 : wr.frozen? ⟨w.heap.size, 3, none⟩ = false := by simp [World.frozen?, hq]
      have hnew : ObjNew w.heap.size v F := ObjNew.lower (B := w.heap.size + 3) ⟨newRow_of hRd.needs, newRow_of hRd.words, newRow_of hRd.syms, newRow_of hRd.ties⟩ (by omega)
      have hfin := (hRd.store4 hq (by omega) (.slice v.aN F.nN v.cN) (.slice v.aW F.nW v.cW) (.slice v.aS F.nS v.cS) (.slice v.aT F.nT v.cT)).objAt
      have hBf := below_store4 hBw (Nat.le_refl w.heap.size) (.slice v.aN F.nN v.cN) (.slice v.aW F.nW v.cW) (.slice v.aS F.nS v.cS) (.slice v.aT F.nT v.cT)
      clear hq hRd hR0 hR1 hR2 h3a hsz HF hK hW hBw
      go_wp2
      refine bodyPost_ret (v := .agg #[.slice v.aN F.nN v.cN, .slice v.aW F.nW v.cW, .slice v.aS F.nS v.cS, .slice v.aT F.nT v.cT]) (by simp [results, Tryz.results74, go_sem, q0, q1, q2, q3]) rfl ⟨?_, hBf⟩
      obtain ⟨v', hv, ho⟩ := hfin
      refine ⟨v', by rw [hv], ho, ?_⟩
      obtain ⟨aN, cN, aW, cW, aS, cS, aT, cT⟩ := v
      obtain ⟨aN', cN', aW', cW', aS', cS', aT', cT'⟩ := v'
      simp [ObjV.cells] at hv
      obtain ⟨⟨rfl, _⟩, ⟨rfl, _⟩, ⟨rfl, _⟩, ⟨rfl, _⟩⟩ := hv
      exact ⟨hnew.needs, hnew.words, hnew.syms, hnew.ties⟩
end Go.Proofs.YthdccmjdbcllkaaGreatDoor

namespace Go.Proofs.YthdccmjdbcllkaaGreatDoor
open Go.RowKit

set_option maxRecDepth 100000 in
theorem text_fault (v : ObjV) (o : ObjF) (w : World) (hA : ObjAt w v o) (hf : ObjFit o) (h0 : objF o ≠ 0) :
    Calls Tryz.prog 75 #[.agg (v.cells o)] w fun e w' => (∃ s : ByteArray, e = .returned (.tuple #[.string s, errV (textF o).1]) ∧ s.data.toList = (textF o).2) ∧ Below w.heap.size w w' := by
  obtain ⟨aN, cN, aW, cW, aS, cS, aT, cT⟩ := v
  have hb0 : ∀ ob : Obj, Below w.heap.size w (w.alloc ob) := fun ob => (Below.refl _ _).alloc (Nat.le_refl _) ob
  have HC := fun (w' : World) (hx : Below w.heap.size w w') => checkObj_any ⟨aN, cN, aW, cW, aS, cS, aT, cT⟩ o w' (hA.later hx) hf
  have ht : textF o = (objF o, []) := if_neg h0
  rw [ht]
  simp only [errV_some h0] at HC ⊢
  unfold ObjV.cells at HC
  unfold ObjV.cells
  generalize objF o = f at *
  clear ht
  go_enter Tryz.func75, Tryz.ntmps75
  go_wp2_with fail
  refine (HC _ (hb0 _)).mono ?_
  rintro e w1 ⟨rfl, hb1⟩
  clear HC
  have hx : Below w.heap.size w w1 := (hb0 _).trans (hb1.mono (hb0 _).size)
  clear hb1 hb0
  go_wp2
  go_ret2
  exact ⟨⟨⟨#[]⟩, rfl, rfl⟩, hx⟩

theorem text_any (v : ObjV) (o : ObjF) (w : World) (hE : Env w) (hA : ObjAt w v o) (hf : ObjFit o) :
    Calls Tryz.prog 75 #[.agg (v.cells o)] w fun e w' => (∃ s : ByteArray, e = .returned (.tuple #[.string s, errV (textF o).1]) ∧ s.data.toList = (textF o).2) ∧ Below w.heap.size w w' := by
  by_cases h0 : objF o = 0
  · exact text_ok v o w hE hA hf h0
  · exact text_fault v o w hA hf h0
end Go.Proofs.YthdccmjdbcllkaaGreatDoor

namespace Go.Proofs.YthdccmjdbcllkaaGreatDoor
open Go.RowKit

/-- texts are short, numbers are numbers. -/
structure AllFit (o : ObjF) : Prop where
  needs : ∀ i, (o.needs i).size ≤ maxLen
  words : ∀ i, (Lit.int .i64 (o.words i)).wf = true
  syms : ∀ i, (o.sName i).size ≤ maxLen ∧ (Lit.int .i64 (o.sAt i)).wf = true
  ties : ∀ i, (o.tName i).size ≤ maxLen ∧ (Lit.int .i64 (o.tAt i)).wf = true ∧ (Lit.int .i64 (o.tKind i)).wf = true ∧ (Lit.int .i64 (o.tAdd i)).wf = true
theorem num_wf (l : List UInt8) : (Lit.int .i64 (numF l)).wf = true := by
  have h := numF_wf l
  have e1 : IntKind.i64.min = -9223372036854775808 := by decide
  have e2 : IntKind.i64.max = 9223372036854775807 := by decide
  simp only [Lit.wf, e1, e2, Bool.and_eq_true, decide_eq_true_eq]
  exact h
theorem AllFit.need {o : ObjF} (h : AllFit o) (s : ByteArray) (hs : s.size ≤ maxLen) : AllFit (addNeed o s) :=
  ⟨fun i => by simp only [addNeed]; split; exact hs; exact h.needs i, h.words, h.syms, h.ties⟩
theorem AllFit.word {o : ObjF} (h : AllFit o) (l : List UInt8) : AllFit (addWord o (numF l)) :=
  ⟨h.needs, fun i => by simp only [addWord]; split; exact num_wf l; exact h.words i, h.syms, h.ties⟩
theorem AllFit.sym {o : ObjF} (h : AllFit o) (s : ByteArray) (l : List UInt8) (b : Bool) (hs : s.size ≤ maxLen) : AllFit (addSym o s (numF l) b) :=
  ⟨h.needs, h.words, fun i => by simp only [addSym]; split; exact ⟨hs, num_wf l⟩; exact h.syms i, h.ties⟩
theorem AllFit.tie {o : ObjF} (h : AllFit o) (x d : List UInt8) (k : Int) (s : ByteArray) (b : Bool) (hs : s.size ≤ maxLen) (hk : (Lit.int .i64 k).wf = true) : AllFit (addTie o (numF x) k (numF d) s b) :=
  ⟨h.needs, h.words, h.syms, fun i => by simp only [addTie]; split; exact ⟨hs, num_wf x, hk, num_wf d⟩; exact h.ties i⟩
theorem AllFit.words_ {o : ObjF} (h : AllFit o) (wk : Bool) (xs : List ByteArray) (hx : ∀ x ∈ xs, x.size ≤ maxLen) : AllFit (wordsF o wk xs) := by
  unfold wordsF
  split
  · split
    · exact h.need _ (hx _ (by simp))
    · split
      · exact h.word _
      · exact h
  · split
    · exact h.sym _ _ _ (hx _ (by simp))
    · split
      · exact h.tie _ _ _ _ _ (by decide) (by decide)
      · exact h
  · split
    · exact h.tie _ _ _ _ _ (hx _ (by simp)) (by decide)
    · split
      · exact h.tie _ _ _ _ _ (hx _ (by simp)) (by decide)
      · exact h
  · exact h
theorem AllFit.fold (ls : List ByteArray) : ∀ o, AllFit o → (∀ x ∈ ls, x.size ≤ maxLen) → AllFit (ls.foldl lineF o) := by
  induction ls with
  | nil => intro o h _; exact h
  | cons l ls ih =>
    intro o h hx
    refine ih _ (h.words_ _ _ fun x hm => ?_) (fun x hm => hx x (List.mem_cons_of_mem _ hm))
    have h1 := splitB_size _ _ _ _ hm
    have h2 := unWeak_size l
    have h3 := hx l (by simp)
    omega
theorem emptyO_fit : AllFit emptyO :=
  have h1 : (⟨#[]⟩ : ByteArray).size ≤ maxLen := by decide
  have h2 : (Lit.int .i64 0).wf = true := by decide
  ⟨fun _ => h1, fun _ => h2, fun _ => ⟨h1, h2⟩, fun _ => ⟨h1, h2, h2, h2⟩⟩
theorem readF_fit (s : ByteArray) (hs : s.size ≤ 100000) : ObjFit (readF s) := by
  have hls : (linesOf s).length = Lib.countB s ⟨#[10]⟩ + 1 := Lib.splitB_all ⟨#[10]⟩ (by decide) 0 _ s rfl
  have hcl := Lib.countB_le ⟨#[10]⟩ (by decide) _ s (Nat.le_refl _)
  have hc := fold_counts (linesOf s) emptyO 0 ⟨Nat.le_refl _, Nat.le_refl _, Nat.le_refl _, Nat.le_refl _⟩
  have hA : AllFit (readF s) := AllFit.fold (linesOf s) emptyO emptyO_fit fun x hx => by
    have := splitB_size _ _ _ _ hx
    simp only [maxLen]
    omega
  have hm : (100001 : Nat) ≤ maxLen := by decide
  unfold readF at hA ⊢
  exact ⟨by omega, by omega, by omega, by omega, fun i _ => hA.needs i, fun i _ => hA.words i, fun i _ => hA.syms i, fun i _ => hA.ties i⟩

/-- what Parse answers: a fault's number, and the object. -/
def parseF (s : ByteArray) : Nat × ObjF := if 1200 < s.size then (2, emptyO) else if (textF (readF s)).1 = 0 ∧ (textF (readF s)).2 = s.data.toList then (0, readF s) else (4, emptyO)

def noV : ObjV := ⟨none, 0, none, 0, none, 0, none, 0⟩
theorem noV_at (w : World) : ObjAt w noV emptyO := ⟨.inl rfl, .inl rfl, .inl rfl, .inl rfl, Nat.le_refl _, Nat.le_refl _⟩

theorem noV_new (B : Nat) : ObjNew B noV emptyO := ⟨.inl rfl, .inl rfl, .inl rfl, .inl rfl⟩

/-- cells that are slices, each. -/
def Slices (c : Array Value) : Prop := ∀ (j : Nat) (x : Value), c[j]? = some x → ∃ a n k, x = .slice a n k
theorem cell_other {w : World} {g i b j : Nat} {c : Array Value} {t : TypeId} {u x : Value} (hg : w.heap[g]? = some (.cells c t (0, 0))) (hc : Slices c) (h : w.cell? ⟨b, j, none⟩ = some x) (hx : ∀ a n k, x ≠ .slice a n k) : (w.setCell ⟨g, i, none⟩ u).cell? ⟨b, j, none⟩ = some x := by
  by_cases e : b = g
  · subst e
    simp [World.cell?, hg] at h
    obtain ⟨a, n, k, hs⟩ := hc j x h
    exact absurd hs (hx a n k)
  · exact (World.cell?_of_block (Below.heap_setCell _ _ _ _ e)).trans h
theorem ObjAt.store {w : World} {v : ObjV} {o : ObjF} {g i : Nat} {c : Array Value} {t : TypeId} {u : Value} (h : ObjAt w v o) (hg : w.heap[g]? = some (.cells c t (0, 0))) (hc : Slices c) : ObjAt (w.setCell ⟨g, i, none⟩ u) v o where
  needs := by
    rcases h.needs with h | ⟨b, f, ha, h⟩
    · exact .inl h
    · exact .inr ⟨b, f, ha, fun i hi => cell_other hg hc (h i hi) (by simp)⟩
  words := by
    rcases h.words with h | ⟨b, f, ha, h⟩
    · exact .inl h
    · exact .inr ⟨b, f, ha, fun i hi => cell_other hg hc (h i hi) (by simp)⟩
  syms := by
    rcases h.syms with h | ⟨b, f, ha, h⟩
    · exact .inl h
    · exact .inr ⟨b, f, ha, fun i hi => ⟨cell_other hg hc (h i hi).1 (by simp), cell_other hg hc (h i hi).2.1 (by simp), cell_other hg hc (h i hi).2.2 (by simp)⟩⟩
  ties := by
    rcases h.ties with h | ⟨b, f, ha, h⟩
    · exact .inl h
    · exact .inr ⟨b, f, ha, fun i hi => ⟨cell_other hg hc (h i hi).1 (by simp), cell_other hg hc (h i hi).2.1 (by simp), cell_other hg hc (h i hi).2.2.1 (by simp), cell_other hg hc (h i hi).2.2.2.1 (by simp), cell_other hg hc (h i hi).2.2.2.2 (by simp)⟩⟩
  capN := h.capN
  capS := h.capS
theorem Slices.set {c : Array Value} (h : Slices c) (i : Nat) (a : Option Addr) (n k : Nat) : Slices (c.set! i (.slice a n k)) := by
  intro j x hx
  rw [Array.set!_eq_setIfInBounds, Array.getElem?_setIfInBounds] at hx
  split at hx
  · split at hx
    · injection hx with hx; exact ⟨a, n, k, hx.symm⟩
    · cases hx
  · exact h j x hx
theorem slices4 : Slices #[.slice none 0 0, .slice none 0 0, .slice none 0 0, .slice none 0 0] := by
  intro j x hx
  match j, hx with
  | 0, hx => exact ⟨none, 0, 0, by simpa using hx.symm⟩
  | 1, hx => exact ⟨none, 0, 0, by simpa using hx.symm⟩
  | 2, hx => exact ⟨none, 0, 0, by simpa using hx.symm⟩
  | 3, hx => exact ⟨none, 0, 0, by simpa using hx.symm⟩
  | j + 4, hx => simp at hx
theorem ObjAt.store4 {w : World} {v : ObjV} {o : ObjF} {g : Nat} {t : TypeId} (h : ObjAt w v o) (hg : w.heap[g]? = some (.cells #[.slice none 0 0, .slice none 0 0, .slice none 0 0, .slice none 0 0] t (0, 0))) (a0 : Option Addr) (n0 k0 : Nat) (a1 : Option Addr) (n1 k1 : Nat) (a2 : Option Addr) (n2 k2 : Nat) (a3 : Option Addr) (n3 k3 : Nat) :
    ObjAt ((((w.setCell ⟨g, 0, none⟩ (.slice a0 n0 k0)).setCell ⟨g, 1, none⟩ (.slice a1 n1 k1)).setCell ⟨g, 2, none⟩ (.slice a2 n2 k2)).setCell ⟨g, 3, none⟩ (.slice a3 n3 k3)) v o := by
  have h1 := heap_setCell w g 0 _ _ (.slice a0 n0 k0) hg
  have h2 := heap_setCell _ g 1 _ _ (.slice a1 n1 k1) h1
  have h3 := heap_setCell _ g 2 _ _ (.slice a2 n2 k2) h2
  exact (((h.store hg slices4).store h1 (slices4.set _ _ _ _)).store h2 ((slices4.set _ _ _ _).set _ _ _ _)).store h3 (((slices4.set _ _ _ _).set _ _ _ _).set _ _ _ _)

set_option maxRecDepth 100000 in
theorem parse_long (s : ByteArray) (w : World) (hm : 1200 < s.size) :
    Calls Tryz.prog 51 #[.string s] w fun e w' => (∃ v : ObjV, e = .returned (.tuple #[.agg (v.cells (parseF s).2), errV (parseF s).1]) ∧ ObjAt w' v (parseF s).2 ∧ ObjNew w.heap.size v (parseF s).2) ∧ Below w.heap.size w w' := by
  have hp : parseF s = (2, emptyO) := if_pos hm
  rw [hp]
  have hm' : (1200 : Int) < (s.size : Int) := by omega
  clear hp hm
  go_enter Tryz.func51, Tryz.ntmps51
  go_wp2
  refine bodyPost_ret (v := .tuple #[.agg #[.slice none 0 0, .slice none 0 0, .slice none 0 0, .slice none 0 0], .iface 74 (.int .i64 2)]) (by simp [results, Tryz.results51, go_sem]) rfl ⟨⟨noV, rfl, noV_at _, noV_new _⟩, (Below.refl _ _).alloc (Nat.le_refl _) _⟩

set_option maxRecDepth 100000 in
theorem parse_short (s : ByteArray) (w : World) (hE : Env w) (hm : ¬ 1200 < s.size) :
    Calls Tryz.prog 51 #[.string s] w fun e w' => (∃ v : ObjV, e = .returned (.tuple #[.agg (v.cells (parseF s).2), errV (parseF s).1]) ∧ ObjAt w' v (parseF s).2 ∧ ObjNew w.heap.size v (parseF s).2) ∧ Below w.heap.size w w' := by
  have HP : Hid (parseF s = if (textF (readF s)).1 = 0 ∧ (textF (readF s)).2 = s.data.toList then (0, readF s) else (4, emptyO)) := if_neg hm
  have hfit := readF_fit s (by omega)
  have HR := fun (w' : World) (hx : Below w.heap.size w w') => read_any s w' (hE.later hx) (by omega)
  have hm' : ¬ (1200 : Int) < (s.size : Int) := by omega
  have hb0 : ∀ ob : Obj, Below w.heap.size w (w.alloc ob) := fun ob => (Below.refl _ _).alloc (Nat.le_refl _) ob
  have hR0 : (w.alloc (.cells #[.slice none 0 0, .slice none 0 0, .slice none 0 0, .slice none 0 0] 116)).heap[w.heap.size]? = some (.cells #[.slice none 0 0, .slice none 0 0, .slice none 0 0, .slice none 0 0] 116 (0, 0)) := by
    show (w.heap.push _)[w.heap.size]? = _
    rw [Array.getElem?_push_size]
  generalize readF s = F at *
  clear hm
  go_enter Tryz.func51, Tryz.ntmps51
  go_wp2_with fail
  refine (HR _ (hb0 _)).mono ?_
  rintro e w2 ⟨⟨⟨aN, cN, aW, cW, aS, cS, aT, cT⟩, rfl, hA, hNw⟩, hb2⟩
  have hbw := (hb0 _).trans (hb2.mono (hb0 _).size)
  have hlt : w.heap.size < w2.heap.size := by have := hb2.size; simp at this; omega
  replace hR0 := (hb2.block w.heap.size (by simp)).trans hR0
  clear HR hb2 hb0
  have hb3 : ∀ ob : Obj, Below w2.heap.size w2 (w2.alloc ob) := fun ob => (Below.refl _ _).alloc (Nat.le_refl _) ob
  have HT := fun ob => text_any ⟨aN, cN, aW, cW, aS, cS, aT, cT⟩ F (w2.alloc ob) ((hE.later hbw).later (hb3 ob)) (hA.later (hb3 ob)) hfit
  unfold ObjV.cells at HT
  unfold ObjV.cells
  go_wp2_with fail
  refine (HT _).mono ?_
  rintro e w4 ⟨⟨t, rfl, ht⟩, hb4⟩
  have d0 : w4.cell? ⟨w2.heap.size, 0, none⟩ = some (.slice aN F.nN cN) := cell_later hb4 (by simp [go_sem])
  have d1 : w4.cell? ⟨w2.heap.size, 1, none⟩ = some (.slice aW F.nW cW) := cell_later hb4 (by simp [go_sem])
  have d2 : w4.cell? ⟨w2.heap.size, 2, none⟩ = some (.slice aS F.nS cS) := cell_later hb4 (by simp [go_sem])
  have d3 : w4.cell? ⟨w2.heap.size, 3, none⟩ = some (.slice aT F.nT cT) := cell_later hb4 (by simp [go_sem])
  have hb5 := (hb3 _).trans (hb4.mono (hb3 _).size)
  have hbf : Below w.heap.size w w4 := hbw.trans (hb5.mono hbw.size)
  replace hR0 := (hb5.block w.heap.size hlt).trans hR0
  replace hA := hA.later hb5
  clear hb3 hb4 hb5 HT hbw hlt hE
  have q0 : w4.cell? ⟨w.heap.size, 0, none⟩ = some (.slice none 0 0) := by simp [World.cell?, hR0]
  have q1 : w4.cell? ⟨w.heap.size, 1, none⟩ = some (.slice none 0 0) := by simp [World.cell?, hR0]
  have q2 : w4.cell? ⟨w.heap.size, 2, none⟩ = some (.slice none 0 0) := by simp [World.cell?, hR0]
  have q3 : w4.cell? ⟨w.heap.size, 3, none⟩ = some (.slice none 0 0) := by simp [World.cell?, hR0]
  have f0 : w4.frozen? ⟨w.heap.size, 0, none⟩ = false := by simp [World.frozen?, hR0]
  have f1 : w4.frozen? ⟨w.heap.size, 1, none⟩ = false := by simp [World.frozen?, hR0]
  have f2 : w4.frozen? ⟨w.heap.size, 2, none⟩ = false := by simp [World.frozen?, hR0]
  have f3 : w4.frozen? ⟨w.heap.size, 3, none⟩ = false := by simp [World.frozen?, hR0]
  have hN := below_store4 hbf (Nat.le_refl w.heap.size) (.slice none 0 0) (.slice none 0 0) (.slice none 0 0) (.slice none 0 0)
  by_cases h0 : (textF F).1 = 0
  · rw [errV_nil h0]
    by_cases he : t = s
    · subst he
      have HQ : Hid (parseF t = (0, F)) := HP.out.trans (if_pos ⟨h0, ht.symm⟩)
      have hY := below_store4 hbf (Nat.le_refl w.heap.size) (.slice aN F.nN cN) (.slice aW F.nW cW) (.slice aS F.nS cS) (.slice aT F.nT cT)
      have hAY := hA.store4 hR0 aN F.nN cN aW F.nW cW aS F.nS cS aT F.nT cT
      clear hR0 HP hN hfit hA hbf ht h0
      go_wp2
      refine bodyPost_ret (v := .tuple #[.agg #[.slice aN F.nN cN, .slice aW F.nW cW, .slice aS F.nS cS, .slice aT F.nT cT], .nilIface]) (by simp [results, Tryz.results51, go_sem, q0, q1, q2, q3]) rfl ?_
      rw [HQ.out]
      exact ⟨⟨⟨aN, cN, aW, cW, aS, cS, aT, cT⟩, rfl, hAY, hNw.lower (by simp)⟩, hY⟩
    · have HQ : Hid (parseF s = (4, emptyO)) := HP.out.trans (if_neg (fun h => he (by rw [← mkB_data t, ← mkB_data s, ht, h.2])))
      have hne : (t.toList == s.toList) = false := by rw [toList_beq]; simp [he]
      clear hR0 HP hfit hA hbf ht h0 he
      go_wp2
      refine bodyPost_ret (v := .tuple #[.agg #[.slice none 0 0, .slice none 0 0, .slice none 0 0, .slice none 0 0], .iface 74 (.int .i64 4)]) (by simp [results, Tryz.results51, go_sem, q0, q1, q2, q3]) rfl ?_
      rw [HQ.out]
      exact ⟨⟨noV, rfl, noV_at _, noV_new _⟩, hN⟩
  · have HQ : Hid (parseF s = (4, emptyO)) := HP.out.trans (if_neg (fun h => h0 h.1))
    rw [errV_some h0]
    clear hR0 HP hfit hA hbf ht h0
    go_wp2
    refine bodyPost_ret (v := .tuple #[.agg #[.slice none 0 0, .slice none 0 0, .slice none 0 0, .slice none 0 0], .iface 74 (.int .i64 4)]) (by simp [results, Tryz.results51, go_sem, q0, q1, q2, q3]) rfl ?_
    rw [HQ.out]
    exact ⟨⟨noV, rfl, noV_at _, noV_new _⟩, hN⟩

theorem parse_new (s : ByteArray) (w : World) (hE : Env w) :
    Calls Tryz.prog 51 #[.string s] w fun e w' => (∃ v : ObjV, e = .returned (.tuple #[.agg (v.cells (parseF s).2), errV (parseF s).1]) ∧ ObjAt w' v (parseF s).2 ∧ ObjNew w.heap.size v (parseF s).2) ∧ Below w.heap.size w w' := by
  by_cases hm : 1200 < s.size
  · exact parse_long s w hm
  · exact parse_short s w hE hm
theorem parse_any (s : ByteArray) (w : World) (hE : Env w) :
    Calls Tryz.prog 51 #[.string s] w fun e w' => (∃ v : ObjV, e = .returned (.tuple #[.agg (v.cells (parseF s).2), errV (parseF s).1]) ∧ ObjAt w' v (parseF s).2) ∧ Below w.heap.size w w' :=
  (parse_new s w hE).mono fun _ _ ⟨⟨v, h1, h2, _⟩, h3⟩ => ⟨⟨v, h1, h2⟩, h3⟩
end Go.Proofs.YthdccmjdbcllkaaGreatDoor
