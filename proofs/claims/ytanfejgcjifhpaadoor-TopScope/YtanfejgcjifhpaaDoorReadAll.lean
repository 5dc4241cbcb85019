/-
  What read returns, for every text: what is read of it, line by line; memory that was there stays as it was.
-/
import Derived.Test.YtanfejgcjifhpaaDoorPlainRead
namespace Go.Proofs.YtanfejgcjifhpaaDoor
open Go.RowKit

/-- one of a row's own: where it lies. -/
theorem own_at {w : World} {B s n : Nat} {e : TypeId} {v : Value} {g : Nat → List Value} (h : w.ownsRow B e s v n (catV g n)) (hg : ∀ i, i < n → (g i).length = s) :
    ∃ (a : Option Addr) (cap : Nat), v = .slice a n cap ∧ n ≤ cap ∧ (n = 0 ∨ ∃ b, a = some ⟨b, 0, none⟩ ∧ ∀ i, i < n → ∀ j, j < s → w.cell? ⟨b, 0 + i * s + j, none⟩ = (g i)[j]?) := by
  obtain ⟨hl, hv⟩ := h
  rcases hv with ⟨rfl, rfl⟩ | ⟨b, cap, cur, rfl, _, hb, hc, _, hsz, ht⟩
  · exact ⟨none, 0, rfl, Nat.le_refl _, .inl rfl⟩
  · refine ⟨_, cap, rfl, hc, .inr ⟨b, rfl, fun i hi j hj => ?_⟩⟩
    have hlt : i * s + j < n * s := by
      have h1 : (i + 1) * s ≤ n * s := Nat.mul_le_mul_right s (by omega)
      rw [Nat.add_mul] at h1
      omega
    have h1 : cur[i * s + j]? = (g i)[j]? := by
      rw [← catV_at hg hi hj, ← ht, List.getElem?_take, if_pos hlt, Array.getElem?_toList]
    rw [← h1]
    simp [World.cell?, hb]
theorem Reading.objAt {B bo : Nat} {w : World} {vN vW vS vT : Value} {o : ObjF} (h : Reading B w bo vN vW vS vT o) : ∃ v : ObjV, #[vN, vW, vS, vT] = v.cells o ∧ ObjAt w v o := by
  obtain ⟨aN, cN, rfl, lN, hN⟩ := own_at h.needs (fun _ _ => rfl)
  obtain ⟨aW, cW, rfl, lW, hW⟩ := own_at h.words (fun _ _ => rfl)
  obtain ⟨aS, cS, rfl, lS, hS⟩ := own_at h.syms (fun _ _ => rfl)
  obtain ⟨aT, cT, rfl, lT, hT⟩ := own_at h.ties (fun _ _ => rfl)
  refine ⟨⟨aN, cN, aW, cW, aS, cS, aT, cT⟩, rfl, ?_, ?_, ?_, ?_, lN, lS⟩
  · rcases hN with h0 | ⟨b, ha, hc⟩
    · exact .inl h0
    · exact .inr ⟨b, 0, ha, fun i hi => by have := hc i hi 0 (by omega); simpa [needC] using this⟩
  · rcases hW with h0 | ⟨b, ha, hc⟩
    · exact .inl h0
    · exact .inr ⟨b, 0, ha, fun i hi => by have := hc i hi 0 (by omega); simpa [wordC] using this⟩
  · rcases hS with h0 | ⟨b, ha, hc⟩
    · exact .inl h0
    · exact .inr ⟨b, 0, ha, fun i hi => ⟨hc i hi 0 (by omega), hc i hi 1 (by omega), hc i hi 2 (by omega)⟩⟩
  · rcases hT with h0 | ⟨b, ha, hc⟩
    · exact .inl h0
    · exact .inr ⟨b, 0, ha, fun i hi => ⟨hc i hi 0 (by omega), hc i hi 1 (by omega), hc i hi 2 (by omega), hc i hi 3 (by omega), hc i hi 4 (by omega)⟩⟩

theorem Reading.other {B bo g i : Nat} {w : World} {vN vW vS vT u : Value} {o : ObjF} {c : Array Value} (h : Reading B w bo vN vW vS vT o) (hg : w.heap[g]? = some (.cells c 35 (0, 0))) (hne : bo ≠ g) : Reading B (w.setCell ⟨g, i, none⟩ u) bo vN vW vS vT o :=
  ⟨Nat.le_trans h.lo (by simp [World.setCell]), (Below.heap_setCell _ _ _ _ hne).trans h.blk, kept_set h.needs hg (by decide), kept_set h.words hg (by decide), kept_set h.syms hg (by decide), kept_set h.ties hg (by decide)⟩
theorem Reading.store4 {B bo g : Nat} {w : World} {vN vW vS vT : Value} {o : ObjF} {c : Array Value} (h : Reading B w bo vN vW vS vT o) (hg : w.heap[g]? = some (.cells c 35 (0, 0))) (hne : bo ≠ g) (a0 a1 a2 a3 : Value) :
    Reading B ((((w.setCell ⟨g, 0, none⟩ a0).setCell ⟨g, 1, none⟩ a1).setCell ⟨g, 2, none⟩ a2).setCell ⟨g, 3, none⟩ a3) bo vN vW vS vT o := by
  have h1 := heap_setCell w g 0 c _ a0 hg
  have h2 := heap_setCell _ g 1 _ _ a1 h1
  have h3 := heap_setCell _ g 2 _ _ a2 h2
  exact (((h.other hg hne).other h1 hne).other h2 hne).other h3 hne
theorem below_store4 {B g : Nat} {w w' : World} (h : Below B w w') (hg : B ≤ g) (a0 a1 a2 a3 : Value) : Below B w ((((w'.setCell ⟨g, 0, none⟩ a0).setCell ⟨g, 1, none⟩ a1).setCell ⟨g, 2, none⟩ a2).setCell ⟨g, 3, none⟩ a3) :=
  (((h.setCell (p := ⟨g, 0, none⟩) hg _).setCell (p := ⟨g, 1, none⟩) hg _).setCell (p := ⟨g, 2, none⟩) hg _).setCell (p := ⟨g, 3, none⟩) hg _

theorem fold_counts (ls : List ByteArray) : ∀ (o : ObjF) (n : Nat), (o.nN ≤ n ∧ o.nW ≤ n ∧ o.nS ≤ n ∧ o.nT ≤ n) → ((ls.foldl lineF o).nN ≤ n + ls.length ∧ (ls.foldl lineF o).nW ≤ n + ls.length ∧ (ls.foldl lineF o).nS ≤ n + ls.length ∧ (ls.foldl lineF o).nT ≤ n + ls.length) := by
  induction ls with
  | nil => intro o n h; exact h
  | cons l ls ih =>
    intro o n h
    have := ih (lineF o l) (n + 1) (wordsF_counts o _ _ n h)
    simp only [List.foldl_cons, List.length_cons]
    omega

/-- a row that lies from block B on. -/
def NewRow (B : Nat) (a : Option Addr) (n : Nat) : Prop := n = 0 ∨ ∃ b o, a = some ⟨b, o, none⟩ ∧ B ≤ b
theorem NewRow.lower {B B' : Nat} {a : Option Addr} {n : Nat} (h : NewRow B a n) (hB : B' ≤ B) : NewRow B' a n := by
  rcases h with h | ⟨b, o, h1, h2⟩
  · exact .inl h
  · exact .inr ⟨b, o, h1, Nat.le_trans hB h2⟩
theorem newRow_of {w : World} {B : Nat} {e : TypeId} {s n c : Nat} {a : Option Addr} {xs : List Value} (h : w.ownsRow B e s (.slice a n c) n xs) : NewRow B a n := by
  rcases h.2 with ⟨_, h0⟩ | ⟨g, cap, cur, hv, hB, _⟩
  · exact .inl h0
  · injection hv with h1 _ _
    exact .inr ⟨g, 0, h1, hB⟩
/-- an object whose rows lie from block B on. -/
structure ObjNew (B : Nat) (v : ObjV) (o : ObjF) : Prop where
  needs : NewRow B v.aN o.nN
  words : NewRow B v.aW o.nW
  syms : NewRow B v.aS o.nS
  ties : NewRow B v.aT o.nT
theorem ObjNew.lower {B B' : Nat} {v : ObjV} {o : ObjF} (h : ObjNew B v o) (hB : B' ≤ B) : ObjNew B' v o := ⟨h.needs.lower hB, h.words.lower hB, h.syms.lower hB, h.ties.lower hB⟩
/-- what stands while lines are read. -/
structure ReadSt (w3 wr : World) (R : Nat) (o : ObjF) : Prop where
  is : ∃ v0 v1 v2 v3, Reading (R + 3) wr (R + 1) v0 v1 v2 v3 o
  kept : Kept (R + 3) (R + 1) w3 wr

set_option maxRecDepth 100000 in
set_option maxHeartbeats 2000000 in
theorem read_any (s : ByteArray) (w : World) (hE : Env w) (hs : s.size ≤ 100000) :
    Calls Tryd.prog 21 #[.string s] w fun e w' => (∃ v : ObjV, e = .returned (.agg (v.cells (readF s))) ∧ ObjAt w' v (readF s) ∧ ObjNew w.heap.size v (readF s)) ∧ Below w.heap.size w w' := by
  obtain ⟨m, hm⟩ := hE.maxLen
  have hls : (linesOf s).length = Lib.countB s ⟨#[10]⟩ + 1 := Lib.splitB_all ⟨#[10]⟩ (by decide) 0 _ s rfl
  have hcl := Lib.countB_le ⟨#[10]⟩ (by decide) _ s (Nat.le_refl _)
  have hsz : ∀ x ∈ linesOf s, x.size ≤ 100000 := fun x hx => by
    have := splitB_size _ _ _ _ hx
    omega
  have HF : Hid (readF s = (linesOf s).foldl lineF emptyO) := rfl
  have hb1 : Below w.heap.size w ((w.alloc (.cells #[.slice none 0 0, .slice none 0 0, .slice none 0 0, .slice none 0 0] 35)).alloc (.cells #[.slice none 0 0, .slice none 0 0, .slice none 0 0, .slice none 0 0] 35)) := ((Below.refl _ _).alloc (Nat.le_refl _) _).alloc (by simp) _
  have HS := Tryd.strings_Split s ⟨#[10]⟩ m ((w.alloc (.cells #[.slice none 0 0, .slice none 0 0, .slice none 0 0, .slice none 0 0] 35)).alloc (.cells #[.slice none 0 0, .slice none 0 0, .slice none 0 0, .slice none 0 0] 35)) (by omega) (cell_later hb1 hm) (by decide)
  have HL : Lib.splitB ⟨#[10]⟩ 0 (Lib.countB s ⟨#[10]⟩) s = linesOf s := rfl
  rw [HL] at HS
  generalize readF s = F at *
  generalize linesOf s = ls at *
  generalize Lib.countB s ⟨#[10]⟩ = n at *
  clear HL
  have h3a : ∀ j, j < n + 1 → ∃ x, ls[j]? = some x := fun j hj => ⟨ls[j]'(by omega), List.getElem?_eq_getElem _⟩
  have hW : Below w.heap.size w (((w.alloc (.cells #[.slice none 0 0, .slice none 0 0, .slice none 0 0, .slice none 0 0] 35)).alloc (.cells #[.slice none 0 0, .slice none 0 0, .slice none 0 0, .slice none 0 0] 35)).alloc (.cells (ls.map Value.string).toArray 9)) := hb1.alloc (by simp; omega) _
  have hR0 : (((w.alloc (.cells #[.slice none 0 0, .slice none 0 0, .slice none 0 0, .slice none 0 0] 35)).alloc (.cells #[.slice none 0 0, .slice none 0 0, .slice none 0 0, .slice none 0 0] 35)).alloc (.cells (ls.map Value.string).toArray 9)).heap[w.heap.size]? = some (.cells #[.slice none 0 0, .slice none 0 0, .slice none 0 0, .slice none 0 0] 35 (0, 0)) := by
    show (((w.heap.push _).push _).push _)[w.heap.size]? = _
    rw [Array.getElem?_push, if_neg (by simp; omega), Array.getElem?_push, if_neg (by simp), Array.getElem?_push_size]
  have hR1 : (((w.alloc (.cells #[.slice none 0 0, .slice none 0 0, .slice none 0 0, .slice none 0 0] 35)).alloc (.cells #[.slice none 0 0, .slice none 0 0, .slice none 0 0, .slice none 0 0] 35)).alloc (.cells (ls.map Value.string).toArray 9)).heap[w.heap.size + 1]? = some (.cells #[.slice none 0 0, .slice none 0 0, .slice none 0 0, .slice none 0 0] 35 (0, 0)) := by
    show (((w.heap.push _).push _).push _)[w.heap.size + 1]? = _
    rw [Array.getElem?_push, if_neg (by simp), Array.getElem?_push, if_pos (by simp)]
  have hR2 : (((w.alloc (.cells #[.slice none 0 0, .slice none 0 0, .slice none 0 0, .slice none 0 0] 35)).alloc (.cells #[.slice none 0 0, .slice none 0 0, .slice none 0 0, .slice none 0 0] 35)).alloc (.cells (ls.map Value.string).toArray 9)).heap[w.heap.size + 2]? = some (.cells (ls.map Value.string).toArray 9 (0, 0)) := by
    show (((w.heap.push _).push _).push _)[w.heap.size + 2]? = _
    rw [Array.getElem?_push, if_pos (by simp)]
  have hsz3 : (((w.alloc (.cells #[.slice none 0 0, .slice none 0 0, .slice none 0 0, .slice none 0 0] 35)).alloc (.cells #[.slice none 0 0, .slice none 0 0, .slice none 0 0, .slice none 0 0] 35)).alloc (.cells (ls.map Value.string).toArray 9)).heap.size = w.heap.size + 3 := by simp
  clear hb1 hm
  go_enter Tryd.func21, Tryd.ntmps21
  go_wp2_with fail
  refine HS.mono ?_
  rintro e w3 ⟨rfl, hw3⟩
  rw [← hw3] at hW hR0 hR1 hR2 hsz3
  clear hw3 HS
  have hS : ReadSt w3 w3 w.heap.size emptyO := ⟨⟨.slice none 0 0, .slice none 0 0, .slice none 0 0, .slice none 0 0, by omega, hR1, World.ownsRow_nil _ _ _ _, World.ownsRow_nil _ _ _ _, World.ownsRow_nil _ _ _ _, World.ownsRow_nil _ _ _ _⟩, Kept.refl _ _ _⟩
  go_wp2
  go_loopw [9] (fun x wr => ∃ k : Nat, k ≤ n + 1 ∧ x = .int .i64 k ∧ ReadSt w3 wr w.heap.size ((ls.take k).foldl lineF emptyO)) (fun x _ => n + 1 - (intOf x).toNat)
  case atStart => exact ⟨0, Nat.zero_le _, rfl, hS⟩
  case round =>
    clear hS
    obtain ⟨k, hk, rfl, ⟨⟨v0, v1, v2, v3, hRd⟩, hK⟩⟩ := hrel
    have hBw : Below w.heap.size w wr := hW.trans (hK.below.mono (by omega))
    by_cases hlt : k < n + 1
    · obtain ⟨x, hx⟩ := h3a k hlt
      have hE' := hE.later hBw
      have hxs : x.size ≤ 100000 := hsz x (List.mem_of_getElem? hx)
      have hcn := fold_counts (ls.take k) emptyO 0 ⟨Nat.le_refl _, Nat.le_refl _, Nat.le_refl _, Nat.le_refl _⟩
      have htk : (ls.take k).length = k := by rw [List.length_take]; omega
      rw [htk] at hcn
      have hcell : wr.cell? ⟨w.heap.size + 1 + 1, k, none⟩ = some (.string x) := by
        have h2 := (hK.block (w.heap.size + 2) (by omega) (by omega)).trans hR2
        show wr.cell? ⟨w.heap.size + 2, k, none⟩ = _
        simp [World.cell?, h2, hx]
      have HN : Hid ((ls.take (k + 1)).foldl lineF emptyO = lineF ((ls.take k).foldl lineF emptyO) x) := by
        show (ls.take (k + 1)).foldl lineF emptyO = _
        rw [List.take_add_one, hx, List.foldl_append]
        rfl
      clear hx htk hBw h3a hsz hR0 hR1 hR2 HF
      generalize (ls.take k).foldl lineF emptyO = X at *
      go_wp2_with fail
      refine (readLine_any (w.heap.size + 3) (w.heap.size + 1) v0 v1 v2 v3 X x _ hE' hRd (by omega) (by omega)).mono ?_
      rintro e w4 ⟨rfl, hRn, hKn⟩
      have hS : ReadSt w3 w4 w.heap.size ((ls.take (k + 1)).foldl lineF emptyO) := by rw [HN.out]; exact ⟨hRn, hK.trans hKn⟩
      clear hRn hKn hK hRd hcell hE' HN
      go_wp2
      go_roundw
      case rel => exact ⟨k + 1, by omega, by go_num, hS⟩
      case measure => simp [intOf]; omega
    · have e : k = n + 1 := by omega
      subst e
      have et : ls.take (n + 1) = ls := List.take_of_length_le (by omega)
      rw [et, ← HF.out] at hRd
      obtain ⟨v, hv, _⟩ := hRd.objAt
      obtain ⟨rfl, rfl, rfl, rfl⟩ : v0 = .slice v.aN F.nN v.cN ∧ v1 = .slice v.aW F.nW v.cW ∧ v2 = .slice v.aS F.nS v.cS ∧ v3 = .slice v.aT F.nT v.cT := by simpa [ObjV.cells] using hv
      clear hv
      have c0 := hRd.c0
      have c1 := hRd.c1
      have c2 := hRd.c2
      have c3 := hRd.c3
      have hq := (hK.block w.heap.size (by omega) (by omega)).trans hR0
      have q0 : wr.cell? ⟨w.heap.size, 0, none⟩ = some (.slice none 0 0) := by simp [World.cell?, hq]
      have q1 : wr.cell? ⟨w.heap.size, 1, none⟩ = some (.slice none 0 0) := by simp [World.cell?, hq]
      have q2 : wr.cell? ⟨w.heap.size, 2, none⟩ = some (.slice none 0 0) := by simp [World.cell?, hq]
      have q3 : wr.cell? ⟨w.heap.size, 3, none⟩ = some (.slice none 0 0) := by simp [World.cell?, hq]
      have f0 : wr.frozen? ⟨w.heap.size, 0, none⟩ = false := by simp [World.frozen?, hq]
      have f1 : wr.frozen? ⟨w.heap.size, 1, none⟩ = false := by simp [World.frozen?, hq]
      have f2 : wr.frozen? ⟨w.heap.size, 2, none⟩ = false := by simp [World.frozen?, hq]
      have f3 : wr.frozen? ⟨w.heap.size, 3, none⟩ = false := by simp [World.frozen?, hq]
      have hnew : ObjNew w.heap.size v F := ObjNew.lower (B := w.heap.size + 3) ⟨newRow_of hRd.needs, newRow_of hRd.words, newRow_of hRd.syms, newRow_of hRd.ties⟩ (by omega)
      have hfin := (hRd.store4 hq (by omega) (.slice v.aN F.nN v.cN) (.slice v.aW F.nW v.cW) (.slice v.aS F.nS v.cS) (.slice v.aT F.nT v.cT)).objAt
      have hBf := below_store4 hBw (Nat.le_refl w.heap.size) (.slice v.aN F.nN v.cN) (.slice v.aW F.nW v.cW) (.slice v.aS F.nS v.cS) (.slice v.aT F.nT v.cT)
      clear hq hRd hR0 hR1 hR2 h3a hsz HF hK hW hBw
      go_wp2
      refine bodyPost_ret (v := .agg #[.slice v.aN F.nN v.cN, .slice v.aW F.nW v.cW, .slice v.aS F.nS v.cS, .slice v.aT F.nT v.cT]) (by simp [results, Tryd.results21, go_sem, q0, q1, q2, q3]) rfl ⟨?_, hBf⟩
      obtain ⟨v', hv, ho⟩ := hfin
      refine ⟨v', by rw [hv], ho, ?_⟩
      obtain ⟨aN, cN, aW, cW, aS, cS, aT, cT⟩ := v
      obtain ⟨aN', cN', aW', cW', aS', cS', aT', cT'⟩ := v'
      simp [ObjV.cells] at hv
      obtain ⟨⟨rfl, _⟩, ⟨rfl, _⟩, ⟨rfl, _⟩, ⟨rfl, _⟩⟩ := hv
      exact ⟨hnew.needs, hnew.words, hnew.syms, hnew.ties⟩
end Go.Proofs.YtanfejgcjifhpaaDoor
