/-
  What Of of package scope returns, for every file and every root: who belongs together, in order; or the number of the error; all other memory stays as it was.
-/
import Derived.Test.YtieldgdkkfkehaaGreatDoorScopeWalks
import Derived.Test.YtieldgdkkfkehaaGreatDoorGrowObjs
namespace Go.Proofs.YtieldgdkkfkehaaGreatDoor
open Go.RowKit Go.Maps

/-- a row that doesn't lie in that block. -/
def RowSep (a : Option Addr) (n : Nat) (row : Option Nat) : Prop := ∀ b f, 0 < n → a = some ⟨b, f, none⟩ → some b ≠ row
/-- an object whose rows don't lie in that block. -/
structure ObjSep (v : ObjV) (o : ObjF) (row : Option Nat) : Prop where
  needs : RowSep v.aN o.nN row
  words : RowSep v.aW o.nW row
  syms : RowSep v.aS o.nS row
  ties : RowSep v.aT o.nT row
theorem NewRow.sep {B n : Nat} {a : Option Addr} {row : Option Nat} (h : NewRow B a n) (hr : ∀ j, row = some j → j < B) : RowSep a n row := fun b f hn ha e => by
  rcases h with h | ⟨b', f', h1, h2⟩
  · omega
  · rw [ha] at h1
    injection h1 with h1
    injection h1 with h1
    subst h1
    have := hr b e.symm
    omega
theorem ObjNew.sep {B : Nat} {v : ObjV} {o : ObjF} {row : Option Nat} (h : ObjNew B v o) (hr : ∀ j, row = some j → j < B) : ObjSep v o row := ⟨h.needs.sep hr, h.words.sep hr, h.syms.sep hr, h.ties.sep hr⟩
theorem ObjAt.grown {w W : World} {v : ObjV} {o : ObjF} {row : Option Nat} (h : ObjAt w v o) (hg : w.grownBy W row) (hs : ObjSep v o row) : ObjAt W v o where
  needs := h.needs.grown hg hs.needs
  words := h.words.grown hg hs.words
  syms := by
    rcases h.syms with h | ⟨b, f, ha, hc⟩
    · exact .inl h
    · by_cases h0 : o.nS = 0
      · exact .inl h0
      · have hq := hs.syms b f (by omega) ha
        exact .inr ⟨b, f, ha, fun i hi => ⟨hg.cell (hc i hi).1 hq, hg.cell (hc i hi).2.1 hq, hg.cell (hc i hi).2.2 hq⟩⟩
  ties := by
    rcases h.ties with h | ⟨b, f, ha, hc⟩
    · exact .inl h
    · by_cases h0 : o.nT = 0
      · exact .inl h0
      · have hq := hs.ties b f (by omega) ha
        exact .inr ⟨b, f, ha, fun i hi => ⟨hg.cell (hc i hi).1 hq, hg.cell (hc i hi).2.1 hq, hg.cell (hc i hi).2.2.1 hq, hg.cell (hc i hi).2.2.2.1 hq, hg.cell (hc i hi).2.2.2.2 hq⟩⟩
  capN := h.capN
  capS := h.capS
theorem rowSep_next {w : World} {B : Nat} {a : Option Addr} {n : Nat} {u u' : Value} (hlt : ∀ b f, 0 < n → a = some ⟨b, f, none⟩ → b < w.heap.size) (h : RowSep a n u.ownBlock) (hB : w.heap.size ≤ B) (hs : SameOrNew B u u') : RowSep a n u'.ownBlock := fun b f hn ha e => by
  rcases hs with e2 | ⟨j, e2, hj⟩
  · rw [e2] at e; exact h b f hn ha e
  · rw [e2] at e
    injection e with e
    subst e
    have := hlt b f hn ha
    omega
theorem ObjSep.next {w : World} {B : Nat} {v : ObjV} {o : ObjF} {u u' : Value} (hA : ObjAt w v o) (h : ObjSep v o u.ownBlock) (hB : w.heap.size ≤ B) (hs : SameOrNew B u u') : ObjSep v o u'.ownBlock where
  needs := rowSep_next (w := w) (fun b f hn ha => by
    rcases hA.needs with h | ⟨b', f', h1, hc⟩
    · omega
    · rw [ha] at h1; injection h1 with h1; injection h1 with h1; subst h1; exact World.block_lt_of_cell? _ _ (hc 0 hn)) h.needs hB hs
  words := rowSep_next (w := w) (fun b f hn ha => by
    rcases hA.words with h | ⟨b', f', h1, hc⟩
    · omega
    · rw [ha] at h1; injection h1 with h1; injection h1 with h1; subst h1; exact World.block_lt_of_cell? _ _ (hc 0 hn)) h.words hB hs
  syms := rowSep_next (w := w) (fun b f hn ha => by
    rcases hA.syms with h | ⟨b', f', h1, hc⟩
    · omega
    · rw [ha] at h1; injection h1 with h1; injection h1 with h1; subst h1; exact World.block_lt_of_cell? _ _ (hc 0 hn).1) h.syms hB hs
  ties := rowSep_next (w := w) (fun b f hn ha => by
    rcases hA.ties with h | ⟨b', f', h1, hc⟩
    · omega
    · rw [ha] at h1; injection h1 with h1; injection h1 with h1; subst h1; exact World.block_lt_of_cell? _ _ (hc 0 hn).1) h.ties hB hs

/-- one object more. -/
theorem growObj {B : Nat} {w : World} {x : Value} {n : Nat} {V V' : Nat → ObjV} {O : Nat → ObjF} (v : ObjV) (hB : B ≤ w.heap.size) (h : OwnObjs B w x n V O) (hn : n < 1000) (hV : ∀ i, i < n → V i = V' i) (hv : V' n = v) :
    ∃ x' W, (Builtin.append_ #[37, 37] 37 #[x, .slice (some ⟨w.heap.size, 0, none⟩) 1 1]).run Tryz.prog (w.alloc (.cells #[.slice v.aN (O n).nN v.cN, .slice v.aW (O n).nW v.cW, .slice v.aS (O n).nS v.cS, .slice v.aT (O n).nT v.cT] 27)) = .ok x' W ∧
      OwnObjs B W x' (n + 1) V' O ∧ (w.alloc (.cells #[.slice v.aN (O n).nN v.cN, .slice v.aW (O n).nW v.cW, .slice v.aS (O n).nS v.cS, .slice v.aT (O n).nT v.cT] 27)).grownBy W x.ownBlock ∧ SameOrNew w.heap.size x x' := by
  have hinfo : (Tryz.prog.info? 27).map (fun i => (i.zero, i.size, i.bytes)) = some (some (.agg #[.slice none 0 0, .slice none 0 0, .slice none 0 0, .slice none 0 0]), 4, 96) := by kernel_rfl
  obtain ⟨i, hi, hzz⟩ := Option.map_eq_some_iff.1 hinfo
  simp only [Prod.mk.injEq] at hzz
  obtain ⟨hz, hs, hb⟩ := hzz
  obtain ⟨x', W, h1, h2, h3, _, h5⟩ := run_append_own_at (P := Tryz.prog) (w.alloc (.cells #[.slice v.aN (O n).nN v.cN, .slice v.aW (O n).nW v.cW, .slice v.aS (O n).nS v.cS, .slice v.aT (O n).nT v.cT] 27)) B 37 37 27 i _ 4 96 Tryz.underlying37 hi hz hs hb rfl (by decide) x n _ (h.alloc _) ⟨w.heap.size, 0, none⟩ 1 1 (objC V' O n) rfl
    (fun j u hj => by
      simp only [objC, hv] at hj
      match j, hj with
      | 0, hj => simp at hj; subst hj; simp [go_sem, Addr.add]
      | 1, hj => simp at hj; subst hj; simp [go_sem, Addr.add]
      | 2, hj => simp at hj; subst hj; simp [go_sem, Addr.add]
      | 3, hj => simp at hj; subst hj; simp [go_sem, Addr.add]
      | j + 4, hj => simp at hj) (fun u hu => objs_one (n := n + 1) (V := V') (O := O) (by show u ∈ joinC (objC V' O) n ++ objC V' O n; exact List.mem_append_right _ hu)) (by simp only [maxLen]; omega) (by omega) (by simp; omega)
  refine ⟨x', W, h1, ?_, h3, ?_⟩
  · show W.ownsRow B 27 4 x' (n + 1) (joinC (objC V' O) n ++ objC V' O n)
    rw [joinC_congr (g := objC V' O) (h := objC V O) (fun i hi => by simp [objC, hV i hi])]
    exact h2
  · rcases h5 with h5 | h5
    · exact .inl h5
    · exact .inr ⟨_, h5, by simp⟩
theorem ownsSep {w : World} {B B' : Nat} {e e' : TypeId} {s s' n n' : Nat} {v v' : Value} {xs xs' : List Value} (h : w.ownsRow B e s v n xs) (h' : w.ownsRow B' e' s' v' n' xs') (he : e ≠ e') : v.ownBlock = none ∨ v.ownBlock ≠ v'.ownBlock := by
  rcases h.2 with ⟨rfl, _⟩ | ⟨g, cap, cur, rfl, _, hg, _⟩
  · exact .inl rfl
  · rcases h'.2 with ⟨rfl, _⟩ | ⟨g', cap', cur', rfl, _, hg', _⟩
    · exact .inr (by simp [Value.ownBlock])
    · refine .inr fun e2 => ?_
      simp [Value.ownBlock] at e2
      subst e2
      rw [hg] at hg'
      injection hg' with hg'
      injection hg' with _ h2 _
      exact he h2

/-- objects of the call's own. -/
structure ObjsIn (w : World) (B : Nat) (x : Value) (n : Nat) (V : Nat → ObjV) (O : Nat → ObjF) : Prop where
  own : OwnObjs B w x n V O
  at' : ∀ j, j < n → ObjAt w (V j) (O j)
/-- a call of Of that returned. -/
inductive OfEnd (w : World) (B : Nat) (rd : ByteArray → Nat × ObjF) (root : ByteArray) : Ending → Prop
  | bad (F i : Nat) (h : OfIs rd root F i) (hf : F ≠ 0) : OfEnd w B rd root (.returned (.tuple #[.slice none 0 0, .slice none 0 0, errV F]))
  | ok (i : Nat) (u x : Value) (V : Nat → ObjV) (h : OfIs rd root 0 i) (hu : OwnTx w B u (namesAt rd root i)) (hx : ObjsIn w B x i V fun j => (rd (nmAt rd root j)).2) : OfEnd w B rd root (.returned (.tuple #[u, x, .nilIface]))

theorem nm_size {D : DataW Unit} {T : ByteArray → ByteArray} {root : ByteArray} {i : Nat} (hroot : root.size ≤ maxLen) (hr : ReadTo (rdD D T) root i) (hi : i < (namesAt (rdD D T) root i).length) : (nmAt (rdD D T) root i).size ≤ maxLen := by
  by_cases h0 : i = 0
  · subst h0; exact hroot
  · have hget := names_get (rd := rdD D T) (root := root) (Nat.le_refl i) hi
    obtain ⟨k, q, hk, _, hq, e⟩ := names_wanted hget (by omega) hr
    have := (rd_ok (hr k hk).2).needs q hq
    have hl := nameF_len this
    rw [e] at hl
    have : (nmAt (rdD D T) root i).data.toList.length = (nmAt (rdD D T) root i).size := by simp
    simp only [maxLen]
    omega

set_option maxRecDepth 100000 in
set_option maxHeartbeats 4000000 in
theorem of_any (w : World) (p bm : Nat) (D : DataW Unit) (k : Nat) (T : ByteArray → ByteArray) (root : ByteArray) (h : FilesAt w p bm D k) (hI : Inv D k) (hT : Texts D T) (hE : Env w) (hroot : root.size ≤ maxLen) :
    Calls Tryz.prog 11 #[.pointer (some ⟨p, 0, none⟩), .string root] w fun e w' => OfEnd w' w.heap.size (rdD D T) root e ∧ Below w.heap.size w w' := by
  have hO0 : OwnTx (w.alloc (.cells #[.string root] 9)) w.heap.size (.slice (some ⟨w.heap.size, 0, none⟩) 1 1) [root] := by
    have e : (w.alloc (.cells #[.string root] 9)).heap[w.heap.size]? = some (.cells #[.string root] 9) := by
      show (w.heap.push _)[w.heap.size]? = _
      rw [Array.getElem?_push_size]
    exact ⟨rfl, .inr ⟨w.heap.size, 1, #[.string root], rfl, Nat.le_refl _, e, Nat.le_refl _, by simp [maxLen], rfl, rfl⟩⟩
  have hx0 : Below w.heap.size w (w.alloc (.cells #[.string root] 9)) := (Below.refl _ _).alloc (Nat.le_refl _) _
  have hfew := rd_few (T := T) hI
  generalize hrd : rdD D T = rd at *
  have HRD : Hid (rdD D T = rd) := hrd
  clear hrd
  go_enter Tryz.func11, Tryz.ntmps11
  go_wp2
  go_loopw [7, 8, 9] (fun a b z wr => ∃ (i : Nat) (u x : Value) (V : Nat → ObjV), i ≤ 6 ∧ z = .int .i64 i ∧ a = u ∧ b = x ∧ OwnTx wr w.heap.size u (namesAt rd root i) ∧ ObjsIn wr w.heap.size x i V (fun j => (rd (nmAt rd root j)).2) ∧
      (∀ j, j < i → ObjSep (V j) (rd (nmAt rd root j)).2 u.ownBlock ∧ ObjSep (V j) (rd (nmAt rd root j)).2 x.ownBlock) ∧ Hid (ReadTo rd root i) ∧ Below w.heap.size w wr) (fun _ _ z _ => 7 - (intOf z).toNat)
  case atStart => exact ⟨0, _, _, fun _ => noV, by omega, rfl, rfl, rfl, hO0, ⟨World.ownsRow_nil _ _ _ _, fun j hj => by omega⟩, fun j hj => by omega, fun j hj => by omega, hx0⟩
  case round =>
    clear hO0 hx0
    obtain ⟨i, u, x, V, hi6, rfl, rfl, rfl, ho, hx, hsep, HR, hb⟩ := hrel
    have hnn : ∀ j, j < i → (rd (nmAt rd root j)).2.nN ≤ 4 := fun j hj => by
      have h1 := (HR.out j hj).2
      rw [← HRD.out] at h1 ⊢
      exact (rd_ok h1).nN
    have hlen := names_len rd root i hnn
    by_cases hlt : i < (namesAt rd root i).length
    · have hget := names_get (rd := rd) (root := root) (Nat.le_refl i) hlt
      have hsz : (nmAt rd root i).size ≤ maxLen := by
        rw [← HRD.out] at HR hlt ⊢
        exact nm_size hroot HR.out hlt
      have hRd := scopeRead_any wr p bm D k T (nmAt rd root i) (h.later hb) hT (hE.later hb) hsz
      rw [HRD.out] at hRd
      obtain ⟨au, cu, rfl, hcu, hru⟩ := ownTx_row ho
      have hB := hb.size
      rcases hru with h0 | ⟨bu, fu, rfl, hcn⟩
      · omega
      have hci : wr.cell? ⟨bu, fu + i, none⟩ = some (.string (nmAt rd root i)) := hcn i hlt
      clear hcn hget
      have hltu : ∀ j, (Value.slice (some ⟨bu, fu, none⟩) (namesAt rd root i).length cu).ownBlock = some j → j < wr.heap.size := fun j e => (ho.lt j e).2
      have hltx : ∀ j, u8.ownBlock = some j → j < wr.heap.size := fun j e => (hx.own.lt j e).2
      by_cases hf : (rd (nmAt rd root i)).1 = 0
      · have HR2 : Hid (ReadTo rd root (i + 1)) := fun j hj => by
          by_cases e : j = i
          · subst e; exact ⟨hlt, hf⟩
          · exact HR.out j (by omega)
        have hi7 : i + 1 ≤ 6 := HR2.out.few hfew
        have hok : ObjOk (rd (nmAt rd root i)).2 := by
          rw [← HRD.out] at hf ⊢
          exact rd_ok hf
        have hn4 := hok.nN
        rw [hf] at hRd
        have q5 : errV 0 = .nilIface := rfl
        rw [q5] at hRd
        clear q5 hf
        go_wp2_with fail
        refine hRd.mono ?_
        rintro e w1 ⟨⟨v, rfl, hA, hNw⟩, hb1⟩
        clear hRd hci
        have ho1 := owns_below ho hb1
        have hx1 : ∀ j, j < i → ObjAt w1 (V j) (rd (nmAt rd root j)).2 := fun j hj => (hx.at' j hj).later hb1
        have hxo1 := owns_below hx.own hb1
        have hb2 := hb.trans (hb1.mono hb.size)
        have hs1 := hb1.size
        have hNu := hNw.sep hltu
        have hNx := hNw.sep hltx
        clear hNw hltu hltx hb1 hb hx ho
        obtain ⟨aN, cN, aW, cW, aS, cS, aT, cT⟩ := v
        -- the local object, then the one-place row, then append
        have hal : ∀ ob : Obj, Below w1.heap.size w1 (w1.alloc ob) := fun ob => (Below.refl _ _).alloc (Nat.le_refl _) ob
        obtain ⟨x', W, happ, hxW, hgW, hsnW⟩ := growObj (w := w1.alloc (.cells #[.slice aN (rd (nmAt rd root i)).2.nN cN, .slice aW (rd (nmAt rd root i)).2.nW cW, .slice aS (rd (nmAt rd root i)).2.nS cS, .slice aT (rd (nmAt rd root i)).2.nT cT] 27)) (V := V) (V' := fun j => if j = i then ⟨aN, cN, aW, cW, aS, cS, aT, cT⟩ else V j) ⟨aN, cN, aW, cW, aS, cS, aT, cT⟩ (by simp; omega) (hxo1.alloc _) (by omega) (fun j hj => by simp [Nat.ne_of_lt hj]) (by simp)
        have e1 : (w1.alloc (.cells #[.slice aN (rd (nmAt rd root i)).2.nN cN, .slice aW (rd (nmAt rd root i)).2.nW cW, .slice aS (rd (nmAt rd root i)).2.nS cS, .slice aT (rd (nmAt rd root i)).2.nT cT] 27)).heap.size = w1.heap.size + 1 := by simp
        rw [e1] at happ hsnW
        clear e1
        have hbA : Below w1.heap.size w1 ((w1.alloc (.cells #[.slice aN (rd (nmAt rd root i)).2.nN cN, .slice aW (rd (nmAt rd root i)).2.nW cW, .slice aS (rd (nmAt rd root i)).2.nS cS, .slice aT (rd (nmAt rd root i)).2.nT cT] 27)).alloc (.cells #[.slice aN (rd (nmAt rd root i)).2.nN cN, .slice aW (rd (nmAt rd root i)).2.nW cW, .slice aS (rd (nmAt rd root i)).2.nS cS, .slice aT (rd (nmAt rd root i)).2.nT cT] 27)) := (hal _).alloc (by simp) _
        have hoW : OwnTx W w.heap.size (.slice (some ⟨bu, fu, none⟩) (namesAt rd root i).length cu) (namesAt rd root i) := ((ho1.alloc _).alloc _).kept hgW (ownsSep ho1 hxo1 (by decide))
        have hxW1 : ∀ j, j < i → ObjAt W (V j) (rd (nmAt rd root j)).2 := fun j hj => ((hx1 j hj).later hbA).grown hgW (hsep j hj).2
        have hAW : ObjAt W ⟨aN, cN, aW, cW, aS, cS, aT, cT⟩ (rd (nmAt rd root i)).2 := (hA.later hbA).grown hgW hNx
        have hne : some w1.heap.size ≠ u8.ownBlock := fun e => by have := (hxo1.lt _ e.symm).2; omega
        have c0 : W.cell? ⟨w1.heap.size, 0, none⟩ = some (.slice aN (rd (nmAt rd root i)).2.nN cN) := hgW.cell (by simp [go_sem]) hne
        have hbW : Below w.heap.size w W := (hb2.trans (hbA.mono hb2.size)).grown hgW (Nat.le_trans hb2.size hbA.size) (fun j e => (hxo1.lt j e).1)
        have HJ := join_any W w.heap.size (.slice (some ⟨bu, fu, none⟩) (namesAt rd root i).length cu) (namesAt rd root i) aN cN (rd (nmAt rd root i)).2 hoW hAW.needs hNu.needs hbW.size (by omega) (by omega)
        have hsx2 : ∀ j, j < i + 1 → ObjSep ((fun j => if j = i then (⟨aN, cN, aW, cW, aS, cS, aT, cT⟩ : ObjV) else V j) j) (rd (nmAt rd root j)).2 x'.ownBlock := fun j hj => by
          by_cases e : j = i
          · subst e
            simp only [if_pos]
            exact ObjSep.next hA hNx (Nat.le_succ _) hsnW
          · simp only [if_neg e]
            exact ObjSep.next (hx1 j (by omega)) (hsep j (by omega)).2 (Nat.le_succ _) hsnW
        have hsu : ∀ j, j < i + 1 → ObjAt W ((fun j => if j = i then (⟨aN, cN, aW, cW, aS, cS, aT, cT⟩ : ObjV) else V j) j) (rd (nmAt rd root j)).2 ∧ ObjSep ((fun j => if j = i then (⟨aN, cN, aW, cW, aS, cS, aT, cT⟩ : ObjV) else V j) j) (rd (nmAt rd root j)).2 (Value.slice (some ⟨bu, fu, none⟩) (namesAt rd root i).length cu).ownBlock := fun j hj => by
          by_cases e : j = i
          · subst e
            simp only [if_pos]
            exact ⟨hAW, hNu⟩
          · simp only [if_neg e]
            exact ⟨hxW1 j (by omega), (hsep j (by omega)).1⟩
        clear hx1 hA hNu hNx hsep hxW1 hAW hbA hal hb2 ho1 hxo1 hsnW hne hgW
        unfold ObjV.cells
        generalize (fun j => if j = i then (⟨aN, cN, aW, cW, aS, cS, aT, cT⟩ : ObjV) else V j) = V2 at *
        go_wp2_with (at_builtin; refine list_run rfl (.tmp 32) (.tmp 34) 37 rfl u8 (.slice (some ⟨w1.heap.size + 1, 0, none⟩) 1 1) _ rfl rfl happ ?_)
        refine HJ.mono ?_
        rintro e W2 ⟨⟨u', rfl, hu', hsn'⟩, hgJ⟩
        have hxW2 : OwnObjs w.heap.size W2 x' (i + 1) V2 (fun j => (rd (nmAt rd root j)).2) := hxW.kept hgJ (ownsSep hxW hoW (by decide))
        have hA2 : ∀ j, j < i + 1 → ObjAt W2 (V2 j) (rd (nmAt rd root j)).2 := fun j hj => (hsu j hj).1.grown hgJ (hsu j hj).2
        have hsep2 : ∀ j, j < i + 1 → ObjSep (V2 j) (rd (nmAt rd root j)).2 u'.ownBlock ∧ ObjSep (V2 j) (rd (nmAt rd root j)).2 x'.ownBlock := fun j hj => ⟨ObjSep.next (hsu j hj).1 (hsu j hj).2 (Nat.le_refl _) hsn', hsx2 j hj⟩
        have hbW2 : Below w.heap.size w W2 := hbW.grown hgJ hbW.size (fun j e => (hoW.lt j e).1)
        have hu2 : OwnTx W2 w.heap.size u' (namesAt rd root (i + 1)) := hu'
        clear HJ hu' hsn' hgJ hsu hsx2 hxW hoW hbW happ c0
        go_wp2
        go_roundw
        case rel => exact ⟨i + 1, u', x', V2, hi7, by go_num, rfl, rfl, hu2, ⟨hxW2, hA2⟩, hsep2, HR2, hbW2⟩
        case measure => simp [intOf]; omega
      · obtain ⟨z, hz⟩ : ∃ z : Int, errV (rd (nmAt rd root i)).1 = .iface 79 (.int .i64 z) := by
          cases e : (rd (nmAt rd root i)).1 with
          | zero => exact absurd e hf
          | succ f => exact ⟨_, rfl⟩
        have HE : Hid (OfIs rd root (rd (nmAt rd root i)).1 i) := .bad i HR.out hlt hf
        have H0 : Hid ((rd (nmAt rd root i)).1 ≠ 0) := hf
        have HZ : Hid (errV (rd (nmAt rd root i)).1 = .iface 79 (.int .i64 z)) := hz
        rw [hz] at hRd
        clear hf hz hsep hltu hltx
        go_wp2_with fail
        refine hRd.mono ?_
        rintro e w1 ⟨⟨v, rfl, hA, hNw⟩, hb1⟩
        obtain ⟨aN, cN, aW, cW, aS, cS, aT, cT⟩ := v
        have hb2 := hb.trans (hb1.mono hb.size)
        clear hRd hA hNw
        unfold ObjV.cells
        go_wp2
        go_ret3
        exact ⟨by rw [← HZ.out]; exact .bad _ i HE.out H0.out, hb2.alloc hb2.size _⟩
    · have hei : (namesAt rd root i).length = i := by
        have : i ≤ (namesAt rd root i).length := by
          cases i with
          | zero => omega
          | succ j =>
            have h1 := (HR.out j (by omega)).1
            have h2 : (namesAt rd root j).length ≤ (namesAt rd root (j + 1)).length := (names_pre rd root (Nat.le_succ j)).length_le
            omega
        omega
      have HE : Hid (OfIs rd root 0 i) := .ok i HR.out hei
      obtain ⟨au, cu, rfl, hcu, hru⟩ := ownTx_row ho
      clear hru hsep HR
      go_wp2
      go_ret3
      exact ⟨.ok i _ _ V HE.out ho hx, hb⟩
end Go.Proofs.YtieldgdkkfkehaaGreatDoor
