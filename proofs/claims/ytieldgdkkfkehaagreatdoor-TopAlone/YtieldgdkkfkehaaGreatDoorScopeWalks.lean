/-
  What read and join of package scope return, for every file, every text and every list; all other memory stays as it was.
-/
import Derived.Test.YtieldgdkkfkehaaGreatDoorParseAll
import Derived.Test.YtieldgdkkfkehaaGreatDoorFilesInv
import Derived.Test.YtieldgdkkfkehaaGreatDoorPlain
import Derived.Test.YtieldgdkkfkehaaGreatDoorPlainTop
import Derived.Test.YtieldgdkkfkehaaGreatDoorAtAll
import Derived.Maps.AppendAt
import Derived.Maps.Range
namespace Go.Proofs.YtieldgdkkfkehaaGreatDoor
open Go.RowKit Go.Maps

theorem keyB_inj' {x y : ByteArray} (h : keyB x = keyB y) : x = y := by
  injection h with h
  exact WideShapes.bytes_inj h
/-- the texts of files. -/
structure Texts (D : DataW Unit) (T : ByteArray → ByteArray) : Prop where
  is : ∀ s t n, Maps.has D (keyB s) = true → D.atKey (keyB s) (fileD [] 0) = fileD t.data.toList n → t = T s
theorem fileD_txt {t t' : List UInt8} {n n' : Int} (h : fileD t n = fileD t' n') : t = t' := by
  simp [fileD] at h
  exact h.1
theorem texts_some (D : DataW Unit) : ∃ T, Texts D T := by
  have h : ∀ s : ByteArray, ∃ T : ByteArray, ∀ t n, D.atKey (keyB s) (fileD [] 0) = fileD t.data.toList n → t = T := fun s => by
    by_cases e : ∃ t : ByteArray, ∃ n, D.atKey (keyB s) (fileD [] 0) = fileD t.data.toList n
    · obtain ⟨t, n, e⟩ := e
      exact ⟨t, fun t' n' e' => WideShapes.bytes_inj (fileD_txt (e'.symm.trans e))⟩
    · exact ⟨⟨#[]⟩, fun t n e' => absurd ⟨t, n, e'⟩ e⟩
  obtain ⟨T, hT⟩ := Classical.axiomOfChoice h
  exact ⟨T, ⟨fun s t n _ e => hT s t n e⟩⟩
/-- what is read of a name: the fault's number, the object. -/
def rdD (D : DataW Unit) (T : ByteArray → ByteArray) (s : ByteArray) : Nat × ObjF := if Maps.has D (keyB s) = true then parseF (T s) else (5, emptyO)
theorem has_few {D : DataW Unit} (hD : Tidy D) : ∀ l : List ByteArray, l.Nodup → (∀ s, s ∈ l → Maps.has D (keyB s) = true) → l.length ≤ Maps.size D := by
  intro l
  induction l generalizing D with
  | nil => intro _ _; exact Nat.zero_le _
  | cons s l ih =>
    intro hn hh
    rw [List.nodup_cons] at hn
    have h1 := ih (hD.del (keyB s)) hn.2 (fun x hx => by
      rw [has_del_other (fun e => hn.1 (by rw [← keyB_inj' e]; exact hx))]
      exact hh x (List.mem_cons_of_mem _ hx))
    have h2 := size_del (k := keyB s) hD
    rw [if_pos (hh s (List.mem_cons_self ..))] at h2
    simp only [List.length_cons]
    omega
theorem rd_few {D : DataW Unit} {k : Nat} {T : ByteArray → ByteArray} (hI : Inv D k) : ∀ l : List ByteArray, l.Nodup → (∀ s, s ∈ l → (rdD D T s).1 = 0) → l.length ≤ 6 := fun l hn h =>
  Nat.le_trans (has_few hI.tidy l hn fun s hs => by
    have := h s hs
    unfold rdD at this
    split at this
    · assumption
    · cases this) hI.size
theorem parse_zero {s : ByteArray} (h : (parseF s).1 = 0) : ObjOk (parseF s).2 := objOk (textF_zero (parse_back h).1).1
theorem rd_ok {D : DataW Unit} {T : ByteArray → ByteArray} {s : ByteArray} (h : (rdD D T s).1 = 0) : ObjOk (rdD D T s).2 := by
  unfold rdD at h ⊢
  split
  · rename_i hh; rw [if_pos hh] at h; exact parse_zero h
  · rename_i hh; rw [if_neg hh] at h; cases h

set_option maxRecDepth 100000 in
set_option maxHeartbeats 1000000 in
theorem scopeRead_any (w : World) (p bm : Nat) (D : DataW Unit) (k : Nat) (T : ByteArray → ByteArray) (s : ByteArray) (h : FilesAt w p bm D k) (hT : Texts D T) (hE : Env w) (hs : s.size ≤ maxLen) :
    Calls Tryz.prog 34 #[.pointer (some ⟨p, 0, none⟩), .string s] w fun e w' => (∃ v : ObjV, e = .returned (.tuple #[.agg (v.cells (rdD D T s).2), errV (rdD D T s).1]) ∧ ObjAt w' v (rdD D T s).2 ∧ ObjNew w.heap.size v (rdD D T s).2) ∧ Below w.heap.size w w' := by
  have hx : Below w.heap.size w (w.alloc (.cells #[.slice none 0 0, .slice none 0 0, .slice none 0 0, .slice none 0 0] 27)) := (Below.refl _ _).alloc (Nat.le_refl _) _
  have HR := fileRead_any (w.alloc (.cells #[.slice none 0 0, .slice none 0 0, .slice none 0 0, .slice none 0 0] 27)) p bm D k s (h.later hx) hs
  have hE1 := hE.later hx
  have hR0 : (w.alloc (.cells #[.slice none 0 0, .slice none 0 0, .slice none 0 0, .slice none 0 0] 27)).heap[w.heap.size]? = some (.cells #[.slice none 0 0, .slice none 0 0, .slice none 0 0, .slice none 0 0] 27 (0, 0)) := by
    show (w.heap.push _)[w.heap.size]? = _
    rw [Array.getElem?_push_size]
  have hlt : w.heap.size < (w.alloc (.cells #[.slice none 0 0, .slice none 0 0, .slice none 0 0, .slice none 0 0] 27)).heap.size := by simp
  go_enter Tryz.func34, Tryz.ntmps34
  go_wp2_with fail
  generalize w.alloc (.cells #[.slice none 0 0, .slice none 0 0, .slice none 0 0, .slice none 0 0] 27) = w0 at *
  refine HR.mono ?_
  rintro e w1 ⟨⟨t, n, f, rfl, hR⟩, hb1⟩
  clear HR
  have hb2 := hx.trans (hb1.mono hx.size)
  have hR1 : w1.heap[w.heap.size]? = some (.cells #[.slice none 0 0, .slice none 0 0, .slice none 0 0, .slice none 0 0] 27 (0, 0)) := (hb1.block _ hlt).trans hR0
  have hE2 := hE1.later hb1
  have hl2 : w.heap.size < w1.heap.size := Nat.lt_of_lt_of_le hlt hb1.size
  cases hh : Maps.has D (keyB s) with
  | false =>
    obtain ⟨rfl, rfl, rfl⟩ := hR.no hh
    have HQ : Hid (rdD D T s = (5, emptyO)) := by
      show rdD D T s = _
      unfold rdD; rw [if_neg (by simp [hh])]
    have q0 : w1.cell? ⟨w.heap.size, 0, none⟩ = some (.slice none 0 0) := by simp [World.cell?, hR1]
    have q1 : w1.cell? ⟨w.heap.size, 1, none⟩ = some (.slice none 0 0) := by simp [World.cell?, hR1]
    have q2 : w1.cell? ⟨w.heap.size, 2, none⟩ = some (.slice none 0 0) := by simp [World.cell?, hR1]
    have q3 : w1.cell? ⟨w.heap.size, 3, none⟩ = some (.slice none 0 0) := by simp [World.cell?, hR1]
    have q4 : ∀ i, w1.frozen? ⟨w.heap.size, i, none⟩ = false := fun i => by simp [World.frozen?, hR1]
    have hY := below_store4 hb2 (Nat.le_refl w.heap.size) (.slice none 0 0) (.slice none 0 0) (.slice none 0 0) (.slice none 0 0)
    have q5 : errV 5 = .iface 79 (.int .i64 5) := rfl
    rw [q5]
    clear hR hh hR1 hR0 hE1 hE2 h hb1 hx q5
    go_wp2
    refine bodyPost_ret (v := .tuple #[.agg #[.slice none 0 0, .slice none 0 0, .slice none 0 0, .slice none 0 0], .iface 79 (.int .i64 5)]) (by simp [results, Tryz.results34, go_sem, q0, q1, q2, q3]) rfl ?_
    rw [HQ.out]
    exact ⟨⟨noV, rfl, noV_at _, noV_new _⟩, hY⟩
  | true =>
    obtain ⟨rfl, ht⟩ := hR.yes hh
    obtain rfl := hT.is s t n hh ht
    have HQ : Hid (rdD D T s = parseF (T s)) := by
      show rdD D T s = _
      unfold rdD; rw [if_pos hh]
    have HP := parse_new (T s) w1 hE2
    have q5 : errV 0 = .nilIface := rfl
    rw [q5]
    clear hR hh hR0 hE1 hE2 h hx q5 ht
    go_wp2_with fail
    refine HP.mono ?_
    rintro e w2 ⟨⟨v, rfl, hA, hNw⟩, hb3⟩
    have hR2 : w2.heap[w.heap.size]? = some (.cells #[.slice none 0 0, .slice none 0 0, .slice none 0 0, .slice none 0 0] 27 (0, 0)) := (hb3.block _ hl2).trans hR1
    have hb4 := hb2.trans (hb3.mono hb2.size)
    have q0 : w2.cell? ⟨w.heap.size, 0, none⟩ = some (.slice none 0 0) := by simp [World.cell?, hR2]
    have q1 : w2.cell? ⟨w.heap.size, 1, none⟩ = some (.slice none 0 0) := by simp [World.cell?, hR2]
    have q2 : w2.cell? ⟨w.heap.size, 2, none⟩ = some (.slice none 0 0) := by simp [World.cell?, hR2]
    have q3 : w2.cell? ⟨w.heap.size, 3, none⟩ = some (.slice none 0 0) := by simp [World.cell?, hR2]
    have q4 : ∀ i, w2.frozen? ⟨w.heap.size, i, none⟩ = false := fun i => by simp [World.frozen?, hR2]
    obtain ⟨F, hF⟩ : ∃ F, (parseF (T s)).2 = F := ⟨_, rfl⟩
    obtain ⟨ev, hEv⟩ : ∃ ev, errV (parseF (T s)).1 = ev := ⟨_, rfl⟩
    have HF : Hid ((parseF (T s)).2 = F) := hF
    have HEv : Hid (errV (parseF (T s)).1 = ev) := hEv
    rw [hF] at hA hNw ⊢
    rw [hEv]
    obtain ⟨aN, cN, aW, cW, aS, cS, aT, cT⟩ := v
    have hY := below_store4 hb4 (Nat.le_refl w.heap.size) (.slice aN F.nN cN) (.slice aW F.nW cW) (.slice aS F.nS cS) (.slice aT F.nT cT)
    have hAY := hA.store4 hR2 aN F.nN cN aW F.nW cW aS F.nS cS aT F.nT cT
    unfold ObjV.cells
    clear hR2 hA hb4 hb3 hb2 HP hF hEv hR1 hb1
    go_wp2
    refine bodyPost_ret (v := .tuple #[.agg #[.slice aN F.nN cN, .slice aW F.nW cW, .slice aS F.nS cS, .slice aT F.nT cT], ev]) (by simp [results, Tryz.results34, go_sem, q0, q1, q2, q3]) rfl ?_
    rw [HQ.out, HF.out, HEv.out]
    exact ⟨⟨⟨aN, cN, aW, cW, aS, cS, aT, cT⟩, rfl, hAY, hNw.lower (by omega)⟩, hY⟩

/-- a row of texts of the call's own. -/
abbrev OwnTx (w : World) (B : Nat) (v : Value) (N : List ByteArray) : Prop := w.ownsRow B 9 1 v N.length (N.map Value.string)
theorem ownTx_row {w : World} {B : Nat} {v : Value} {N : List ByteArray} (h : OwnTx w B v N) : ∃ a c, v = .slice a N.length c ∧ N.length ≤ c ∧ RowAt w a N.length fun i => .string (N.getD i ⟨#[]⟩) := by
  obtain ⟨a, c, rfl, hc⟩ := owns_shape h
  refine ⟨a, c, rfl, hc, ?_⟩
  by_cases h0 : N.length = 0
  · exact .inl h0
  · have key : ∀ i, i < N.length → ∃ g, a = some ⟨g, 0, none⟩ ∧ B ≤ g ∧ w.cell? ⟨g, i, none⟩ = some (.string (N.getD i ⟨#[]⟩)) := fun i hi =>
      owns_cell h (by rw [List.getElem?_map, List.getElem?_eq_getElem hi, List.getD_eq_getElem?_getD, List.getElem?_eq_getElem hi]; rfl)
    obtain ⟨g, ha, _, _⟩ := key 0 (by omega)
    refine .inr ⟨g, 0, ha, fun i hi => ?_⟩
    obtain ⟨g1, ha1, _, h1⟩ := key i hi
    rw [ha] at ha1
    injection ha1 with ha1
    injection ha1 with ha1
    subst ha1
    simpa using h1
/-- a row's block is an old one, or new. -/
def SameOrNew (B : Nat) (v u : Value) : Prop := u.ownBlock = v.ownBlock ∨ ∃ j, u.ownBlock = some j ∧ B ≤ j
theorem growTx {B : Nat} {w : World} {v : Value} {N : List ByteArray} (s : ByteArray) (hB : B ≤ w.heap.size) (h : OwnTx w B v N) (hn : N.length < 1000000) :
    ∃ v' W, (Builtin.append_ #[22, 22] 22 #[v, .slice (some ⟨w.heap.size, 0, none⟩) 1 1]).run Tryz.prog (w.alloc (.cells #[.string s] 9)) = .ok v' W ∧ OwnTx W B v' (N ++ [s]) ∧ (w.alloc (.cells #[.string s] 9)).grownBy W v.ownBlock ∧ SameOrNew w.heap.size v v' := by
  have hinfo : (Tryz.prog.info? 9).map (fun i => (i.zero, i.size, i.bytes)) = some (some (.string ⟨#[]⟩), 1, 16) := by kernel_rfl
  obtain ⟨i, hi, hzz⟩ := Option.map_eq_some_iff.1 hinfo
  simp only [Prod.mk.injEq] at hzz
  obtain ⟨hz, hs, hb⟩ := hzz
  obtain ⟨v', W, h1, h2, h3, _, h5⟩ := run_append_own_at (P := Tryz.prog) (w.alloc (.cells #[.string s] 9)) B 22 22 9 i (.string ⟨#[]⟩) 1 16 Tryz.underlying22 hi hz hs hb rfl (by decide) v N.length _ (h.alloc _) ⟨w.heap.size, 0, none⟩ 1 1 [.string s] rfl
    (fun j u hj => by
      match j, hj with
      | 0, hj => simp at hj; subst hj; simp [go_sem, Addr.add]
      | j + 1, hj => simp at hj) (fun u hu => by simp at hu; subst hu; rfl) (by simp only [maxLen]; omega) (by omega) (by simp; omega)
  refine ⟨v', W, h1, ?_, h3, ?_⟩
  · show W.ownsRow B 9 1 v' (N ++ [s]).length ((N ++ [s]).map Value.string)
    rw [List.length_append, List.map_append]
    exact h2
  · rcases h5 with h5 | h5
    · exact .inl h5
    · exact .inr ⟨_, h5, by simp⟩
theorem RowAt.grown {w W : World} {a : Option Addr} {n : Nat} {f : Nat → Value} {row : Option Nat} (h : RowAt w a n f) (hg : w.grownBy W row) (hs : ∀ b o, 0 < n → a = some ⟨b, o, none⟩ → some b ≠ row) : RowAt W a n f := by
  rcases h with h | ⟨b, o, ha, hc⟩
  · exact .inl h
  · by_cases h0 : n = 0
    · exact .inl h0
    · exact .inr ⟨b, o, ha, fun i hi => hg.cell (hc i hi) (hs b o (by omega) ha)⟩
theorem anyTo_mem {N : List ByteArray} {s : ByteArray} : anyTo (fun j => decide (N.getD j ⟨#[]⟩ = s)) N.length = memB N s := by
  have key : ∀ k, k ≤ N.length → anyTo (fun j => decide (N.getD j ⟨#[]⟩ = s)) k = memB (N.take k) s := by
    intro k
    induction k with
    | zero => intro _; rfl
    | succ k ih =>
      intro hk
      have e : N.take (k + 1) = N.take k ++ [N[k]] := by rw [List.take_succ_eq_append_getElem (by omega)]
      rw [e]
      show (anyTo _ k || decide (N.getD k ⟨#[]⟩ = s)) = _
      rw [ih (by omega), List.getD_eq_getElem?_getD, List.getElem?_eq_getElem (by omega : k < N.length)]
      unfold memB
      rw [List.any_append]
      simp
  have := key N.length (Nat.le_refl _)
  rwa [List.take_length] at this

theorem grownBy_refl (w : World) (row : Option Nat) : w.grownBy w row := ⟨rfl, rfl, rfl, Nat.le_refl _, fun _ _ _ => rfl⟩

set_option maxHeartbeats 2000000 in
theorem join_any (w : World) (B : Nat) (v : Value) (N : List ByteArray) (aN : Option Addr) (cN : Nat) (o : ObjF) (h : OwnTx w B v N) (hr : RowAt w aN o.nN fun i => .string (o.needs i)) (hsep : ∀ b f, 0 < o.nN → aN = some ⟨b, f, none⟩ → some b ≠ v.ownBlock) (hB : B ≤ w.heap.size) (hn : N.length ≤ 1000) (hm : o.nN ≤ 1000) :
    Calls Tryz.prog 35 #[v, .slice aN o.nN cN] w fun e w' => (∃ v', e = .returned v' ∧ OwnTx w' B v' (joinL N (needsTo o o.nN)) ∧ SameOrNew w.heap.size v v') ∧ w.grownBy w' v.ownBlock := by
  go_enter Tryz.func35, Tryz.ntmps35
  go_wp2
  go_loopw [0, 9] (fun x z wr => ∃ (k : Nat) (u : Value), k ≤ o.nN ∧ z = .int .i64 k ∧ x = u ∧ OwnTx wr B u (joinL N (needsTo o k)) ∧ SameOrNew w.heap.size v u ∧ w.grownBy wr v.ownBlock) (fun _ z _ => o.nN - (intOf z).toNat)
  case atStart => exact ⟨0, v, Nat.zero_le _, rfl, rfl, h, .inl rfl, grownBy_refl _ _⟩
  case round =>
    obtain ⟨k, u, hk, rfl, rfl, ho, hsn, hg⟩ := hrel
    have hlen := joinL_len N (needsTo o k)
    have hln : (needsTo o k).length = k := by simp [needsTo]
    by_cases hlt : k < o.nN
    · have hrk := hr.grown hg hsep
      rcases hrk with h0 | ⟨b, f, rfl, hc⟩
      · omega
      have hck := hc k hlt
      obtain ⟨au, cu, rfl, _, hru⟩ := ownTx_row ho
      have HC := contains_any (fun i => (joinL N (needsTo o k)).getD i ⟨#[]⟩) au (joinL N (needsTo o k)).length cu (o.needs k) wr (by omega) hru
      rw [anyTo_mem] at HC
      have hsz : B ≤ wr.heap.size := Nat.le_trans hB hg.size
      have hsucc := joinL_snoc N (needsTo o k) (o.needs k)
      rw [← needsTo_succ] at hsucc
      clear hc hru
      cases hmem : memB (joinL N (needsTo o k)) (o.needs k) with
      | true =>
        rw [hmem] at HC
        rw [if_pos hmem] at hsucc
        have ho2 : OwnTx wr B (.slice au (joinL N (needsTo o k)).length cu) (joinL N (needsTo o (k + 1))) := by rw [hsucc]; exact ho
        clear hsucc hmem ho
        go_wp2_with fail
        refine HC.mono ?_
        rintro e w' ⟨rfl, rfl⟩
        clear HC
        go_wp2
        go_roundw
        case rel => exact ⟨k + 1, _, by omega, by go_num, rfl, ho2, hsn, hg⟩
        case measure => simp [intOf]; omega
      | false =>
        rw [hmem] at HC
        rw [if_neg (by simp [hmem])] at hsucc
        obtain ⟨v1, W1, happ1, hO1, hg1, hsn1⟩ := growTx (o.needs k) hsz ho (by omega)
        rw [← hsucc] at hO1
        have hg2 : w.grownBy W1 v.ownBlock := (hg.andThen (World.grownBy_alloc wr (.cells #[.string (o.needs k)] 9) none) (fun j hj => by cases hj)).andThen hg1 (fun j hj => by
          rcases hsn with e | ⟨j', e, hj'⟩
          · rw [e] at hj; exact .inr hj
          · rw [e] at hj; injection hj with hj; subst hj; exact .inl hj')
        have hsn2 : SameOrNew w.heap.size v v1 := by
          rcases hsn1 with e | ⟨j', e, hj'⟩
          · rcases hsn with e2 | ⟨j2, e2, hj2⟩
            · exact .inl (e.trans e2)
            · exact .inr ⟨j2, e.trans e2, hj2⟩
          · exact .inr ⟨j', e, Nat.le_trans hg.size hj'⟩
        clear hsucc hmem ho hg1 hsn1 hsn hg
        go_wp2_with fail
        refine HC.mono ?_
        rintro e w' ⟨rfl, rfl⟩
        clear HC
        go_wp2_with (at_builtin; refine list_run rfl (.tmp 17) (.tmp 19) 22 rfl (.slice au (joinL N (needsTo o k)).length cu) (.slice (some ⟨wr.heap.size, 0, none⟩) 1 1) _ rfl rfl happ1 ?_)
        go_roundw
        case rel => exact ⟨k + 1, v1, by omega, by go_num, rfl, hO1, hsn2, hg2⟩
        case measure => simp [intOf]; omega
    · have e : k = o.nN := by omega
      subst e
      go_wp2
      go_ret
      exact ⟨⟨_, rfl, ho, hsn⟩, hg⟩
end Go.Proofs.YtieldgdkkfkehaaGreatDoor
