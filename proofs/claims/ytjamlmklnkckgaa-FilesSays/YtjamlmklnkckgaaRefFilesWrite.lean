/-
  What Write of the document's files does, for every name and text; all other memory stays as it was.
-/
import Derived.Test.YtjamlmklnkckgaaRefFilesWalks
import Derived.Deep.RegionWith
import Derived.Deep.CutRange
namespace Go.Proofs.Ytjamlmklnkckgaa
open Go.RowKit

/-- the fault's number of a writing (0: none). -/
def writeRF (L : List FileR) (k : Nat) (s text : ByteArray) : Nat :=
  seqF (nameF s.data.toList) (if 1200 < text.size then 2 else if ((∀ x ∈ L, x.nm ≠ s) ∧ L.length = 6) ∨ k = 1000000 then 8 else 0)
/-- a call of Write that returned. -/
structure WriteREnd (B : Nat) (w : World) (q : Nat) (L : List FileR) (k : Nat) (s text : ByteArray) (F : Nat) (e : Ending) (w' : World) : Prop where
  e : e = .returned (.int .i64 (F : Int))
  yes : F = 0 → RAt B w' q (putR ⟨s, text, (k : Int) + 1⟩ L) (k + 1)
  no : F ≠ 0 → RAt B w' q L k
  turned : Turned q q w w'

theorem less_eq : ∀ x y : List UInt8, Op.bytesLess x y = decide (x < y)
  | x, [] => by cases x <;> simp [Op.bytesLess]
  | [], b :: y => by simp [Op.bytesLess]
  | a :: x, b :: y => by
    rw [Op.bytesLess, less_eq x y, Bool.eq_iff_iff]
    simp [List.cons_lt_cons_iff]
theorem leN_walk (x y : ByteArray) : (Op.bytesLess x.toList y.toList || x.toList == y.toList) = leN x y := by
  rw [less_eq, ByteArray.toList_eq, ByteArray.toList_eq, Bool.eq_iff_iff]
  unfold leN
  simp only [Bool.or_eq_true, decide_eq_true_eq, beq_iff_eq]
  exact List.le_iff_lt_or_eq.symm
theorem stepR_in {new x : FileR} {acc : List FileR} (hle : leN new.nm x.nm = true) (h : x.nm = new.nm) : stepR new (acc, false) x = (acc ++ [new], true) := by
  unfold stepR; rw [hle, if_pos h]; simp
theorem stepR_two {new x : FileR} {acc : List FileR} (hle : leN new.nm x.nm = true) (h : x.nm ≠ new.nm) : stepR new (acc, false) x = ((acc ++ [new]) ++ [x], true) := by
  unfold stepR; rw [hle, if_neg h]; simp
/-- the count is set. -/
theorem RAt.count {B q k : Nat} {w : World} {L : List FileR} (h : RAt B w q L k) (k' : Nat) : RAt B (w.setCell ⟨q, 1, none⟩ (.int .i64 (k' : Int))) q L k' ∧ Turned q q w (w.setCell ⟨q, 1, none⟩ (.int .i64 (k' : Int))) := by
  obtain ⟨v, h1, h2⟩ := h.blk
  refine ⟨⟨h.lo, v, ?_, ?_⟩, rfl, rfl, rfl, by simp [World.setCell], fun j _ h3 _ => ?_⟩
  · show (w.heap.modify q _)[q]? = _
    rw [Array.getElem?_modify, if_pos rfl, h1]
    rfl
  · refine ⟨h2.1, ?_⟩
    rcases h2.2 with hn | ⟨g, cap, cur, e1, e2, e3, e4⟩
    · exact .inl hn
    · refine .inr ⟨g, cap, cur, e1, e2, ?_, e4⟩
      have hne : q ≠ g := fun e => by
        subst e
        rw [h1] at e3
        injection e3 with e3
        injection e3 with _ e5
        exact absurd e5 (by decide)
      show (w.heap.modify q _)[g]? = _
      rw [Array.getElem?_modify, if_neg hne]
      exact e3
  · show (w.heap.modify q _)[j]? = _
    rw [Array.getElem?_modify, if_neg (fun e => h3 e.symm)]

set_option maxRecDepth 100000 in
set_option maxHeartbeats 2000000 in
theorem writeR_ok (B : Nat) (w : World) (q : Nat) (L : List FileR) (k : Nat) (s text : ByteArray) (h : RAt B w q L k) (hL : L.length ≤ 1000) (hB : B ≤ w.heap.size) (hs : s.size ≤ maxLen) (hn : nameF s.data.toList = 0) (ht : ¬ 1200 < text.size) (ho : ¬ ((∀ x ∈ L, x.nm ≠ s) ∧ L.length = 6)) (hk : k < 1000000) :
    Calls Try.prog 36 #[.pointer (some ⟨q, 0, none⟩), .string s, .string text] w fun e w' => WriteREnd B w q L k s text 0 e w' := by
  have HN := nameFault_any s w hs
  rw [hn] at HN
  have HR := readR_any B w q L k s h hL
  have ht' : ¬ (1200 : Int) < (text.size : Int) := by omega
  clear ht hn
  go_enter Try.func36, Try.ntmps36
  go_wp2_with fail
  refine HN.mono ?_
  rintro e w' ⟨rfl, rfl⟩
  go_wp2_with fail
  refine HR.mono ?_
  rintro e w2 ⟨⟨t, nn, f, rfl, hR⟩, hb2⟩
  have h2 := h.later hb2
  obtain ⟨a, c, hc, c0, c1, hcell⟩ := h2.open
  obtain ⟨K, hK⟩ : ∃ K : Int, (k : Int) = K := ⟨_, rfl⟩
  have HK : Hid ((k : Int) = K) := hK
  have hk0 : 0 ≤ K := by omega
  have hk1 : K < 1000000 := by omega
  have hk2 : (K == 1000000) = false := by rw [beq_eq_false_iff_ne]; omega
  rw [hK] at c1
  have hfull : f = 0 ∨ (f = 5 ∧ L.length ≠ 6) := by
    rcases hR with ⟨x, _, _, _, _, h0⟩ | ⟨hno, _, _, h5⟩
    · exact .inl h0
    · exact .inr ⟨h5, fun e => ho ⟨hno, e⟩⟩
  clear HN HR hR ho hK hk
  have hq : q < w2.heap.size := World.block_lt_of_cell? _ _ c0
  have hfz : w2.frozen? ⟨q, 1, none⟩ = false := by obtain ⟨v, hv, _⟩ := h2.blk; simp [World.frozen?, hv]
  have hcnt := h2.count (k + 1)
  have hcast : ((k + 1 : Nat) : Int) = K + 1 := by rw [← HK.out]; omega
  rw [hcast] at hcnt
  have hgo : (0 < (f : Int) ∧ ((L.length : Int) == 6) = false) ∨ ¬ 0 < (f : Int) := by
    rcases hfull with rfl | ⟨rfl, h6⟩
    · exact .inr (by decide)
    · exact .inl ⟨by decide, by rw [beq_eq_false_iff_ne]; omega⟩
  clear hfull
  have hB2 : B ≤ w2.heap.size := Nat.le_trans hB hb2.size
  go_upto_region 7 with fail
  go_cut [45] from 29 to 45 (fun x wc => x = .bool false ∧ wc = w2)
  case first =>
    rcases hgo with ⟨g1, g2⟩ | g1
    · go_wp2
      go_meet
      exact ⟨rfl, rfl⟩
    · go_wp2
      go_meet
      exact ⟨rfl, rfl⟩
  case rest =>
    obtain ⟨rfl, hw⟩ := hcut
    replace hw := hw.symm
    subst hw
    clear hgo
    go_upto_region 10 with fail
    obtain ⟨h3, hT3⟩ := hcnt
    replace hT3 := (Turned.of hb2).trans hT3
    have hsz3 : w2.heap.size ≤ (w2.setCell ⟨q, 1, none⟩ (.int .i64 (K + 1))).heap.size := by simp [World.setCell]
    have hq3 : q < (w2.setCell ⟨q, 1, none⟩ (.int .i64 (K + 1))).heap.size := Nat.lt_of_lt_of_le hq hsz3
    have hB3 : B ≤ (w2.setCell ⟨q, 1, none⟩ (.int .i64 (K + 1))).heap.size := Nat.le_trans hB2 hsz3
    clear c0 c1 hcell hc hfz h2 hb2
    generalize w2.setCell ⟨q, 1, none⟩ (.int .i64 (K + 1)) = Y at *
    obtain ⟨a3, c3, hc3, e0, e1, hcell⟩ := h3.open
    rw [hcast] at e1
    clear hcast
    go_wp2
    go_loopw [11, 12, 13] (fun v b x wr => ∃ i : Nat, i ≤ L.length ∧ x = .int .i64 i ∧ b = .bool (stepsR ⟨s, text, K + 1⟩ (L.take i)).2 ∧ wr.ownsRow Y.heap.size 105 3 v (stepsR ⟨s, text, K + 1⟩ (L.take i)).1.length (rowC (stepsR ⟨s, text, K + 1⟩ (L.take i)).1) ∧ Below Y.heap.size Y wr ∧ (stepsR ⟨s, text, K + 1⟩ (L.take i)).1.length ≤ 2 * i) (fun _ _ x _ => L.length - (intOf x).toNat)
    case atStart => exact ⟨0, Nat.zero_le _, rfl, rfl, World.ownsRow_nil _ _ _ _, Below.refl _ _, Nat.le_refl _⟩
    case round =>
      obtain ⟨i, hi, rfl, rfl, hown, hb, hlen⟩ := hrel
      have b0 := cell_later hb e0
      have b1 := cell_later hb e1
      by_cases hlt : i < L.length
      · obtain ⟨x, hx⟩ : ∃ x, L[i]? = some x := ⟨L[i], List.getElem?_eq_getElem hlt⟩
        rcases hcell with h0 | ⟨g, rfl, hcc⟩
        · omega
        have d0 := cell_later hb (hcc i x hx).1
        have d1 := cell_later hb (hcc i x hx).2.1
        have d2 := cell_later hb (hcc i x hx).2.2
        have hst : stepsR ⟨s, text, K + 1⟩ (L.take (i + 1)) = stepR ⟨s, text, K + 1⟩ (stepsR ⟨s, text, K + 1⟩ (L.take i)) x := by
          rw [List.take_add_one, hx]
          exact stepsR_snoc _ _ _
        have HST : Hid (stepsR ⟨s, text, K + 1⟩ (L.take (i + 1)) = stepR ⟨s, text, K + 1⟩ (stepsR ⟨s, text, K + 1⟩ (L.take i)) x) := hst
        generalize stepsR ⟨s, text, K + 1⟩ (L.take i) = qq at *
        obtain ⟨acc, bb⟩ := qq
        have hcc1 : ∀ W, Below Y.heap.size Y W → W.cell? ⟨g, i * 3, none⟩ = some (.string x.nm) ∧ W.cell? ⟨g, i * 3 + 1, none⟩ = some (.string x.tx) ∧ W.cell? ⟨g, i * 3 + 2, none⟩ = some (.int .i64 x.st) := fun W hW => ⟨cell_later hW (hcc i x hx).1, cell_later hW (hcc i x hx).2.1, cell_later hW (hcc i x hx).2.2⟩
        clear hcc hst hx
        have hlw := leN_walk s x.nm
        have hqw : (x.nm.toList == s.toList) = decide (x.nm = s) := toList_beq _ _
        cases bb with
        | true =>
          cases hle : leN s x.nm <;> by_cases hnm : x.nm = s
          all_goals
            rw [hle] at hlw
            first
              | rw [decide_eq_true hnm] at hqw
              | rw [decide_eq_false hnm] at hqw
            first
              | (have hnm' : x.nm = s := hnm
                 go_wp2
                 go_roundw
                 case rel => exact ⟨i + 1, by omega, by go_num, by rw [HST.out]; simp [stepR], by rw [HST.out]; simpa [stepR, hnm'] using hown, hb, by rw [HST.out]; simp [stepR, hnm'] at hlen ⊢; omega⟩
                 case measure => simp [intOf]; omega)
              | (obtain ⟨v1, W1, happ1, hown2, hbG⟩ := fileGrow x hb.size hown (by simp at hlen ⊢; omega)
                 have hb2 := (hb.alloc hb.size _).trans hbG
                 clear hown hbG
                 go_wp2_with (at_builtin; refine list_run rfl _ _ 84 rfl u11 _ _ rfl rfl happ1 ?_)
                 go_roundw
                 case rel => exact ⟨i + 1, by omega, by go_num, by rw [HST.out]; simp [stepR], by rw [HST.out]; simpa [stepR, hnm] using hown2, hb2, by rw [HST.out]; simp [stepR, hnm] at hlen ⊢; omega⟩
                 case measure => simp [intOf]; omega)
        | false =>
          cases hle : leN s x.nm with
          | false =>
            rw [hle] at hlw
            have hnm : x.nm ≠ s := fun e => by
              have := leN_no hle
              rw [e] at this
              exact ltN_irrefl _ this
            rw [decide_eq_false hnm] at hqw
            obtain ⟨v1, W1, happ1, hown2, hbG⟩ := fileGrow x hb.size hown (by simp at hlen ⊢; omega)
            have hb2 := (hb.alloc hb.size _).trans hbG
            clear hown hbG
            go_wp2_with (at_builtin; refine list_run rfl _ _ 84 rfl u11 _ _ rfl rfl happ1 ?_)
            go_roundw
            case rel => exact ⟨i + 1, by omega, by go_num, by rw [HST.out]; simp [stepR, hle], by rw [HST.out]; simpa [stepR, hle, hnm] using hown2, hb2, by rw [HST.out]; simp [stepR, hle, hnm] at hlen ⊢; omega⟩
            case measure => simp [intOf]; omega
          | true =>
            rw [hle] at hlw
            obtain ⟨v1, W1, happ1, hown1, hbG1⟩ := fileGrow ⟨s, text, K + 1⟩ hb.size hown (by simp at hlen ⊢; omega)
            have hb1 := (hb.alloc hb.size _).trans hbG1
            have k0 := cell_later hb1 e0
            clear hown hbG1
            by_cases hnm : x.nm = s
            · rw [decide_eq_true hnm] at hqw
              have k1 : W1.cell? ⟨g, i * 3, none⟩ = some (.string x.nm) := hcc1 _ hb1 |>.1
              go_wp2_with (at_builtin; refine list_run rfl _ _ 84 rfl u11 _ _ rfl rfl happ1 ?_)
              go_roundw
              case rel => exact ⟨i + 1, by omega, by go_num, by rw [HST.out, stepR_in hle hnm], by rw [HST.out, stepR_in hle hnm]; exact hown1, hb1, by rw [HST.out, stepR_in hle hnm]; simp at hlen ⊢; omega⟩
              case measure => simp [intOf]; omega
            · rw [decide_eq_false hnm] at hqw
              obtain ⟨k1, k2, k3⟩ := hcc1 _ hb1
              obtain ⟨v2, W2, happ2, hown2, hbG2⟩ := fileGrow x hb1.size hown1 (by simp at hlen ⊢; omega)
              have hb2 := (hb1.alloc hb1.size _).trans hbG2
              clear hown1 hbG2
              go_wp2_with (at_builtin; first | (refine list_run rfl (.tmp 76) (.tmp 84) 84 rfl u11 _ _ rfl rfl happ1 ?_) | (refine list_run rfl (.tmp 96) (.tmp 104) 84 rfl v1 _ _ rfl rfl happ2 ?_))
              go_roundw
              case rel => exact ⟨i + 1, by omega, by go_num, by rw [HST.out, stepR_two hle hnm], by rw [HST.out, stepR_two hle hnm]; exact hown2, hb2, by rw [HST.out, stepR_two hle hnm]; simp at hlen ⊢; omega⟩
              case measure => simp [intOf]; omega
      · have e : i = L.length := by omega
        subst e
        rw [List.take_length] at hown hlen ⊢
        have HP : Hid (putR ⟨s, text, (k : Int) + 1⟩ L = if (stepsR ⟨s, text, K + 1⟩ L).2 = true then (stepsR ⟨s, text, K + 1⟩ L).1 else (stepsR ⟨s, text, K + 1⟩ L).1 ++ [⟨s, text, K + 1⟩]) := by
          show putR ⟨s, text, (k : Int) + 1⟩ L = _
          rw [HK.out]
          rfl
        generalize stepsR ⟨s, text, K + 1⟩ L = qq at *
        obtain ⟨acc, bb⟩ := qq
        cases bb with
        | true =>
          obtain ⟨a5, c5, rfl, _⟩ := owns_shape hown
          obtain ⟨hfz, hset, hTs⟩ := h3.set hb hown hB3
          clear e0 e1
          go_wp2
          go_ret
          exact ⟨rfl, fun _ => by rw [HP.out]; exact hset, fun h => absurd rfl h, hT3.trans hTs⟩
        | false =>
          obtain ⟨v1, W1, happ1, hown1, hbG1⟩ := fileGrow ⟨s, text, K + 1⟩ hb.size hown (by simp at hlen ⊢; omega)
          have hb1 := (hb.alloc hb.size _).trans hbG1
          have k0 := cell_later hb1 e0
          obtain ⟨hfz, hset, hTs⟩ := h3.set hb1 hown1 hB3
          obtain ⟨a5, c5, hv5, _⟩ := owns_shape hown1
          subst hv5
          have hlen1 : (acc ++ [(⟨s, text, K + 1⟩ : FileR)]).length = acc.length + 1 := by simp
          rw [hlen1] at hset hTs happ1
          clear e0 e1 hown1 hown hbG1
          go_wp2_with (at_builtin; refine list_run rfl _ _ 84 rfl u11 _ _ rfl rfl happ1 ?_)
          go_ret
          exact ⟨rfl, fun _ => by rw [HP.out]; exact hset, fun h => absurd rfl h, hT3.trans hTs⟩

set_option maxRecDepth 100000 in
set_option maxHeartbeats 1000000 in
theorem writeR_err (B : Nat) (w : World) (q : Nat) (L : List FileR) (k : Nat) (s text : ByteArray) (h : RAt B w q L k) (hL : L.length ≤ 1000) (hs : s.size ≤ maxLen) (F : Nat) (hF : F = writeRF L k s text) (h0 : F ≠ 0) :
    Calls Try.prog 36 #[.pointer (some ⟨q, 0, none⟩), .string s, .string text] w fun e w' => WriteREnd B w q L k s text F e w' := by
  have HN := nameFault_any s w hs
  by_cases hn : nameF s.data.toList = 0
  · rw [hn] at HN
    have hF2 : F = if 1200 < text.size then 2 else if ((∀ x ∈ L, x.nm ≠ s) ∧ L.length = 6) ∨ k = 1000000 then 8 else 0 := by rw [hF]; unfold writeRF; rw [hn]; rfl
    clear hF hn
    by_cases ht : 1200 < text.size
    · rw [if_pos ht] at hF2
      subst hF2
      have ht' : (1200 : Int) < (text.size : Int) := by omega
      clear ht
      go_enter Try.func36, Try.ntmps36
      go_wp2_with fail
      refine HN.mono ?_
      rintro e w' ⟨rfl, rfl⟩
      go_wp2
      go_ret
      exact ⟨rfl, (fun h => by cases h), fun _ => h, Turned.refl _ _ _⟩
    · rw [if_neg ht] at hF2
      have ht' : ¬ (1200 : Int) < (text.size : Int) := by omega
      by_cases ho : ((∀ x ∈ L, x.nm ≠ s) ∧ L.length = 6) ∨ k = 1000000
      · rw [if_pos ho] at hF2
        subst hF2
        have HR := readR_any B w q L k s h hL
        clear ht
        go_enter Try.func36, Try.ntmps36
        go_wp2_with fail
        refine HN.mono ?_
        rintro e w' ⟨rfl, rfl⟩
        go_wp2_with fail
        refine HR.mono ?_
        rintro e w2 ⟨⟨t, nn, f, rfl, hR⟩, hb2⟩
        have h2 := h.later hb2
        obtain ⟨a, c, hc, c0, c1, hcell⟩ := h2.open
        obtain ⟨K, hK⟩ : ∃ K : Int, (k : Int) = K := ⟨_, rfl⟩
        rw [hK] at c1
        have hgo : (0 < (f : Int) ∧ ((L.length : Int) == 6) = true) ∨ (K == 1000000) = true := by
          rcases ho with ⟨hno, h6⟩ | hk
          · rcases hR with ⟨x, hx, hxs, _⟩ | ⟨_, _, _, h5⟩
            · exact absurd hxs (hno x hx)
            · exact .inl ⟨by omega, by rw [beq_iff_eq]; omega⟩
          · exact .inr (by rw [beq_iff_eq]; omega)
        clear HN HR hR ho hcell hK
        have fin : WriteREnd B w q L k s text 8 (.returned (.int .i64 ((8 : Nat) : Int))) w2 := ⟨rfl, (fun h => by cases h), fun _ => h2, Turned.of hb2⟩
        rcases hgo with ⟨g1, g2⟩ | g1
        · go_wp2
          go_ret
          exact fin
        · by_cases g2 : 0 < (f : Int)
          · cases g3 : ((L.length : Int) == 6) with
            | true =>
              go_wp2
              go_ret
              exact fin
            | false =>
              go_wp2
              go_ret
              exact fin
          · go_wp2
            go_ret
            exact fin
      · rw [if_neg ho] at hF2
        exact absurd hF2 h0
  · have hF2 : F = nameF s.data.toList := by rw [hF]; exact seqF_some _ hn
    rw [← hF2] at HN
    have hp : (0 : Int) < (F : Int) := by omega
    clear hF hn hF2
    go_enter Try.func36, Try.ntmps36
    go_wp2_with fail
    refine HN.mono ?_
    rintro e w' ⟨rfl, rfl⟩
    go_wp2
    go_ret
    exact ⟨rfl, fun h => absurd h h0, fun _ => h, Turned.refl _ _ _⟩

theorem writeR_any (B : Nat) (w : World) (q : Nat) (L : List FileR) (k : Nat) (s text : ByteArray) (h : RAt B w q L k) (hL : L.length ≤ 1000) (hB : B ≤ w.heap.size) (hs : s.size ≤ maxLen) (hk : k ≤ 1000000) :
    Calls Try.prog 36 #[.pointer (some ⟨q, 0, none⟩), .string s, .string text] w fun e w' => WriteREnd B w q L k s text (writeRF L k s text) e w' := by
  by_cases h0 : writeRF L k s text = 0
  · rw [h0]
    have hn : nameF s.data.toList = 0 := by
      by_cases hn : nameF s.data.toList = 0
      · exact hn
      · unfold writeRF at h0; rw [seqF_some _ hn] at h0; exact h0
    unfold writeRF at h0
    rw [hn, seqF_zero] at h0
    have ht : ¬ 1200 < text.size := fun ht => by rw [if_pos ht] at h0; cases h0
    rw [if_neg ht] at h0
    have ho : ¬ (((∀ x ∈ L, x.nm ≠ s) ∧ L.length = 6) ∨ k = 1000000) := fun ho => by rw [if_pos ho] at h0; cases h0
    have hk' : k ≠ 1000000 := fun x => ho (.inr x)
    exact writeR_ok B w q L k s text h hL hB hs hn ht (fun x => ho (.inl x)) (by omega)
  · exact writeR_err B w q L k s text h hL hs _ rfl h0
end Go.Proofs.Ytjamlmklnkckgaa
