/-
  What slices.Delete does to a row of entries of the call's own, where one of them is struck.
  What Drop of package shelf does, on a disk on which a shelf stands.
-/
import Derived.Test.YtphabchelllhpaaGreatDoorPlainPut
import Derived.ArgAppend
import Derived.Test.YtphabchelllhpaaGreatDoorShelfFace
namespace Go.Proofs.YtphabchelllhpaaGreatDoor
open Go.RowKit

theorem joinC_take {f : Nat → List Value} (hf : ∀ i, (f i).length = 3) : ∀ {k j : Nat}, j ≤ k → (joinC f k).take (j * 3) = joinC f j
  | 0, j, h => by obtain rfl : j = 0 := by omega
                  rfl
  | k + 1, j, h => by
    have hl : (joinC f k).length = k * 3 := joinC_len fun i _ => hf i
    simp only [joinC]
    by_cases e : j = k + 1
    · subst e
      rw [List.take_of_length_le (by simp [hl, hf]; omega)]
      rfl
    · rw [List.take_append_of_le_length (by omega)]
      exact joinC_take hf (by omega)
theorem joinC_drop {f : Nat → List Value} (hf : ∀ i, (f i).length = 3) : ∀ {k j : Nat}, j ≤ k → (joinC f k).drop (j * 3) = joinC (fun q => f (q + j)) (k - j)
  | 0, j, h => by obtain rfl : j = 0 := by omega
                  rfl
  | k + 1, j, h => by
    have hl : (joinC f k).length = k * 3 := joinC_len fun i _ => hf i
    by_cases e : j = k + 1
    · subst e
      rw [List.drop_of_length_le (by simp [joinC, hl, hf]; omega), Nat.sub_self]
      rfl
    · simp only [joinC]
      rw [List.drop_append_of_le_length (by omega), joinC_drop hf (by omega), show k + 1 - j = (k - j) + 1 by omega]
      simp only [joinC]
      rw [show k - j + j = k by omega]
theorem joinC_cut {f : Nat → List Value} {j : Nat} : ∀ {m : Nat}, joinC f j ++ joinC (fun q => f (q + (j + 1))) m = joinC (cutV f j) (j + m)
  | 0 => by
    show joinC f j ++ [] = _
    rw [List.append_nil]
    exact joinC_congr fun i hi => by unfold cutV; rw [if_pos hi]
  | m + 1 => by
    show joinC f j ++ (joinC (fun q => f (q + (j + 1))) m ++ f (m + (j + 1))) = joinC (cutV f j) (j + m) ++ cutV f j (j + m)
    rw [← List.append_assoc, joinC_cut]
    congr 1
    unfold cutV
    rw [if_neg (by omega)]
    congr 1
    omega
theorem entL_cut (V : Nat → EntV) (E : Nat → EntF) (j : Nat) : cutV (entL V E) j = entL (cutV V j) (cutV E j) := by
  funext i
  by_cases h : i < j <;> simp [cutV, entL, h]
theorem entL_one (V : Nat → EntV) (E : Nat → EntF) : ∀ k, ∀ u ∈ joinC (entL V E) k, u.oneCell' = true
  | 0, u, hu => by cases hu
  | k + 1, u, hu => by
    rcases List.mem_append.1 hu with hu | hu
    · exact entL_one V E k u hu
    · simp only [entL, List.mem_cons, List.not_mem_nil, or_false] at hu
      rcases hu with rfl | rfl | rfl <;> rfl
theorem owns_less {w : World} {B g n m c s : Nat} {e : TypeId} {xs : List Value} (h : w.ownsRow B e s (.slice (some ⟨g, 0, none⟩) n c) n xs) (hm : m ≤ n) : w.ownsRow B e s (.slice (some ⟨g, 0, none⟩) m c) m (xs.take (m * s)) := by
  have hms : m * s ≤ n * s := Nat.mul_le_mul_right _ hm
  refine ⟨by rw [List.length_take, h.1]; omega, .inr ?_⟩
  rcases h.2 with ⟨h0, _⟩ | ⟨g', cap, cur, e, h1, h2, h3, h4, h5, h6⟩
  · cases h0
  · cases e
    refine ⟨g, c, cur, rfl, h1, h2, by omega, h4, h5, ?_⟩
    rw [← h6, List.take_take, Nat.min_eq_left hms]
theorem clear_ent (w : World) (ty : TypeId) (g o c : Nat) (ht : w.there g o 3) :
    (Builtin.clear_ #[31] ty #[.slice (some ⟨g, o, none⟩) 1 c]).run Tryz.prog w = .ok (.tuple #[]) (w.setCells g o [.string ⟨#[]⟩, .slice none 0 0, .slice none 0 0]) := by
  have hal : ∀ w, Sem.run Tryz.prog (zeroValue 40) w = .ok (.agg #[.string ⟨#[]⟩, .slice none 0 0, .slice none 0 0]) w := Tryz.zeroValue40
  have hst := run_storeCells_cells (P := Tryz.prog) g o [.string ⟨#[]⟩, .slice none 0 0, .slice none 0 0] 0 w (fun j hj => by simpa using (ht j (by simpa using hj)).1) (fun j hj => by simpa using (ht j (by simpa using hj)).2) (fun v hv => by simp at hv; rcases hv with rfl | rfl <;> rfl)
  simp only [Nat.add_zero] at hst
  have hz : (Builtin.zeroCells #[.string ⟨#[]⟩, .slice none 0 0, .slice none 0 0] 1).toList = [Value.string ⟨#[]⟩, .slice none 0 0, .slice none 0 0] := by
    unfold Builtin.zeroCells
    apply List.ext_getElem
    · simp
    · intro i h2 h3
      have h4 : i < 3 := by simpa using h3
      match i, h4 with
      | 0, _ => simp
      | 1, _ => simp
      | 2, _ => simp
  simp [Builtin.clear_, run_underlying Tryz.underlying31, hal, Value.cells, hz, hst]
set_option maxRecDepth 100000 in
set_option maxHeartbeats 4000000 in
theorem entDelete_any (w : World) (B g m c j : Nat) (V : Nat → EntV) (E : Nat → EntF) (h : EntsOwn w 0 B (.slice (some ⟨g, 0, none⟩) (m + 1) c) (m + 1) V E) (hm : m ≤ 2) (hj : j ≤ m) :
    Calls Tryz.prog 26 #[.slice (some ⟨g, 0, none⟩) (m + 1) c, .int .i64 (j : Int), .int .i64 ((j : Int) + 1)] w fun e w' => e = .returned (.slice (some ⟨g, 0, none⟩) m c) ∧ EntsOwn w' 0 B (.slice (some ⟨g, 0, none⟩) m c) m (cutV V j) (cutV E j) ∧ Below B w w' := by
  have hkc : m + 1 ≤ c := by
    rcases h.row.2 with ⟨h0, _⟩ | ⟨g', cap, cur, e, h1, h2, h3, h4, h5, h6⟩
    · cases h0
    · cases e; exact h3
  have i0 : (0 : Int) ≤ (j : Int) := by omega
  have i1 : (j : Int) + 1 ≤ ((m + 1 : Nat) : Int) := by omega
  have i2 : ((m + 1 : Nat) : Int) ≤ (c : Int) := by omega
  have i3 : (j : Int) ≠ (j : Int) + 1 := by omega
  have i4 : (0 : Int) ≤ (j : Int) + 1 := by omega
  have n1 : j ≤ c := by omega
  have n2 : j + 1 ≤ m + 1 := by omega
  have n4 : j + 1 ≤ c := by omega
  have n5 : ¬ c = m := by omega
  obtain ⟨A, hA, HA⟩ : ∃ A : Addr, (if c = j + 1 then some (⟨g, 0, none⟩ : Addr) else some ⟨g, (j + 1) * 3, none⟩) = some A ∧ Hid (c = j + 1 ∨ A = ⟨g, (j + 1) * 3, none⟩) := by
    by_cases hc : c = j + 1
    · exact ⟨_, if_pos hc, .inl hc⟩
    · exact ⟨_, if_neg hc, .inr rfl⟩
  have hlen : (joinC (entL V E) (m + 1)).length = (m + 1) * 3 := h.row.1
  obtain ⟨news, hnews⟩ : ∃ news, news = (joinC (entL V E) (m + 1)).drop ((j + 1) * 3) := ⟨_, rfl⟩
  have hnl : news.length = (m + 1 - (j + 1)) * 3 := by rw [hnews, List.length_drop, hlen]; omega
  obtain ⟨ti, hi, hz0, hz1, hz2⟩ := info_parts Tryz.infoEntry
  have hseg := owns_segment news (j * 3) w.drew _ h.row (by rw [hnl, hlen]; omega)
  have happ : (Builtin.append_ #[31, 31] 31 #[.slice (some ⟨g, 0, none⟩) j c, .slice (some A) (m - j) (c - (j + 1))]).run Tryz.prog w.drew = .ok (.slice (some ⟨g, 0, none⟩) m c) (w.drew.setCells g (j * 3) news) := by
    have := run_append_room_cells (P := Tryz.prog) (w := w.drew) 31 31 40 ti Tryz.underlying31 hi g 0 j c A (m + 1 - (j + 1)) (c - (j + 1)) news (by rw [hz1]; exact hnl)
      (fun q u hu => by
        rcases HA.out with hc | rfl
        · have : news = [] := List.length_eq_zero_iff.1 (by rw [hnl]; omega)
          rw [this] at hu
          simp at hu
        · rw [Addr.add_lit]
          show w.cell? _ = _
          have hq : q < (m + 1 - (j + 1)) * 3 := by rw [← hnl]; exact (List.getElem?_eq_some_iff.1 hu).1
          rw [h.row.cellAt ((j + 1) * 3 + q) (by omega), ← hu, hnews, List.getElem?_drop])
      (fun u hu => by
        rw [hnews] at hu
        exact entL_one V E _ u (List.mem_of_mem_drop hu)) (by omega)
      (fun q hq => by
        rw [hz1]
        show (w.cell? _).isSome = true
        rw [Nat.zero_add, h.row.cellAt (j * 3 + q) (by omega), List.getElem?_eq_getElem (by rw [hlen]; omega)]
        rfl)
      (fun q _ => h.row.frozenAt _)
    rw [hz1, Nat.zero_add, show m + 1 - (j + 1) = m - j by omega, show j + (m - j) = m by omega] at this
    exact this
  have hxs : (joinC (entL V E) (m + 1)).take (j * 3) ++ news ++ (joinC (entL V E) (m + 1)).drop (j * 3 + news.length) = joinC (entL (cutV V j) (cutV E j)) m ++ (joinC (entL V E) (m + 1)).drop (j * 3 + news.length) := by
    congr 1
    rw [hnews, joinC_take (fun _ => rfl) (by omega), joinC_drop (fun _ => rfl) (by omega), joinC_cut, ← entL_cut]
    congr 1
    omega
  rw [hxs] at hseg
  obtain ⟨hO1, hG1⟩ := hseg
  have hl2 : (joinC (entL (cutV V j) (cutV E j)) m).length = m * 3 := joinC_len fun _ _ => rfl
  have hcl : ∀ ty, (Builtin.clear_ #[31] ty #[.slice (some ⟨g, m * 3, none⟩) 1 (c - m)]).run Tryz.prog (w.drew.setCells g (j * 3) news) = .ok (.tuple #[]) ((w.drew.setCells g (j * 3) news).setCells g (m * 3) [.string ⟨#[]⟩, .slice none 0 0, .slice none 0 0]) := fun ty =>
    clear_ent _ ty g (m * 3) (c - m) (fun q hq => ⟨by rw [hO1.cellAt (m * 3 + q) (by omega), List.getElem?_eq_getElem (by rw [hO1.1]; omega)]; rfl, hO1.frozenAt _⟩)
  obtain ⟨hO2, hG2⟩ := owns_segment [.string ⟨#[]⟩, .slice none 0 0, .slice none 0 0] (m * 3) _ _ hO1 (by rw [hO1.1]; simp; omega)
  have hO3 := owns_less hO2 (Nat.le_succ m)
  rw [List.append_assoc, List.take_append_of_le_length (by rw [List.length_take, hO1.1]; omega), List.take_take, Nat.min_self, List.take_append_of_le_length (by omega), List.take_of_length_le (by omega)] at hO3
  have hkp : Keeps 0 w ((w.drew.setCells g (j * 3) news).setCells g (m * 3) [.string ⟨#[]⟩, .slice none 0 0, .slice none 0 0]) :=
    Keeps.trans (b := w.drew.setCells g (j * 3) news) (by have k1 := Keeps.grown (w := w.drew) (Nat.zero_le B) (Nat.zero_le _) (v := .slice (some ⟨g, 0, none⟩) (m + 1) c) h.row (by decide) hG1; exact ⟨k1.low, k1.kind⟩) (Keeps.grown (v := .slice (some ⟨g, 0, none⟩) (m + 1) c) (Nat.zero_le B) (Nat.zero_le _) hO1 (by decide) hG2)
  have HEO : Hid (EntsOwn ((w.drew.setCells g (j * 3) news).setCells g (m * 3) [.string ⟨#[]⟩, .slice none 0 0, .slice none 0 0]) 0 B (.slice (some ⟨g, 0, none⟩) m c) m (cutV V j) (cutV E j)) := ⟨hO3, fun i hi' => by
    unfold cutV
    split
    · exact (h.ins i (by omega)).keeps hkp
    · exact (h.ins (i + 1) (by omega)).keeps hkp⟩
  have hgB : B ≤ g := (h.row.lt g rfl).1
  have HBL : Hid (Below B w ((w.drew.setCells g (j * 3) news).setCells g (m * 3) [.string ⟨#[]⟩, .slice none 0 0, .slice none 0 0])) := ⟨by rw [(frame_setCs _ _ _ _).1, (frame_setCs _ _ _ _).1]; rfl, by rw [(frame_setCs _ _ _ _).2.1, (frame_setCs _ _ _ _).2.1]; rfl, by rw [(frame_setCs _ _ _ _).2.2, (frame_setCs _ _ _ _).2.2]; rfl, by rw [size_setCs, size_setCs]; exact Nat.le_refl _, fun q hq => by
    rw [heap_setOther _ _ _ _ _ (by omega), heap_setOther _ _ _ _ _ (by omega)]; rfl⟩
  clear hxs hl2 hO1 hO2 hO3 hG1 hG2 hkp hnl hnews hlen h
  generalize hW1 : w.drew.setCells g (j * 3) news = W1 at *
  generalize hW2 : W1.setCells g (m * 3) [.string ⟨#[]⟩, .slice none 0 0, .slice none 0 0] = W2 at *
  clear hW1 hW2
  go_enter Tryz.func26, Tryz.ntmps26
  go_wp2
  have hSS : (fun _ : World => True) w.drew := trivial
  refine wp_region_G (fun _ => True) 6 8 (by kernel_rfl) rfl ?_
  refine takeW 0 (v := ?v1) rfl (by kernel_rfl) (by kernel_rfl) (by kernel_rfl) (by kernel_rfl) (fun _ _ _ h => h) (.inr hSS) (.inl ⟨by rfl, fun w => ?hy1⟩) ?rest1
  case hy1 => (go_simp <;> with_reducible rfl)
  simp only [Go.Act.put, List.setIfInBounds_toArray, List.set_cons_zero, List.set_cons_succ]
  refine takeW 1 (v := ?v2) rfl (by kernel_rfl) (by kernel_rfl) (by kernel_rfl) (by kernel_rfl) (fun _ _ _ h => h) (.inr hSS) (.inl ⟨by rfl, fun w => ?hy2⟩) ?rest2
  case hy2 => (go_simp <;> with_reducible rfl)
  simp only [Go.Act.put, List.setIfInBounds_toArray, List.set_cons_zero, List.set_cons_succ]
  refine takeW 2 (v := ?v3) rfl (by kernel_rfl) (by kernel_rfl) (by kernel_rfl) (by kernel_rfl) (fun _ _ _ h => h) (.inr hSS) (.inl ⟨by rfl, fun w => ?hy3⟩) ?rest3
  case hy3 => (go_simp <;> with_reducible rfl)
  simp only [Go.Act.put, List.setIfInBounds_toArray, List.set_cons_zero, List.set_cons_succ]
  refine takeW 3 (v := ?v4) rfl (by kernel_rfl) (by kernel_rfl) (by kernel_rfl) (by kernel_rfl) (fun _ _ _ h => h) (.inr hSS) (.inl ⟨by rfl, fun w => ?hy4⟩) ?rest4
  case hy4 => (go_simp <;> with_reducible rfl)
  simp only [Go.Act.put, List.setIfInBounds_toArray, List.set_cons_zero, List.set_cons_succ]
  refine takeW 4 (v := ?v5) rfl (by kernel_rfl) (by kernel_rfl) (by kernel_rfl) (by kernel_rfl) (fun _ _ _ h => h) (.inr hSS) (.inl ⟨by rfl, fun w => ?hy5⟩) ?rest5
  case hy5 => (go_simp <;> with_reducible rfl)
  simp only [Go.Act.put, List.setIfInBounds_toArray, List.set_cons_zero, List.set_cons_succ]
  refine takeW 5 (v := ?v6) rfl (by kernel_rfl) (by kernel_rfl) (by kernel_rfl) (by kernel_rfl) (fun _ _ _ h => h) (.inr hSS) (.inl ⟨by rfl, fun w => ?hy6⟩) ?rest6
  case hy6 => (go_simp <;> with_reducible rfl)
  simp only [Go.Act.put, List.setIfInBounds_toArray, List.set_cons_zero, List.set_cons_succ]
  refine lastG 6 rfl (by kernel_rfl) (by kernel_rfl) (fun K hK => ?_)
  go_wp2_with (at_builtin; refine list_run rfl (.tmp 22) (.tmp 25) 31 rfl (.slice (some ⟨g, 0, none⟩) j c) (.slice (some A) (m - j) (c - (j + 1))) _ rfl rfl happ ?_)
  refine hK _ _ ?_
  clear hK
  refine takeW 7 (v := ?v91) rfl (by kernel_rfl) (by kernel_rfl) (by kernel_rfl) (by kernel_rfl) (fun _ _ _ h => h) (.inl (by kernel_rfl)) (.inl ⟨by rfl, fun w => ?hy91⟩) ?rest91
  case hy91 => (go_simp <;> with_reducible rfl)
  simp only [Go.Act.put, List.setIfInBounds_toArray, List.set_cons_zero]
  refine doneG (by kernel_rfl) ?_ _
  go_wp2
  go_ret
  exact ⟨rfl, HEO.out, HBL.out⟩
end Go.Proofs.YtphabchelllhpaaGreatDoor

namespace Go.Proofs.YtphabchelllhpaaGreatDoor
open Go.RowKit

set_option maxRecDepth 100000 in
set_option maxHeartbeats 8000000 in
theorem drop_any (w : World) (B p n g : Nat) (s : DSt) (E : Nat → EntF) (k : Nat) (root : ByteArray) (h : Disk w B p n s) (hS : Stands s n E k) (hg : ShelfAt w g p) (hE : Env w) :
    Calls Tryz.prog 10 #[.pointer (some ⟨g, 0, none⟩), .string root] w fun e w' => ∃ s', PutEnd s n E k (dropE E k root) s' e ∧ Disk w' B p n s' ∧ Spun B w w' := by
  have hB := h.base
  have HE := entries_any w B p n g s E k h hS hg hE
  go_enter Tryz.func10, Tryz.ntmps10
  go_wp2_with fail
  refine (show Calls _ _ _ _ _ from HE).mono ?_
  rintro e w1 ⟨vl, V, E', rfl, hEO, hSm, hb1⟩
  clear HE
  obtain ⟨a, c, rfl, hRow⟩ := hEO.ents
  have hk3 := hS.good.few
  have HF := find_any a k c V E' root w1 (by omega) hRow
  have efind : findF E' root k 0 = findF E root k 0 := findF_congr (fun i hi => (hSm i hi).root) _ 0 rfl
  rw [efind] at HF
  have hGood : ShelfOk E' k := hS.good.same fun i hi => (hSm i hi).symm
  clear efind
  go_wp2_with fail
  refine (show Calls _ _ _ _ _ from HF).mono ?_
  rintro e w2 ⟨rfl, hb2⟩
  clear HF
  have hbB := hb1.trans (hb2.mono hb1.size)
  have hEO2 := hEO.later (Nat.zero_le _) hb2
  clear hEO hRow
  by_cases hneg : findF E root k 0 < 0
  · have HEND : PutEnd s n E k (dropE E k root) s (.returned (errV 5)) := by
      have e := dropE_none hneg
      have := PutEnd.bad (s := s) (n := n) (E := E) (k := k) (r := dropE E k root) (s' := s) (by rw [e]; exact (by decide : (5 : Nat) ≠ 0)) rfl
      rw [e] at this ⊢
      exact this
    generalize findF E root k 0 = f at *
    go_wp2
    go_ret
    exact ⟨s, HEND, h.later hbB, Spun.of hB hbB⟩
  · obtain ⟨j, _, hj, _, hfj⟩ := findF_some _ 0 rfl (show 0 ≤ findF E root k 0 by omega)
    have HP : Hid (dropE E k root = (0, cutV E j, k - 1)) := dropE_cut hfj
    rw [hfj]
    obtain ⟨m, rfl⟩ : ∃ m, k = m + 1 := ⟨k - 1, by omega⟩
    obtain ⟨ga, ca, hv⟩ := ownsRow_succ hEO2.row
    cases hv
    have HDel := entDelete_any w2 w.heap.size ga m c j V E' hEO2 (by omega) (by omega)
    have hG2 : ShelfOk (cutV E' j) m := by
      have := cut_ok hGood hj
      rw [Nat.add_sub_cancel] at this
      exact this
    rw [Nat.add_sub_cancel] at HP
    have hsame : ∀ i, i < m → SameE (cutV E' j i) (cutV E j i) := fun i hi => by
      unfold cutV
      split
      · exact hSm i (by omega)
      · exact hSm (i + 1) (by omega)
    clear hneg hfj hEO2
    go_wp2_with fail
    refine (show Calls _ _ _ _ _ from HDel).mono ?_
    rintro e w3 ⟨rfl, hEO3, hb3⟩
    clear HDel
    have hb4 := hbB.trans hb3
    obtain ⟨a3, c3, hv3, hRow3⟩ := hEO3.ents
    cases hv3
    have HKE := keep_any w3 B p n g s E (m + 1) (some ⟨ga, 0, none⟩) c _ _ m (h.later hb4) hS (hg.later hb4) (hE.later hb4) hRow3 hG2
    clear hEO3 hRow3
    go_wp2_with fail
    refine (show Calls _ _ _ _ _ from HKE).mono ?_
    rintro e w6 ⟨s', hKE, hD6, hS6⟩
    have HEND : PutEnd s n E (m + 1) (dropE E (m + 1) root) s' e := by rw [HP.out]; exact .keep e rfl (hKE.same hsame)
    clear HKE
    cases hKE with
    | ok _ _ =>
      go_wp2
      go_ret
      exact ⟨s', HEND, hD6, (Spun.of hB hb4).trans hS6⟩
    | fell _ _ =>
      go_wp2
      go_ret
      exact ⟨s', HEND, hD6, (Spun.of hB hb4).trans hS6⟩
end Go.Proofs.YtphabchelllhpaaGreatDoor
