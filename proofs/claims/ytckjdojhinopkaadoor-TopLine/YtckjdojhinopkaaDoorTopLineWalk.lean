/-
  The law TopLine, walked: it returns true at every entry; memory that was there stays as it was.
-/
import Derived.Test.YtckjdojhinopkaaDoorEntParse
import Derived.Test.YtckjdojhinopkaaDoorEntSame
import Derived.Test.YtckjdojhinopkaaDoorEntLight
namespace Go.Proofs.YtckjdojhinopkaaDoor
open Go.RowKit

/-- the entry of the law's own. -/
def oneE : EntF := ⟨⟨#[97]⟩, 1, fun _ => ⟨#[97]⟩, fun _ => 1, fun _ => 0, 0, fun _ => 0, fun _ => 0, fun _ => 0⟩
theorem one_text : textE oneE = (0, [97, 32, 49, 32, 48, 32, 97, 32, 49, 32, 48, 10]) := by decide +kernel
theorem one_at (w : World) (c : Nat) : EntAt (w.alloc (.cells #[.string ⟨#[97]⟩, .int .i64 1, .int .i64 0] 31)) ⟨some ⟨w.heap.size, 0, none⟩, c, none, 0⟩ oneE := by
  refine ⟨.inr ⟨w.heap.size, 0, rfl, fun i hi => ?_⟩, .inl rfl⟩
  obtain rfl : i = 0 := by have : i < 1 := hi; omega
  refine ⟨by simp [go_sem, oneE], by simp [go_sem, oneE], by simp [go_sem, oneE]⟩
theorem one_fit : EntFit oneE := ⟨by decide, by decide, by decide, fun _ _ => by show (1 : Nat) ≤ maxLen; decide⟩
theorem textE_err {e : EntF} (h : (textE e).1 ≠ 0) : (textE e).2 = [] := by
  unfold textE at *
  split <;> simp_all

set_option maxRecDepth 100000 in
set_option maxHeartbeats 8000000 in
theorem topLine_walk (v : EntV) (en : EntF) (w : World) (hE : Env w) (h : EntAt w v en) (hf : EntFit en) :
    Calls Tryd.prog 3 #[.agg (entCs v en)] w fun e w' => e = .returned (.bool true) ∧ Below w.heap.size w w' := by
  have hb0 : Below w.heap.size w (w.alloc (.cells (entCs v en) 25)) := (Below.refl _ _).alloc (Nat.le_refl _) _
  have hbox : (w.alloc (.cells (entCs v en) 25)).heap[w.heap.size]? = some (.cells (entCs v en) 25 (0, 0)) := Array.getElem?_push_size
  have hz0 : w.heap.size < (w.alloc (.cells (entCs v en) 25)).heap.size := by simp
  have hE0 := hE.later hb0
  have h0 := h.later hb0
  generalize hW : w.alloc (.cells (entCs v en) 25) = W0 at *
  have hb1 : Below W0.heap.size W0 (W0.alloc (.cells #[.string ⟨#[97]⟩, .int .i64 1, .int .i64 0] 31)) := (Below.refl _ _).alloc (Nat.le_refl _) _
  have HT0 := entText_any ⟨some ⟨W0.heap.size, 0, none⟩, 1, none, 0⟩ oneE _ (one_at W0 1) one_fit (hE0.later hb1)
  rw [one_text] at HT0
  simp only [errV] at HT0
  go_enter Tryd.func3, Tryd.ntmps3
  go_wp2_with fail
  refine (show Calls _ _ _ _ _ from HT0).mono ?_
  rintro e w2 ⟨rfl, hb2⟩
  clear HT0
  have hb02 := hb1.trans (hb2.mono hb1.size)
  have hbox2 := (hb02.block _ hz0).trans hbox
  have hE2 := hE0.later hb02
  have h2 := h0.later hb02
  have hB2 := hb0.trans (hb02.mono hb0.size)
  have hz2 : w.heap.size < w2.heap.size := Nat.lt_of_lt_of_le hz0 hb02.size
  have c0 : w2.cell? ⟨w.heap.size, 0, none⟩ = some (.string en.root) := by simp [World.cell?, hbox2]
  have c1 : w2.cell? ⟨w.heap.size, 1, none⟩ = some (.slice v.aP en.nP v.cP) := by simp [World.cell?, hbox2]
  have c2 : w2.cell? ⟨w.heap.size, 2, none⟩ = some (.slice v.aQ en.nQ v.cQ) := by simp [World.cell?, hbox2]
  have HLI := lightEntry_any en.root v.aP v.aQ en.nP v.cP en.nQ v.cQ en.pName w2 h2.parts.lightRow
  clear hb1 hb2 hb02 hbox hE0 h0 hb0 hz0 hE h
  go_wp2_with fail
  refine (show Calls _ _ _ _ _ from HLI).mono ?_
  rintro e w3 ⟨⟨b, rfl⟩, hb3⟩
  clear HLI
  have hbox3 := (hb3.block _ hz2).trans hbox2
  have hE3 := hE2.later hb3
  have h3 := h2.later hb3
  have hB3 := hB2.trans (hb3.mono hB2.size)
  have hz3 : w.heap.size < w3.heap.size := Nat.lt_of_lt_of_le hz2 hb3.size
  clear c0 c1 c2 hB2 hb3 hbox2 hE2 h2 hz2
  cases b with
  | false =>
    go_wp2
    go_ret
    exact ⟨rfl, hB3⟩
  | true =>
    have c0 : w3.cell? ⟨w.heap.size, 0, none⟩ = some (.string en.root) := by simp [World.cell?, hbox3]
    have c1 : w3.cell? ⟨w.heap.size, 1, none⟩ = some (.slice v.aP en.nP v.cP) := by simp [World.cell?, hbox3]
    have c2 : w3.cell? ⟨w.heap.size, 2, none⟩ = some (.slice v.aQ en.nQ v.cQ) := by simp [World.cell?, hbox3]
    have HT := entText_any v en w3 h3 hf hE3
    by_cases hF : (textE en).1 = 0
    · have hok : entF en = 0 := by
        unfold textE at hF
        split at hF
        · assumption
        · exact hF
      have hOk := entOk hok
      obtain ⟨l, hl, hl10⟩ := lineE_end hOk
      have hT2 : (textE en).2 = l ++ [10] := by unfold textE; rw [if_pos hok]; exact hl
      have hlen : (l ++ [10]).length ≤ 5000 := by
        have h1 := (join_len_le (entW en) (entW_short hOk)).1
        have h2 := entW_len en
        have h3 := hOk.nP
        have h4 := hOk.nQ
        have h5 : (l ++ [10] : List UInt8).length = (Lib.join (entW en) [32]).length + 1 := by rw [← hl]; unfold lineE; simp
        omega
      have HPL := fun s hs => parse_line (e := en) (s := s) hF hs
      rw [hF] at HT
      simp only [errV] at HT
      rw [hT2] at HT HPL
      generalize hTT : (⟨(l ++ [10]).toArray⟩ : ByteArray) = T at HT
      have hTd : T.data.toList = l ++ [10] := by rw [← hTT]
      have hTs : T.size = l.length + 1 := by rw [← hTT]; show (l ++ [10]).toArray.size = _; simp
      have hno : ∀ (k : Nat) (hk : k < T.size), k < l.length → ¬ ((T[k].toNat : Int) = 10) := fun k hk hkl h10 => by
        have e1 : T[k] = l[k] := by
          have : T.data.toList[k]? = some l[k] := by rw [hTd, List.getElem?_append_left hkl, List.getElem?_eq_getElem hkl]
          have h3 : T.data.toList[k]? = some T[k] := by
            rw [List.getElem?_eq_getElem (by simpa using hk)]; rfl
          rw [h3] at this
          exact Option.some.inj this
        apply hl10
        have e2 : l[k] = 10 := by
          rw [← e1]
          apply UInt8.toNat_inj.1
          have : (T[k].toNat : Int) = ((10 : Nat) : Int) := h10
          exact Int.ofNat.inj this
        rw [← e2]
        exact List.getElem_mem hkl
      have hP2 := HPL T hTd
      have hTsz : T.size ≤ 5001 := by rw [hTs]; simp at hlen; omega
      clear hTT HPL hl hl10 hT2 hF hok hTd
      go_wp2_with fail
      refine (show Calls _ _ _ _ _ from HT).mono ?_
      rintro e w4 ⟨rfl, hb4⟩
      clear HT c0 c1 c2
      have hbox4 := (hb4.block _ hz3).trans hbox3
      have hE4 := hE3.later hb4
      have h4 := h3.later hb4
      have hB4 := hB3.trans (hb4.mono hB3.size)
      have hz4 : w.heap.size < w4.heap.size := Nat.lt_of_lt_of_le hz3 hb4.size
      clear hB3 hb4 hbox3 hE3 h3 hz3
      go_wp2
      go_loopw [5] (fun y wr => ∃ k : Nat, k ≤ l.length ∧ y = .int .i64 k ∧ wr = w4) (fun y _ => l.length - (intOf y).toNat)
      case atStart => exact ⟨0, Nat.zero_le _, rfl, rfl⟩
      case round =>
        obtain ⟨k, hk, rfl, hw⟩ := hrel
        replace hw := hw.symm
        subst hw
        by_cases hlt : k < l.length
        · have hkT : k < T.size := by omega
          have hn := hno k hkT hlt
          have hlt' : k + 1 < T.size := by omega
          clear hno hTs
          go_wp2
          go_roundw
          case rel => exact ⟨k + 1, by omega, by go_num, trivial⟩
          case measure => simp [intOf]; omega
        · have HPA := entParse_any T w4 hE4 (by omega)
          have hlt' : ¬ k + 1 < T.size := by omega
          obtain ⟨hp1, hp2⟩ := hP2
          rw [hp1] at HPA
          simp only [errV] at HPA
          generalize (parseE T).2 = X at *
          clear hno hp1
          go_wp2_with fail
          refine (show Calls _ _ _ _ _ from HPA).mono ?_
          rintro e w5 ⟨vx, rfl, hX, hb5⟩
          clear HPA
          have hbX : Below w5.heap.size w5 (w5.alloc (.cells (entCs vx X) 25)) := (Below.refl _ _).alloc (Nat.le_refl _) _
          have hbox5 := (hb5.block _ hz4).trans hbox4
          have hz5 : w.heap.size < w5.heap.size := Nat.lt_of_lt_of_le hz4 hb5.size
          have h5 := (h4.later hb5).later hbX
          have hX5 := hX.later hbX
          have hB5 := (hB4.trans (hb5.mono hB4.size)).trans (hbX.mono (Nat.le_of_lt hz5))
          have hbox6 := (hbX.block _ hz5).trans hbox5
          have d0 : (w5.alloc (.cells (entCs vx X) 25)).cell? ⟨w.heap.size, 0, none⟩ = some (.string en.root) := by simp only [World.cell?, hbox6]; rfl
          have d1 : (w5.alloc (.cells (entCs vx X) 25)).cell? ⟨w.heap.size, 1, none⟩ = some (.slice v.aP en.nP v.cP) := by simp only [World.cell?, hbox6]; rfl
          have d2 : (w5.alloc (.cells (entCs vx X) 25)).cell? ⟨w.heap.size, 2, none⟩ = some (.slice v.aQ en.nQ v.cQ) := by simp only [World.cell?, hbox6]; rfl
          have HS := sameE_true hp2 vx v _ (by have := hOk.nP; omega) (by have := hOk.nQ; omega) hX5 h5
          clear hb5 hbX hbox5 hbox4 hE4 h4 hB4 hX
          go_wp2_with fail
          refine (show Calls _ _ _ _ _ from HS).mono ?_
          rintro e w6 ⟨rfl, hb6⟩
          clear HS d0 d1 d2
          go_wp2
          go_ret
          exact ⟨rfl, hB5.trans (hb6.mono hB5.size)⟩
    · have hT2 := textE_err hF
      rw [hT2] at HT
      obtain ⟨f, hf1⟩ : ∃ f, (textE en).1 = f + 1 := ⟨(textE en).1 - 1, by omega⟩
      rw [hf1] at HT
      simp only [errV] at HT
      generalize (((f + 1 : Nat) : Int)) = K at *
      have hse : ((⟨([] : List UInt8).toArray⟩ : ByteArray).toList == ([] : List UInt8)) = true := by rw [ByteArray.toList_eq]; rfl
      clear hT2 hF hf1
      go_wp2_with fail
      refine (show Calls _ _ _ _ _ from HT).mono ?_
      rintro e w4 ⟨rfl, hb4⟩
      clear HT c0 c1 c2
      go_wp2
      go_ret
      exact ⟨rfl, hB3.trans (hb4.mono hB3.size)⟩
end Go.Proofs.YtckjdojhinopkaaDoor
