/-
  Plain words on files: what stays true of them, whatever is written and removed.
-/
import Derived.Test.YtidabcoodolddaaGreatDoorFilesOps
import Derived.Test.YtidabcoodolddaaGreatDoorActsAt
import Derived.Test.YtidabcoodolddaaGreatDoorAtAll
namespace Go.Proofs.YtidabcoodolddaaGreatDoor
open Go.RowKit Go.Maps

theorem keyB_key (s : ByteArray) : WideAt.IsKeyLit (keyB s) := by simp [keyB, WideAt.IsKeyLit]
/-- few, no name twice, no stamp above the count. -/
structure Inv (D : DataW Unit) (k : Nat) : Prop where
  tidy : Tidy D
  size : Maps.size D ≤ 6
  st : ∀ key, Maps.has D key = true → ∃ t n, D.atKey key (fileD [] 0) = fileD t n ∧ n ≤ (k : Int)
theorem Inv.empty : Inv (.map []) 0 := ⟨tidy_empty, by simp [Maps.size], fun key h => by simp [Maps.has] at h⟩
theorem writeF_ok {D : DataW Unit} {k : Nat} {s text : ByteArray} (h : writeF D k s text = 0) : othersF D s < 6 ∧ text.size ≤ 1200 ∧ k < 1000000 := by
  unfold writeF at h
  by_cases hn : nameF s.data.toList = 0
  · rw [hn, seqF_zero] at h
    by_cases ht : 1200 < text.size
    · rw [if_pos ht] at h; cases h
    · rw [if_neg ht] at h
      by_cases ho : 6 ≤ othersF D s ∨ 1000000 ≤ k
      · rw [if_pos ho] at h; cases h
      · exact ⟨by omega, by omega, by omega⟩
  · rw [seqF_some _ hn] at h; exact absurd h hn
theorem Inv.put {D : DataW Unit} {k : Nat} {s text : ByteArray} (h : Inv D k) (hF : writeF D k s text = 0) : Inv (D.put (keyB s) (fileD text.data.toList ((k : Int) + 1))) (k + 1) := by
  obtain ⟨ho, _, _⟩ := writeF_ok hF
  refine ⟨h.tidy.put (keyB_key s) _, ?_, fun key hh => ?_⟩
  · rw [size_put h.tidy]
    unfold othersF at ho
    have := h.size
    cases hq : Maps.has D (keyB s) with
    | true => simp; exact this
    | false => rw [hq] at ho; simp at ho ⊢; omega
  · by_cases e : key = keyB s
    · subst e
      exact ⟨_, _, atKey_put_same h.tidy.isMap (keyB_key s) _ _, by omega⟩
    · rw [has_put_other e] at hh
      obtain ⟨t, n, h1, h2⟩ := h.st key hh
      exact ⟨t, n, by rw [atKey_put_other e]; exact h1, by omega⟩
theorem Inv.del {D : DataW Unit} {k : Nat} {s : ByteArray} (h : Inv D k) : Inv (D.del (keyB s)) k := by
  refine ⟨h.tidy.del _, ?_, fun key hh => ?_⟩
  · have := size_del (k := keyB s) h.tidy
    have := h.size
    omega
  · by_cases e : key = keyB s
    · subst e; rw [has_del_same] at hh; cases hh
    · rw [has_del_other e] at hh
      obtain ⟨t, n, h1, h2⟩ := h.st key hh
      exact ⟨t, n, by rw [atKey_del_other e]; exact h1, h2⟩

abbrev kWrite : ByteArray := ⟨#[119, 114, 105, 116, 101]⟩
abbrev kRemove : ByteArray := ⟨#[114, 101, 109, 111, 118, 101]⟩
/-- what an act makes of files. -/
def actD (q : DataW Unit × Nat) (x : ActF) : DataW Unit × Nat :=
  if x.kind = kWrite then (if writeF q.1 q.2 x.s x.t = 0 then (q.1.put (keyB x.s) (fileD x.t.data.toList ((q.2 : Int) + 1)), q.2 + 1) else q)
  else if x.kind = kRemove then (q.1.del (keyB x.s), q.2) else q
theorem actD_inv {q : DataW Unit × Nat} {x : ActF} (h : Inv q.1 q.2) : Inv (actD q x).1 (actD q x).2 ∧ q.2 ≤ (actD q x).2 := by
  unfold actD
  by_cases h1 : x.kind = kWrite
  · rw [if_pos h1]
    by_cases h2 : writeF q.1 q.2 x.s x.t = 0
    · rw [if_pos h2]; exact ⟨h.put h2, Nat.le_succ _⟩
    · rw [if_neg h2]; exact ⟨h, Nat.le_refl _⟩
  · rw [if_neg h1]
    by_cases h2 : x.kind = kRemove
    · rw [if_pos h2]; exact ⟨h.del, Nat.le_refl _⟩
    · rw [if_neg h2]; exact ⟨h, Nat.le_refl _⟩
/-- what the first m acts make of files. -/
def doneD (q : DataW Unit × Nat) (X : Nat → ActF) : Nat → DataW Unit × Nat
  | 0 => q
  | m + 1 => actD (doneD q X m) (X m)
theorem doneD_inv {q : DataW Unit × Nat} {X : Nat → ActF} (h : Inv q.1 q.2) (m : Nat) : Inv (doneD q X m).1 (doneD q X m).2 ∧ q.2 ≤ (doneD q X m).2 := by
  induction m with
  | zero => exact ⟨h, Nat.le_refl _⟩
  | succ m ih => exact ⟨(actD_inv ih.1).1, Nat.le_trans ih.2 (actD_inv ih.1).2⟩

set_option maxRecDepth 100000 in
set_option maxHeartbeats 2000000 in
theorem done_any (w : World) (p bm : Nat) (D : DataW Unit) (k : Nat) (a : Option Addr) (n c : Nat) (X : Nat → ActF) (B : Nat) (h : FilesAt w p bm D k) (hI : Inv D k) (hB : B ≤ w.heap.size) (hp : B ≤ p) (hbm : B ≤ bm) (hn : n ≤ 1000)
    (hr : ∀ W, Below B w W → ActsRow W a n X) (hs : ∀ i, i < n → (X i).s.size ≤ 100 ∧ (X i).t.size ≤ 1300) :
    Calls Tryz.prog 18 #[.pointer (some ⟨p, 0, none⟩), .slice a n c] w fun e w' => e = .returned (.tuple #[]) ∧ FilesAt w' p bm (doneD (D, k) X n).1 (doneD (D, k) X n).2 ∧ Turned p bm w w' := by
  go_enter Tryz.func18, Tryz.ntmps18
  go_wp2
  go_loopw [4] (fun x wr => ∃ m : Nat, m ≤ n ∧ x = .int .i64 m ∧ FilesAt wr p bm (doneD (D, k) X m).1 (doneD (D, k) X m).2 ∧ Turned p bm w wr) (fun x _ => n - (intOf x).toNat)
  case atStart => exact ⟨0, Nat.zero_le _, rfl, h, Turned.refl _ _ _⟩
  case round =>
    obtain ⟨m, hm, rfl, hF, hT⟩ := hrel
    by_cases hlt : m < n
    · have hIm := (doneD_inv (q := (D, k)) (X := X) hI m).1
      have HD : Hid (doneD (D, k) X (m + 1) = actD (doneD (D, k) X m) (X m)) := rfl
      have hrow := hr wr (hT.below hB hp hbm)
      rcases hrow with h0 | ⟨bk, o, rfl, hc⟩
      · omega
      have H := hc m hlt
      have d0 := H.c0
      have d1 := H.c1
      have d2 := H.c2
      obtain ⟨hs1, hs2⟩ := hs m hlt
      have hml : (X m).s.size ≤ maxLen := by simp only [maxLen]; omega
      generalize doneD (D, k) X m = q at *
      obtain ⟨D1, k1⟩ := q
      generalize X m = x at *
      clear hc H hr hs
      have hI1 : Maps.size D1 ≤ 1000 := by have : Maps.size D1 ≤ 6 := hIm.size; omega
      have hF1 : FilesAt wr p bm D1 k1 := hF
      clear hF hIm
      by_cases hk1 : x.kind = kWrite
      · have e1 : (x.kind.toList == [119, 114, 105, 116, 101]) = true := by rw [hk1, ByteArray.toList_eq]; rfl
        have HW := fun W (hW : FilesAt W p bm D1 k1) => write_any W p bm D1 k1 x.s x.t hW hml hI1
        have fin : ∀ {e W W'}, Turned p bm w W → WriteEnd W p bm D1 k1 x.s x.t (writeF D1 k1 x.s x.t) e W' → FilesAt W' p bm (doneD (D, k) X (m + 1)).1 (doneD (D, k) X (m + 1)).2 ∧ Turned p bm w W' := by
          intro e W W' hTW hE
          refine ⟨?_, hTW.trans hE.turned⟩
          rw [HD.out]
          unfold actD
          rw [if_pos hk1]
          by_cases hq : writeF D1 k1 x.s x.t = 0
          · rw [if_pos hq]; exact hE.yes hq
          · rw [if_neg hq]; exact hE.no hq
        clear HD hk1
        go_wp2
        go_region_with (go_at_call 28; refine (HW _ (by first | exact hF1 | exact hF1.later (Below.refl _ _).drew)).mono ?_; intro e w2 hE; have he := hE.e; subst he)
        all_goals
          obtain ⟨g1, g2⟩ := fin (by first | exact hT | exact hT.trans (Turned.of (Below.refl _ _).drew)) hE
          go_wp2
          go_roundw
          case rel => exact ⟨m + 1, by omega, by go_num, g1, g2⟩
          case measure => simp [intOf]; omega
      · have e1 : (x.kind.toList == [119, 114, 105, 116, 101]) = false := by
          rw [beq_eq_false_iff_ne]
          intro q
          apply hk1
          have : x.kind.toList = kWrite.toList := by rw [q, ByteArray.toList_eq]
          rw [ByteArray.toList_eq, ByteArray.toList_eq] at this
          exact WideShapes.bytes_inj this
        by_cases hk2 : x.kind = kRemove
        · have e2 : (x.kind.toList == [114, 101, 109, 111, 118, 101]) = true := by rw [hk2, ByteArray.toList_eq]; rfl
          have HR := remove_any wr p bm D1 k1 x.s hF1 hml _ rfl
          have HE : Hid (doneD (D, k) X (m + 1) = (D1.del (keyB x.s), k1)) := by
            show doneD (D, k) X (m + 1) = _
            rw [HD.out]; unfold actD; rw [if_neg hk1, if_pos hk2]
          clear HD hk1 hk2
          go_wp2_with fail
          refine HR.mono ?_
          rintro e w2 ⟨rfl, g1, g2⟩
          clear HR
          go_wp2
          go_roundw
          case rel => exact ⟨m + 1, by omega, by go_num, by rw [HE.out]; exact g1, hT.trans g2⟩
          case measure => simp [intOf]; omega
        · have e2 : (x.kind.toList == [114, 101, 109, 111, 118, 101]) = false := by
            rw [beq_eq_false_iff_ne]
            intro q
            apply hk2
            have : x.kind.toList = kRemove.toList := by rw [q, ByteArray.toList_eq]
            rw [ByteArray.toList_eq, ByteArray.toList_eq] at this
            exact WideShapes.bytes_inj this
          have HE : Hid (doneD (D, k) X (m + 1) = (D1, k1)) := by
            show doneD (D, k) X (m + 1) = _
            rw [HD.out]; unfold actD; rw [if_neg hk1, if_neg hk2]
          clear HD hk1 hk2
          go_wp2
          go_roundw
          case rel => exact ⟨m + 1, by omega, by go_num, by rw [HE.out]; exact hF1, hT⟩
          case measure => simp [intOf]; omega
    · have e : m = n := by omega
      subst e
      go_wp2
      go_end0
      exact ⟨rfl, hF, hT⟩
end Go.Proofs.YtidabcoodolddaaGreatDoor
