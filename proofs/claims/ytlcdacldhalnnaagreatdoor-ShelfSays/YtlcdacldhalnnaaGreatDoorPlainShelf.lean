/-
  A shelf on a disk, in plain words: what stands on it; what is left where entries are kept, and where the disk falls meanwhile.
-/
import Derived.Test.YtlcdacldhalnnaaGreatDoorPlainLine
import Derived.Test.YtlcdacldhalnnaaGreatDoorShelfWrite
import Derived.Lib.TrimByte
namespace Go.Proofs.YtlcdacldhalnnaaGreatDoor
open Go.RowKit

/-- entries that a shelf may have. -/
structure ShelfOk (E : Nat → EntF) (k : Nat) : Prop where
  few : k ≤ 3
  ok : ∀ i, i < k → entF (E i) = 0
  once : ∀ i j, i < k → j < k → (E i).root = (E j).root → i = j
theorem ShelfOk.ent {E : Nat → EntF} {k : Nat} (h : ShelfOk E k) {i : Nat} (hi : i < k) : EntOk (E i) := entOk (h.ok i hi)
/-- the bytes of q sectors of a body. -/
def bodyK (s : DSt) (b q : Nat) : List UInt8 := catTo (fun i => (s.K (1 + b * 55 + i)).kept) q
/-- k entries stand on a disk of n sectors, and nothing is late. -/
structure Stands (s : DSt) (n : Nat) (E : Nat → EntF) (k : Nat) : Prop where
  up : s.down = false
  many : 112 ≤ n
  calm : ∀ i, i < n → (s.K i).late = []
  good : ShelfOk E k
  head : ∃ b q : Nat, b ≤ 1 ∧ q ≤ 55 ∧ (s.K 0).kept = headT b.toUInt8 q.toUInt8 ∧ Lib.trimRightB (bodyK s b q) 0 = linesE E k
theorem bodyK_congr {s s' : DSt} {b q : Nat} (h : ∀ i, i < q → (s'.K (1 + b * 55 + i)).kept = (s.K (1 + b * 55 + i)).kept) : bodyK s' b q = bodyK s b q := by
  unfold bodyK
  induction q with
  | zero => rfl
  | succ q ih =>
    have := ih fun i hi => h i (by omega)
    simp only [catTo]
    rw [this, h q (by omega)]
theorem Stands.of {s s' : DSt} {n : Nat} {E : Nat → EntF} {k : Nat} (h : Stands s n E k) (hup : s'.down = false) (hc : ∀ i, i < n → (s'.K i).late = []) (hK : ∀ i, i < n → (s'.K i).kept = (s.K i).kept) : Stands s' n E k := by
  obtain ⟨b, q, hb, hq, hh, ht⟩ := h.head
  have hm := h.many
  refine ⟨hup, h.many, hc, h.good, b, q, hb, hq, (hK 0 (by omega)).trans hh, ?_⟩
  rw [bodyK_congr (fun i hi => hK _ (by have : b * 55 ≤ 55 := by omega
                                        omega))]
  exact ht
theorem Stands.armed {s : DSt} {n : Nat} {E : Nat → EntF} {k : Nat} (h : Stands s n E k) (a : Int) : Stands { s with left := a } n E k := h.of h.up h.calm fun _ _ => rfl
theorem Stands.again {s : DSt} {n : Nat} {E : Nat → EntF} {k : Nat} (h : Stands s n E k) (keep : Int) : Stands (s.again keep) n E k :=
  h.of rfl (fun _ _ => rfl) fun i hi => by show keepTo keep (s.K i).kept (s.K i).late = _; rw [h.calm i hi]; rfl
theorem Stands.same {s : DSt} {n : Nat} {E E' : Nat → EntF} {k : Nat} (h : Stands s n E k) (e : ∀ i, i < k → SameE (E i) (E' i)) : Stands s n E' k := by
  have hl : ∀ i, i < k → entF (E' i) = 0 ∧ lineE (E i) = lineE (E' i) := fun i hi => (e i hi).line (h.good.ok i hi)
  obtain ⟨b, q, hb, hq, hh, ht⟩ := h.head
  refine ⟨h.up, h.many, h.calm, ⟨h.good.few, fun i hi => (hl i hi).1, fun i j hi hj he => h.good.once i j hi hj ?_⟩, b, q, hb, hq, hh, ht.trans (linesE_congr fun i hi => (hl i hi).2)⟩
  rw [(e i hi).root, (e j hj).root]; exact he
theorem Stands.now {s : DSt} {n : Nat} {E : Nat → EntF} {k : Nat} (h : Stands s n E k) {i : Nat} (hi : i < n) : (s.K i).now = (s.K i).kept := by
  unfold Sec.now; rw [h.calm i hi]; rfl

/-- the i-th part of a text. -/
def chunk (t : List UInt8) (i : Nat) : List UInt8 := (t.drop (64 * i)).take 64
theorem chunk_len (t : List UInt8) (i : Nat) : (chunk t i).length ≤ 64 := by simp [chunk]; omega
theorem chunks (t : List UInt8) : ∀ k, catTo (fun i => padB (chunk t i)) k = t.take (64 * k) ++ List.replicate (64 * k - t.length) 0
  | 0 => by simp [catTo]
  | k + 1 => by
    simp only [catTo]
    rw [chunks t k]
    by_cases h : 64 * k ≤ t.length
    · have e0 : 64 * k - t.length = 0 := by omega
      rw [e0, List.replicate_zero, List.append_nil]
      unfold padB chunk
      rw [← List.append_assoc, show 64 * (k + 1) = 64 * k + 64 by omega, List.take_add]
      congr 2
      rw [List.length_take, List.length_drop]
      omega
    · have e1 : chunk t k = [] := by unfold chunk; rw [List.drop_of_length_le (by omega)]; rfl
      rw [e1, List.take_of_length_le (by omega), List.take_of_length_le (by omega)]
      unfold padB
      rw [List.nil_append, List.append_assoc, List.replicate_append_replicate]
      congr 2
      simp
      omega
theorem trim_zeros {t : List UInt8} (m : Nat) (h : t = [] ∨ t.getLast? = some 10) : Lib.trimRightB (t ++ List.replicate m 0) 0 = t := by
  rw [Lib.trimRightB_take (t ++ List.replicate m 0) 0 t.length (by simp) ?_ ?_]
  · simp
  · intro j b hj hb
    rw [List.getElem?_append_right hj] at hb
    have := List.mem_of_getElem? hb
    exact (List.mem_replicate.1 this).2
  · intro b hk hb
    rw [List.getElem?_append_left (by omega)] at hb
    rcases h with rfl | h
    · simp at hk
    · rw [List.getLast?_eq_getElem?, hb] at h
      injection h with h
      subst h
      decide
/-- how many sectors a text takes. -/
def many64 (t : List UInt8) : Nat := (t.length + 63) / 64
theorem chunks_all (t : List UInt8) (h : t = [] ∨ t.getLast? = some 10) : Lib.trimRightB (catTo (fun i => padB (chunk t i)) (many64 t)) 0 = t := by
  rw [chunks t (many64 t), List.take_of_length_le (by unfold many64; omega)]
  exact trim_zeros _ h
/-- k sectors of a body are written, and not flushed. -/
structure Bodied (s s1 : DSt) (b : Nat) (t : List UInt8) (k : Nat) : Prop where
  up : s1.down = false
  left : s.left = -1 → s1.left = -1
  rest : ∀ i, ¬ (1 + b * 55 ≤ i ∧ i < 1 + b * 55 + k) → s1.K i = s.K i
  body : ∀ i, i < k → ∃ bit, bit < 64 ∧ s1.K (1 + b * 55 + i) = ⟨(s.K (1 + b * 55 + i)).kept, [(bit, padB (chunk t i))]⟩
theorem Bodied.start {s : DSt} (h : s.down = false) (b : Nat) (t : List UInt8) : Bodied s s b t 0 := ⟨h, id, fun _ _ => rfl, fun i hi => by omega⟩
theorem not_falls {s : DSt} (h : s.falls = false) : s.down = false ∧ s.left ≠ 0 := by simpa [DSt.falls] using h
theorem stepped_calm {s : DSt} (h : s.left = -1) : s.stepped.left = -1 := by simp [DSt.stepped, h]
theorem Bodied.more {s s1 : DSt} {b k : Nat} {t : List UInt8} (h : Bodied s s1 b t k) (hf : s1.falls = false) (hn : s1.next < 64) (hc : (s.K (1 + b * 55 + k)).late = []) : Bodied s (s1.stepped.put (1 + b * 55 + k) (padB (chunk t k))) b t (k + 1) := by
  have hk : s1.stepped.K (1 + b * 55 + k) = s.K (1 + b * 55 + k) := h.rest _ (by omega)
  have hke : (s1.stepped.put (1 + b * 55 + k) (padB (chunk t k))).K = fun j => if j = 1 + b * 55 + k then ⟨(s1.stepped.K (1 + b * 55 + k)).kept, struck (s1.stepped.K (1 + b * 55 + k)).late s1.stepped.next ++ [(s1.stepped.next, padB (chunk t k))]⟩ else s1.stepped.K j := rfl
  refine ⟨(not_falls hf).1, fun hl => stepped_calm (h.left hl), fun i hi => ?_, fun i hi => ?_⟩
  · rw [hke]
    show (if i = 1 + b * 55 + k then _ else s1.K i) = _
    rw [if_neg (by omega)]
    exact h.rest i (by omega)
  · by_cases e : i = k
    · subst e
      refine ⟨s1.next, hn, ?_⟩
      rw [hke]
      show (if 1 + b * 55 + i = 1 + b * 55 + i then _ else _) = _
      rw [if_pos rfl, hk, hc]
      rfl
    · obtain ⟨bit, h1, h2⟩ := h.body i (by omega)
      refine ⟨bit, h1, ?_⟩
      rw [hke]
      show (if 1 + b * 55 + i = 1 + b * 55 + k then _ else s1.K (1 + b * 55 + i)) = _
      rw [if_neg (by omega)]
      exact h2
/-- behind any restart one or the other stands. -/
def Split (s : DSt) (n : Nat) (E : Nat → EntF) (k : Nat) (E' : Nat → EntF) (k' : Nat) : Prop := s.down = true ∧ ∀ keep, Stands (s.again keep) n E k ∨ Stands (s.again keep) n E' k'
/-- a disk fell whose standing body, and head, nobody wrote. -/
theorem Stands.fallen {s s1 : DSt} {n b0 q0 : Nat} {E E' : Nat → EntF} {k k' : Nat} (h : Stands s n E k) (hb0 : b0 ≤ 1) (hq0 : q0 ≤ 55) (hh : (s.K 0).kept = headT b0.toUInt8 q0.toUInt8) (ht : Lib.trimRightB (bodyK s b0 q0) 0 = linesE E k)
    (hd : s1.down = true) (hr : ∀ i, i < n → ¬ (1 + (1 - b0) * 55 ≤ i ∧ i < 1 + (1 - b0) * 55 + 55) → s1.K i = s.K i) : Split s1 n E k E' k' := by
  have hm := h.many
  have hk : ∀ keep i, i < n → ¬ (1 + (1 - b0) * 55 ≤ i ∧ i < 1 + (1 - b0) * 55 + 55) → ((s1.again keep).K i).kept = (s.K i).kept := fun keep i hi hn => by
    show keepTo keep (s1.K i).kept (s1.K i).late = _
    rw [hr i hi hn, h.calm i hi]
    rfl
  refine ⟨hd, fun keep => .inl ⟨rfl, hm, fun _ _ => rfl, h.good, b0, q0, hb0, hq0, (hk keep 0 (by omega) (by omega)).trans hh, ?_⟩⟩
  rw [bodyK_congr (s := s) (fun i hi => hk keep _ (by have : b0 * 55 ≤ 55 := by omega
                                                      omega) (by rcases Nat.le_one_iff_eq_zero_or_eq_one.1 hb0 with rfl | rfl <;> omega))]
  exact ht
/-- a body is kept beside what stands. -/
structure BodyKept (s s2 : DSt) (n b : Nat) (t : List UInt8) : Prop where
  up : s2.down = false
  left : s.left = -1 → s2.left = -1
  rest : ∀ i, i < n → ¬ (1 + b * 55 ≤ i ∧ i < 1 + b * 55 + 55) → s2.K i = s.K i
  calm : ∀ i, i < n → (s2.K i).late = []
  body : ∀ i, i < many64 t → (s2.K (1 + b * 55 + i)).kept = padB (chunk t i)
theorem bit_all {c d : List UInt8} {bit : Nat} (h : bit < 64) : keepTo 18446744073709551615 c [(bit, d)] = d := by
  show (if bitOf 18446744073709551615 bit = true then d else c) = d
  rw [bitOf_all bit h, if_pos rfl]
theorem sec_calm {S : Sec} {keep : Int} (h : S.late = []) : (⟨keepTo keep S.kept S.late, []⟩ : Sec) = S := by
  obtain ⟨c, l⟩ := S
  simp only at h
  subst h
  rfl
theorem Bodied.flush {s s1 : DSt} {n b : Nat} {t : List UInt8} (h : Bodied s s1 b t (many64 t)) (hq : many64 t ≤ 55) (hf : s1.falls = false) (hc : ∀ i, i < n → (s.K i).late = []) : BodyKept s (s1.stepped.settled 18446744073709551615) n b t := by
  refine ⟨(not_falls hf).1, fun hl => stepped_calm (h.left hl), fun i hi hn => ?_, fun _ _ => rfl, fun i hi => ?_⟩
  · have e := h.rest i (by omega)
    show (⟨keepTo _ (s1.K i).kept (s1.K i).late, []⟩ : Sec) = _
    rw [e]
    exact sec_calm (hc i hi)
  · obtain ⟨bit, h1, h2⟩ := h.body i hi
    show keepTo _ (s1.K (1 + b * 55 + i)).kept (s1.K (1 + b * 55 + i)).late = _
    rw [h2]
    exact bit_all h1
theorem many64_le {t : List UInt8} (h : t.length ≤ 2256) : many64 t ≤ 55 := by unfold many64; omega
theorem Stands.new {S : DSt} {n b : Nat} {E : Nat → EntF} {k : Nat} (hg : ShelfOk E k) (hn : 112 ≤ n) (hb : b ≤ 1) (hup : S.down = false) (hc : ∀ i, i < n → (S.K i).late = []) (h0 : (S.K 0).kept = headT b.toUInt8 (many64 (linesE E k)).toUInt8)
    (hbody : ∀ i, i < many64 (linesE E k) → (S.K (1 + b * 55 + i)).kept = padB (chunk (linesE E k) i)) : Stands S n E k := by
  refine ⟨hup, hn, hc, hg, b, many64 (linesE E k), hb, many64_le (linesE_len hg.few fun i hi => hg.ent hi), h0, ?_⟩
  have e : bodyK S b (many64 (linesE E k)) = catTo (fun i => padB (chunk (linesE E k) i)) (many64 (linesE E k)) := by
    unfold bodyK
    generalize many64 (linesE E k) = q at *
    clear h0
    induction q with
    | zero => rfl
    | succ q ih =>
      have h1 := ih fun i hi => hbody i (by omega)
      simp only [catTo]
      rw [h1, hbody q (by omega)]
  rw [e]
  exact chunks_all _ (linesE_end E k)
theorem padB_head (b q : UInt8) : padB (headB b q).data.toList = headT b q := by
  have h : (headT b q).length = 64 := by simp [headT]
  unfold padB headB
  simp [h]
theorem write_head {s : DSt} {n : Nat} (b q : UInt8) (hn : 112 ≤ n) : s.writeF n 0 (headB b q) = (if s.falls = true then 9 else 0) ∧ s.wrote n 0 (headB b q) = if s.falls = true then s.fell else s.stepped.put 0 (headT b q) := by
  have hs := headB_size b q
  have hno : ¬ (¬ ((0 : Int) ≤ 0 ∧ (0 : Int) < n) ∨ 64 < (headB b q).size) := by rw [hs]; omega
  unfold DSt.writeF DSt.wrote
  rw [if_neg hno, if_neg hno, padB_head]
  exact ⟨rfl, rfl⟩
/-- the head is written: the new entries stand, or the disk fell, and either do. -/
theorem head_done {s s2 : DSt} {n b0 q0 : Nat} {E E' : Nat → EntF} {k k' : Nat} (h : Stands s n E k) (hb0 : b0 ≤ 1) (hq0 : q0 ≤ 55) (hh : (s.K 0).kept = headT b0.toUInt8 q0.toUInt8) (ht : Lib.trimRightB (bodyK s b0 q0) 0 = linesE E k)
    (hK : BodyKept s s2 n (1 - b0) (linesE E' k')) (hg : ShelfOk E' k') (hnx : s2.next < 64) :
    (s2.headF n (1 - b0).toUInt8 (many64 (linesE E' k')).toUInt8 = 0 ∧ Stands (s2.headed n (1 - b0).toUInt8 (many64 (linesE E' k')).toUInt8) n E' k' ∧ (s.left = -1 → (s2.headed n (1 - b0).toUInt8 (many64 (linesE E' k')).toUInt8).left = -1)) ∨
    (s.left ≠ -1 ∧ s2.headF n (1 - b0).toUInt8 (many64 (linesE E' k')).toUInt8 = 9 ∧ Split (s2.headed n (1 - b0).toUInt8 (many64 (linesE E' k')).toUInt8) n E k E' k') := by
  have hn := h.many
  have hb1 : 1 - b0 ≤ 1 := by omega
  obtain ⟨e1, e2⟩ := write_head (s := s2) (n := n) (1 - b0).toUInt8 (many64 (linesE E' k')).toUInt8 hn
  have hcal := hK.calm
  have hbod := hK.body
  unfold DSt.headF DSt.headed
  rw [e1, e2]
  by_cases hf : s2.falls = true
  · rw [if_pos hf, if_pos hf, if_neg (by decide)]
    refine .inr ⟨fun hl => ?_, rfl, ?_⟩
    · have h1 := hK.left hl
      simp [DSt.falls, hK.up, h1] at hf
    · rw [if_neg (by decide)]
      exact h.fallen hb0 hq0 hh ht rfl fun i hi hn' => hK.rest i hi hn'
  · have hf' : s2.falls = false := by simpa using hf
    rw [if_neg hf, if_neg hf, if_pos rfl, if_pos rfl]
    have hk0 : s2.K 0 = s.K 0 := hK.rest 0 (by omega) (by omega)
    generalize hs3 : s2.stepped.put 0 (headT (1 - b0).toUInt8 (many64 (linesE E' k')).toUInt8) = s3
    have k0 : s3.K 0 = ⟨(s2.K 0).kept, [(s2.next, headT (1 - b0).toUInt8 (many64 (linesE E' k')).toUInt8)]⟩ := by
      rw [← hs3]
      show (if (0 : Nat) = 0 then (⟨(s2.K 0).kept, struck (s2.K 0).late s2.next ++ [(s2.next, _)]⟩ : Sec) else s2.K 0) = _
      rw [if_pos rfl, hcal 0 (by omega)]
      rfl
    have ki : ∀ i, i ≠ 0 → s3.K i = s2.K i := fun i hi => by
      rw [← hs3]
      show (if i = 0 then _ else s2.K i) = _
      rw [if_neg hi]
    have hup3 : s3.down = false := by rw [← hs3]; exact hK.up
    have hl3 : s.left = -1 → s3.left = -1 := fun hl => by rw [← hs3]; exact stepped_calm (hK.left hl)
    clear hs3
    have hnew : ∀ (S : DSt) (keep : Int), S.down = false → S.K = (fun j => ⟨keepTo keep (s3.K j).kept (s3.K j).late, []⟩) → bitOf keep s2.next = true → Stands S n E' k' := fun S keep hS hSK hbit => by
      refine Stands.new hg hn hb1 hS (fun i _ => by rw [hSK]) ?_ (fun i hi => ?_)
      · rw [hSK]
        show keepTo keep (s3.K 0).kept (s3.K 0).late = _
        rw [k0]
        show (if bitOf keep s2.next = true then _ else _) = _
        rw [if_pos hbit]
      · rw [hSK]
        have hq := many64_le (linesE_len (E := E') hg.few fun i hi => hg.ent hi)
        have hlt : 1 + (1 - b0) * 55 + i < n := by have : (1 - b0) * 55 ≤ 55 := by omega
                                                   omega
        show keepTo keep (s3.K (1 + (1 - b0) * 55 + i)).kept (s3.K (1 + (1 - b0) * 55 + i)).late = _
        rw [ki _ (by omega), hcal _ hlt]
        exact hbod i hi
    by_cases hf3 : s3.falls = true
    · refine .inr ⟨fun hl => ?_, ?_, ?_⟩
      · have h1 := hl3 hl
        simp [DSt.falls, hup3, h1] at hf3
      · unfold DSt.flushF; rw [if_pos hf3]
      · unfold DSt.flushed; rw [if_pos hf3]
        refine ⟨rfl, fun keep => ?_⟩
        by_cases hbit : bitOf keep s2.next = true
        · exact .inr (hnew _ keep rfl rfl hbit)
        · left
          have hk : ∀ i, i < n → ¬ (1 + (1 - b0) * 55 ≤ i ∧ i < 1 + (1 - b0) * 55 + 55) → ((s3.fell.again keep).K i).kept = (s.K i).kept := fun i hi hn' => by
            show keepTo keep (s3.K i).kept (s3.K i).late = _
            by_cases e : i = 0
            · subst e
              rw [k0]
              show (if bitOf keep s2.next = true then _ else (s2.K 0).kept) = _
              rw [if_neg hbit, hk0]
            · rw [ki i e, hcal i hi]
              show (s2.K i).kept = _
              rw [hK.rest i hi hn']
          refine ⟨rfl, hn, fun _ _ => rfl, h.good, b0, q0, hb0, hq0, (hk 0 (by omega) (by omega)).trans hh, ?_⟩
          rw [bodyK_congr (s := s) (fun i hi => hk _ (by have : b0 * 55 ≤ 55 := by omega
                                                         omega) (by rcases Nat.le_one_iff_eq_zero_or_eq_one.1 hb0 with rfl | rfl <;> omega))]
          exact ht
    · have hf3' : s3.falls = false := by simpa using hf3
      have hbit : bitOf 18446744073709551615 s2.next = true := bitOf_all _ hnx
      refine .inl ⟨?_, ?_, ?_⟩
      · unfold DSt.flushF; rw [if_neg hf3]
      · unfold DSt.flushed; rw [if_neg hf3]
        exact hnew _ _ hup3 rfl hbit
      · unfold DSt.flushed; rw [if_neg hf3]
        exact fun hl => stepped_calm (hl3 hl)
end Go.Proofs.YtlcdacldhalnnaaGreatDoor
