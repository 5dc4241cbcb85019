/-
  Acts in memory; what LightEntry and LightActs return, for every row of acts (true: they are few, and not too long); memory that was there stays as it was.
-/
import Derived.Test.YtidabcoodolddaaGreatDoorErr
import Derived.Test.YtidabcoodolddaaGreatDoorAtAll
namespace Go.Proofs.YtidabcoodolddaaGreatDoor
open Go.RowKit

/-- an act, and where its entry's two slices lie. -/
structure ActF where
  kind : ByteArray
  s : ByteArray
  t : ByteArray
  a : Int
  k : Int
  root : ByteArray
  pa : Option Addr
  pn : Nat
  pc : Nat
  pname : Nat → ByteArray
  qa : Option Addr
  qn : Nat
  qc : Nat
  pst : Nat → Int
  pbs : Nat → Int
  qp : Nat → Int
  qt : Nat → Int
  qv : Nat → Int
/-- rows of a text and two numbers, of three numbers. -/
def RowSII (w : World) (a : Option Addr) (n : Nat) (s : Nat → ByteArray) (k b : Nat → Int) : Prop :=
  n = 0 ∨ ∃ bk o, a = some ⟨bk, o, none⟩ ∧ ∀ i, i < n → w.cell? ⟨bk, o + i * 3, none⟩ = some (.string (s i)) ∧ w.cell? ⟨bk, o + i * 3 + 1, none⟩ = some (.int .i64 (k i)) ∧ w.cell? ⟨bk, o + i * 3 + 2, none⟩ = some (.int .i64 (b i))
theorem RowSII.later {w w' : World} {a : Option Addr} {n : Nat} {s : Nat → ByteArray} {k b : Nat → Int} (h : RowSII w a n s k b) (hb : Below w.heap.size w w') : RowSII w' a n s k b := by
  rcases h with h | ⟨bk, o, ha, hc⟩
  · exact .inl h
  · exact .inr ⟨bk, o, ha, fun i hi => ⟨cell_later hb (hc i hi).1, cell_later hb (hc i hi).2.1, cell_later hb (hc i hi).2.2⟩⟩
def RowIII (w : World) (a : Option Addr) (n : Nat) (p t v : Nat → Int) : Prop :=
  n = 0 ∨ ∃ bk o, a = some ⟨bk, o, none⟩ ∧ ∀ i, i < n → w.cell? ⟨bk, o + i * 3, none⟩ = some (.int .i64 (p i)) ∧ w.cell? ⟨bk, o + i * 3 + 1, none⟩ = some (.int .i64 (t i)) ∧ w.cell? ⟨bk, o + i * 3 + 2, none⟩ = some (.int .i64 (v i))
theorem RowIII.later {w w' : World} {a : Option Addr} {n : Nat} {p t v : Nat → Int} (h : RowIII w a n p t v) (hb : Below w.heap.size w w') : RowIII w' a n p t v := by
  rcases h with h | ⟨bk, o, ha, hc⟩
  · exact .inl h
  · exact .inr ⟨bk, o, ha, fun i hi => ⟨cell_later hb (hc i hi).1, cell_later hb (hc i hi).2.1, cell_later hb (hc i hi).2.2⟩⟩
/-- a number of 64 bits. -/
def Is64 (n : Int) : Prop := -9223372036854775808 ≤ n ∧ n ≤ 9223372036854775807
/-- the names of an entry's parts. -/
def PartsRow (w : World) (a : Option Addr) (n : Nat) (f : Nat → ByteArray) : Prop :=
  n = 0 ∨ ∃ b o, a = some ⟨b, o, none⟩ ∧ ∀ i, i < n → w.cell? ⟨b, o + i * 3, none⟩ = some (.string (f i))
theorem PartsRow.later {w w' : World} {a : Option Addr} {n : Nat} {f : Nat → ByteArray} (h : PartsRow w a n f) (hb : Below w.heap.size w w') : PartsRow w' a n f := by
  rcases h with h | ⟨b, o, ha, hc⟩
  · exact .inl h
  · exact .inr ⟨b, o, ha, fun i hi => cell_later hb (hc i hi)⟩
/-- an act that lies at a place. -/
structure ActHere (w : World) (b o : Nat) (x : ActF) : Prop where
  c0 : w.cell? ⟨b, o, none⟩ = some (.string x.kind)
  c1 : w.cell? ⟨b, o + 1, none⟩ = some (.string x.s)
  c2 : w.cell? ⟨b, o + 2, none⟩ = some (.string x.t)
  c3 : w.cell? ⟨b, o + 3, none⟩ = some (.int .i64 x.a)
  c4 : w.cell? ⟨b, o + 4, none⟩ = some (.int .u64 x.k)
  c5 : w.cell? ⟨b, o + 5, none⟩ = some (.string x.root)
  c6 : w.cell? ⟨b, o + 6, none⟩ = some (.slice x.pa x.pn x.pc)
  c7 : w.cell? ⟨b, o + 7, none⟩ = some (.slice x.qa x.qn x.qc)
  parts : PartsRow w x.pa x.pn x.pname
  rows : RowSII w x.pa x.pn x.pname x.pst x.pbs
  pats : RowIII w x.qa x.qn x.qp x.qt x.qv
theorem ActHere.later {w w' : World} {b o : Nat} {x : ActF} (h : ActHere w b o x) (hb : Below w.heap.size w w') : ActHere w' b o x :=
  ⟨cell_later hb h.c0, cell_later hb h.c1, cell_later hb h.c2, cell_later hb h.c3, cell_later hb h.c4, cell_later hb h.c5, cell_later hb h.c6, cell_later hb h.c7, h.parts.later hb, h.rows.later hb, h.pats.later hb⟩
/-- the n acts behind 'a'. -/
def ActsRow (w : World) (a : Option Addr) (n : Nat) (X : Nat → ActF) : Prop :=
  n = 0 ∨ ∃ b o, a = some ⟨b, o, none⟩ ∧ ∀ i, i < n → ActHere w b (o + i * 8) (X i)
theorem ActsRow.later {w w' : World} {a : Option Addr} {n : Nat} {X : Nat → ActF} (h : ActsRow w a n X) (hb : Below w.heap.size w w') : ActsRow w' a n X := by
  rcases h with h | ⟨b, o, ha, hc⟩
  · exact .inl h
  · exact .inr ⟨b, o, ha, fun i hi => (hc i hi).later hb⟩
/-- texts are no longer than texts may be. -/
structure ActFit (x : ActF) : Prop where
  s : x.s.size ≤ maxLen
  t : x.t.size ≤ maxLen
  a : Is64 x.a
  k : 0 ≤ x.k ∧ x.k ≤ 18446744073709551615
  root : x.root.size ≤ maxLen
  parts : ∀ i, i < x.pn → (x.pname i).size ≤ maxLen ∧ Is64 (x.pst i) ∧ Is64 (x.pbs i)
  pats : ∀ i, i < x.qn → Is64 (x.qp i) ∧ Is64 (x.qt i) ∧ Is64 (x.qv i)
  pcap : x.pn ≤ maxLen
  qcap : x.qn ≤ maxLen

/-- a call that returned true or false. -/
def SomeBool (e : Ending) : Prop := ∃ b, e = .returned (.bool b)

set_option maxRecDepth 100000 in
set_option maxHeartbeats 1000000 in
theorem lightEntry_any (root : ByteArray) (pa qa : Option Addr) (pn pc qn qc : Nat) (f : Nat → ByteArray) (w : World) (hp : PartsRow w pa pn f) :
    Calls Tryz.prog 30 #[.agg #[.string root, .slice pa pn pc, .slice qa qn qc]] w fun e w' => SomeBool e ∧ Below w.heap.size w w' := by
  have hx : Below w.heap.size w (w.alloc (.cells #[.string root, .slice pa pn pc, .slice qa qn qc] 62)) := (Below.refl _ _).alloc (Nat.le_refl _) _
  have c0 : (w.alloc (.cells #[.string root, .slice pa pn pc, .slice qa qn qc] 62)).cell? ⟨w.heap.size, 0, none⟩ = some (.string root) := by simp [go_sem]
  have c1 : (w.alloc (.cells #[.string root, .slice pa pn pc, .slice qa qn qc] 62)).cell? ⟨w.heap.size, 1, none⟩ = some (.slice pa pn pc) := by simp [go_sem]
  have c2 : (w.alloc (.cells #[.string root, .slice pa pn pc, .slice qa qn qc] 62)).cell? ⟨w.heap.size, 2, none⟩ = some (.slice qa qn qc) := by simp [go_sem]
  by_cases hc : 20 < root.size ∨ 8 < pn ∨ 40 < qn
  · go_enter Tryz.func30, Tryz.ntmps30
    go_wp2
    all_goals first | (go_ret; exact ⟨⟨_, rfl⟩, hx⟩) | (exfalso; omega)
  · have g1 : ¬ (20 : Int) < root.size := by omega
    have g2 : ¬ (8 : Int) < pn := by omega
    have g3 : ¬ (40 : Int) < qn := by omega
    have h8 : pn ≤ 8 := by omega
    have hp' := hp.later hx
    clear hc hp
    go_enter Tryz.func30, Tryz.ntmps30
    go_wp2
    generalize w.alloc (.cells #[.string root, .slice pa pn pc, .slice qa qn qc] 62) = Y at *
    go_loopw [3] (fun x wr => ∃ k : Nat, k ≤ pn ∧ x = .int .i64 k ∧ wr = Y) (fun x _ => pn - (intOf x).toNat)
    case atStart => exact ⟨0, Nat.zero_le _, rfl, rfl⟩
    case round =>
      obtain ⟨k, hk, rfl, hw⟩ := hrel
      replace hw := hw.symm
      subst hw
      by_cases hlt : k < pn
      · rcases hp' with h0 | ⟨b1, o1, rfl, h5⟩
        · omega
        have p0 := h5 k hlt
        clear h5
        go_wp2
        all_goals first
          | (go_ret; exact ⟨⟨_, rfl⟩, hx⟩)
          | (go_roundw
             case rel => exact ⟨k + 1, by omega, by go_num, trivial⟩
             case measure => simp [intOf]; omega)
      · go_wp2
        go_ret
        exact ⟨⟨_, rfl⟩, hx⟩

/-- a call that returned true (then they are few, and not too long) or false. -/
def LightActsEnd (n most : Nat) (X : Nat → ActF) (e : Ending) : Prop := ∃ b, e = .returned (.bool b) ∧ (b = true → n ≤ most ∧ ∀ i, i < n → (X i).s.size ≤ 100 ∧ (X i).t.size ≤ 1300)
theorem upto_more {p : Nat → Prop} {k : Nat} (h : ∀ i, i < k → p i) (hk : p k) : ∀ i, i < k + 1 → p i := fun i hi => by
  by_cases e : i = k
  · subst e; exact hk
  · exact h i (by omega)

set_option maxRecDepth 100000 in
set_option maxHeartbeats 2000000 in
theorem lightActs_any (a : Option Addr) (n c most : Nat) (X : Nat → ActF) (w : World) (hm : most ≤ 1000) (hr : ActsRow w a n X) (hf : ∀ i, i < n → ActFit (X i)) :
    Calls Tryz.prog 9 #[.slice a n c, .int .i64 (most : Int)] w fun e w' => LightActsEnd n most X e ∧ Below w.heap.size w w' := by
  by_cases h0 : most < n
  · have h0' : (most : Int) < (n : Int) := by omega
    clear h0 hr hf hm
    go_enter Tryz.func9, Tryz.ntmps9
    go_wp2
    go_ret
    exact ⟨⟨false, rfl, fun h => by cases h⟩, Below.refl _ _⟩
  · have h0' : ¬ (most : Int) < (n : Int) := by omega
    go_enter Tryz.func9, Tryz.ntmps9
    go_wp2
    go_loopw [5, 6] (fun y x wr => ∃ (k : Nat) (N : Int), k ≤ n ∧ x = .int .i64 k ∧ y = .int .i64 N ∧ 0 ≤ N ∧ N ≤ 20000 ∧ Below w.heap.size w wr ∧ Hid (∀ i, i < k → (X i).s.size ≤ 100 ∧ (X i).t.size ≤ 1300)) (fun _ x _ => n - (intOf x).toNat)
    case atStart => exact ⟨0, 0, Nat.zero_le _, rfl, rfl, by omega, by omega, Below.refl _ _, fun i hi => by omega⟩
    case round =>
      obtain ⟨k, N, hk, rfl, rfl, hN0, hN1, hb, HK⟩ := hrel
      by_cases hlt : k < n
      · rcases hr with hz | ⟨bk, o, rfl, hc⟩
        · omega
        have H := (hc k hlt).later hb
        have d1 := H.c1
        have d2 := H.c2
        have d5 := H.c5
        have d6 := H.c6
        have d7 := H.c7
        have ht := (hf k hlt).t
        unfold maxLen at ht
        have HE := lightEntry_any (X k).root (X k).pa (X k).qa (X k).pn (X k).pc (X k).qn (X k).qc (X k).pname wr H.parts
        clear hc hf H
        by_cases q1 : 100 < (X k).s.size
        · have q1' : (100 : Int) < ((X k).s.size : Int) := by omega
          clear q1 HE
          go_wp2
          go_ret
          exact ⟨⟨false, rfl, fun h => by cases h⟩, hb⟩
        · have q1' : ¬ (100 : Int) < ((X k).s.size : Int) := by omega
          by_cases q2 : 1300 < (X k).t.size
          · have q2' : (1300 : Int) < ((X k).t.size : Int) := by omega
            clear q1 q2 HE
            go_wp2
            go_ret
            exact ⟨⟨false, rfl, fun h => by cases h⟩, hb⟩
          · have q2' : ¬ (1300 : Int) < ((X k).t.size : Int) := by omega
            by_cases q3 : (20000 : Int) < N + ((X k).t.size : Int)
            · clear q1 q2 HE
              go_wp2
              go_ret
              exact ⟨⟨false, rfl, fun h => by cases h⟩, hb⟩
            · have HK2 : Hid (∀ i, i < k + 1 → (X i).s.size ≤ 100 ∧ (X i).t.size ≤ 1300) := upto_more HK.out ⟨by omega, by omega⟩
              clear q1 q2
              go_wp2_with fail
              refine HE.mono ?_
              rintro e w2 ⟨⟨b, rfl⟩, hb2⟩
              have hB := hb.trans (hb2.mono hb.size)
              clear HE d1 d2 d5 d6 d7 hb hb2
              cases b with
              | false =>
                go_wp2
                go_ret
                exact ⟨⟨false, rfl, fun h => by cases h⟩, hB⟩
              | true =>
                go_wp2
                go_roundw
                case rel => exact ⟨k + 1, N + ((X k).t.size : Int), by omega, by go_num, rfl, by omega, by omega, hB, HK2⟩
                case measure => simp [intOf]; omega
      · have e : k = n := by omega
        subst e
        go_wp2
        go_ret
        exact ⟨⟨true, rfl, fun _ => ⟨by omega, HK.out⟩⟩, hb⟩
end Go.Proofs.YtidabcoodolddaaGreatDoor
