/-
  Acts in memory; what LightEntry and LightActs return, for every row of acts (true: they are few, and not too long); memory that was there stays as it was.
  Plain words on files: what stays true of them, whatever is written and removed.
  What List of package files returns, for all files: the map's names, rising; memory that was there stays as it was.
  The law TopStamp returns true, for every row of acts, every name and text; memory that was there stays as it was.
  The code's files and the document's, in plain words: they are alike; they stay so through every writing and removing; then all that is read of them is alike.
-/
import Derived.Test.YtbbhjpbacobmjaaGreatDoorErr
import Derived.Test.YtbbhjpbacobmjaaGreatDoorAtAll
import Derived.Test.YtbbhjpbacobmjaaGreatDoorFilesOne
import Derived.Test.YtbbhjpbacobmjaaGreatDoorShelf
import Derived.Maps.RangeWalk
import Derived.Sort.KeysCollected
import Derived.Sort.OwnSorted
namespace Go.Proofs.YtbbhjpbacobmjaaGreatDoor
open Go.RowKit

/-- an act, and where its entry's two slices lie. -/
structure ActF where
  kind : ByteArray
  s : ByteArray
  t : ByteArray
  a : Int
  k : Int
  root : ByteArray
  pa : Option Addr
  pn : Nat
  pc : Nat
  pname : Nat → ByteArray
  qa : Option Addr
  qn : Nat
  qc : Nat
  pst : Nat → Int
  pbs : Nat → Int
  qp : Nat → Int
  qt : Nat → Int
  qv : Nat → Int
/-- rows of a text and two numbers, of three numbers. -/
def RowSII (w : World) (a : Option Addr) (n : Nat) (s : Nat → ByteArray) (k b : Nat → Int) : Prop :=
  n = 0 ∨ ∃ bk o, a = some ⟨bk, o, none⟩ ∧ ∀ i, i < n → w.cell? ⟨bk, o + i * 3, none⟩ = some (.string (s i)) ∧ w.cell? ⟨bk, o + i * 3 + 1, none⟩ = some (.int .i64 (k i)) ∧ w.cell? ⟨bk, o + i * 3 + 2, none⟩ = some (.int .i64 (b i))
theorem RowSII.later {w w' : World} {a : Option Addr} {n : Nat} {s : Nat → ByteArray} {k b : Nat → Int} (h : RowSII w a n s k b) (hb : Below w.heap.size w w') : RowSII w' a n s k b := by
  rcases h with h | ⟨bk, o, ha, hc⟩
  · exact .inl h
  · exact .inr ⟨bk, o, ha, fun i hi => ⟨cell_later hb (hc i hi).1, cell_later hb (hc i hi).2.1, cell_later hb (hc i hi).2.2⟩⟩
def RowIII (w : World) (a : Option Addr) (n : Nat) (p t v : Nat → Int) : Prop :=
  n = 0 ∨ ∃ bk o, a = some ⟨bk, o, none⟩ ∧ ∀ i, i < n → w.cell? ⟨bk, o + i * 3, none⟩ = some (.int .i64 (p i)) ∧ w.cell? ⟨bk, o + i * 3 + 1, none⟩ = some (.int .i64 (t i)) ∧ w.cell? ⟨bk, o + i * 3 + 2, none⟩ = some (.int .i64 (v i))
theorem RowIII.later {w w' : World} {a : Option Addr} {n : Nat} {p t v : Nat → Int} (h : RowIII w a n p t v) (hb : Below w.heap.size w w') : RowIII w' a n p t v := by
  rcases h with h | ⟨bk, o, ha, hc⟩
  · exact .inl h
  · exact .inr ⟨bk, o, ha, fun i hi => ⟨cell_later hb (hc i hi).1, cell_later hb (hc i hi).2.1, cell_later hb (hc i hi).2.2⟩⟩
/-- a number of 64 bits. -/
def Is64 (n : Int) : Prop := -9223372036854775808 ≤ n ∧ n ≤ 9223372036854775807
/-- the names of an entry's parts. -/
def PartsRow (w : World) (a : Option Addr) (n : Nat) (f : Nat → ByteArray) : Prop :=
  n = 0 ∨ ∃ b o, a = some ⟨b, o, none⟩ ∧ ∀ i, i < n → w.cell? ⟨b, o + i * 3, none⟩ = some (.string (f i))
theorem PartsRow.later {w w' : World} {a : Option Addr} {n : Nat} {f : Nat → ByteArray} (h : PartsRow w a n f) (hb : Below w.heap.size w w') : PartsRow w' a n f := by
  rcases h with h | ⟨b, o, ha, hc⟩
  · exact .inl h
  · exact .inr ⟨b, o, ha, fun i hi => cell_later hb (hc i hi)⟩
/-- an act that lies at a place. -/
structure ActHere (w : World) (b o : Nat) (x : ActF) : Prop where
  c0 : w.cell? ⟨b, o, none⟩ = some (.string x.kind)
  c1 : w.cell? ⟨b, o + 1, none⟩ = some (.string x.s)
  c2 : w.cell? ⟨b, o + 2, none⟩ = some (.string x.t)
  c3 : w.cell? ⟨b, o + 3, none⟩ = some (.int .i64 x.a)
  c4 : w.cell? ⟨b, o + 4, none⟩ = some (.int .u64 x.k)
  c5 : w.cell? ⟨b, o + 5, none⟩ = some (.string x.root)
  c6 : w.cell? ⟨b, o + 6, none⟩ = some (.slice x.pa x.pn x.pc)
  c7 : w.cell? ⟨b, o + 7, none⟩ = some (.slice x.qa x.qn x.qc)
  parts : PartsRow w x.pa x.pn x.pname
  rows : RowSII w x.pa x.pn x.pname x.pst x.pbs
  pats : RowIII w x.qa x.qn x.qp x.qt x.qv
theorem ActHere.later {w w' : World} {b o : Nat} {x : ActF} (h : ActHere w b o x) (hb : Below w.heap.size w w') : ActHere w' b o x :=
  ⟨cell_later hb h.c0, cell_later hb h.c1, cell_later hb h.c2, cell_later hb h.c3, cell_later hb h.c4, cell_later hb h.c5, cell_later hb h.c6, cell_later hb h.c7, h.parts.later hb, h.rows.later hb, h.pats.later hb⟩
/-- the n acts behind 'a'. -/
def ActsRow (w : World) (a : Option Addr) (n : Nat) (X : Nat → ActF) : Prop :=
  n = 0 ∨ ∃ b o, a = some ⟨b, o, none⟩ ∧ ∀ i, i < n → ActHere w b (o + i * 8) (X i)
theorem ActsRow.later {w w' : World} {a : Option Addr} {n : Nat} {X : Nat → ActF} (h : ActsRow w a n X) (hb : Below w.heap.size w w') : ActsRow w' a n X := by
  rcases h with h | ⟨b, o, ha, hc⟩
  · exact .inl h
  · exact .inr ⟨b, o, ha, fun i hi => (hc i hi).later hb⟩
/-- texts are no longer than texts may be. -/
structure ActFit (x : ActF) : Prop where
  s : x.s.size ≤ maxLen
  t : x.t.size ≤ maxLen
  a : Is64 x.a
  k : 0 ≤ x.k ∧ x.k ≤ 18446744073709551615
  root : x.root.size ≤ maxLen
  parts : ∀ i, i < x.pn → (x.pname i).size ≤ maxLen ∧ Is64 (x.pst i) ∧ Is64 (x.pbs i)
  pats : ∀ i, i < x.qn → Is64 (x.qp i) ∧ Is64 (x.qt i) ∧ Is64 (x.qv i)
  pcap : x.pn ≤ maxLen
  qcap : x.qn ≤ maxLen

/-- a call that returned true or false. -/
def SomeBool (e : Ending) : Prop := ∃ b, e = .returned (.bool b)

set_option maxRecDepth 100000 in
set_option maxHeartbeats 1000000 in
theorem lightEntry_any (root : ByteArray) (pa qa : Option Addr) (pn pc qn qc : Nat) (f : Nat → ByteArray) (w : World) (hp : PartsRow w pa pn f) :
    Calls Tryz.prog 26 #[.agg #[.string root, .slice pa pn pc, .slice qa qn qc]] w fun e w' => SomeBool e ∧ Below w.heap.size w w' := by
  have hx : Below w.heap.size w (w.alloc (.cells #[.string root, .slice pa pn pc, .slice qa qn qc] 66)) := (Below.refl _ _).alloc (Nat.le_refl _) _
  have c0 : (w.alloc (.cells #[.string root, .slice pa pn pc, .slice qa qn qc] 66)).cell? ⟨w.heap.size, 0, none⟩ = some (.string root) := by simp [go_sem]
  have c1 : (w.alloc (.cells #[.string root, .slice pa pn pc, .slice qa qn qc] 66)).cell? ⟨w.heap.size, 1, none⟩ = some (.slice pa pn pc) := by simp [go_sem]
  have c2 : (w.alloc (.cells #[.string root, .slice pa pn pc, .slice qa qn qc] 66)).cell? ⟨w.heap.size, 2, none⟩ = some (.slice qa qn qc) := by simp [go_sem]
  by_cases hc : 20 < root.size ∨ 8 < pn ∨ 40 < qn
  · go_enter Tryz.func26, Tryz.ntmps26
    go_wp2
    all_goals first | (go_ret; exact ⟨⟨_, rfl⟩, hx⟩) | (exfalso; omega)
  · have g1 : ¬ (20 : Int) < root.size := by omega
    have g2 : ¬ (8 : Int) < pn := by omega
    have g3 : ¬ (40 : Int) < qn := by omega
    have h8 : pn ≤ 8 := by omega
    have hp' := hp.later hx
    clear hc hp
    go_enter Tryz.func26, Tryz.ntmps26
    go_wp2
    generalize w.alloc (.cells #[.string root, .slice pa pn pc, .slice qa qn qc] 66) = Y at *
    go_loopw [3] (fun x wr => ∃ k : Nat, k ≤ pn ∧ x = .int .i64 k ∧ wr = Y) (fun x _ => pn - (intOf x).toNat)
    case atStart => exact ⟨0, Nat.zero_le _, rfl, rfl⟩
    case round =>
      obtain ⟨k, hk, rfl, hw⟩ := hrel
      replace hw := hw.symm
      subst hw
      by_cases hlt : k < pn
      · rcases hp' with h0 | ⟨b1, o1, rfl, h5⟩
        · omega
        have p0 := h5 k hlt
        clear h5
        go_wp2
        all_goals first
          | (go_ret; exact ⟨⟨_, rfl⟩, hx⟩)
          | (go_roundw
             case rel => exact ⟨k + 1, by omega, by go_num, trivial⟩
             case measure => simp [intOf]; omega)
      · go_wp2
        go_ret
        exact ⟨⟨_, rfl⟩, hx⟩

/-- a call that returned true (then they are few, and not too long) or false. -/
def LightActsEnd (n most : Nat) (X : Nat → ActF) (e : Ending) : Prop := ∃ b, e = .returned (.bool b) ∧ (b = true → n ≤ most ∧ ∀ i, i < n → (X i).s.size ≤ 100 ∧ (X i).t.size ≤ 1300)
theorem upto_more {p : Nat → Prop} {k : Nat} (h : ∀ i, i < k → p i) (hk : p k) : ∀ i, i < k + 1 → p i := fun i hi => by
  by_cases e : i = k
  · subst e; exact hk
  · exact h i (by omega)

set_option maxRecDepth 100000 in
set_option maxHeartbeats 2000000 in
theorem lightActs_any (a : Option Addr) (n c most : Nat) (X : Nat → ActF) (w : World) (hm : most ≤ 1000) (hr : ActsRow w a n X) (hf : ∀ i, i < n → ActFit (X i)) :
    Calls Tryz.prog 8 #[.slice a n c, .int .i64 (most : Int)] w fun e w' => LightActsEnd n most X e ∧ Below w.heap.size w w' := by
  by_cases h0 : most < n
  · have h0' : (most : Int) < (n : Int) := by omega
    clear h0 hr hf hm
    go_enter Tryz.func8, Tryz.ntmps8
    go_wp2
    go_ret
    exact ⟨⟨false, rfl, fun h => by cases h⟩, Below.refl _ _⟩
  · have h0' : ¬ (most : Int) < (n : Int) := by omega
    go_enter Tryz.func8, Tryz.ntmps8
    go_wp2
    go_loopw [5, 6] (fun y x wr => ∃ (k : Nat) (N : Int), k ≤ n ∧ x = .int .i64 k ∧ y = .int .i64 N ∧ 0 ≤ N ∧ N ≤ 20000 ∧ Below w.heap.size w wr ∧ Hid (∀ i, i < k → (X i).s.size ≤ 100 ∧ (X i).t.size ≤ 1300)) (fun _ x _ => n - (intOf x).toNat)
    case atStart => exact ⟨0, 0, Nat.zero_le _, rfl, rfl, by omega, by omega, Below.refl _ _, fun i hi => by omega⟩
    case round =>
      obtain ⟨k, N, hk, rfl, rfl, hN0, hN1, hb, HK⟩ := hrel
      by_cases hlt : k < n
      · rcases hr with hz | ⟨bk, o, rfl, hc⟩
        · omega
        have H := (hc k hlt).later hb
        have d1 := H.c1
        have d2 := H.c2
        have d5 := H.c5
        have d6 := H.c6
        have d7 := H.c7
        have ht := (hf k hlt).t
        unfold maxLen at ht
        have HE := lightEntry_any (X k).root (X k).pa (X k).qa (X k).pn (X k).pc (X k).qn (X k).qc (X k).pname wr H.parts
        clear hc hf H
        by_cases q1 : 100 < (X k).s.size
        · have q1' : (100 : Int) < ((X k).s.size : Int) := by omega
          clear q1 HE
          go_wp2
          go_ret
          exact ⟨⟨false, rfl, fun h => by cases h⟩, hb⟩
        · have q1' : ¬ (100 : Int) < ((X k).s.size : Int) := by omega
          by_cases q2 : 1300 < (X k).t.size
          · have q2' : (1300 : Int) < ((X k).t.size : Int) := by omega
            clear q1 q2 HE
            go_wp2
            go_ret
            exact ⟨⟨false, rfl, fun h => by cases h⟩, hb⟩
          · have q2' : ¬ (1300 : Int) < ((X k).t.size : Int) := by omega
            by_cases q3 : (20000 : Int) < N + ((X k).t.size : Int)
            · clear q1 q2 HE
              go_wp2
              go_ret
              exact ⟨⟨false, rfl, fun h => by cases h⟩, hb⟩
            · have HK2 : Hid (∀ i, i < k + 1 → (X i).s.size ≤ 100 ∧ (X i).t.size ≤ 1300) := upto_more HK.out ⟨by omega, by omega⟩
              clear q1 q2
              go_wp2_with fail
              refine HE.mono ?_
              rintro e w2 ⟨⟨b, rfl⟩, hb2⟩
              have hB := hb.trans (hb2.mono hb.size)
              clear HE d1 d2 d5 d6 d7 hb hb2
              cases b with
              | false =>
                go_wp2
                go_ret
                exact ⟨⟨false, rfl, fun h => by cases h⟩, hB⟩
              | true =>
                go_wp2
                go_roundw
                case rel => exact ⟨k + 1, N + ((X k).t.size : Int), by omega, by go_num, rfl, by omega, by omega, hB, HK2⟩
                case measure => simp [intOf]; omega
      · have e : k = n := by omega
        subst e
        go_wp2
        go_ret
        exact ⟨⟨true, rfl, fun _ => ⟨by omega, HK.out⟩⟩, hb⟩
end Go.Proofs.YtbbhjpbacobmjaaGreatDoor

namespace Go.Proofs.YtbbhjpbacobmjaaGreatDoor
open Go.RowKit Go.Maps

theorem keyB_key (s : ByteArray) : WideAt.IsKeyLit (keyB s) := by simp [keyB, WideAt.IsKeyLit]
/-- few, no name twice, no stamp above the count. -/
structure Inv (D : DataW Unit) (k : Nat) : Prop where
  tidy : Tidy D
  size : Maps.size D ≤ 6
  st : ∀ key, Maps.has D key = true → ∃ t n, D.atKey key (fileD [] 0) = fileD t n ∧ n ≤ (k : Int)
theorem Inv.empty : Inv (.map []) 0 := ⟨tidy_empty, by simp [Maps.size], fun key h => by simp [Maps.has] at h⟩
theorem writeF_ok {D : DataW Unit} {k : Nat} {s text : ByteArray} (h : writeF D k s text = 0) : othersF D s < 6 ∧ text.size ≤ 1200 ∧ k < 1000000 := by
  unfold writeF at h
  by_cases hn : nameF s.data.toList = 0
  · rw [hn, seqF_zero] at h
    by_cases ht : 1200 < text.size
    · rw [if_pos ht] at h; cases h
    · rw [if_neg ht] at h
      by_cases ho : 6 ≤ othersF D s ∨ 1000000 ≤ k
      · rw [if_pos ho] at h; cases h
      · exact ⟨by omega, by omega, by omega⟩
  · rw [seqF_some _ hn] at h; exact absurd h hn
theorem Inv.put {D : DataW Unit} {k : Nat} {s text : ByteArray} (h : Inv D k) (hF : writeF D k s text = 0) : Inv (D.put (keyB s) (fileD text.data.toList ((k : Int) + 1))) (k + 1) := by
  obtain ⟨ho, _, _⟩ := writeF_ok hF
  refine ⟨h.tidy.put (keyB_key s) _, ?_, fun key hh => ?_⟩
  · rw [size_put h.tidy]
    unfold othersF at ho
    have := h.size
    cases hq : Maps.has D (keyB s) with
    | true => simp; exact this
    | false => rw [hq] at ho; simp at ho ⊢; omega
  · by_cases e : key = keyB s
    · subst e
      exact ⟨_, _, atKey_put_same h.tidy.isMap (keyB_key s) _ _, by omega⟩
    · rw [has_put_other e] at hh
      obtain ⟨t, n, h1, h2⟩ := h.st key hh
      exact ⟨t, n, by rw [atKey_put_other e]; exact h1, by omega⟩
theorem Inv.del {D : DataW Unit} {k : Nat} {s : ByteArray} (h : Inv D k) : Inv (D.del (keyB s)) k := by
  refine ⟨h.tidy.del _, ?_, fun key hh => ?_⟩
  · have := size_del (k := keyB s) h.tidy
    have := h.size
    omega
  · by_cases e : key = keyB s
    · subst e; rw [has_del_same] at hh; cases hh
    · rw [has_del_other e] at hh
      obtain ⟨t, n, h1, h2⟩ := h.st key hh
      exact ⟨t, n, by rw [atKey_del_other e]; exact h1, h2⟩

abbrev kWrite : ByteArray := ⟨#[119, 114, 105, 116, 101]⟩
end Go.Proofs.YtbbhjpbacobmjaaGreatDoor

namespace Go.Proofs.YtbbhjpbacobmjaaGreatDoor
open Go.RowKit Go.Maps Go.Sort

/-- the names, rising. -/
def namesF (D : DataW Unit) : List (List UInt8) := (strKeys D).mergeSort leB

/-- a call of List that returned. -/
structure ListEnd (w : World) (D : DataW Unit) (e : Ending) (w' : World) : Prop where
  v : ∃ v, e = .returned v ∧ w'.ownsRow w.heap.size 9 1 v (namesF D).length ((namesF D).map encStr)
  below : Below w.heap.size w w'

theorem strGrow2 {B : Nat} {w : World} {v : Value} {n : Nat} {cs : List Value} (u : Value) (hu : u.oneCell' = true) (hB : B ≤ w.heap.size) (h : w.ownsRow B 9 1 v n cs) (hn : n + 1 ≤ 1000000) :
    ∃ v' W, (Builtin.append_ #[31, 31] 31 #[v, .slice (some ⟨w.heap.size, 0, none⟩) 1 1]).run Tryz.prog (w.alloc (.cells #[u] 9)) = .ok v' W ∧ Grown B 9 1 (w.alloc (.cells #[u] 9)) v (n + 1) (cs ++ [u]) v' W :=
  append_from 31 9 1 16 (.string ⟨#[]⟩) (by kernel_rfl) (by kernel_rfl) (by rfl) (by decide) B _ v n cs (h.alloc _) (some ⟨w.heap.size, 0, none⟩) 1 1 [u] rfl
    (.inr ⟨_, _, rfl, fun j x hj => by
      cases j with
      | zero => simp at hj; subst hj; simp [go_sem]
      | succ j => simp at hj⟩) (fun x hx => by simp at hx; subst hx; exact hu) (by simp; omega) hn (by decide)

set_option maxRecDepth 100000 in
set_option maxHeartbeats 1000000 in
theorem list_any (w : World) (p bm : Nat) (D : DataW Unit) (k : Nat) (h : FilesAt w p bm D k) (hz : Maps.size D ≤ 1000) :
    Calls Tryz.prog 59 #[.pointer (some ⟨p, 0, none⟩)] w fun e w' => ListEnd w D e w' := by
  have hown := h.own
  have hbl := hown.lt
  have c0 := h.c0
  go_enter Tryz.func59, Tryz.ntmps59
  go_wp2_with (first
    | (at_range; refine wpList_range_own _ rfl _ 157 rfl 9 162 keysStr Tryz.underlying157 _ bm _ _ rfl hown ?_; intro w0 hrg0 hg0 hs0)
    | go_in)
  go_frame
  go_loopw [3] (fun v wr => ∃ (left : Lit → Bool) (cnt : Nat) (ss : List (List UInt8)), wr.ranges Tryz.prog 9 fileElem bm w.heap.size (Maps.size D) D left cnt ∧ ss.length + cnt ≤ Maps.size D ∧
      wr.ownsRow w.heap.size 9 1 v ss.length (ss.map encStr) ∧ Collected D left ss ∧ Below w.heap.size w wr)
    (fun _ wr => wr.rangeLeft bm w.heap.size)
  case atStart =>
    exact ⟨_, _, [], hrg0, by simp, World.ownsRow_nil _ _ _ _, Collected.start D, (Below.refl _ _).grown hg0 (Nat.le_refl _) (fun j hj => by cases hj)⟩
  case round =>
    obtain ⟨left, cnt, ss, hrg, hcs, hrow, hC, hnx⟩ := hrel
    go_wp2_with (first
      | (at_next; refine wpList_next_ranges _ rfl _ rfl 9 keysStr fileElem encStr (fun q : ByteArray × Int => .agg #[.string q.1, .int .i64 q.2]) (fun key kl hk => by obtain ⟨x, hx, _⟩ := Maps.keyOf_str Tryz.underlying9 hk; exact ⟨x, hx⟩) (fun v y hv => by obtain ⟨t, n, rfl, _⟩ := fileElem_inv hv; exact ⟨(t, n), rfl⟩) bm w.heap.size _ _ _ _ rfl hrg ?_ ?_)
      | go_in)
    · intro hc0 hl0
      have hperm := hC.perm hown keysStr Tryz.underlying9 hl0
      have HN : Hid (namesF D = ss.mergeSort leB) := (mergeSort_of_perm hperm).symm
      rcases hrow.2 with ⟨rfl, hn0⟩ | ⟨g, cap, cur, rfl, hbase, hb, h1, h2, h3, h4⟩
      · have hs0 : ss = [] := List.eq_nil_of_length_eq_zero hn0
        subst hs0
        have HS := Tryz.slices_Sort_string_none none 0 wr
        clear hrg hC hperm hrow
        go_wp2_with fail
        refine HS.mono ?_
        rintro e w' ⟨rfl, hw⟩
        replace hw := hw.symm
        subst hw
        go_wp2
        go_ret
        exact ⟨⟨.slice none 0 0, rfl, by rw [HN.out, List.mergeSort_nil]; exact World.ownsRow_nil _ _ _ _⟩, hnx⟩
      · have hH : Holds encStr wr g 0 ss.toArray := holds_of_block hb (by simpa using h4)
        have hgl : g < wr.heap.size := (Array.getElem?_eq_some_iff.1 hb).1
        have HS := Tryz.slices_Sort_string g 0 cap ss wr hH hgl (by omega)
        clear hrg hC hperm hrow hH
        go_wp2_with fail
        refine HS.mono ?_
        rintro e w' ⟨rfl, nn, os, hw⟩
        have hown' := ownsRow_sorted (n := nn) (os := os) (ts := ss.mergeSort leB) (by simp) hbase hb h1 h2 h3
        have hnx' := hnx.grown (grownBy_sorted (n := nn) (os := os) (g := g) (ss.mergeSort leB).toArray) hnx.size (fun j hj => by cases hj; exact hbase)
        rw [← hw] at hown' hnx'
        clear hw HS
        go_wp2
        go_ret
        refine ⟨⟨.slice (some ⟨g, 0, none⟩) ss.length cap, rfl, ?_⟩, hnx'⟩
        rw [HN.out, List.length_mergeSort]
        exact hown'
    · intro x ct cn kl yd yp w2 cnt2 hkey hlk hv hat hrg2 hlt hg2 hs2 hen
      obtain ⟨x', ex, rfl, _⟩ := Maps.keyOf_str Tryz.underlying9 hkey
      obtain rfl : x = x' := encStr_inj ex
      have hrow2 := hrow.kept hg2 (Or.inr (row_ne_iter hrow hrg).symm)
      have hB2 : w.heap.size ≤ w2.heap.size := Nat.le_trans hnx.size hg2.size
      have hnx2 := hnx.grown hg2 hnx.size (fun j hj => by cases hj; exact Nat.le_refl _)
      clear hs2
      obtain ⟨v', w3, happ, hG⟩ := strGrow2 (encStr x) (by simp [Value.oneCell']) hB2 hrow2 (by omega)
      have hen' := hen
      go_wp2_with (at_builtin; refine list_run rfl _ _ 31 rfl _ _ _ rfl rfl happ ?_)
      have hrg3 := (hrg2.alloc (.cells #[encStr x] 9)).kept hG.grown (row_ne_low hrow2 hbl) (row_ne_iter hrow2 hrg2)
      go_roundw
      case rel =>
        refine ⟨_, cnt2, ss ++ [x], hrg3, by simp; omega, ?_, hC.step hlk hat, ?_⟩
        · have := hG.own
          simpa using this
        · exact (hnx2.alloc hB2 _).trans hG.below
      case measure => rw [hrg3.left_eq, hrg.left_eq]; exact hlt
end Go.Proofs.YtbbhjpbacobmjaaGreatDoor

namespace Go.Proofs.YtbbhjpbacobmjaaGreatDoor
open Go.RowKit Go.Maps

theorem fileD_inj {t t' : List UInt8} {n n' : Int} (h : fileD t n = fileD t' n') : t = t' ∧ n = n' := by
  unfold fileD at h
  injection h with h
  injection h with h1 h2
  injection h1 with h1
  injection h1 with h1
  injection h2 with h2 _
  injection h2 with h2
  injection h2 with _ h2
  exact ⟨h1, h2⟩
theorem ba_ext {x y : ByteArray} (h : x.data.toList = y.data.toList) : x = y := WideShapes.bytes_inj h
theorem names_size {D : DataW Unit} (h : IsMap D) : (namesF D).length = Maps.size D := by
  obtain ⟨es, rfl⟩ := h
  unfold namesF
  rw [List.length_mergeSort]
  simp [strKeys, Maps.size]
/-- the name at a place of the list. -/
def nmF (D : DataW Unit) (i : Nat) : ByteArray := ⟨((namesF D).getD i []).toArray⟩
theorem nm_cell {D : DataW Unit} {i : Nat} (h : i < (namesF D).length) : ((namesF D).map encStr)[i]? = some (.string (nmF D i)) := by
  rw [List.getElem?_map, List.getElem?_eq_getElem h]
  simp [nmF, encStr, List.getD_eq_getElem?_getD, List.getElem?_eq_getElem h]
end Go.Proofs.YtbbhjpbacobmjaaGreatDoor

namespace Go.Proofs.YtbbhjpbacobmjaaGreatDoor
open Go.RowKit Go.Maps

structure Agree (D : DataW Unit) (L : List FileR) : Prop where
  rise : Rising L
  mem : ∀ f : FileR, f ∈ L ↔ Maps.has D (keyB f.nm) = true ∧ D.atKey (keyB f.nm) (fileD [] 0) = fileD f.tx.data.toList f.st

theorem keyB_inj {x y : ByteArray} (h : keyB x = keyB y) : x = y := by
  unfold keyB at h
  injection h with h
  exact ba_ext h
theorem Agree.empty : Agree (.map []) [] := ⟨List.Pairwise.nil, fun f => by simp [Maps.has]⟩
theorem Agree.has {D : DataW Unit} {L : List FileR} {k : Nat} (h : Agree D L) (hI : Inv D k) (s : ByteArray) : Maps.has D (keyB s) = true ↔ ∃ f ∈ L, f.nm = s := by
  constructor
  · intro hh
    obtain ⟨t, n, h1, _⟩ := hI.st _ hh
    exact ⟨⟨s, ⟨t.toArray⟩, n⟩, (h.mem _).2 ⟨hh, by simpa using h1⟩, rfl⟩
  · rintro ⟨f, hf, rfl⟩
    exact ((h.mem f).1 hf).1
/-- what is read is alike. -/
theorem Agree.read {D : DataW Unit} {L : List FileR} {k : Nat} (h : Agree D L) (hI : Inv D k) {s t t' : ByteArray} {n n' : Int} {f f' : Nat} (h1 : ReadIs D s t n f)
    (h2 : (∃ x ∈ L, x.nm = s ∧ t' = x.tx ∧ n' = x.st ∧ f' = 0) ∨ ((∀ x ∈ L, x.nm ≠ s) ∧ t' = ⟨#[]⟩ ∧ n' = 0 ∧ f' = 5)) : t = t' ∧ n = n' ∧ f = f' := by
  rcases h2 with ⟨x, hx, rfl, rfl, rfl, rfl⟩ | ⟨hno, rfl, rfl, rfl⟩
  · obtain ⟨g1, g2⟩ := (h.mem x).1 hx
    obtain ⟨e1, e2⟩ := h1.yes g1
    rw [g2] at e2
    obtain ⟨e3, e4⟩ := fileD_inj e2
    exact ⟨(ba_ext e3).symm, e4.symm, e1⟩
  · have hh : Maps.has D (keyB s) = false := by
      cases hq : Maps.has D (keyB s) with
      | false => rfl
      | true =>
        obtain ⟨x, hx, e⟩ := (h.has hI s).1 hq
        exact absurd e (hno x hx)
    obtain ⟨e1, e2, e3⟩ := h1.no hh
    exact ⟨e2, e3, e1⟩
theorem Agree.put {D : DataW Unit} {L : List FileR} {k : Nat} (h : Agree D L) (hI : Inv D k) (s tx : ByteArray) (n : Int) : Agree (D.put (keyB s) (fileD tx.data.toList n)) (putR ⟨s, tx, n⟩ L) := by
  obtain ⟨hm, hr⟩ := putR_mem ⟨s, tx, n⟩ L h.rise
  refine ⟨hr, fun f => ?_⟩
  rw [hm f]
  by_cases e : f.nm = s
  · have hk : keyB f.nm = keyB s := by rw [e]
    rw [hk, has_put_same hI.tidy.isMap (keyB_key s), atKey_put_same hI.tidy.isMap (keyB_key s)]
    constructor
    · rintro (rfl | ⟨_, hne⟩)
      · exact ⟨rfl, rfl⟩
      · exact absurd e hne
    · rintro ⟨_, h2⟩
      obtain ⟨h3, h4⟩ := fileD_inj h2
      left
      obtain ⟨a, b, c⟩ := f
      simp only at e h3 h4
      subst e h4
      rw [ba_ext h3]
  · have hk : keyB f.nm ≠ keyB s := fun q => e (keyB_inj q)
    rw [has_put_other hk, atKey_put_other hk, ← h.mem f]
    constructor
    · rintro (rfl | ⟨h1, _⟩)
      · exact absurd rfl e
      · exact h1
    · intro h1
      exact .inr ⟨h1, e⟩
theorem Agree.del {D : DataW Unit} {L : List FileR} (h : Agree D L) (s : ByteArray) : Agree (D.del (keyB s)) (delR s L) := by
  refine ⟨h.rise.filter _, fun f => ?_⟩
  unfold delR
  rw [List.mem_filter]
  by_cases e : f.nm = s
  · have hk : keyB f.nm = keyB s := by rw [e]
    rw [hk, has_del_same]
    simp [e]
  · have hk : keyB f.nm ≠ keyB s := fun q => e (keyB_inj q)
    rw [has_del_other hk, atKey_del_other hk, ← h.mem f]
    simp [e]
/-- the names are alike. -/
theorem Agree.names {D : DataW Unit} {L : List FileR} {k : Nat} {w : World} {bm n : Nat} (h : Agree D L) (hI : Inv D k) (hw : w.ownsMap Tryz.prog 9 fileElem bm n D) : namesF D = L.map fun f => f.nm.data.toList := by
  obtain ⟨es, hD, hpw⟩ := hI.tidy
  have hko := hw.keysOf
  have hnd : (L.map fun f => f.nm.data.toList).Nodup := List.pairwise_map.2 (h.rise.imp fun {a b} hab e => by
    unfold ltN at hab
    rw [e] at hab
    exact List.lt_irrefl _ hab)
  have hm : ∀ x, x ∈ (L.map fun f => f.nm.data.toList) ↔ Maps.has D (.string x) = true := fun x => by
    have := h.has hI ⟨x.toArray⟩
    unfold keyB at this
    simp only at this
    rw [this, List.mem_map]
    constructor
    · rintro ⟨f, hf, e⟩
      exact ⟨f, hf, ba_ext (by simpa using e)⟩
    · rintro ⟨f, hf, e⟩
      exact ⟨f, hf, by rw [e]⟩
  obtain ⟨es', hD', hk'⟩ := hko
  have hee : es = es' := by rw [hD] at hD'; simpa using hD'
  subst hee
  subst hD
  have hp := perm_strKeys hpw (fun p hp => by
    obtain ⟨v, hv⟩ := hk' p hp
    obtain ⟨x, _, hx, _⟩ := Maps.keyOf_str Tryz.underlying9 hv
    exact ⟨x, hx⟩) hnd hm
  unfold namesF
  rw [← mergeSort_of_perm hp]
  refine List.mergeSort_of_pairwise (List.pairwise_map.2 (h.rise.imp fun {a b} hab => ?_))
  unfold ltN at hab
  exact decide_eq_true (List.le_of_lt hab)
theorem Agree.length {D : DataW Unit} {L : List FileR} {k : Nat} {w : World} {bm n : Nat} (h : Agree D L) (hI : Inv D k) (hw : w.ownsMap Tryz.prog 9 fileElem bm n D) : L.length = Maps.size D := by
  rw [← names_size hI.tidy.isMap, h.names hI hw, List.length_map]
/-- the faults of a writing are alike. -/
theorem Agree.fault {D : DataW Unit} {L : List FileR} {k : Nat} {w : World} {bm n : Nat} (h : Agree D L) (hI : Inv D k) (hw : w.ownsMap Tryz.prog 9 fileElem bm n D) (hk : k ≤ 1000000) (s text : ByteArray) : writeF D k s text = writeRF L k s text := by
  have hl := h.length hI hw
  have h6 := hI.size
  unfold writeF writeRF
  congr 1
  have hc : (6 ≤ othersF D s ∨ 1000000 ≤ k) ↔ (((∀ x ∈ L, x.nm ≠ s) ∧ L.length = 6) ∨ k = 1000000) := by
    cases hq : Maps.has D (keyB s) with
    | true =>
      obtain ⟨f, hf, e⟩ := (h.has hI s).1 hq
      have ho : othersF D s = (Maps.size D : Int) - 1 := if_pos hq
      rw [ho]
      constructor
      · rintro (h1 | h1)
        · omega
        · exact .inr (by omega)
      · rintro (⟨h1, _⟩ | h1)
        · exact absurd e (h1 f hf)
        · exact .inr (by omega)
    | false =>
      have ho : othersF D s = (Maps.size D : Int) := if_neg (by simp [hq])
      rw [ho]
      have hno : ∀ x ∈ L, x.nm ≠ s := fun x hx e => by
        rw [(h.has hI s).2 ⟨x, hx, e⟩] at hq
        cases hq
      constructor
      · rintro (h1 | h1)
        · exact .inl ⟨hno, by omega⟩
        · exact .inr (by omega)
      · rintro (⟨_, h1⟩ | h1)
        · exact .inl (by omega)
        · exact .inr (by omega)
  by_cases ht : 1200 < text.size
  · rw [if_pos ht, if_pos ht]
  · rw [if_neg ht, if_neg ht]
    by_cases hx : 6 ≤ othersF D s ∨ 1000000 ≤ k
    · rw [if_pos hx, if_pos (hc.1 hx)]
    · rw [if_neg hx, if_neg (fun y => hx (hc.2 y))]
/-- the fault of a removing. -/
theorem Agree.gone {D : DataW Unit} {L : List FileR} {k : Nat} (h : Agree D L) (hI : Inv D k) (s : ByteArray) : (if Maps.has D (keyB s) = true then 0 else 5 : Nat) = if (delR s L).length = L.length then 5 else 0 := by
  cases hq : Maps.has D (keyB s) with
  | true =>
    obtain ⟨f, hf, e⟩ := (h.has hI s).1 hq
    have : (delR s L).length ≠ L.length := fun q => by
      have := delR_same q
      have hm : f ∈ delR s L := by rw [this]; exact hf
      simp [delR, e] at hm
    rw [if_pos rfl, if_neg this]
  | false =>
    have hno : ∀ x ∈ L, x.nm ≠ s := fun x hx e => by
      rw [(h.has hI s).2 ⟨x, hx, e⟩] at hq
      cases hq
    have : delR s L = L := List.filter_eq_self.2 fun x hx => by simp [hno x hx]
    rw [if_neg (by decide), if_pos (by rw [this])]
end Go.Proofs.YtbbhjpbacobmjaaGreatDoor
