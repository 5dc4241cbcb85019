/-
  A disk in memory: a block of four cells, a row of sectors, of each a row of what was written late; what it is, in plain words; what stays of all else.
-/
import Derived.Test.YtlcdacldhalnnaaGreatDoorErr
import Derived.Test.YtlcdacldhalnnaaGreatDoorAtAll
import Derived.Deep.MidRow
import Derived.Lib.LazyBuf
import Derived.Maps.AppendAt
namespace Go.Proofs.YtlcdacldhalnnaaGreatDoor
open Go.RowKit

/-- bytes as cells. -/
def bytesV (l : List UInt8) : List Value := l.map fun x => Value.int .u8 (x.toNat : Int)
@[simp] theorem bytesV_length (l : List UInt8) : (bytesV l).length = l.length := by simp [bytesV]
theorem bytesV_one (l : List UInt8) : ∀ v ∈ bytesV l, v.oneCell' = true := fun v hv => by
  obtain ⟨x, _, rfl⟩ := List.mem_map.1 hv
  rfl
/-- what was written late: its bit, its bytes. -/
abbrev Late := Nat × List UInt8
def lateC (x : Late) : List Value := .int .u64 (x.1 : Int) :: bytesV x.2
theorem lateC_one (x : Late) : ∀ v ∈ lateC x, v.oneCell' = true := fun v hv => by
  rcases List.mem_cons.1 hv with rfl | h
  · rfl
  · exact bytesV_one _ v h
def latesC (l : List Late) : List Value := l.flatMap lateC
structure Sec where
  kept : List UInt8
  late : List Late
structure SecOk (S : Sec) : Prop where
  kept : S.kept.length = 64
  late : ∀ x ∈ S.late, x.1 < 64 ∧ x.2.length = 64
  once : (S.late.map (·.1)).Nodup
theorem nodup_few : ∀ (n : Nat) (l : List Nat), l.Nodup → (∀ x ∈ l, x < n) → l.length ≤ n
  | 0, l, _, h => by
    cases l with
    | nil => simp
    | cons a l => exact absurd (h a (by simp)) (by omega)
  | n + 1, l, hd, h => by
    by_cases hn : n ∈ l
    · have h1 := nodup_few n (l.erase n) (hd.erase n) (fun x hx => by
        have := (hd.mem_erase_iff).1 hx
        have := h x this.2
        omega)
      rw [List.length_erase_of_mem hn] at h1
      omega
    · have h1 := nodup_few n l hd (fun x hx => by
        have := h x hx
        have : x ≠ n := fun e => hn (e ▸ hx)
        omega)
      omega
theorem SecOk.few {S : Sec} (h : SecOk S) : S.late.length ≤ 64 := by
  have := nodup_few 64 (S.late.map (·.1)) h.once (fun x hx => by
    obtain ⟨y, hy, rfl⟩ := List.mem_map.1 hx
    exact (h.late y hy).1)
  simpa using this
theorem latesC_length {l : List Late} (h : ∀ x ∈ l, x.1 < 64 ∧ x.2.length = 64) : (latesC l).length = l.length * 65 := by
  induction l with
  | nil => rfl
  | cons a l ih =>
    have h1 := ih (fun x hx => h x (by simp [hx]))
    have h2 := (h a (by simp)).2
    simp only [latesC, List.flatMap_cons, List.length_append] at h1 ⊢
    simp only [lateC, List.length_cons, bytesV_length, h2]
    omega
/-- the cells of one of them. -/
theorem latesC_at : ∀ {l : List Late}, (∀ x ∈ l, x.1 < 64 ∧ x.2.length = 64) → ∀ {i : Nat} {x : Late}, l[i]? = some x → ∀ {j : Nat} {u : Value}, (lateC x)[j]? = some u → (latesC l)[i * 65 + j]? = some u
  | [], _, i, x, hi, j, u, _ => by simp at hi
  | a :: l, h, 0, x, hi, j, u, hj => by
    simp at hi
    subst hi
    have : j < (lateC a).length := (List.getElem?_eq_some_iff.1 hj).1
    simp only [latesC, List.flatMap_cons, Nat.zero_mul, Nat.zero_add]
    rw [List.getElem?_append_left this]
    exact hj
  | a :: l, h, i + 1, x, hi, j, u, hj => by
    have h2 := (h a (by simp)).2
    have hl : (lateC a).length = 65 := by simp [lateC, h2]
    simp only [latesC, List.flatMap_cons]
    rw [List.getElem?_append_right (by omega), hl, show (i + 1) * 65 + j - 65 = i * 65 + j by omega]
    exact latesC_at (fun x hx => h x (by simp [hx])) (by simpa using hi) hj

/-- the state of a disk. -/
structure DSt where
  next : Nat
  left : Int
  down : Bool
  K : Nat → Sec
/-- a disk in block p, its sectors in block bs, of each what is late in the row v. -/
structure DiskAt (w : World) (B p bs n : Nat) (s : DSt) (v : Nat → Value) : Prop where
  blk : w.heap[p]? = some (.cells #[.slice (some ⟨bs, 0, none⟩) n n, .int .u64 (s.next : Int), .int .i64 s.left, .bool s.down] 66 (0, 0))
  sec : ∃ C, w.heap[bs]? = some (.cells C 116 (0, 0))
  cells : ∀ i, i < n → w.rangeAt bs (i * 65) (bytesV (s.K i).kept ++ [v i])
  ok : ∀ i, i < n → SecOk (s.K i)
  rows : ∀ i, i < n → w.ownsRow B 113 65 (v i) (s.K i).late.length (latesC (s.K i).late)
  apart : ∀ i j, i < n → j < n → i ≠ j → (v i).ownBlock = none ∨ (v i).ownBlock ≠ (v j).ownBlock
  bp : B ≤ p
  bb : B ≤ bs
  nx : s.next < 64
  lo : -1 ≤ s.left
  few : n ≤ 120
/-- a block of a disk's. -/
def DiskTy (o : Obj) : Prop := ∃ c t f, o = .cells c t f ∧ (t = 66 ∨ t = 116 ∨ t = 113)
/-- nothing below B has turned, and nothing that isn't a disk's. -/
structure Spun (B : Nat) (w w' : World) : Prop where
  below : Below B w w'
  block : ∀ (k : Nat) (o : Obj), w.heap[k]? = some o → ¬ DiskTy o → w'.heap[k]? = some o
theorem Spun.refl (B : Nat) (w : World) : Spun B w w := ⟨Below.refl _ _, fun _ _ h _ => h⟩
theorem Spun.trans {B : Nat} {a b c : World} (h : Spun B a b) (g : Spun B b c) : Spun B a c :=
  ⟨h.below.trans g.below, fun k o hk ho => g.block k o (h.block k o hk ho) ho⟩
theorem Spun.of {B : Nat} {w w' : World} (hB : B ≤ w.heap.size) (h : Below w.heap.size w w') : Spun B w w' :=
  ⟨h.mono hB, fun k _ hk _ => (h.block k (Array.getElem?_eq_some_iff.1 hk).1).trans hk⟩
theorem Spun.size {B : Nat} {w w' : World} (h : Spun B w w') : w.heap.size ≤ w'.heap.size := h.below.size
/-- what is written into a block of a disk's. -/
theorem Spun.set {B g i : Nat} {w : World} {c : Array Value} {t : TypeId} {f : Nat × Nat} (hg : w.heap[g]? = some (.cells c t f)) (hB : B ≤ g) (ht : t = 66 ∨ t = 116 ∨ t = 113) (u : Value) : Spun B w (w.setCell ⟨g, i, none⟩ u) :=
  ⟨⟨rfl, rfl, rfl, by simp [World.setCell], fun k hk => Below.heap_setCell _ _ _ _ (by show k ≠ g; omega)⟩, fun k o hk ho => by
    by_cases e : k = g
    · subst e; rw [hg] at hk; injection hk with hk; exact absurd ⟨c, t, f, hk.symm, ht⟩ ho
    · rw [Below.heap_setCell _ _ _ _ e]; exact hk⟩
theorem heap_setC (w : World) (b i : Nat) (c : Array Value) (t : TypeId) (f : Nat × Nat) (v : Value) (h : w.heap[b]? = some (.cells c t f)) : (w.setCell ⟨b, i, none⟩ v).heap[b]? = some (.cells (c.set! i v) t f) := by
  show (w.heap.modify b _)[b]? = _
  rw [Array.getElem?_modify, if_pos rfl, h]
  rfl
theorem heap_setCs (b : Nat) (t : TypeId) (f : Nat × Nat) : ∀ (vs : List Value) (o : Nat) (w : World) (c : Array Value), w.heap[b]? = some (.cells c t f) → ∃ c', (w.setCells b o vs).heap[b]? = some (.cells c' t f) ∧ c'.size = c.size
  | [], _, _, c, h => ⟨c, h, rfl⟩
  | v :: r, o, w, c, h => by
    obtain ⟨c', h1, h2⟩ := heap_setCs b t f r (o + 1) _ _ (heap_setC w b o c t f v h)
    exact ⟨c', h1, by rw [h2]; simp⟩
theorem heap_setOther (b : Nat) : ∀ (vs : List Value) (o : Nat) (w : World) (k : Nat), k ≠ b → (w.setCells b o vs).heap[k]? = w.heap[k]?
  | [], _, _, _, _ => rfl
  | _ :: r, o, _, k, hk => (heap_setOther b r (o + 1) _ k hk).trans (Below.heap_setCell _ _ _ _ hk)
theorem size_setCs (b : Nat) : ∀ (vs : List Value) (o : Nat) (w : World), (w.setCells b o vs).heap.size = w.heap.size
  | [], _, _ => rfl
  | v :: r, o, w => by rw [World.setCells, size_setCs b r]; simp [World.setCell]
theorem frame_setCs (b : Nat) : ∀ (vs : List Value) (o : Nat) (w : World), (w.setCells b o vs).os = w.os ∧ (w.setCells b o vs).tape = w.tape ∧ (w.setCells b o vs).output = w.output
  | [], _, _ => ⟨rfl, rfl, rfl⟩
  | _ :: r, o, _ => frame_setCs b r (o + 1) _
theorem Spun.sets {B g o : Nat} {w : World} {c : Array Value} {t : TypeId} {f : Nat × Nat} (hg : w.heap[g]? = some (.cells c t f)) (hB : B ≤ g) (ht : t = 66 ∨ t = 116 ∨ t = 113) (vs : List Value) : Spun B w (w.setCells g o vs) :=
  ⟨⟨(frame_setCs g vs o w).1, (frame_setCs g vs o w).2.1, (frame_setCs g vs o w).2.2, by rw [size_setCs]; exact Nat.le_refl _, fun k hk => heap_setOther _ _ _ _ _ (by omega)⟩, fun k q hk ho => by
    by_cases e : k = g
    · subst e; rw [hg] at hk; injection hk with hk; exact absurd ⟨c, t, f, hk.symm, ht⟩ ho
    · rw [heap_setOther _ _ _ _ _ e]; exact hk⟩
theorem DiskAt.lt {w : World} {B p bs n : Nat} {s : DSt} {v : Nat → Value} (h : DiskAt w B p bs n s v) : p < w.heap.size := (Array.getElem?_eq_some_iff.1 h.blk).1
theorem DiskAt.ltb {w : World} {B p bs n : Nat} {s : DSt} {v : Nat → Value} (h : DiskAt w B p bs n s v) : bs < w.heap.size := by
  obtain ⟨C, hC⟩ := h.sec
  exact (Array.getElem?_eq_some_iff.1 hC).1
theorem DiskAt.ne {w : World} {B p bs n : Nat} {s : DSt} {v : Nat → Value} (h : DiskAt w B p bs n s v) : p ≠ bs := fun e => by
  obtain ⟨C, hC⟩ := h.sec
  have := h.blk
  rw [e, hC] at this
  simp at this
/-- a disk stays as memory grows. -/
theorem DiskAt.later {w w' : World} {B p bs n : Nat} {s : DSt} {v : Nat → Value} (h : DiskAt w B p bs n s v) (hb : Below w.heap.size w w') : DiskAt w' B p bs n s v := by
  refine ⟨(hb.block _ h.lt).trans h.blk, ?_, ?_, h.ok, fun i hi => owns_below (h.rows i hi) hb, h.apart, h.bp, h.bb, h.nx, h.lo, h.few⟩
  · obtain ⟨C, hC⟩ := h.sec
    exact ⟨C, (hb.block _ h.ltb).trans hC⟩
  · intro i hi j u hj
    exact (hb.cell (p := ⟨bs, i * 65 + j, none⟩) h.ltb).trans (h.cells i hi j u hj)
/-- a row of the call's own lies in a block of its element's type. -/
theorem own_type {w : World} {B : Nat} {e : TypeId} {s n : Nat} {v : Value} {xs : List Value} (h : w.ownsRow B e s v n xs) {k : Nat} (hk : v.ownBlock = some k) : ∃ c, w.heap[k]? = some (.cells c e (0, 0)) := by
  rcases h.2 with ⟨rfl, _⟩ | ⟨g, cap, cur, rfl, _, hg, _⟩
  · simp [Value.ownBlock] at hk
  · simp [Value.ownBlock] at hk
    subst hk
    exact ⟨cur, hg⟩
/-- .. and is kept where another block alone turns. -/
theorem own_kept {w w' : World} {B : Nat} {e : TypeId} {s n : Nat} {v : Value} {xs : List Value} (h : w.ownsRow B e s v n xs) (hk : ∀ k, v.ownBlock = some k → w'.heap[k]? = w.heap[k]?) : w'.ownsRow B e s v n xs := by
  refine ⟨h.1, ?_⟩
  rcases h.2 with ⟨rfl, h0⟩ | ⟨g, cap, cur, rfl, h1, hg, h2⟩
  · exact .inl ⟨rfl, h0⟩
  · exact .inr ⟨g, cap, cur, rfl, h1, (hk g rfl).trans hg, h2⟩
end Go.Proofs.YtlcdacldhalnnaaGreatDoor
