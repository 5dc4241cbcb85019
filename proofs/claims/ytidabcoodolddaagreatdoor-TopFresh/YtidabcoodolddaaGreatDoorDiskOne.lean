/-
  A disk in memory: a block of four cells, a row of sectors, of each a row of what was written late; what it is, in plain words; what stays of all else.
  What the small functions of package disk do: has, step, Arm, Down, Sectors, of any disk; all else stays as it was.
  A variable of many cells that is made and filled at once, and read: its cells a list that is never laid open.
  What settle of package disk does, of a sector, and of a disk: of what is late that is kept whose bit is set.
  What New, now and Read of package disk do, of any disk; all else stays as it was.
  What slices.DeleteFunc does of what is late, by the bit of a Write: that bit's is struck, the others stay in their order.
  What add and Write of package disk do, of any disk; all else stays as it was.
  What add of package disk does, of any disk; all else stays as it was.
  What Write of package disk does, of any disk; all else stays as it was.
  What the functions of package disk do, of any disk: said once for all that they answer.
-/
import Derived.Test.YtidabcoodolddaaGreatDoorErr
import Derived.Test.YtidabcoodolddaaGreatDoorAtAll
import Derived.Deep.MidRow
import Derived.Lib.LazyBuf
import Derived.Maps.AppendAt
import Derived.Laws.MakeOwn
import Derived.Laws.IdiomStrings
import Derived.Laws.OwnMore
import Derived.Deep.RegionLaw
import Derived.Deep.RegionWith
import Derived.Deep.RegionHeld3
import Derived.Deep.DrawnRows
namespace Go.Proofs.YtidabcoodolddaaGreatDoor
open Go.RowKit

/-- bytes as cells. -/
def bytesV (l : List UInt8) : List Value := l.map fun x => Value.int .u8 (x.toNat : Int)
@[simp] theorem bytesV_length (l : List UInt8) : (bytesV l).length = l.length := by simp [bytesV]
theorem bytesV_one (l : List UInt8) : ∀ v ∈ bytesV l, v.oneCell' = true := fun v hv => by
  obtain ⟨x, _, rfl⟩ := List.mem_map.1 hv
  rfl
/-- what was written late: its bit, its bytes. -/
abbrev Late := Nat × List UInt8
def lateC (x : Late) : List Value := .int .u64 (x.1 : Int) :: bytesV x.2
theorem lateC_one (x : Late) : ∀ v ∈ lateC x, v.oneCell' = true := fun v hv => by
  rcases List.mem_cons.1 hv with rfl | h
  · rfl
  · exact bytesV_one _ v h
def latesC (l : List Late) : List Value := l.flatMap lateC
structure Sec where
  kept : List UInt8
  late : List Late
structure SecOk (S : Sec) : Prop where
  kept : S.kept.length = 64
  late : ∀ x ∈ S.late, x.1 < 64 ∧ x.2.length = 64
  once : (S.late.map (·.1)).Nodup
theorem nodup_few : ∀ (n : Nat) (l : List Nat), l.Nodup → (∀ x ∈ l, x < n) → l.length ≤ n
  | 0, l, _, h => by
    cases l with
    | nil => simp
    | cons a l => exact absurd (h a (by simp)) (by omega)
  | n + 1, l, hd, h => by
    by_cases hn : n ∈ l
    · have h1 := nodup_few n (l.erase n) (hd.erase n) (fun x hx => by
        have := (hd.mem_erase_iff).1 hx
        have := h x this.2
        omega)
      rw [List.length_erase_of_mem hn] at h1
      omega
    · have h1 := nodup_few n l hd (fun x hx => by
        have := h x hx
        have : x ≠ n := fun e => hn (e ▸ hx)
        omega)
      omega
theorem SecOk.few {S : Sec} (h : SecOk S) : S.late.length ≤ 64 := by
  have := nodup_few 64 (S.late.map (·.1)) h.once (fun x hx => by
    obtain ⟨y, hy, rfl⟩ := List.mem_map.1 hx
    exact (h.late y hy).1)
  simpa using this
theorem latesC_length {l : List Late} (h : ∀ x ∈ l, x.1 < 64 ∧ x.2.length = 64) : (latesC l).length = l.length * 65 := by
  induction l with
  | nil => rfl
  | cons a l ih =>
    have h1 := ih (fun x hx => h x (by simp [hx]))
    have h2 := (h a (by simp)).2
    simp only [latesC, List.flatMap_cons, List.length_append] at h1 ⊢
    simp only [lateC, List.length_cons, bytesV_length, h2]
    omega
/-- the cells of one of them. -/
theorem latesC_at : ∀ {l : List Late}, (∀ x ∈ l, x.1 < 64 ∧ x.2.length = 64) → ∀ {i : Nat} {x : Late}, l[i]? = some x → ∀ {j : Nat} {u : Value}, (lateC x)[j]? = some u → (latesC l)[i * 65 + j]? = some u
  | [], _, i, x, hi, j, u, _ => by simp at hi
  | a :: l, h, 0, x, hi, j, u, hj => by
    simp at hi
    subst hi
    have : j < (lateC a).length := (List.getElem?_eq_some_iff.1 hj).1
    simp only [latesC, List.flatMap_cons, Nat.zero_mul, Nat.zero_add]
    rw [List.getElem?_append_left this]
    exact hj
  | a :: l, h, i + 1, x, hi, j, u, hj => by
    have h2 := (h a (by simp)).2
    have hl : (lateC a).length = 65 := by simp [lateC, h2]
    simp only [latesC, List.flatMap_cons]
    rw [List.getElem?_append_right (by omega), hl, show (i + 1) * 65 + j - 65 = i * 65 + j by omega]
    exact latesC_at (fun x hx => h x (by simp [hx])) (by simpa using hi) hj

/-- the state of a disk. -/
structure DSt where
  next : Nat
  left : Int
  down : Bool
  K : Nat → Sec
/-- a disk in block p, its sectors in block bs, of each what is late in the row v. -/
structure DiskAt (w : World) (B p bs n : Nat) (s : DSt) (v : Nat → Value) : Prop where
  blk : w.heap[p]? = some (.cells #[.slice (some ⟨bs, 0, none⟩) n n, .int .u64 (s.next : Int), .int .i64 s.left, .bool s.down] 106 (0, 0))
  sec : ∃ C, w.heap[bs]? = some (.cells C 137 (0, 0))
  cells : ∀ i, i < n → w.rangeAt bs (i * 65) (bytesV (s.K i).kept ++ [v i])
  ok : ∀ i, i < n → SecOk (s.K i)
  rows : ∀ i, i < n → w.ownsRow B 177 65 (v i) (s.K i).late.length (latesC (s.K i).late)
  apart : ∀ i j, i < n → j < n → i ≠ j → (v i).ownBlock = none ∨ (v i).ownBlock ≠ (v j).ownBlock
  bp : B ≤ p
  bb : B ≤ bs
  nx : s.next < 64
  lo : -1 ≤ s.left
  few : n ≤ 120
/-- a block of a disk's. -/
def DiskTy (o : Obj) : Prop := ∃ c t f, o = .cells c t f ∧ (t = 106 ∨ t = 137 ∨ t = 177)
/-- nothing below B has turned, and nothing that isn't a disk's. -/
structure Spun (B : Nat) (w w' : World) : Prop where
  below : Below B w w'
  block : ∀ (k : Nat) (o : Obj), w.heap[k]? = some o → ¬ DiskTy o → w'.heap[k]? = some o
theorem Spun.refl (B : Nat) (w : World) : Spun B w w := ⟨Below.refl _ _, fun _ _ h _ => h⟩
theorem Spun.trans {B : Nat} {a b c : World} (h : Spun B a b) (g : Spun B b c) : Spun B a c :=
  ⟨h.below.trans g.below, fun k o hk ho => g.block k o (h.block k o hk ho) ho⟩
theorem Spun.of {B : Nat} {w w' : World} (hB : B ≤ w.heap.size) (h : Below w.heap.size w w') : Spun B w w' :=
  ⟨h.mono hB, fun k _ hk _ => (h.block k (Array.getElem?_eq_some_iff.1 hk).1).trans hk⟩
theorem Spun.size {B : Nat} {w w' : World} (h : Spun B w w') : w.heap.size ≤ w'.heap.size := h.below.size
/-- what is written into a block of a disk's. -/
theorem Spun.set {B g i : Nat} {w : World} {c : Array Value} {t : TypeId} {f : Nat × Nat} (hg : w.heap[g]? = some (.cells c t f)) (hB : B ≤ g) (ht : t = 106 ∨ t = 137 ∨ t = 177) (u : Value) : Spun B w (w.setCell ⟨g, i, none⟩ u) :=
  ⟨⟨rfl, rfl, rfl, by simp [World.setCell], fun k hk => Below.heap_setCell _ _ _ _ (by show k ≠ g; omega)⟩, fun k o hk ho => by
    by_cases e : k = g
    · subst e; rw [hg] at hk; injection hk with hk; exact absurd ⟨c, t, f, hk.symm, ht⟩ ho
    · rw [Below.heap_setCell _ _ _ _ e]; exact hk⟩
theorem heap_setC (w : World) (b i : Nat) (c : Array Value) (t : TypeId) (f : Nat × Nat) (v : Value) (h : w.heap[b]? = some (.cells c t f)) : (w.setCell ⟨b, i, none⟩ v).heap[b]? = some (.cells (c.set! i v) t f) := by
  show (w.heap.modify b _)[b]? = _
  rw [Array.getElem?_modify, if_pos rfl, h]
  rfl
theorem heap_setCs (b : Nat) (t : TypeId) (f : Nat × Nat) : ∀ (vs : List Value) (o : Nat) (w : World) (c : Array Value), w.heap[b]? = some (.cells c t f) → ∃ c', (w.setCells b o vs).heap[b]? = some (.cells c' t f) ∧ c'.size = c.size
  | [], _, _, c, h => ⟨c, h, rfl⟩
  | v :: r, o, w, c, h => by
    obtain ⟨c', h1, h2⟩ := heap_setCs b t f r (o + 1) _ _ (heap_setC w b o c t f v h)
    exact ⟨c', h1, by rw [h2]; simp⟩
theorem heap_setOther (b : Nat) : ∀ (vs : List Value) (o : Nat) (w : World) (k : Nat), k ≠ b → (w.setCells b o vs).heap[k]? = w.heap[k]?
  | [], _, _, _, _ => rfl
  | _ :: r, o, _, k, hk => (heap_setOther b r (o + 1) _ k hk).trans (Below.heap_setCell _ _ _ _ hk)
theorem size_setCs (b : Nat) : ∀ (vs : List Value) (o : Nat) (w : World), (w.setCells b o vs).heap.size = w.heap.size
  | [], _, _ => rfl
  | v :: r, o, w => by rw [World.setCells, size_setCs b r]; simp [World.setCell]
theorem frame_setCs (b : Nat) : ∀ (vs : List Value) (o : Nat) (w : World), (w.setCells b o vs).os = w.os ∧ (w.setCells b o vs).tape = w.tape ∧ (w.setCells b o vs).output = w.output
  | [], _, _ => ⟨rfl, rfl, rfl⟩
  | _ :: r, o, _ => frame_setCs b r (o + 1) _
theorem Spun.sets {B g o : Nat} {w : World} {c : Array Value} {t : TypeId} {f : Nat × Nat} (hg : w.heap[g]? = some (.cells c t f)) (hB : B ≤ g) (ht : t = 106 ∨ t = 137 ∨ t = 177) (vs : List Value) : Spun B w (w.setCells g o vs) :=
  ⟨⟨(frame_setCs g vs o w).1, (frame_setCs g vs o w).2.1, (frame_setCs g vs o w).2.2, by rw [size_setCs]; exact Nat.le_refl _, fun k hk => heap_setOther _ _ _ _ _ (by omega)⟩, fun k q hk ho => by
    by_cases e : k = g
    · subst e; rw [hg] at hk; injection hk with hk; exact absurd ⟨c, t, f, hk.symm, ht⟩ ho
    · rw [heap_setOther _ _ _ _ _ e]; exact hk⟩
theorem DiskAt.lt {w : World} {B p bs n : Nat} {s : DSt} {v : Nat → Value} (h : DiskAt w B p bs n s v) : p < w.heap.size := (Array.getElem?_eq_some_iff.1 h.blk).1
theorem DiskAt.ltb {w : World} {B p bs n : Nat} {s : DSt} {v : Nat → Value} (h : DiskAt w B p bs n s v) : bs < w.heap.size := by
  obtain ⟨C, hC⟩ := h.sec
  exact (Array.getElem?_eq_some_iff.1 hC).1
theorem DiskAt.ne {w : World} {B p bs n : Nat} {s : DSt} {v : Nat → Value} (h : DiskAt w B p bs n s v) : p ≠ bs := fun e => by
  obtain ⟨C, hC⟩ := h.sec
  have := h.blk
  rw [e, hC] at this
  simp at this
/-- a disk stays as memory grows. -/
theorem DiskAt.later {w w' : World} {B p bs n : Nat} {s : DSt} {v : Nat → Value} (h : DiskAt w B p bs n s v) (hb : Below w.heap.size w w') : DiskAt w' B p bs n s v := by
  refine ⟨(hb.block _ h.lt).trans h.blk, ?_, ?_, h.ok, fun i hi => owns_below (h.rows i hi) hb, h.apart, h.bp, h.bb, h.nx, h.lo, h.few⟩
  · obtain ⟨C, hC⟩ := h.sec
    exact ⟨C, (hb.block _ h.ltb).trans hC⟩
  · intro i hi j u hj
    exact (hb.cell (p := ⟨bs, i * 65 + j, none⟩) h.ltb).trans (h.cells i hi j u hj)
/-- a row of the call's own lies in a block of its element's type. -/
theorem own_type {w : World} {B : Nat} {e : TypeId} {s n : Nat} {v : Value} {xs : List Value} (h : w.ownsRow B e s v n xs) {k : Nat} (hk : v.ownBlock = some k) : ∃ c, w.heap[k]? = some (.cells c e (0, 0)) := by
  rcases h.2 with ⟨rfl, _⟩ | ⟨g, cap, cur, rfl, _, hg, _⟩
  · simp [Value.ownBlock] at hk
  · simp [Value.ownBlock] at hk
    subst hk
    exact ⟨cur, hg⟩
/-- .. and is kept where another block alone turns. -/
theorem own_kept {w w' : World} {B : Nat} {e : TypeId} {s n : Nat} {v : Value} {xs : List Value} (h : w.ownsRow B e s v n xs) (hk : ∀ k, v.ownBlock = some k → w'.heap[k]? = w.heap[k]?) : w'.ownsRow B e s v n xs := by
  refine ⟨h.1, ?_⟩
  rcases h.2 with ⟨rfl, h0⟩ | ⟨g, cap, cur, rfl, h1, hg, h2⟩
  · exact .inl ⟨rfl, h0⟩
  · exact .inr ⟨g, cap, cur, rfl, h1, (hk g rfl).trans hg, h2⟩
end Go.Proofs.YtidabcoodolddaaGreatDoor

namespace Go.Proofs.YtidabcoodolddaaGreatDoor
open Go.RowKit

theorem DiskAt.c0 {w : World} {B p bs n : Nat} {s : DSt} {v : Nat → Value} (h : DiskAt w B p bs n s v) : w.cell? ⟨p, 0, none⟩ = some (.slice (some ⟨bs, 0, none⟩) n n) := by simp [World.cell?, h.blk]
theorem DiskAt.c1 {w : World} {B p bs n : Nat} {s : DSt} {v : Nat → Value} (h : DiskAt w B p bs n s v) : w.cell? ⟨p, 1, none⟩ = some (.int .u64 (s.next : Int)) := by simp [World.cell?, h.blk]
theorem DiskAt.c2 {w : World} {B p bs n : Nat} {s : DSt} {v : Nat → Value} (h : DiskAt w B p bs n s v) : w.cell? ⟨p, 2, none⟩ = some (.int .i64 s.left) := by simp [World.cell?, h.blk]
theorem DiskAt.c3 {w : World} {B p bs n : Nat} {s : DSt} {v : Nat → Value} (h : DiskAt w B p bs n s v) : w.cell? ⟨p, 3, none⟩ = some (.bool s.down) := by simp [World.cell?, h.blk]
theorem DiskAt.fz {w : World} {B p bs n : Nat} {s : DSt} {v : Nat → Value} (h : DiskAt w B p bs n s v) (i : Nat) : w.frozen? ⟨p, i, none⟩ = false := by simp [World.frozen?, h.blk]
/-- one of a disk's own four cells is written. -/
theorem DiskAt.put {w w' : World} {B p bs n : Nat} {s s' : DSt} {v : Nat → Value} (h : DiskAt w B p bs n s v) (ho : ∀ k, k ≠ p → w'.heap[k]? = w.heap[k]?)
    (hb : w'.heap[p]? = some (.cells #[.slice (some ⟨bs, 0, none⟩) n n, .int .u64 (s'.next : Int), .int .i64 s'.left, .bool s'.down] 106 (0, 0))) (hK : s'.K = s.K) (hn : s'.next < 64) (hl : -1 ≤ s'.left) : DiskAt w' B p bs n s' v := by
  have hne := h.ne
  refine ⟨hb, ?_, ?_, ?_, ?_, h.apart, h.bp, h.bb, hn, hl, h.few⟩
  · obtain ⟨C, hC⟩ := h.sec
    exact ⟨C, (ho bs (Ne.symm hne)).trans hC⟩
  · rw [hK]
    intro i hi j u hj
    exact (World.cell?_of_block (a := ⟨bs, i * 65 + j, none⟩) (ho bs (Ne.symm hne))).trans (h.cells i hi j u hj)
  · rw [hK]; exact h.ok
  · rw [hK]
    exact fun i hi => own_kept (h.rows i hi) (fun k hk => ho k (fun e => by
      obtain ⟨c, hc⟩ := own_type (h.rows i hi) hk
      subst e
      rw [h.blk] at hc
      simp at hc))

theorem has_any (w : World) (B p bs n : Nat) (s : DSt) (v : Nat → Value) (at' : Int) (h : DiskAt w B p bs n s v) :
    Calls Tryz.prog 114 #[.pointer (some ⟨p, 0, none⟩), .int .i64 at'] w fun e w' => e = .returned (.bool (decide (0 ≤ at') && decide (at' < n))) ∧ w' = w := by
  have c0 := h.c0
  clear h
  by_cases h0 : 0 ≤ at'
  · go_enter Tryz.func114, Tryz.ntmps114
    go_wp2
    go_ret
    exact ⟨ret_bool (by simp [h0]), rfl⟩
  · go_enter Tryz.func114, Tryz.ntmps114
    go_wp2
    go_ret
    exact ⟨ret_bool (by simp; omega), rfl⟩

/-- a step. -/
def DSt.falls (s : DSt) : Bool := s.down || decide (s.left = 0)
def DSt.fell (s : DSt) : DSt := { s with down := true }
def DSt.stepped (s : DSt) : DSt := { s with left := if 0 < s.left then s.left - 1 else s.left }

theorem heap_set0 {w : World} {p i : Nat} {c : Array Value} {t : TypeId} (u : Value) (h : w.heap[p]? = some (.cells c t (0, 0))) : (w.setCell ⟨p, i, none⟩ u).heap[p]? = some (.cells (c.set! i u) t (0, 0)) := heap_setC w p i c t (0, 0) u h
theorem step_falls (w : World) (B p bs n : Nat) (s : DSt) (v : Nat → Value) (h : DiskAt w B p bs n s v) (hf : s.falls = true) :
    Calls Tryz.prog 115 #[.pointer (some ⟨p, 0, none⟩)] w fun e w' => e = .returned (errV 9) ∧ DiskAt w' B p bs n s.fell v ∧ Spun B w w' := by
  have c2 := h.c2
  have c3 := h.c3
  have fz := h.fz 3
  by_cases h0 : s.left = 0
  · have hD : DiskAt (w.setCell ⟨p, 3, none⟩ (.bool true)) B p bs n s.fell v := h.put (fun k hk => Below.heap_setCell _ _ _ _ hk) (heap_set0 _ h.blk) rfl h.nx h.lo
    have hS : Spun B w (w.setCell ⟨p, 3, none⟩ (.bool true)) := Spun.set h.blk h.bp (.inl rfl) _
    have e0 : (s.left == 0) = true := by simp [h0]
    clear h hf
    generalize s.left = l at *
    go_enter Tryz.func115, Tryz.ntmps115
    go_wp2
    go_ret
    exact ⟨rfl, hD, hS⟩
  · have hd : s.down = true := by simpa [DSt.falls, h0] using hf
    have hD : DiskAt w B p bs n s.fell v := h.put (fun _ _ => rfl) (by rw [h.blk, hd]; rfl) rfl h.nx h.lo
    have e0 : (s.left == 0) = false := by simp [h0]
    rw [hd] at c3
    clear h hf
    generalize s.left = l at *
    go_enter Tryz.func115, Tryz.ntmps115
    go_wp2
    go_ret
    exact ⟨rfl, hD, Spun.refl _ _⟩
theorem step_goes (w : World) (B p bs n : Nat) (s : DSt) (v : Nat → Value) (h : DiskAt w B p bs n s v) (hf : s.falls = false) (hl : s.left ≤ 9223372036854775807) :
    Calls Tryz.prog 115 #[.pointer (some ⟨p, 0, none⟩)] w fun e w' => e = .returned .nilIface ∧ DiskAt w' B p bs n s.stepped v ∧ Spun B w w' := by
  have c2 := h.c2
  have c3 := h.c3
  have fz := h.fz 2
  obtain ⟨hd, h0⟩ : s.down = false ∧ s.left ≠ 0 := by simpa [DSt.falls] using hf
  have e0 : (s.left == 0) = false := by simp [h0]
  rw [hd] at c3
  by_cases hp : 0 < s.left
  · have hD : DiskAt (w.setCell ⟨p, 2, none⟩ (.int .i64 (s.left - 1))) B p bs n s.stepped v := h.put (fun k hk => Below.heap_setCell _ _ _ _ hk) (by
      rw [heap_set0 _ h.blk]
      simp [DSt.stepped, hp]) rfl h.nx (by simp [DSt.stepped, hp]; omega)
    have hS : Spun B w (w.setCell ⟨p, 2, none⟩ (.int .i64 (s.left - 1))) := Spun.set h.blk h.bp (.inl rfl) _
    clear h hf
    generalize s.left = l at *
    go_enter Tryz.func115, Tryz.ntmps115
    go_wp2
    go_ret
    exact ⟨rfl, hD, hS⟩
  · have hD : DiskAt w B p bs n s.stepped v := h.put (fun _ _ => rfl) (by rw [h.blk]; simp [DSt.stepped, hp]) rfl h.nx (by simp [DSt.stepped, hp]; exact h.lo)
    clear h hf
    generalize s.left = l at *
    go_enter Tryz.func115, Tryz.ntmps115
    go_wp2
    go_ret
    exact ⟨rfl, hD, Spun.refl _ _⟩
theorem arm_any (w : World) (B p bs n : Nat) (s : DSt) (v : Nat → Value) (a : Int) (h : DiskAt w B p bs n s v) :
    Calls Tryz.prog 24 #[.pointer (some ⟨p, 0, none⟩), .int .i64 a] w fun e w' => e = .returned (.tuple #[]) ∧ DiskAt w' B p bs n { s with left := max a (-1) } v ∧ Spun B w w' := by
  have c2 := h.c2
  have fz := h.fz 2
  have hD : ∀ u : Int, u = max a (-1) → DiskAt (w.setCell ⟨p, 2, none⟩ (.int .i64 u)) B p bs n { s with left := max a (-1) } v := fun u hu => h.put (fun k hk => Below.heap_setCell _ _ _ _ hk) (by
      rw [heap_set0 _ h.blk, hu]
      rfl) rfl h.nx (by show -1 ≤ max a (-1); omega)
  have hS : ∀ u : Int, Spun B w (w.setCell ⟨p, 2, none⟩ (.int .i64 u)) := fun u => Spun.set h.blk h.bp (.inl rfl) _
  clear h
  go_enter Tryz.func24, Tryz.ntmps24
  go_wp2
  all_goals
    go_end0
    exact ⟨rfl, hD _ (by omega), hS _⟩
theorem down_any (w : World) (B p bs n : Nat) (s : DSt) (v : Nat → Value) (h : DiskAt w B p bs n s v) :
    Calls Tryz.prog 25 #[.pointer (some ⟨p, 0, none⟩)] w fun e w' => e = .returned (.bool s.down) ∧ w' = w := by
  have c3 := h.c3
  clear h
  go_enter Tryz.func25, Tryz.ntmps25
  go_wp2
  go_ret
  exact ⟨rfl, rfl⟩
theorem sectors_any (w : World) (B p bs n : Nat) (s : DSt) (v : Nat → Value) (h : DiskAt w B p bs n s v) :
    Calls Tryz.prog 63 #[.pointer (some ⟨p, 0, none⟩)] w fun e w' => e = .returned (.int .i64 n) ∧ w' = w := by
  have c0 := h.c0
  clear h
  go_enter Tryz.func63, Tryz.ntmps63
  go_wp2
  go_ret
  exact ⟨rfl, rfl⟩
end Go.Proofs.YtidabcoodolddaaGreatDoor

namespace Go.Proofs.YtidabcoodolddaaGreatDoor
open Go.RowKit

theorem setCell_new (w : World) (c : Array Value) (t : TypeId) (f : Nat × Nat) (i : Nat) (v : Value) : (w.alloc (.cells c t f)).setCell ⟨w.heap.size, i, none⟩ v = w.alloc (.cells (c.set! i v) t f) := by
  show ({ w.alloc (.cells c t f) with heap := _ } : World) = _
  simp only [World.alloc]
  congr 1
  apply Array.ext_getElem?
  intro k
  rw [Array.getElem?_modify]
  by_cases h : w.heap.size = k
  · subst h
    rw [if_pos rfl, Array.getElem?_push_size, Array.getElem?_push_size]
    rfl
  · rw [if_neg h, Array.getElem?_push, Array.getElem?_push, if_neg (Ne.symm h), if_neg (Ne.symm h)]
theorem setCells_new (w : World) (t : TypeId) (f : Nat × Nat) : ∀ (vs : List Value) (o : Nat) (c : Array Value), o + vs.length ≤ c.size → (w.alloc (.cells c t f)).setCells w.heap.size o vs = w.alloc (.cells (c.toList.take o ++ vs ++ c.toList.drop (o + vs.length)).toArray t f)
  | [], o, c, _ => by simp [World.setCells]
  | v :: r, o, c, h => by
    rw [World.setCells, setCell_new, setCells_new w t f r (o + 1) (c.set! o v) (by simp at h ⊢; omega)]
    congr 2
    apply Array.ext'
    simp only [List.length_cons] at h
    have h1 : (c.set! o v).toList = c.toList.set o v := by simp
    rw [h1]
    have h2 : (c.toList.set o v).take (o + 1) = c.toList.take o ++ [v] := by
      rw [List.take_set, List.take_succ_eq_append_getElem (by simp; omega), List.set_append_right _ _ (by simp; omega)]
      simp [Nat.min_eq_left (show o ≤ c.size by omega)]
    rw [h2, List.drop_set_of_lt (by omega)]
    simp [Nat.add_comm, Nat.add_left_comm]
theorem fill_new (w : World) (t : TypeId) (f : Nat × Nat) (vs : List Value) (c : Array Value) (h : c.size = vs.length) : (w.alloc (.cells c t f)).setCells w.heap.size 0 vs = w.alloc (.cells vs.toArray t f) := by
  rw [setCells_new w t f vs 0 c (by omega), List.drop_of_length_le (by simp; omega)]
  simp
theorem there_new (w : World) (t : TypeId) (c : Array Value) : (w.alloc (.cells c t)).there w.heap.size 0 c.size := fun j hj => by
  refine ⟨?_, ?_⟩
  · rw [Nat.zero_add, World.cell?_alloc_mark]
    simp [hj]
  · simp [go_sem]
/-- a new variable is filled. -/
theorem wpList_fill {P : Program} {ops : Array Oper} {rest : List Oper} {op : Oper} {a : Go.Act} {W : World} {Q : Exit → Go.Act → World → Prop} (hgd : op.guard = none) (ty : TypeId) (x y : Operand) (ho : op.op = .store ty x y)
    (w : World) (Z : Array Value) (hW : W = w.alloc (.cells Z ty)) (cs : List Value) (hx : a.eval x = .pointer (some ⟨w.heap.size, 0, none⟩)) (hy : a.eval y = .agg cs.toArray) (hz : Z.size = cs.length) (hi : (P.info? ty).map (·.size) = some cs.length) (h1 : ∀ v ∈ cs, v.oneCell' = true)
    (h : wpList P ops Q rest (a.put op.dst undef) (w.alloc (.cells cs.toArray ty))) : wpList P ops Q (op :: rest) a W := by
  subst hW
  exact wpList_store_mid hgd ty x y ho w.heap.size 0 cs.toArray hx hy (by have := there_new w ty Z; rw [hz] at this; simpa using this) (by simpa using hi) (all_oneCell_toArray h1) (by
    rw [fill_new w ty (0, 0) _ Z (by simpa using hz)]
    exact h)
/-- what lies in a new variable. -/
theorem range_new (w : World) (t : TypeId) (cs : List Value) (o : Nat) (l : List Value) (h : ∀ j u, l[j]? = some u → cs[o + j]? = some u) : (w.alloc (.cells cs.toArray t)).rangeAt w.heap.size o l := fun j u hj => by
  rw [World.cell?_alloc_mark]
  simpa using h j u hj
/-- a call's one result, that lies in a variable. -/
theorem results_cell {P : Program} {fn : Func} {tmps : Array Value} {w : World} {d : Nat} {ty : TypeId} {b o : Nat} {v : Value} (hr : fn.results = #[.cell d ty]) (hd : tmps[d]? = some (.pointer (some ⟨b, o, none⟩))) (hl : (loadVar ty ⟨b, o, none⟩).run P w = .ok v w) : (results fn tmps).run P w = .ok v w := by
  simp [results, hr, hd, asAddr, hl]
end Go.Proofs.YtidabcoodolddaaGreatDoor

namespace Go.Proofs.YtidabcoodolddaaGreatDoor
open Go.RowKit

/-- as s, but sector i is S. -/
def DSt.at (s : DSt) (i : Nat) (S : Sec) : DSt := { s with K := fun j => if j = i then S else s.K j }
theorem DSt.at_same (s : DSt) (i : Nat) (S : Sec) : (s.at i S).K i = S := by simp [DSt.at]
theorem DSt.at_other (s : DSt) {i j : Nat} (S : Sec) (h : j ≠ i) : (s.at i S).K j = s.K j := by simp [DSt.at, h]
theorem DiskAt.there {w : World} {B p bs n : Nat} {s : DSt} {v : Nat → Value} (h : DiskAt w B p bs n s v) {i : Nat} (hi : i < n) : w.there bs (i * 65) 64 := fun j hj => by
  obtain ⟨C, hC⟩ := h.sec
  refine ⟨?_, by simp [World.frozen?, hC]⟩
  obtain ⟨u, hu⟩ : ∃ u, (bytesV (s.K i).kept ++ [v i])[j]? = some u := ⟨_, List.getElem?_eq_getElem (by simp [(h.ok i hi).kept]; omega)⟩
  rw [h.cells i hi j u hu]; rfl
/-- what is kept of a sector becomes c. -/
theorem DiskAt.keep {w : World} {B p bs n : Nat} {s : DSt} {v : Nat → Value} (h : DiskAt w B p bs n s v) {i : Nat} (hi : i < n) {c : List UInt8} (hc : c.length = 64) :
    DiskAt (w.setCells bs (i * 65) (bytesV c)) B p bs n (s.at i ⟨c, (s.K i).late⟩) v := by
  obtain ⟨C, hC⟩ := h.sec
  have hk := (h.ok i hi).kept
  have hth : w.there bs (i * 65) (bytesV c).length := fun j hj => by
    have hj' : j < 64 := by simpa [hc] using hj
    refine ⟨?_, by simp [World.frozen?, hC]⟩
    obtain ⟨u, hu⟩ : ∃ u, (bytesV (s.K i).kept ++ [v i])[j]? = some u := ⟨_, List.getElem?_eq_getElem (by simp [hk]; omega)⟩
    rw [h.cells i hi j u hu]; rfl
  refine ⟨?_, ?_, ?_, ?_, ?_, h.apart, h.bp, h.bb, h.nx, h.lo, h.few⟩
  · exact (heap_setOther _ _ _ _ _ h.ne).trans h.blk
  · obtain ⟨C', h1, _⟩ := heap_setCs bs _ _ (bytesV c) (i * 65) w C hC
    exact ⟨C', h1⟩
  · intro j hj
    by_cases e : j = i
    · subst e
      rw [DSt.at_same]
      intro q u hu
      by_cases hq : q < 64
      · rw [List.getElem?_append_left (by simp [hc]; exact hq)] at hu
        exact World.rangeAt_setCells_same w bs (j * 65) (bytesV c) hth q u hu
      · have hq2 : q = 64 := by
          have := (List.getElem?_eq_some_iff.1 hu).1
          simp [hc] at this
          omega
        subst hq2
        rw [World.cell?_setCells_out bs (bytesV c) _ w ⟨bs, j * 65 + 64, none⟩ (fun _ _ => .inr (by simp [hc]))]
        refine h.cells j hj 64 u ?_
        rw [List.getElem?_append_right (by simp [hc])] at hu
        rw [List.getElem?_append_right (by simp [hk])]
        simpa [hc, hk] using hu
    · rw [DSt.at_other _ _ e]
      refine World.rangeAt_setCells_apart (h.cells j hj) _ _ _ (.inr ?_)
      have := (h.ok j hj).kept
      simp [hc, this]
      omega
  · intro j hj
    by_cases e : j = i
    · subst e; rw [DSt.at_same]; exact ⟨hc, (h.ok j hj).late, (h.ok j hj).once⟩
    · rw [DSt.at_other _ _ e]; exact h.ok j hj
  · intro j hj
    have hrow : (w.setCells bs (i * 65) (bytesV c)).ownsRow B 177 65 (v j) (s.K j).late.length (latesC (s.K j).late) := own_kept (h.rows j hj) (fun k hk => heap_setOther _ _ _ _ _ (fun e => by
      obtain ⟨c', hc'⟩ := own_type (h.rows j hj) hk
      subst e
      rw [hC] at hc'
      simp at hc'))
    by_cases e : j = i
    · subst e; rw [DSt.at_same]; exact hrow
    · rw [DSt.at_other _ _ e]; exact hrow

theorem late_zero : ∃ Z : Array Value, (∀ w, Sem.run Tryz.prog (zeroValue 177) w = .ok (.agg Z) w) ∧ Z.size = 65 :=
  ⟨#[.int .u64 0] ++ Array.replicate 64 (.int .u8 0), fun w => by kernel_rfl, by simp⟩
theorem late_info {cs : List Value} (h : cs.length = 65) : (Tryz.prog.info? 177).map (·.size) = some cs.length := by rw [h]; kernel_rfl
theorem cont_info {cs : List Value} (h : cs.length = 64) : (Tryz.prog.info? 134).map (·.size) = some cs.length := by rw [h]; kernel_rfl
/-- the row of what is late of a sector: where it lies. -/
theorem DiskAt.lateRow {w : World} {B p bs n : Nat} {s : DSt} {v : Nat → Value} (h : DiskAt w B p bs n s v) {i : Nat} (hi : i < n) {k : Nat} {x : Late} (hx : (s.K i).late[k]? = some x) {a : Option Addr} {m c : Nat} (hv : v i = .slice a m c) :
    ∃ g, a = some ⟨g, 0, none⟩ ∧ w.rangeAt g (k * 65) (lateC x) := by
  have hr := h.rows i hi
  rw [hv] at hr
  have key : ∀ j u, (lateC x)[j]? = some u → ∃ g, a = some ⟨g, 0, none⟩ ∧ B ≤ g ∧ w.cell? ⟨g, k * 65 + j, none⟩ = some u := fun j u hj => owns_cell hr (latesC_at (h.ok i hi).late hx hj)
  obtain ⟨g, ha, _, _⟩ := key 0 _ rfl
  refine ⟨g, ha, fun j u hj => ?_⟩
  obtain ⟨g', ha', _, hc⟩ := key j u hj
  rw [ha] at ha'
  injection ha' with e
  injection e with e
  subst e
  exact hc

/-- the row of what is late of a sector is another one. -/
theorem DiskAt.turn {w w' : World} {B p bs n : Nat} {s : DSt} {v : Nat → Value} (h : DiskAt w B p bs n s v) {i : Nat} (hi : i < n) {u : Value} {l : List Late} (hl : ∀ x ∈ l, x.1 < 64 ∧ x.2.length = 64) (hd : (l.map (·.1)).Nodup)
    (hrow : w'.ownsRow B 177 65 u l.length (latesC l)) (hblk : u.ownBlock = none ∨ u.ownBlock = (v i).ownBlock ∨ ∃ k, u.ownBlock = some k ∧ w.heap.size ≤ k)
    (hp : w'.heap[p]? = w.heap[p]?) (hs : ∃ C, w'.heap[bs]? = some (.cells C 137 (0, 0)))
    (hc : ∀ j, j ≠ i * 65 + 64 → w'.cell? ⟨bs, j, none⟩ = w.cell? ⟨bs, j, none⟩) (hu : w'.cell? ⟨bs, i * 65 + 64, none⟩ = some u)
    (ho : ∀ k, k < w.heap.size → k ≠ bs → some k ≠ (v i).ownBlock → w'.heap[k]? = w.heap[k]?) :
    DiskAt w' B p bs n (s.at i ⟨(s.K i).kept, l⟩) (fun j => if j = i then u else v j) := by
  refine ⟨hp.trans h.blk, hs, ?_, ?_, ?_, ?_, h.bp, h.bb, h.nx, h.lo, h.few⟩
  · intro j hj q z hq
    by_cases e : j = i
    · subst e
      rw [DSt.at_same, if_pos rfl] at hq
      have hk := (h.ok j hj).kept
      by_cases h64 : q < 64
      · rw [List.getElem?_append_left (by simp [hk]; exact h64)] at hq
        rw [hc _ (by omega)]
        exact h.cells j hj q z (by rw [List.getElem?_append_left (by simp [hk]; exact h64)]; exact hq)
      · have hq2 : q = 64 := by
          have := (List.getElem?_eq_some_iff.1 hq).1
          simp [hk] at this
          omega
        subst hq2
        rw [hu]
        rw [List.getElem?_append_right (by simp [hk])] at hq
        simpa [hk] using hq
    · rw [DSt.at_other _ _ e, if_neg e] at hq
      have hk := (h.ok j hj).kept
      have hq2 : q < 65 := by
        have := (List.getElem?_eq_some_iff.1 hq).1
        simpa [hk] using this
      rw [hc _ (by omega)]
      exact h.cells j hj q z hq
  · intro j hj
    by_cases e : j = i
    · subst e; rw [DSt.at_same]; exact ⟨(h.ok j hj).kept, hl, hd⟩
    · rw [DSt.at_other _ _ e]; exact h.ok j hj
  · intro j hj
    by_cases e : j = i
    · subst e; rw [DSt.at_same, if_pos rfl]; exact hrow
    · rw [DSt.at_other _ _ e, if_neg e]
      refine own_kept (h.rows j hj) (fun k hk => ho k ((h.rows j hj).lt k hk).2 ?_ ?_)
      · intro e2
        obtain ⟨c', hc'⟩ := own_type (h.rows j hj) hk
        obtain ⟨C, hC⟩ := h.sec
        rw [e2, hC] at hc'
        simp at hc'
      · intro e2
        rcases h.apart j i hj hi e with h0 | h0
        · rw [hk] at h0; cases h0
        · exact h0 (hk.trans e2)
  · have side : ∀ j, j < n → j ≠ i → u.ownBlock = none ∨ u.ownBlock ≠ (v j).ownBlock := fun j hj e => by
      rcases hblk with h0 | h0 | ⟨k, hk, hlt⟩
      · exact .inl h0
      · rw [h0]; exact h.apart i j hi hj (Ne.symm e)
      · refine .inr (fun e2 => ?_)
        have := ((h.rows j hj).lt k (e2.symm.trans hk)).2
        omega
    intro j q hj hq hne
    show (if j = i then u else v j).ownBlock = none ∨ (if j = i then u else v j).ownBlock ≠ (if q = i then u else v q).ownBlock
    by_cases e : j = i
    · subst e
      rw [if_pos rfl, if_neg (Ne.symm hne)]
      exact side q hq (Ne.symm hne)
    · by_cases e2 : q = i
      · subst e2
        rw [if_neg e, if_pos rfl]
        rcases side j hj e with h0 | h0
        · cases hv : (v j).ownBlock with
          | none => exact .inl rfl
          | some k => exact .inr (by rw [h0]; simp)
        · exact .inr (Ne.symm h0)
      · rw [if_neg e, if_neg e2]
        exact h.apart j q hj hq hne
/-- a bit of a number. -/
def bitOf (keep : Int) (k : Nat) : Bool := bits BinOp.and IntKind.u64 (keep / 2 ^ min k 64) 1 == 1
/-- what is kept of what is late. -/
def keepTo (keep : Int) (c : List UInt8) (l : List Late) : List UInt8 := l.foldl (fun c x => if bitOf keep x.1 = true then x.2 else c) c
theorem keepTo_snoc (keep : Int) (c : List UInt8) (l : List Late) (x : Late) : keepTo keep c (l ++ [x]) = if bitOf keep x.1 = true then x.2 else keepTo keep c l := by simp [keepTo]
theorem keepTo_len {keep : Int} {c : List UInt8} (hc : c.length = 64) : ∀ (l : List Late), (∀ x ∈ l, x.1 < 64 ∧ x.2.length = 64) → (keepTo keep c l).length = 64 := by
  intro l
  induction l generalizing c with
  | nil => intro _; exact hc
  | cons a l ih =>
    intro h
    show (keepTo keep (if bitOf keep a.1 = true then a.2 else c) l).length = 64
    refine ih ?_ (fun x hx => h x (by simp [hx]))
    split
    · exact (h a (by simp)).2
    · exact hc
def DSt.settleAt (s : DSt) (keep : Int) (i : Nat) : DSt := s.at i ⟨keepTo keep (s.K i).kept (s.K i).late, []⟩
theorem DSt.at_at (s : DSt) (i : Nat) (S T : Sec) : (s.at i S).at i T = s.at i T := by
  simp only [DSt.at]
  congr 1
  funext j
  by_cases e : j = i <;> simp [e]
theorem DSt.at_self (s : DSt) (i : Nat) : s.at i (s.K i) = s := by
  cases s with
  | mk a b c K =>
    simp only [DSt.at]
    congr 1
    funext j
    by_cases e : j = i <;> simp [e]

/-- as Spun, and but for the disk's own two blocks nothing has turned. -/
structure Still (B p bs : Nat) (w w' : World) : Prop where
  spun : Spun B w w'
  still : ∀ k, k < w.heap.size → k ≠ p → k ≠ bs → w'.heap[k]? = w.heap[k]?
theorem Still.refl (B p bs : Nat) (w : World) : Still B p bs w w := ⟨Spun.refl _ _, fun _ _ _ _ => rfl⟩
theorem Still.trans {B p bs : Nat} {a b c : World} (h : Still B p bs a b) (g : Still B p bs b c) : Still B p bs a c :=
  ⟨h.spun.trans g.spun, fun k hk h1 h2 => (g.still k (Nat.lt_of_lt_of_le hk h.spun.size) h1 h2).trans (h.still k hk h1 h2)⟩
theorem Still.of {B p bs : Nat} {w w' : World} (hB : B ≤ w.heap.size) (h : Below w.heap.size w w') : Still B p bs w w' := ⟨Spun.of hB h, fun k hk _ _ => h.block k hk⟩
theorem Still.set {B p bs g i : Nat} {w : World} {c : Array Value} {t : TypeId} {f : Nat × Nat} (hg : w.heap[g]? = some (.cells c t f)) (hB : B ≤ g) (ht : t = 106 ∨ t = 137 ∨ t = 177) (hp : g = p ∨ g = bs) (u : Value) : Still B p bs w (w.setCell ⟨g, i, none⟩ u) :=
  ⟨Spun.set hg hB ht u, fun k _ h1 h2 => Below.heap_setCell _ _ _ _ (by show k ≠ g; omega)⟩
theorem Still.sets {B p bs g o : Nat} {w : World} {c : Array Value} {t : TypeId} {f : Nat × Nat} (hg : w.heap[g]? = some (.cells c t f)) (hB : B ≤ g) (ht : t = 106 ∨ t = 137 ∨ t = 177) (hp : g = p ∨ g = bs) (vs : List Value) : Still B p bs w (w.setCells g o vs) :=
  ⟨Spun.sets hg hB ht vs, fun k _ h1 h2 => heap_setOther _ _ _ _ _ (by omega)⟩
set_option maxRecDepth 100000 in
set_option maxHeartbeats 1000000 in
theorem settleSec_still (w : World) (B p bs n : Nat) (s : DSt) (v : Nat → Value) (i : Nat) (keep : Int) (h : DiskAt w B p bs n s v) (hi : i < n) :
    Calls Tryz.prog 62 #[.pointer (some ⟨bs, i * 65, none⟩), .int .u64 keep] w fun e w' => e = .returned (.tuple #[]) ∧ DiskAt w' B p bs n (s.settleAt keep i) (fun j => if j = i then .slice none 0 0 else v j) ∧ Still B p bs w w' := by
  have hk := (h.ok i hi).kept
  have hlates := (h.ok i hi).late
  have hs1 : w.cell? ⟨bs, i * 65 + 64, none⟩ = some (v i) := h.cells i hi 64 _ (by rw [List.getElem?_append_right (by simp [hk])]; simp [hk])
  obtain ⟨a, c, hv, hle⟩ := owns_shape (h.rows i hi)
  have hfew := (h.ok i hi).few
  obtain ⟨Z, hal, hZ⟩ := late_zero
  generalize hL : (s.K i).late = L at *
  generalize hm : L.length = m at *
  rw [hv] at hs1
  have h0 : DiskAt w B p bs n (s.at i ⟨keepTo keep (s.K i).kept (L.take 0), L⟩) v := by
    have e : s.at i ⟨keepTo keep (s.K i).kept (L.take 0), L⟩ = s := by
      rw [← hL]; exact DSt.at_self s i
    rw [e]; exact h
  have HB : Hid (B ≤ bs) := h.bb
  have HV : Hid (v i = .slice a m c) := hv
  have HM : Hid (L.length = m) := hm
  have HLE : Hid ((s.K i).late = L) := hL
  clear hv hL h hm
  go_enter Tryz.func62, Tryz.ntmps62
  go_wp2
  go_loopw [11] (fun y wr => ∃ k : Nat, k ≤ m ∧ y = .int .i64 k ∧ Still B p bs w wr ∧ DiskAt wr B p bs n (s.at i ⟨keepTo keep (s.K i).kept (L.take k), L⟩) v) (fun y _ => m - (intOf y).toNat)
  case atStart => exact ⟨0, Nat.zero_le _, rfl, Still.refl _ _ _ _, h0⟩
  case round =>
    obtain ⟨k, hkm, rfl, hS, hD⟩ := hrel
    clear h0
    by_cases hlt : k < m
    · obtain ⟨x, hx⟩ : ∃ x, L[k]? = some x := ⟨_, List.getElem?_eq_getElem (by rw [HM.out]; exact hlt)⟩
      obtain ⟨g, rfl, hra⟩ := hD.lateRow hi (by rw [DSt.at_same]; exact hx) HV.out
      have hxl := hlates x (List.mem_of_getElem? hx)
      have hl65 : (lateC x).length = 65 := by simp [lateC, hxl.2]
      have q0 : (wr.alloc (.cells (lateC x).toArray 177)).cell? ⟨wr.heap.size, 0, none⟩ = some (.int .u64 (x.1 : Int)) := by rw [World.cell?_alloc_mark]; rfl
      have hnr : (wr.alloc (.cells (lateC x).toArray 177)).rangeAt wr.heap.size 1 (bytesV x.2) := range_new wr _ _ 1 _ (fun j u hj => by rw [Nat.add_comm]; exact hj)
      have HL : Hid ((lateC x).length = 65) := hl65
      have hth : (wr.alloc (.cells (lateC x).toArray 177)).there bs (i * 65) (bytesV x.2).toArray.size := by
        have := World.there_alloc (hD.there hi) (.cells (lateC x).toArray 177)
        simpa [hxl.2] using this
      have HX : Hid ((bytesV x.2).length = 64) := by show (bytesV x.2).length = 64; simp [hxl.2]
      have htk : L.take (k + 1) = L.take k ++ [x] := by
        rw [List.take_add_one, hx]; rfl
      have hb1 : Below wr.heap.size wr (wr.alloc (.cells (lateC x).toArray 177)) := (Below.refl _ _).alloc (Nat.le_refl _) _
      have hS1 := hS.trans (Still.of (by have := HB.out; have := hD.ltb; omega) hb1)
      have hD1 := hD.later hb1
      have hKS := keepTo_snoc keep (s.K i).kept (L.take k) x
      rw [← htk] at hKS
      cases hbit : bitOf keep x.1 with
      | true =>
        have hD2 := hD1.keep hi hxl.2
        rw [DSt.at_at, DSt.at_same] at hD2
        rw [hbit, if_pos rfl] at hKS
        have HD2 : Hid (DiskAt ((wr.alloc (.cells (lateC x).toArray 177)).setCells bs (i * 65) (bytesV x.2)) B p bs n (s.at i ⟨keepTo keep (s.K i).kept (L.take (k + 1)), L⟩) v) := by rw [hKS]; exact hD2
        obtain ⟨C, hC⟩ := hD1.sec
        have hS2 := hS1.trans (Still.sets (o := i * 65) hC HB.out (.inr (.inl rfl)) (.inr rfl) (bytesV x.2))
        have hbt : (bits BinOp.and IntKind.u64 (keep / 2 ^ min x.fst 64) 1 == 1) = true := hbit
        clear hxl hl65 hbit hD hD1 hD2 hC hKS hx htk hlates
        go_wp2_with (first
          | (refine wpList_load_mid rfl 177 (.tmp 13) rfl g (k * 65) rfl (lateC x) _ hra Tryz.underlying177 rfl (late_info HL.out) ?_)
          | (refine wpList_fill rfl 177 (.tmp 5) (.tmp 14) rfl wr Z rfl (lateC x) rfl rfl (hZ.trans HL.out.symm) (late_info HL.out) (lateC_one x) ?_)
          | (refine wpList_load_mid rfl 134 (.tmp 22) rfl wr.heap.size 1 rfl (bytesV x.2) _ hnr Tryz.underlying134 rfl (cont_info HX.out) ?_)
          | (refine wpList_store_mid rfl 134 (.tmp 25) (.tmp 23) rfl bs (i * 65) (bytesV x.2).toArray rfl rfl hth (by simpa using cont_info HX.out) (all_oneCell_toArray (bytesV_one x.2)) ?_))
        go_roundw
        case rel => exact ⟨k + 1, by omega, by go_num, hS2, HD2.out⟩
        case measure => simp [intOf]; omega
      | false =>
        rw [hbit, if_neg (by simp)] at hKS
        have HD2 : Hid (DiskAt (wr.alloc (.cells (lateC x).toArray 177)) B p bs n (s.at i ⟨keepTo keep (s.K i).kept (L.take (k + 1)), L⟩) v) := by rw [hKS]; exact hD1
        have hbt : (bits BinOp.and IntKind.u64 (keep / 2 ^ min x.fst 64) 1 == 1) = false := hbit
        clear hxl hl65 hbit hD hD1 hKS hx htk hlates
        go_wp2_with (first
          | (refine wpList_load_mid rfl 177 (.tmp 13) rfl g (k * 65) rfl (lateC x) _ hra Tryz.underlying177 rfl (late_info HL.out) ?_)
          | (refine wpList_fill rfl 177 (.tmp 5) (.tmp 14) rfl wr Z rfl (lateC x) rfl rfl (hZ.trans HL.out.symm) (late_info HL.out) (lateC_one x) ?_))
        go_roundw
        case rel => exact ⟨k + 1, by omega, by go_num, hS1, HD2.out⟩
        case measure => simp [intOf]; omega
    · have e : L.take k = L := List.take_of_length_le (by rw [HM.out]; omega)
      rw [e] at hD
      obtain ⟨C, hC⟩ := hD.sec
      have hkl := keepTo_len (keep := keep) hk L hlates
      have c64 : wr.cell? ⟨bs, i * 65 + 64, none⟩ = some (v i) := hD.cells i hi 64 _ (by rw [DSt.at_same, List.getElem?_append_right (by simp [hkl])]; simp [hkl])
      have fz : wr.frozen? ⟨bs, i * 65 + 64, none⟩ = false := by simp [World.frozen?, hC]
      have hD2 : DiskAt (wr.setCell ⟨bs, i * 65 + 64, none⟩ (.slice none 0 0)) B p bs n (s.settleAt keep i) (fun j => if j = i then .slice none 0 0 else v j) := by
        have := hD.turn (w' := wr.setCell ⟨bs, i * 65 + 64, none⟩ (.slice none 0 0)) hi (u := .slice none 0 0) (l := []) (by simp) (by simp) (World.ownsRow_nil _ _ _ _) (.inl rfl) (Below.heap_setCell _ _ _ _ hD.ne) ⟨_, heap_setC _ _ _ _ _ _ _ hC⟩
          (fun j hj => World.cell?_setCell_other _ _ _ _ (fun e => hj (by injection e with _ e _; exact e.symm))) (World.cell?_setCell_same _ _ _ c64) (fun k _ hne _ => Below.heap_setCell _ _ _ _ hne)
        rw [DSt.at_at, DSt.at_same] at this
        unfold DSt.settleAt
        rw [HLE.out]
        exact this
      have hS2 := hS.trans (Still.set (i := i * 65 + 64) hC HB.out (.inr (.inl rfl)) (.inr rfl) (.slice none 0 0))
      rw [HV.out] at c64
      clear hD hC hlates hkl e
      go_wp2
      go_end0
      exact ⟨rfl, hD2, hS2⟩

theorem DiskAt.congr {w : World} {B p bs n : Nat} {s s' : DSt} {v : Nat → Value} (h : DiskAt w B p bs n s v) (h1 : s'.next = s.next) (h2 : s'.left = s.left) (h3 : s'.down = s.down) (hK : ∀ j, j < n → s'.K j = s.K j) : DiskAt w B p bs n s' v := by
  refine ⟨by rw [h1, h2, h3]; exact h.blk, h.sec, ?_, ?_, ?_, h.apart, h.bp, h.bb, by rw [h1]; exact h.nx, by rw [h2]; exact h.lo, h.few⟩
  · intro i hi; rw [hK i hi]; exact h.cells i hi
  · intro i hi; rw [hK i hi]; exact h.ok i hi
  · intro i hi; rw [hK i hi]; exact h.rows i hi
def DSt.settleTo (s : DSt) (keep : Int) (k : Nat) : DSt := { s with K := fun j => if j < k then ⟨keepTo keep (s.K j).kept (s.K j).late, []⟩ else s.K j }
/-- all that is late is settled. -/
def DSt.settled (s : DSt) (keep : Int) : DSt := { s with next := 0, K := fun j => ⟨keepTo keep (s.K j).kept (s.K j).late, []⟩ }
theorem DSt.settleTo_succ (s : DSt) (keep : Int) (k : Nat) : (s.settleTo keep k).settleAt keep k = s.settleTo keep (k + 1) := by
  simp only [DSt.settleAt, DSt.at, DSt.settleTo]
  congr 1
  funext j
  by_cases e : j = k
  · subst e; simp
  · by_cases h : j < k
    · simp [e, h, Nat.lt_succ_of_lt h]
    · simp [e, h, show ¬ j < k + 1 by omega]

set_option maxRecDepth 100000 in
set_option maxHeartbeats 1000000 in
theorem settle_still (w : World) (B p bs n : Nat) (s : DSt) (v : Nat → Value) (keep : Int) (h : DiskAt w B p bs n s v) :
    Calls Tryz.prog 43 #[.pointer (some ⟨p, 0, none⟩), .int .u64 keep] w fun e w' => e = .returned (.tuple #[]) ∧ (∃ v', DiskAt w' B p bs n (s.settled keep) v') ∧ Still B p bs w w' := by
  have c0 := h.c0
  have hfew := h.few
  have h0 : DiskAt w B p bs n (s.settleTo keep 0) v := h.congr rfl rfl rfl (fun j _ => by simp [DSt.settleTo])
  clear h
  go_enter Tryz.func43, Tryz.ntmps43
  go_wp2
  go_loopw [10] (fun y wr => ∃ (k : Nat) (v' : Nat → Value), k ≤ n ∧ y = .int .i64 k ∧ Still B p bs w wr ∧ DiskAt wr B p bs n (s.settleTo keep k) v') (fun y _ => n - (intOf y).toNat)
  case atStart => exact ⟨0, v, Nat.zero_le _, rfl, Still.refl _ _ _ _, h0⟩
  case round =>
    obtain ⟨k, v', hk, rfl, hS, hD⟩ := hrel
    have c0r := hD.c0
    clear h0 c0
    by_cases hlt : k < n
    · have HC := settleSec_still wr B p bs n _ v' k keep hD hlt
      rw [DSt.settleTo_succ] at HC
      clear hD
      go_wp2_with fail
      refine HC.mono ?_
      rintro e w2 ⟨rfl, hD2, hS2⟩
      clear HC
      have hS3 := hS.trans hS2
      go_wp2
      go_roundw
      case rel => exact ⟨k + 1, _, by omega, by go_num, hS3, hD2⟩
      case measure => simp [intOf]; omega
    · have e : k = n := by omega
      subst e
      have c1 := hD.c1
      have fz := hD.fz 1
      have hD2 : DiskAt (wr.setCell ⟨p, 1, none⟩ (.int .u64 0)) B p bs k (s.settled keep) v' := by
        have := hD.put (w' := wr.setCell ⟨p, 1, none⟩ (.int .u64 0)) (s' := { s.settleTo keep k with next := 0 }) (fun k hk => Below.heap_setCell _ _ _ _ hk) (heap_set0 _ hD.blk) rfl (by show 0 < 64; decide) hD.lo
        exact this.congr rfl rfl rfl (fun j hj => by simp [DSt.settled, DSt.settleTo, hj])
      have hS2 := hS.trans (Still.set (i := 1) hD.blk hD.bp (.inl rfl) (.inl rfl) (.int .u64 0))
      clear hD
      generalize (s.settleTo keep k).next = nx at c1
      go_wp2
      go_end0
      exact ⟨rfl, ⟨_, hD2⟩, hS2⟩
theorem restart_still (w : World) (B p bs n : Nat) (s : DSt) (v : Nat → Value) (keep : Int) (h : DiskAt w B p bs n s v) :
    Calls Tryz.prog 21 #[.pointer (some ⟨p, 0, none⟩), .int .u64 keep] w fun e w' => e = .returned (.tuple #[]) ∧ (∃ v', DiskAt w' B p bs n { s.settled keep with down := false, left := -1 } v') ∧ Still B p bs w w' := by
  have HC := settle_still w B p bs n s v keep h
  clear h
  go_enter Tryz.func21, Tryz.ntmps21
  go_wp2_with fail
  refine HC.mono ?_
  rintro e w2 ⟨rfl, ⟨v', hD⟩, hS⟩
  clear HC
  have c2 := hD.c2
  have c3 := hD.c3
  have f2 := hD.fz 2
  have f3 := hD.fz 3
  have hD2 : DiskAt ((w2.setCell ⟨p, 3, none⟩ (.bool false)).setCell ⟨p, 2, none⟩ (.int .i64 (-1))) B p bs n { s.settled keep with down := false, left := -1 } v' :=
    hD.put (fun k hk => (Below.heap_setCell _ _ _ _ hk).trans (Below.heap_setCell _ _ _ _ hk)) (heap_set0 _ (heap_set0 _ hD.blk)) rfl hD.nx (by show (-1 : Int) ≤ -1; decide)
  have hS2 := hS.trans ((Still.set (i := 3) hD.blk hD.bp (.inl rfl) (.inl rfl) (.bool false)).trans (Still.set (i := 2) (heap_set0 _ hD.blk) hD.bp (.inl rfl) (.inl rfl) (.int .i64 (-1))))
  clear hD
  generalize (s.settled keep).left = x2 at c2
  generalize (s.settled keep).down = x3 at c3
  go_wp2
  go_end0
  exact ⟨rfl, ⟨_, hD2⟩, hS2⟩
theorem settle_any (w : World) (B p bs n : Nat) (s : DSt) (v : Nat → Value) (keep : Int) (h : DiskAt w B p bs n s v) :
    Calls Tryz.prog 43 #[.pointer (some ⟨p, 0, none⟩), .int .u64 keep] w fun e w' => e = .returned (.tuple #[]) ∧ (∃ v', DiskAt w' B p bs n (s.settled keep) v') ∧ Spun B w w' :=
  (settle_still w B p bs n s v keep h).mono fun _ _ ⟨h1, h2, h3⟩ => ⟨h1, h2, h3.spun⟩
theorem restart_any (w : World) (B p bs n : Nat) (s : DSt) (v : Nat → Value) (keep : Int) (h : DiskAt w B p bs n s v) :
    Calls Tryz.prog 21 #[.pointer (some ⟨p, 0, none⟩), .int .u64 keep] w fun e w' => e = .returned (.tuple #[]) ∧ (∃ v', DiskAt w' B p bs n { s.settled keep with down := false, left := -1 } v') ∧ Spun B w w' :=
  (restart_still w B p bs n s v keep h).mono fun _ _ ⟨h1, h2, h3⟩ => ⟨h1, h2, h3.spun⟩
/-- the bits of a number that has them all. -/
theorem bitOf_all : ∀ k, k < 64 → bitOf 18446744073709551615 k = true := by
  have : (List.range 64).all (fun k => bitOf 18446744073709551615 k) = true := by decide +kernel
  intro k hk
  exact List.all_eq_true.1 this k (by simpa using hk)
theorem flush_goes (w : World) (B p bs n : Nat) (s : DSt) (v : Nat → Value) (h : DiskAt w B p bs n s v) (hf : s.falls = false) (hl : s.left ≤ 9223372036854775807) :
    Calls Tryz.prog 91 #[.pointer (some ⟨p, 0, none⟩)] w fun e w' => e = .returned .nilIface ∧ (∃ v', DiskAt w' B p bs n (s.stepped.settled 18446744073709551615) v') ∧ Spun B w w' := by
  have HC := step_goes w B p bs n s v h hf hl
  clear h
  go_enter Tryz.func91, Tryz.ntmps91
  go_wp2_with fail
  refine HC.mono ?_
  rintro e w2 ⟨rfl, hD, hS⟩
  have HC2 := settle_any w2 B p bs n _ v 18446744073709551615 hD
  clear HC hD
  go_wp2_with fail
  refine HC2.mono ?_
  rintro e w3 ⟨rfl, hD3, hS3⟩
  have hS4 := hS.trans hS3
  clear HC2
  go_wp2
  go_ret
  exact ⟨rfl, hD3, hS4⟩
theorem flush_falls (w : World) (B p bs n : Nat) (s : DSt) (v : Nat → Value) (h : DiskAt w B p bs n s v) (hf : s.falls = true) :
    Calls Tryz.prog 91 #[.pointer (some ⟨p, 0, none⟩)] w fun e w' => e = .returned (errV 9) ∧ DiskAt w' B p bs n s.fell v ∧ Spun B w w' := by
  have HC := step_falls w B p bs n s v h hf
  clear h
  go_enter Tryz.func91, Tryz.ntmps91
  go_wp2_with fail
  refine HC.mono ?_
  rintro e w2 ⟨rfl, hD, hS⟩
  have q9 : errV 9 = .iface 82 (.int .i64 9) := rfl
  rw [q9]
  clear HC
  go_wp2
  go_ret
  exact ⟨rfl, hD, hS⟩
end Go.Proofs.YtidabcoodolddaaGreatDoor

namespace Go.Proofs.YtidabcoodolddaaGreatDoor
open Go.RowKit

/-- what a sector holds now. -/
def Sec.now (S : Sec) : List UInt8 := match S.late.getLast? with
  | some x => x.2
  | none => S.kept
theorem SecOk.now {S : Sec} (h : SecOk S) : S.now.length = 64 := by
  unfold Sec.now
  split
  · rename_i x hx
    exact (h.late x (List.mem_of_getLast? hx)).2
  · exact h.kept
theorem cont_zero : ∃ Z : Array Value, (∀ w, Sem.run Tryz.prog (zeroValue 134) w = .ok (.agg Z) w) ∧ Z.size = 64 :=
  ⟨Array.replicate 64 (.int .u8 0), fun w => by kernel_rfl, by simp⟩

set_option maxRecDepth 100000 in
set_option maxHeartbeats 1000000 in
theorem now_any (w : World) (B p bs n : Nat) (s : DSt) (v : Nat → Value) (i : Nat) (h : DiskAt w B p bs n s v) (hi : i < n) :
    Calls Tryz.prog 118 #[.pointer (some ⟨bs, i * 65, none⟩)] w fun e w' => e = .returned (.agg (bytesV (s.K i).now).toArray) ∧ Below w.heap.size w w' := by
  have hk := (h.ok i hi).kept
  have hs1 : w.cell? ⟨bs, i * 65 + 64, none⟩ = some (v i) := h.cells i hi 64 _ (by rw [List.getElem?_append_right (by simp [hk])]; simp [hk])
  obtain ⟨a, c, hv, hle⟩ := owns_shape (h.rows i hi)
  have hfew := (h.ok i hi).few
  obtain ⟨Z, hal, hZ⟩ := cont_zero
  have hnow := (h.ok i hi).now
  have hltb := h.ltb
  have hbA : Below w.heap.size w (w.alloc (.cells Z 134)) := (Below.refl _ _).alloc (Nat.le_refl _) _
  have hD := h.later hbA
  have hs2 := cell_later hbA hs1
  rw [hv] at hs2
  generalize hm : (s.K i).late.length = m at *
  have HN : Hid ((bytesV (s.K i).now).length = 64) := by show (bytesV (s.K i).now).length = 64; simp [hnow]
  have hbf : Below w.heap.size w (w.alloc (.cells (bytesV (s.K i).now).toArray 134)) := (Below.refl _ _).alloc (Nat.le_refl _) _
  have hld : (loadVar 134 ⟨w.heap.size, 0, none⟩).run Tryz.prog (w.alloc (.cells (bytesV (s.K i).now).toArray 134)) = .ok (.agg (bytesV (s.K i).now).toArray) (w.alloc (.cells (bytesV (s.K i).now).toArray 134)) :=
    run_loadVar_mid _ _ _ _ _ _ (range_new w _ _ 0 _ (fun j u hj => by rw [Nat.zero_add]; exact hj)) Tryz.underlying134 rfl (cont_info HN.out)
  by_cases h0 : 0 < m
  · obtain ⟨x, hx⟩ : ∃ x, (s.K i).late[m - 1]? = some x := ⟨_, List.getElem?_eq_getElem (by omega)⟩
    obtain ⟨g, rfl, hra⟩ := hD.lateRow hi hx hv
    have hra1 : (w.alloc (.cells Z 134)).rangeAt g ((m - 1) * 65 + 1) (bytesV x.2) := fun j u hj => by
      have := hra (j + 1) u (by exact hj)
      rw [show (m - 1) * 65 + 1 + j = (m - 1) * 65 + (j + 1) by omega]
      exact this
    have hE : (s.K i).now = x.2 := by
      unfold Sec.now
      have : (s.K i).late.getLast? = some x := by rw [List.getLast?_eq_getElem?, hm]; exact hx
      rw [this]
    have HE : Hid ((s.K i).now = x.2) := hE
    rw [hE] at HN hbf hld
    have htn : ((m : Int) - 1).toNat = m - 1 := by omega
    clear h hD hra hx hE hv hbA hs1 hnow
    go_enter Tryz.func118, Tryz.ntmps118
    go_wp2_with (first
      | (refine wpList_load_mid rfl 134 (.tmp 18) rfl g ((m - 1) * 65 + 1) rfl (bytesV x.2) _ hra1 Tryz.underlying134 rfl (cont_info HN.out) ?_)
      | (refine wpList_fill rfl 134 (.tmp 2) (.tmp 19) rfl w Z rfl (bytesV x.2) rfl rfl (hZ.trans HN.out.symm) (cont_info HN.out) (bytesV_one x.2) ?_))
    refine bodyPost_ret (v := .agg (bytesV x.2).toArray) (results_cell rfl (by simp [go_sem]) hld) rfl ?_
    rw [HE.out]
    exact ⟨rfl, hbf⟩
  · have hz : m = 0 := by omega
    have hra1 : (w.alloc (.cells Z 134)).rangeAt bs (i * 65) (bytesV (s.K i).kept) := fun j u hj => by
      have hj2 : j < 64 := by
        have := (List.getElem?_eq_some_iff.1 hj).1
        simpa [hk] using this
      exact hD.cells i hi j u (by rw [List.getElem?_append_left (by simp [hk]; exact hj2)]; exact hj)
    have hE : (s.K i).now = (s.K i).kept := by
      unfold Sec.now
      have : (s.K i).late = [] := List.eq_nil_of_length_eq_zero (by omega)
      rw [this]
      rfl
    have HE : Hid ((s.K i).now = (s.K i).kept) := hE
    rw [hE] at HN hbf hld
    subst hz
    clear h hD hE hv hbA hs1 hnow hm
    generalize (s.K i).kept = K0 at *
    go_enter Tryz.func118, Tryz.ntmps118
    go_wp2_with (first
      | (refine wpList_load_mid rfl 134 (.tmp 22) rfl bs (i * 65) rfl (bytesV K0) _ hra1 Tryz.underlying134 rfl (cont_info HN.out) ?_)
      | (refine wpList_fill rfl 134 (.tmp 2) (.tmp 23) rfl w Z rfl (bytesV K0) rfl rfl (hZ.trans HN.out.symm) (cont_info HN.out) (bytesV_one K0) ?_))
    refine bodyPost_ret (v := .agg (bytesV K0).toArray) (results_cell rfl (by simp [go_sem]) hld) rfl ?_
    rw [HE.out]
    exact ⟨rfl, hbf⟩

/-- what Read answers. -/
def DSt.readF (s : DSt) (n : Nat) (at' : Int) : Nat := if s.down = true then 9 else if 0 ≤ at' ∧ at' < n then 0 else 1
theorem read_ok (w : World) (B p bs n : Nat) (s : DSt) (v : Nat → Value) (i : Nat) (h : DiskAt w B p bs n s v) (hd : s.down = false) (hi : i < n) :
    Calls Tryz.prog 92 #[.pointer (some ⟨p, 0, none⟩), .int .i64 (i : Int)] w fun e w' => e = .returned (.tuple #[.string ⟨(s.K i).now.toArray⟩, .nilIface]) ∧ Below w.heap.size w w' := by
  have c0 := h.c0
  have c3 := h.c3
  rw [hd] at c3
  have HH := has_any w B p bs n s v (i : Int) h
  have HN := now_any w B p bs n s v i h hi
  have hl := (h.ok i hi).now
  have hfew := h.few
  have hdec : (decide (0 ≤ (i : Int)) && decide ((i : Int) < (n : Int))) = true := by simp; exact hi
  rw [hdec] at HH
  obtain ⟨Z, hal, hZ⟩ := cont_zero
  generalize (s.K i).now = cs at *
  have HL : Hid ((bytesV cs).length = 64) := by show (bytesV cs).length = 64; simp [hl]
  clear h hdec
  go_enter Tryz.func92, Tryz.ntmps92
  go_wp2_with fail
  refine HH.mono ?_
  rintro e w1 ⟨rfl, rfl⟩
  clear HH
  go_wp2_with fail
  refine HN.mono ?_
  rintro e w2 ⟨rfl, hb2⟩
  clear HN
  have hcv : ∀ (src dst : TypeId), Tryz.prog.underlying src = some (.slice 5) → Tryz.prog.underlying dst = some .string → (convert src dst (.slice (some ⟨w2.heap.size, 0, none⟩) 64 64)).run Tryz.prog (w2.alloc (.cells (bytesV cs).toArray 134)) = .ok (.string ⟨cs.toArray⟩) (w2.alloc (.cells (bytesV cs).toArray 134)) := fun src dst hs hd' => by
    have := run_convert_bytes_back (P := Tryz.prog) (w2.alloc (.cells (bytesV cs).toArray 134)) src dst 5 ⟨w2.heap.size, 0, none⟩ 64 cs hs Tryz.underlying5 hd' (fun j hj => by
      rw [Addr.add_mid, Nat.zero_add, World.cell?_alloc_mark]
      simp [bytesV, hj])
    rw [hl] at this
    exact this
  have hbf : Below w1.heap.size w1 (w2.alloc (.cells (bytesV cs).toArray 134)) := hb2.alloc hb2.size _
  go_wp2_with (first
    | (refine wpList_fill rfl 134 (.tmp 6) (.tmp 23) rfl w2 Z rfl (bytesV cs) rfl rfl (hZ.trans HL.out.symm) (cont_info HL.out) (bytesV_one cs) ?_))
  go_ret2
  exact ⟨rfl, hbf⟩
theorem read_bad (w : World) (B p bs n : Nat) (s : DSt) (v : Nat → Value) (at' : Int) (h : DiskAt w B p bs n s v) (hf : s.readF n at' ≠ 0) :
    Calls Tryz.prog 92 #[.pointer (some ⟨p, 0, none⟩), .int .i64 at'] w fun e w' => e = .returned (.tuple #[.string ⟨#[]⟩, errV (s.readF n at')]) ∧ w' = w := by
  have c3 := h.c3
  have HH := has_any w B p bs n s v at' h
  unfold DSt.readF at hf ⊢
  clear h
  cases hd : s.down with
  | true =>
    rw [hd] at c3
    rw [if_pos rfl]
    go_enter Tryz.func92, Tryz.ntmps92
    go_wp2
    go_ret2
    exact ⟨rfl, rfl⟩
  | false =>
    rw [hd] at c3 hf
    rw [if_neg (by simp)] at hf ⊢
    by_cases h1 : 0 ≤ at' ∧ at' < n
    · rw [if_pos h1] at hf
      exact absurd rfl hf
    · have hdec : (decide (0 ≤ at') && decide (at' < n)) = false := by simp; omega
      rw [if_neg h1]
      rw [hdec] at HH
      clear hdec h1 hf
      go_enter Tryz.func92, Tryz.ntmps92
      go_wp2_with fail
      refine HH.mono ?_
      rintro e w1 ⟨rfl, rfl⟩
      clear HH
      go_wp2
      go_ret2
      exact ⟨rfl, rfl⟩

/-- a new disk. -/
def DSt.fresh : DSt := ⟨0, -1, false, fun _ => ⟨List.replicate 64 0, []⟩⟩
theorem sec_zero : ∃ i z, Tryz.prog.info? 137 = some i ∧ i.zero = some z ∧ i.size = 65 ∧ i.bytes = 88 ∧ z.cells = (bytesV (List.replicate 64 0) ++ [Value.slice none 0 0]).toArray := by
  obtain ⟨x, hx, hp⟩ := Option.map_eq_some_iff.1 (show (Tryz.prog.info? 137).map (fun i => (i.zero.map (·.cells), i.size, i.bytes)) = some (some (bytesV (List.replicate 64 0) ++ [Value.slice none 0 0]).toArray, 65, 88) by kernel_rfl)
  simp only [Prod.mk.injEq] at hp
  obtain ⟨h1, h2, h3⟩ := hp
  obtain ⟨z, hz, hc⟩ := Option.map_eq_some_iff.1 h1
  exact ⟨x, z, hx, hz, h2, h3, hc⟩
theorem sectors_made (w : World) (n : Nat) (h1 : 1 ≤ n) (h2 : n ≤ 120) : ∃ C : Array Value, (Instr.makeSlice 103 (.int .i64 (n : Int)) (.int .i64 (n : Int))).run Tryz.prog w = .ok (.slice (some ⟨w.heap.size, 0, none⟩) n n) (w.alloc (.cells C 137)) ∧
    ∀ i, i < n → ∀ j u, (bytesV (List.replicate 64 0) ++ [.slice none 0 0])[j]? = some u → C[i * 65 + j]? = some u := by
  obtain ⟨x, z, hx, hz, hs, hb, hc⟩ := sec_zero
  refine ⟨_, run_makeSlice (P := Tryz.prog) w 103 137 x z Tryz.underlying103 hx hz .i64 .i64 n n (by omega) (Int.le_refl _) (by rw [hs]; omega) (by rw [hb]; omega) (by omega), ?_⟩
  intro i hi j u hj
  have hj2 : j < 65 := by
    have := (List.getElem?_eq_some_iff.1 hj).1
    simpa using this
  rw [hs, hc]
  have hlt : i * 65 + j < (n : Int).toNat * 65 := by rw [Int.toNat_natCast]; omega
  have hsz : (bytesV (List.replicate 64 0) ++ [Value.slice none 0 0]).toArray.size = 65 := by simp
  generalize hL : bytesV (List.replicate 64 0) ++ [Value.slice none 0 0] = L at *
  have hmod : (i * 65 + j) % 65 = j := by omega
  simp only [madeCells]
  rw [Array.getElem?_map, Array.getElem?_range, if_pos hlt]
  simp only [Option.map_some]
  rw [hsz, hmod, getElem!_pos L.toArray j (by rw [hsz]; exact hj2)]
  rw [List.getElem?_eq_some_iff] at hj
  obtain ⟨_, hj⟩ := hj
  rw [← hj]
  rfl
/-- a disk, wherever its sectors lie. -/
def IsDisk (w : World) (B p n : Nat) (s : DSt) : Prop := ∃ bs v, DiskAt w B p bs n s v
theorem IsDisk.later {w w' : World} {B p n : Nat} {s : DSt} (h : IsDisk w B p n s) (hb : Below w.heap.size w w') : IsDisk w' B p n s := by
  obtain ⟨bs, v, h⟩ := h
  exact ⟨bs, v, h.later hb⟩
theorem newDisk_ok (w : World) (n : Nat) (h1 : 1 ≤ n) (h2 : n ≤ 120) :
    Calls Tryz.prog 45 #[.int .i64 (n : Int)] w fun e w' => ∃ p, e = .returned (.tuple #[.pointer (some ⟨p, 0, none⟩), .nilIface]) ∧ IsDisk w' w.heap.size p n DSt.fresh ∧ Below w.heap.size w w' := by
  obtain ⟨C, hmk, hC⟩ := sectors_made w n h1 h2
  have n1 : ¬ (n : Int) < 1 := by omega
  have n2 : ¬ (120 : Int) < (n : Int) := by omega
  have hD : DiskAt ((w.alloc (.cells C 137)).alloc (.cells #[.slice (some ⟨w.heap.size, 0, none⟩) n n, .int .u64 0, .int .i64 (-1), .bool false] 106)) w.heap.size (w.heap.size + 1) w.heap.size n DSt.fresh (fun _ => .slice none 0 0) := by
    refine ⟨?_, ⟨C, ?_⟩, ?_, ?_, ?_, fun _ _ _ _ _ => .inl rfl, by omega, Nat.le_refl _, by decide, by decide, h2⟩
    · have e : (w.alloc (.cells C 137)).heap.size = w.heap.size + 1 := by simp
      rw [← e]
      show ((w.alloc (.cells C 137)).heap.push _)[(w.alloc (.cells C 137)).heap.size]? = _
      rw [Array.getElem?_push_size]
      rfl
    · rw [heap_alloc_old _ _ (by simp)]
      exact heap_alloc_new w _
    · intro i hi j u hj
      rw [World.cell?_alloc_lt _ _ _ (by simp), World.cell?_alloc_mark]
      exact hC i hi j u hj
    · exact fun i _ => ⟨by simp [DSt.fresh], by simp [DSt.fresh], by simp [DSt.fresh]⟩
    · exact fun i _ => World.ownsRow_nil _ _ _ _
  have hI := (show IsDisk _ _ _ _ _ from ⟨_, _, hD⟩)
  have hb : Below w.heap.size w ((w.alloc (.cells C 137)).alloc (.cells #[.slice (some ⟨w.heap.size, 0, none⟩) n n, .int .u64 0, .int .i64 (-1), .bool false] 106)) := ((Below.refl _ _).alloc (Nat.le_refl _) _).alloc (by simp) _
  clear hC hD
  go_enter Tryz.func45, Tryz.ntmps45
  go_wp2
  go_ret2
  exact ⟨_, rfl, hI, hb⟩
theorem newDisk_bad (w : World) (n : Int) (h : n < 1 ∨ 120 < n) :
    Calls Tryz.prog 45 #[.int .i64 n] w fun e w' => e = .returned (.tuple #[.pointer none, errV 1]) ∧ w' = w := by
  by_cases h1 : n < 1
  · go_enter Tryz.func45, Tryz.ntmps45
    go_wp2
    go_ret2
    exact ⟨rfl, rfl⟩
  · have h2 : 120 < n := by omega
    go_enter Tryz.func45, Tryz.ntmps45
    go_wp2
    go_ret2
    exact ⟨rfl, rfl⟩
end Go.Proofs.YtidabcoodolddaaGreatDoor

namespace Go.Proofs.YtidabcoodolddaaGreatDoor
open Go.RowKit

/-- each of them is whole. -/
def LatesOk (l : List Late) : Prop := ∀ x ∈ l, x.1 < 64 ∧ x.2.length = 64
theorem lateC_len {x : Late} (h : x.2.length = 64) : (lateC x).length = 65 := by simp [lateC, h]
theorem row_range {w : World} {B g m c : Nat} {l : List Late} (h : w.ownsRow B 177 65 (.slice (some ⟨g, 0, none⟩) m c) m (latesC l)) (hl : LatesOk l) {k : Nat} {x : Late} (hx : l[k]? = some x) : w.rangeAt g (k * 65) (lateC x) := fun j u hj => by
  obtain ⟨g', ha', _, hc⟩ := owns_cell h (latesC_at hl hx hj)
  injection ha' with e
  injection e with e
  subst e
  exact hc
/-- a segment of a row of the call's own is written. -/
theorem owns_segment {e : TypeId} {s B g n c : Nat} : ∀ (vs : List Value) (o : Nat) (w : World) (xs : List Value), w.ownsRow B e s (.slice (some ⟨g, 0, none⟩) n c) n xs → o + vs.length ≤ xs.length →
    (w.setCells g o vs).ownsRow B e s (.slice (some ⟨g, 0, none⟩) n c) n (xs.take o ++ vs ++ xs.drop (o + vs.length)) ∧ w.grownBy (w.setCells g o vs) (some g)
  | [], o, w, xs, h, _ => ⟨by simpa [World.setCells] using h, ⟨rfl, rfl, rfl, Nat.le_refl _, fun _ _ _ => rfl⟩⟩
  | v :: r, o, w, xs, h, hl => by
    obtain ⟨h1, g1⟩ := h.stored o v
    have hl' : o + (r.length + 1) ≤ xs.length := by simpa using hl
    obtain ⟨h2, g2⟩ := owns_segment r (o + 1) _ _ h1 (by simp; omega)
    refine ⟨?_, g1.trans g2⟩
    have e1 : (xs.set o v).take (o + 1) = xs.take o ++ [v] := by
      rw [List.take_set, List.take_succ_eq_append_getElem (by omega), List.set_append_right _ _ (by simp; omega)]
      simp [Nat.min_eq_left (show o ≤ xs.length by omega)]
    rw [e1, List.drop_set_of_lt (by omega)] at h2
    rw [World.setCells]
    have e2 : xs.take o ++ v :: r ++ xs.drop (o + (v :: r).length) = xs.take o ++ [v] ++ r ++ xs.drop (o + 1 + r.length) := by
      simp [Nat.add_comm, Nat.add_left_comm]
    rw [e2]
    exact h2
theorem latesC_take : ∀ {l : List Late}, LatesOk l → ∀ i, (latesC l).take (i * 65) = latesC (l.take i)
  | [], _, i => by simp [latesC]
  | a :: l, h, 0 => by simp [latesC]
  | a :: l, h, i + 1 => by
    have h2 := lateC_len (h a (by simp)).2
    simp only [latesC, List.flatMap_cons, List.take_succ_cons]
    rw [show (i + 1) * 65 = (lateC a).length + i * 65 by omega, List.take_length_add_append]
    congr 1
    exact latesC_take (fun x hx => h x (by simp [hx])) i
theorem latesC_drop : ∀ {l : List Late}, LatesOk l → ∀ i, (latesC l).drop (i * 65) = latesC (l.drop i)
  | [], _, i => by simp [latesC]
  | a :: l, h, 0 => by simp [latesC]
  | a :: l, h, i + 1 => by
    have h2 := lateC_len (h a (by simp)).2
    simp only [latesC, List.flatMap_cons, List.drop_succ_cons]
    rw [show (i + 1) * 65 = (lateC a).length + i * 65 by omega, List.drop_length_add_append]
    exact latesC_drop (fun x hx => h x (by simp [hx])) i
theorem latesC_append (a b : List Late) : latesC (a ++ b) = latesC a ++ latesC b := by simp [latesC]
theorem latesC_set {l : List Late} (h : LatesOk l) {i : Nat} (hi : i < l.length) (x : Late) : (latesC l).take (i * 65) ++ lateC x ++ (latesC l).drop (i * 65 + 65) = latesC (l.set i x) := by
  rw [show i * 65 + 65 = (i + 1) * 65 by omega, latesC_take h, latesC_drop h, List.set_eq_take_append_cons_drop, if_pos hi, latesC_append]
  simp [latesC]

set_option maxRecDepth 100000 in
theorem strikes_any (W : World) (x : Late) (b bw : Nat) (hc : W.cell? ⟨bw, 0, none⟩ = some (.int .u64 (b : Int))) :
    Calls Tryz.prog 141 #[.agg (lateC x).toArray, .pointer (some ⟨bw, 0, none⟩)] W fun e w' => e = .returned (.bool (decide (x.1 = b))) ∧ Below W.heap.size W w' := by
  have hlt : bw < W.heap.size := World.block_lt_of_cell? W ⟨bw, 0, none⟩ hc
  have hb : Below W.heap.size W (W.alloc (.cells (lateC x).toArray 177)) := (Below.refl _ _).alloc (Nat.le_refl _) _
  have q0 : (W.alloc (.cells (lateC x).toArray 177)).cell? ⟨W.heap.size, 0, none⟩ = some (.int .u64 (x.1 : Int)) := by rw [World.cell?_alloc_mark]; rfl
  have q1 := cell_later hb hc
  have hbx : (Instr.box 177 (.agg (lateC x).toArray)).run Tryz.prog W = .ok (.pointer (some ⟨W.heap.size, 0, none⟩)) (W.alloc (.cells (lateC x).toArray 177)) := rfl
  clear hc
  generalize lateC x = cs at *
  go_enter Tryz.func141, Tryz.ntmps141
  go_wp2
  go_ret
  refine ⟨ret_bool ?_, hb⟩
  by_cases e : x.1 = b
  · simp [e]
  · simp [e]
    omega

/-- where the first one of a bit is; below 0: nowhere. -/
def idxI (L : List Late) (b : Nat) : Int := match L.findIdx? (fun x => decide (x.1 = b)) with
  | some k => (k : Int)
  | none => -1
theorem idxI_some {L : List Late} {b k : Nat} (h : L.findIdx? (fun x => decide (x.1 = b)) = some k) : idxI L b = k := by unfold idxI; rw [h]
theorem idxI_none {L : List Late} {b : Nat} (h : L.findIdx? (fun x => decide (x.1 = b)) = none) : idxI L b = -1 := by unfold idxI; rw [h]
set_option maxRecDepth 100000 in
set_option maxHeartbeats 1000000 in
theorem index_any (w : World) (B g m c b bw : Nat) (L : List Late) (hR : w.ownsRow B 177 65 (.slice (some ⟨g, 0, none⟩) m c) m (latesC L)) (hL : LatesOk L) (hm : L.length = m) (hfew : m ≤ 64) (hc : w.cell? ⟨bw, 0, none⟩ = some (.int .u64 (b : Int))) :
    Calls Tryz.prog 163 #[.slice (some ⟨g, 0, none⟩) m c, .func (.func 141) #[] #[.pointer (some ⟨bw, 0, none⟩)]] w fun e w' =>
      e = .returned (.int .i64 (idxI L b)) ∧ Below w.heap.size w w' := by
  generalize hF : idxI L b = F
  have HF : Hid (idxI L b = F) := hF
  clear hF
  go_enter Tryz.func163, Tryz.ntmps163
  go_wp2
  go_loopw [8] (fun y wr => ∃ k : Nat, k ≤ m ∧ y = .int .i64 k ∧ Below w.heap.size w wr ∧ Hid (∀ j x, j < k → L[j]? = some x → x.1 ≠ b)) (fun y _ => m - (intOf y).toNat)
  case atStart => exact ⟨0, Nat.zero_le _, rfl, Below.refl _ _, fun j x hj => absurd hj (by omega)⟩
  case round =>
    obtain ⟨k, hk, rfl, hb, HN⟩ := hrel
    by_cases hlt : k < m
    · obtain ⟨x, hx⟩ : ∃ x, L[k]? = some x := ⟨_, List.getElem?_eq_getElem (by omega)⟩
      have hxl := hL x (List.mem_of_getElem? hx)
      have hra := row_range (owns_below hR hb) hL hx
      have HC := strikes_any wr x b bw (cell_later hb hc)
      have HL : Hid ((lateC x).length = 65) := lateC_len hxl.2
      have HX : Hid (L[k]? = some x) := hx
      clear hR hL hx hxl hc
      by_cases he : x.1 = b
      · rw [decide_eq_true he] at HC
        have HE : Hid ((k : Int) = F) := by
          refine (idxI_some ?_).symm.trans HF.out
          rw [List.findIdx?_eq_some_iff_getElem]
          have hk2 : k < L.length := by omega
          have hxk : L[k] = x := by
            have := HX.out
            rw [List.getElem?_eq_getElem hk2] at this
            injection this
          refine ⟨hk2, by rw [hxk]; exact decide_eq_true he, fun j hj => ?_⟩
          have := HN.out j L[j] hj (List.getElem?_eq_getElem (by omega))
          simpa using this
        clear HN he
        go_wp2_with (first
          | (refine wpList_load_mid rfl 177 (.tmp 14) rfl g (k * 65) rfl (lateC x) _ hra Tryz.underlying177 rfl (late_info HL.out) ?_))
        refine HC.mono ?_
        rintro e w2 ⟨rfl, hb2⟩
        clear HC
        have hb3 := hb.trans (hb2.mono hb.size)
        go_wp2
        go_ret
        exact ⟨ret_int HE.out, hb3⟩
      · rw [decide_eq_false he] at HC
        have HE : Hid (∀ j x, j < k + 1 → L[j]? = some x → x.1 ≠ b) := fun j y hj hy => by
          by_cases e : j = k
          · subst e
            rw [HX.out] at hy
            injection hy with hy
            rw [← hy]; exact he
          · exact HN.out j y (by omega) hy
        clear HN he
        go_wp2_with (first
          | (refine wpList_load_mid rfl 177 (.tmp 14) rfl g (k * 65) rfl (lateC x) _ hra Tryz.underlying177 rfl (late_info HL.out) ?_))
        refine HC.mono ?_
        rintro e w2 ⟨rfl, hb2⟩
        clear HC
        have hb3 := hb.trans (hb2.mono hb.size)
        go_wp2
        go_roundw
        case rel => exact ⟨k + 1, by omega, by go_num, hb3, HE⟩
        case measure => simp [intOf]; omega
    · have HE : Hid (-1 = F) := by
        refine (idxI_none ?_).symm.trans HF.out
        refine List.findIdx?_eq_none_iff.2 (fun x hx => ?_)
        obtain ⟨j, hj⟩ := List.getElem?_of_mem hx
        have := HN.out j x (by have := (List.getElem?_eq_some_iff.1 hj).1; omega) hj
        simpa using this
      clear HN
      go_wp2
      go_ret
      exact ⟨ret_int HE.out, hb⟩

/-- the row as it is while one is struck. -/
def shiftL (L : List Late) (k i : Nat) : List Late := L.take k ++ (L.drop (k + 1)).take (i - k) ++ L.drop i
theorem shift_get (L : List Late) {k i : Nat} (hk : k ≤ i) (hi : i < L.length) (q : Nat) : (shiftL L k i)[q]? = if q < k then L[q]? else if q < i then L[q + 1]? else L[q]? := by
  unfold shiftL
  have l1 : (L.take k).length = k := by simp; omega
  have l2 : ((L.drop (k + 1)).take (i - k)).length = i - k := by simp; omega
  by_cases h1 : q < k
  · rw [if_pos h1, List.append_assoc, List.getElem?_append_left (by omega), List.getElem?_take_of_lt h1]
  · rw [if_neg h1]
    by_cases h2 : q < i
    · rw [if_pos h2, List.getElem?_append_left (by rw [List.length_append, l1, l2]; omega), List.getElem?_append_right (by omega), l1, List.getElem?_take_of_lt (by omega), List.getElem?_drop]
      congr 1
      omega
    · rw [if_neg h2, List.getElem?_append_right (by rw [List.length_append, l1, l2]; omega), List.length_append, l1, l2, List.getElem?_drop]
      congr 1
      omega
theorem shift_len (L : List Late) {k i : Nat} (hk : k ≤ i) (hi : i < L.length) : (shiftL L k i).length = L.length := by
  unfold shiftL
  simp
  omega
theorem shift_start (L : List Late) {k : Nat} : shiftL L k k = L := by simp [shiftL]
theorem shift_step (L : List Late) {k i : Nat} (hk : k ≤ i) (hi : i + 1 < L.length) {x : Late} (hx : L[i + 1]? = some x) : (shiftL L k i).set i x = shiftL L k (i + 1) := by
  apply List.ext_getElem?
  intro q
  rw [List.getElem?_set, shift_len L hk (by omega), shift_get L hk (by omega), shift_get L (by omega) hi]
  by_cases e : i = q
  · subst e
    rw [if_pos rfl, if_pos (by omega), if_neg (by omega), if_pos (by omega), hx]
  · rw [if_neg e]
    by_cases h1 : q < k
    · rw [if_pos h1, if_pos h1]
    · rw [if_neg h1, if_neg h1]
      by_cases h2 : q < i
      · rw [if_pos h2, if_pos (by omega)]
      · rw [if_neg h2, if_neg (by omega)]
theorem shift_end (L : List Late) {k : Nat} (hk : k < L.length) : (shiftL L k (L.length - 1)).take (L.length - 1) = L.eraseIdx k := by
  unfold shiftL
  have l1 : (L.take k).length = k := by simp; omega
  have l2 : ((L.drop (k + 1)).take (L.length - 1 - k)).length = L.length - 1 - k := by simp; omega
  rw [List.take_append_of_le_length (by rw [List.length_append, l1, l2]; omega), List.take_of_length_le (by rw [List.length_append, l1, l2]; omega), List.take_of_length_le (l := L.drop (k + 1)) (by rw [List.length_drop]; omega), List.eraseIdx_eq_take_drop_succ]
theorem shift_ok {L : List Late} (h : LatesOk L) (k i : Nat) : LatesOk (shiftL L k i) := fun x hx => by
  unfold shiftL at hx
  simp only [List.mem_append] at hx
  rcases hx with (hx | hx) | hx
  · exact h x (List.mem_of_mem_take hx)
  · exact h x (List.mem_of_mem_drop (List.mem_of_mem_take hx))
  · exact h x (List.mem_of_mem_drop hx)
/-- one struck. -/
def struck (L : List Late) (b : Nat) : List Late := L.filter fun x => decide (x.1 ≠ b)
theorem struck_none {L : List Late} {b : Nat} (h : L.findIdx? (fun x => decide (x.1 = b)) = none) : struck L b = L := by
  refine List.filter_eq_self.2 (fun x hx => ?_)
  have := List.findIdx?_eq_none_iff.1 h x hx
  simpa using this
theorem struck_some {L : List Late} {b k : Nat} (hd : (L.map (·.1)).Nodup) (h : L.findIdx? (fun x => decide (x.1 = b)) = some k) : struck L b = L.eraseIdx k ∧ ∀ j x, k < j → L[j]? = some x → x.1 ≠ b := by
  induction L generalizing k with
  | nil => simp at h
  | cons a l ih =>
    rw [List.findIdx?_cons] at h
    simp only [List.map_cons, List.nodup_cons] at hd
    by_cases e : a.1 = b
    · rw [decide_eq_true e] at h
      simp at h
      subst h
      have hno : ∀ x ∈ l, x.1 ≠ b := fun x hx e2 => hd.1 (by rw [e, ← e2]; exact List.mem_map.2 ⟨x, hx, rfl⟩)
      refine ⟨?_, ?_⟩
      · unfold struck
        rw [List.filter_cons, if_neg (by simp [e])]
        simpa using hno
      · intro j x hj hx
        cases j with
        | zero => omega
        | succ j => exact hno x (List.mem_of_getElem? (by simpa using hx))
    · rw [decide_eq_false e] at h
      simp at h
      obtain ⟨k', hk', rfl⟩ := h
      obtain ⟨h1, h2⟩ := ih hd.2 hk'
      refine ⟨?_, ?_⟩
      · unfold struck at h1 ⊢
        rw [List.filter_cons, if_pos (by simp [e]), h1]
        rfl
      · intro j x hj hx
        cases j with
        | zero => omega
        | succ j => exact h2 j x (by omega) (by simpa using hx)
theorem clear_one (w : World) (ty : TypeId) (Z : Array Value) (hal : ∀ w, Sem.run Tryz.prog (zeroValue 177) w = .ok (.agg Z) w) (hZ : Z.size = 65) (h1 : ∀ v ∈ Z.toList, v.oneCell' = true) (g o c : Nat) (ht : w.there g o 65) :
    (Builtin.clear_ #[135] ty #[.slice (some ⟨g, o, none⟩) 1 c]).run Tryz.prog w = .ok (.tuple #[]) (w.setCells g o Z.toList) := by
  have hz : (Builtin.zeroCells Z 1).toList = Z.toList := by
    unfold Builtin.zeroCells
    apply List.ext_getElem
    · simp
    · intro i h2 h3
      have : i < Z.size := by simpa using h3
      simp [Nat.mod_eq_of_lt this, this]
  have hst := run_storeCells_cells (P := Tryz.prog) g o Z.toList 0 w (fun j hj => by simpa using (ht j (by simpa [hZ] using hj)).1) (fun j hj => by simpa using (ht j (by simpa [hZ] using hj)).2) h1
  simp only [Nat.add_zero] at hst
  simp [Builtin.clear_, run_underlying Tryz.underlying135, hal, Value.cells, hz, hst]
theorem there_row {w : World} {B g m c : Nat} {xs : List Value} (h : w.ownsRow B 177 65 (.slice (some ⟨g, 0, none⟩) m c) m xs) (o k : Nat) (hk : o + k ≤ m * 65) : w.there g o k := fun j hj => by
  refine ⟨?_, h.frozenAt _⟩
  rw [h.cellAt (o + j) (by omega), List.getElem?_eq_getElem (by rw [h.1]; omega)]
  rfl
end Go.Proofs.YtidabcoodolddaaGreatDoor

namespace Go.Proofs.YtidabcoodolddaaGreatDoor
open Go.RowKit

theorem index_nil (w : World) (f : Value) :
    Calls Tryz.prog 163 #[.slice none 0 0, f] w fun e w' => e = .returned (.int .i64 (-1)) ∧ w' = w := by
  go_enter Tryz.func163, Tryz.ntmps163
  go_wp2
  go_loop [8] (fun y => y = .int .i64 0) (fun _ => 0)
  case atStart => rfl
  case round =>
    subst hrel
    go_wp2
    go_ret
    exact ⟨rfl, rfl⟩
theorem grownBy_of {w w' : World} {row : Option Nat} (h : Below w.heap.size w w') : w.grownBy w' row := ⟨h.os, h.tape, h.output, h.size, fun k hk _ => h.block k hk⟩

theorem late_zeros : ∃ Z : Array Value, (∀ w, Sem.run Tryz.prog (zeroValue 177) w = .ok (.agg Z) w) ∧ Z.size = 65 ∧ ∀ v ∈ Z.toList, v.oneCell' = true :=
  ⟨#[.int .u64 0] ++ Array.replicate 64 (.int .u8 0), fun w => by kernel_rfl, by simp, fun v hv => by
    simp at hv
    rcases hv with rfl | rfl <;> rfl⟩
/-- a call of DeleteFunc that returned. -/
def DelEnd (w w' : World) (B : Nat) (v : Value) (L : List Late) (b : Nat) (e : Ending) : Prop := ∃ v', e = .returned v' ∧ w'.ownsRow B 177 65 v' (struck L b).length (latesC (struck L b)) ∧ v'.ownBlock = v.ownBlock ∧ w.grownBy w' v.ownBlock

set_option maxRecDepth 100000 in
set_option maxHeartbeats 2000000 in
theorem delete_any (w : World) (B m b bw : Nat) (v : Value) (L : List Late) (hR : w.ownsRow B 177 65 v m (latesC L)) (hL : LatesOk L) (hd : (L.map (·.1)).Nodup) (hm : L.length = m) (hfew : m ≤ 64) (hc : w.cell? ⟨bw, 0, none⟩ = some (.int .u64 (b : Int))) (hbw : v.ownBlock ≠ some bw) :
    Calls Tryz.prog 140 #[v, .func (.func 141) #[] #[.pointer (some ⟨bw, 0, none⟩)]] w fun e w' => DelEnd w w' B v L b e := by
  rcases hR.2 with ⟨rfl, h0⟩ | ⟨g, cap, cur, rfl, hBg, hg, hle, hcm, _, _⟩
  · have HI := index_nil w (.func (.func 141) #[] #[.pointer (some ⟨bw, 0, none⟩)])
    have hLe : L = [] := List.eq_nil_of_length_eq_zero (by omega)
    subst hLe
    go_enter Tryz.func140, Tryz.ntmps140
    go_wp2_with fail
    refine HI.mono ?_
    rintro e w2 ⟨rfl, rfl⟩
    clear HI
    go_wp2
    go_ret
    exact ⟨_, rfl, World.ownsRow_nil _ _ _ _, rfl, ⟨rfl, rfl, rfl, Nat.le_refl _, fun _ _ _ => rfl⟩⟩
  · have HI := index_any w B g m cap b bw L hR hL hm hfew hc
    cases hF : L.findIdx? (fun x => decide (x.1 = b)) with
    | none =>
      rw [idxI_none hF] at HI
      have HE : Hid (struck L b = L) := struck_none hF
      have HR : Hid (w.ownsRow B 177 65 (.slice (some ⟨g, 0, none⟩) m cap) m (latesC L)) := hR
      clear hF hR hL hd hc hbw hg
      go_enter Tryz.func140, Tryz.ntmps140
      go_wp2_with fail
      refine HI.mono ?_
      rintro e w2 ⟨rfl, hb2⟩
      clear HI
      go_wp2
      go_ret
      refine ⟨_, rfl, ?_, rfl, grownBy_of hb2⟩
      rw [HE.out, hm]
      exact owns_below HR.out hb2
    | some k0 =>
      rw [idxI_some hF] at HI
      obtain ⟨hst, hno⟩ := struck_some hd hF
      have hk0 : k0 < m := by
        obtain ⟨h1, _⟩ := List.findIdx?_eq_some_iff_getElem.1 hF
        omega
      obtain ⟨Z, hal, hZ, hZ1⟩ := late_zeros
      have hne1 : ((k0 : Int) == -1) = false := beq_eq_false_iff_ne.2 (by omega)
      have HST : Hid (struck L b = L.eraseIdx k0) := hst
      have HNO : Hid (∀ j x, k0 < j → L[j]? = some x → x.1 ≠ b) := hno
      have HSR : Hid (w.ownsRow B 177 65 (.slice (some ⟨g, 0, none⟩) m cap) m (latesC (shiftL L k0 k0))) := by rw [shift_start]; exact hR
      have hgw : g ≠ bw := fun e => hbw (by rw [e]; rfl)
      have hL0 : Hid (LatesOk L) := hL
      clear hF hst hno hR hd
      go_enter Tryz.func140, Tryz.ntmps140
      go_wp2_with fail
      refine HI.mono ?_
      rintro e w1 ⟨rfl, hb1⟩
      clear HI
      go_wp2
      go_loopw [5, 6] (fun y z wr => ∃ i : Nat, k0 ≤ i ∧ i < m ∧ y = .int .i64 i ∧ z = .int .i64 (i + 1) ∧ w.grownBy wr (some g) ∧ Hid (wr.ownsRow B 177 65 (.slice (some ⟨g, 0, none⟩) m cap) m (latesC (shiftL L k0 i)))) (fun y _ _ => m - (intOf y).toNat)
      case atStart => exact ⟨k0, Nat.le_refl _, hk0, rfl, rfl, grownBy_of hb1, owns_below HSR.out hb1⟩
      case round =>
        obtain ⟨i, hki, him, rfl, rfl, hgr, HO⟩ := hrel
        clear HSR
        have hwc := hgr.cell hc (show some bw ≠ some g by simpa using Ne.symm hgw)
        by_cases hlt : i + 1 < m
        · obtain ⟨x, hx⟩ : ∃ x, L[i + 1]? = some x := ⟨_, List.getElem?_eq_getElem (by omega)⟩
          have hxl := hL x (List.mem_of_getElem? hx)
          have hra := row_range HO.out (shift_ok hL k0 i) (k := i + 1) (x := x) (by rw [shift_get L hki (by omega), if_neg (by omega), if_neg (by omega)]; exact hx)
          have hbA : Below wr.heap.size wr (wr.alloc (.cells (lateC x).toArray 177)) := (Below.refl _ _).alloc (Nat.le_refl _) _
          have hnr : (wr.alloc (.cells (lateC x).toArray 177)).rangeAt wr.heap.size 0 (lateC x) := range_new wr _ _ 0 _ (fun j u hj => by rw [Nat.zero_add]; exact hj)
          have HC := strikes_any (wr.alloc (.cells (lateC x).toArray 177)) x b bw (cell_later hbA hwc)
          rw [decide_eq_false (HNO.out (i + 1) x (by omega) hx)] at HC
          have HL : Hid ((lateC x).length = 65) := lateC_len hxl.2
          have HX : Hid (L[i + 1]? = some x) := hx
          clear hx hxl hL
          have hltz : (i : Int) + 1 < (m : Int) := by omega
          go_wp2_with (first
            | (refine wpList_load_mid rfl 177 (.tmp 24) rfl g ((i + 1) * 65) rfl (lateC x) _ hra Tryz.underlying177 rfl (late_info HL.out) ?_)
            | (refine wpList_fill rfl 177 (.tmp 7) (.tmp 25) rfl wr Z rfl (lateC x) rfl rfl (hZ.trans HL.out.symm) (late_info HL.out) (lateC_one x) ?_)
            | (refine wpList_load_mid rfl 177 (.tmp 7) rfl wr.heap.size 0 rfl (lateC x) _ hnr Tryz.underlying177 rfl (late_info HL.out) ?_))
          refine HC.mono ?_
          rintro e w2 ⟨rfl, hb2⟩
          clear HC
          have hb3 := hbA.trans (hb2.mono hbA.size)
          have hnr2 : w2.rangeAt wr.heap.size 0 (lateC x) := fun j u hj => (hb2.cell (p := ⟨wr.heap.size, 0 + j, none⟩) (by simp)).trans (hnr j u hj)
          have hO2 := owns_below HO.out hb3
          have hsl := shift_len L hki (show i < L.length by omega)
          have hth : w2.there g (i * 65) (lateC x).toArray.size := by
            have := there_row hO2 (i * 65) 65 (by omega)
            simpa [HL.out] using this
          obtain ⟨hO3, hg3⟩ := owns_segment (lateC x) (i * 65) w2 _ hO2 (by rw [HL.out, latesC_length (shift_ok hL0.out k0 i), hsl]; omega)
          rw [HL.out, latesC_set (shift_ok hL0.out k0 i) (by omega) x, shift_step L hki (by omega) HX.out] at hO3
          have HO3 : Hid ((w2.setCells g (i * 65) (lateC x)).ownsRow B 177 65 (.slice (some ⟨g, 0, none⟩) m cap) m (latesC (shiftL L k0 (i + 1)))) := hO3
          have hg4 := (hgr.trans (grownBy_of hb3)).trans hg3
          clear hO3 hO2 hg3 HO hnr hra hwc
          go_wp2_with (first
            | (refine wpList_load_mid rfl 177 (.tmp 7) rfl wr.heap.size 0 rfl (lateC x) _ hnr2 Tryz.underlying177 rfl (late_info HL.out) ?_)
            | (refine wpList_store_mid rfl 177 (.tmp 33) (.tmp 32) rfl g (i * 65) (lateC x).toArray rfl rfl hth (by simpa using late_info HL.out) (all_oneCell_toArray (lateC_one x)) ?_))
          go_roundw
          case rel => exact ⟨i + 1, by omega, hlt, by go_num, by go_num, hg4, HO3⟩
          case measure => simp [intOf]; omega
        · obtain rfl : m = i + 1 := by omega
          have hth : wr.there g (i * 65) 65 := there_row HO.out (i * 65) 65 (by omega)
          have hcl := fun ty => clear_one wr ty Z hal hZ hZ1 g (i * 65) (cap - i) hth
          obtain ⟨hO3, hg3⟩ := owns_segment Z.toList (i * 65) wr _ HO.out (by rw [latesC_length (shift_ok hL0.out k0 i), shift_len L hki (by omega)]; simp [hZ]; omega)
          have hlen : (L.eraseIdx k0).length = i := by rw [List.length_eraseIdx, if_pos (by omega)]; omega
          have hO4 : (wr.setCells g (i * 65) Z.toList).ownsRow B 177 65 (.slice (some ⟨g, 0, none⟩) i cap) i (latesC (L.eraseIdx k0)) := by
            rcases hO3.2 with ⟨h', _⟩ | ⟨g', cap', cur', h', hb', hg', hnc', hcm', hcs', htake⟩
            · simp at h'
            · injection h' with e1 _ e2
              injection e1 with e1
              injection e1 with e1
              subst e1
              subst e2
              refine ⟨?_, .inr ⟨g, cap, cur', rfl, hb', hg', by omega, hcm', hcs', ?_⟩⟩
              · rw [latesC_length (fun x hx => hL0.out x (List.mem_of_mem_eraseIdx hx)), hlen]
              · have : cur'.toList.take (i * 65) = (cur'.toList.take ((i + 1) * 65)).take (i * 65) := by rw [List.take_take, Nat.min_eq_left (by omega)]
                have hse := shift_end L (k := k0) (by omega)
                rw [show L.length - 1 = i by omega] at hse
                rw [this, htake, List.append_assoc, List.take_append_of_le_length (by rw [List.length_take, latesC_length (shift_ok hL0.out k0 i), shift_len L hki (by omega)]; omega), List.take_take, Nat.min_self, latesC_take (shift_ok hL0.out k0 i), hse]
          have HO4 : Hid ((wr.setCells g (i * 65) Z.toList).ownsRow B 177 65 (.slice (some ⟨g, 0, none⟩) i cap) i (latesC (L.eraseIdx k0))) := hO4
          have hg4 := hgr.trans hg3
          have HLE : Hid ((L.eraseIdx k0).length = i) := hlen
          have b1 : (i : Int) ≤ (cap : Int) := by omega
          clear hO3 hO4 HO hth hg3 hlen
          go_wp2
          go_ret
          refine ⟨_, rfl, ?_, rfl, hg4⟩
          rw [HST.out, HLE.out]
          exact HO4.out
end Go.Proofs.YtidabcoodolddaaGreatDoor

namespace Go.Proofs.YtidabcoodolddaaGreatDoor
open Go.RowKit

theorem struck_ok {L : List Late} (h : LatesOk L) (b : Nat) : LatesOk (struck L b) := fun x hx => h x (List.mem_filter.1 hx).1
theorem struck_once {L : List Late} (h : (L.map (·.1)).Nodup) (b : Nat) (d : List UInt8) : ((struck L b ++ [(b, d)]).map (·.1)).Nodup := by
  rw [List.map_append, List.nodup_append]
  refine ⟨?_, by simp, ?_⟩
  · unfold struck
    exact (List.filter_sublist.map _).nodup h
  · intro x hx y hy
    simp at hy
    subst hy
    obtain ⟨z, hz, rfl⟩ := List.mem_map.1 hx
    unfold struck at hz
    have := (List.mem_filter.1 hz).2
    simpa using this
theorem Spun.grown {B : Nat} {w w' : World} {row : Option Nat} (hg : w.grownBy w' row) (hr : ∀ k, row = some k → B ≤ k ∧ ∃ c, w.heap[k]? = some (.cells c 177 (0, 0))) (hB : B ≤ w.heap.size) : Spun B w w' :=
  ⟨⟨hg.os, hg.tape, hg.output, hg.size, fun k hk => hg.block k (by omega) (fun e => by have := (hr k e.symm).1; omega)⟩, fun k o hk ho => by
    by_cases e : some k = row
    · obtain ⟨_, c, hc⟩ := hr k e.symm
      rw [hk] at hc
      injection hc with hc
      exact absurd ⟨c, _, _, hc, .inr (.inr rfl)⟩ ho
    · rw [hg.block k (Array.getElem?_eq_some_iff.1 hk).1 e]; exact hk⟩
/-- what append leaves, and the store behind it. -/
def AddEnd (w : World) (B p bs n : Nat) (s : DSt) (v : Nat → Value) (i b : Nat) (d : List UInt8) (v'' : Value) (X' : World) : Prop :=
  (∃ a m c, v'' = .slice a m c) ∧ X'.cell? ⟨bs, i * 65 + 64, none⟩ = some (v i) ∧ X'.frozen? ⟨bs, i * 65 + 64, none⟩ = false ∧
      DiskAt (X'.setCell ⟨bs, i * 65 + 64, none⟩ v'') B p bs n (s.at i ⟨(s.K i).kept, struck (s.K i).late b ++ [(b, d)]⟩) (fun j => if j = i then v'' else v j) ∧ Spun B w (X'.setCell ⟨bs, i * 65 + 64, none⟩ v'')
theorem range_grown {w w' : World} {row : Option Nat} (h : w.grownBy w' row) {k o : Nat} {l : List Value} (hr : w.rangeAt k o l) (hne : some k ≠ row) : w'.rangeAt k o l := fun j u hj => h.cell (hr j u hj) hne
set_option maxRecDepth 100000 in
theorem add_end {w X : World} {B p bs n : Nat} {s : DSt} {v : Nat → Value} (h : DiskAt w B p bs n s v) {i : Nat} (hi : i < n) {b : Nat} (hb : b < 64) {d : List UInt8} (hd : d.length = 64) {v' : Value} (hg : w.grownBy X (v i).ownBlock)
    (hO : X.ownsRow B 177 65 v' (struck (s.K i).late b).length (latesC (struck (s.K i).late b))) (hvb : v'.ownBlock = (v i).ownBlock) {a : Nat} (hsrc : X.rangeAt a 0 (lateC (b, d))) :
    ∃ v'' X', (Builtin.append_ #[135, 135] 135 #[v', .slice (some ⟨a, 0, none⟩) 1 1]).run Tryz.prog X = .ok v'' X' ∧ AddEnd w B p bs n s v i b d v'' X' := by
  obtain ⟨x, hx, hp⟩ := Option.map_eq_some_iff.1 (show (Tryz.prog.info? 177).map (fun i => (i.zero.map (·.cells.size), i.size, i.bytes)) = some (some 65, 65, 72) by kernel_rfl)
  simp only [Prod.mk.injEq] at hp
  obtain ⟨h1, h2, h3⟩ := hp
  obtain ⟨z, hz, hzc⟩ := Option.map_eq_some_iff.1 h1
  have hfew := (h.ok i hi).few
  have hsf : (struck (s.K i).late b).length ≤ (s.K i).late.length := List.length_filter_le _ _
  have hBs : B ≤ X.heap.size := by have := h.bp; have := h.lt; have := hg.size; omega
  obtain ⟨v'', X', hrun, hO2, hg2, _, hbl⟩ := run_append_own_at (P := Tryz.prog) X B 135 135 177 x z 65 72 Tryz.underlying135 hx hz h2 h3 hzc (by decide) v' _ _ hO ⟨a, 0, none⟩ 1 1 (lateC (b, d)) (by rw [lateC_len hd])
    (fun j u hj => by rw [Addr.add_mid]; exact hsrc j u hj) (lateC_one _) (by simp only [maxLen]; omega) (by omega) hBs
  rw [hvb] at hg2 hbl
  have hgg := hg.trans hg2
  have hnb : some bs ≠ (v i).ownBlock := fun e => by
    obtain ⟨c', hc'⟩ := own_type (h.rows i hi) e.symm
    obtain ⟨C, hC⟩ := h.sec
    rw [hC] at hc'
    simp at hc'
  have hnp : some p ≠ (v i).ownBlock := fun e => by
    obtain ⟨c', hc'⟩ := own_type (h.rows i hi) e.symm
    rw [h.blk] at hc'
    simp at hc'
  obtain ⟨C, hC⟩ := h.sec
  have hk := (h.ok i hi).kept
  have hcell : w.cell? ⟨bs, i * 65 + 64, none⟩ = some (v i) := h.cells i hi 64 _ (by rw [List.getElem?_append_right (by simp [hk])]; simp [hk])
  have hC2 : X'.heap[bs]? = some (.cells C 137 (0, 0)) := (hgg.block bs h.ltb hnb).trans hC
  have hcell2 : X'.cell? ⟨bs, i * 65 + 64, none⟩ = some (v i) := hgg.cell hcell hnb
  have hsp : Spun B w X' := Spun.grown hgg (fun k e => ⟨((h.rows i hi).lt k e).1, own_type (h.rows i hi) e⟩) (by have := h.bp; have := h.lt; omega)
  have hl : (struck (s.K i).late b ++ [(b, d)]).length = (struck (s.K i).late b).length + 1 := by simp
  obtain ⟨ax, cx, hvx, _⟩ := owns_shape hO2
  refine ⟨v'', X', hrun, ⟨_, _, _, hvx⟩, hcell2, by simp [World.frozen?, hC2], ?_, hsp.trans (Spun.set (i := i * 65 + 64) hC2 h.bb (.inr (.inl rfl)) v'')⟩
  refine h.turn hi (l := struck (s.K i).late b ++ [(b, d)]) ?_ (struck_once (h.ok i hi).once b d) ?_ ?_ ?_ ⟨_, heap_setC _ _ _ _ _ _ _ hC2⟩ ?_ (World.cell?_setCell_same _ _ _ hcell2) ?_
  · intro y hy
    rcases List.mem_append.1 hy with hy | hy
    · exact struck_ok (h.ok i hi).late b y hy
    · simp at hy; subst hy; exact ⟨hb, hd⟩
  · rw [hl, latesC_append, show latesC [(b, d)] = lateC (b, d) by simp [latesC]]
    refine own_kept hO2 (fun k hk => Below.heap_setCell _ _ _ _ (fun e => ?_))
    obtain ⟨c', hc'⟩ := own_type hO2 hk
    subst e
    rw [hC2] at hc'
    simp at hc'
  · rcases hbl with h0 | h0
    · exact .inr (.inl h0)
    · exact .inr (.inr ⟨_, h0, hg.size⟩)
  · exact (Below.heap_setCell _ _ _ _ h.ne).trans (hgg.block p h.lt hnp)
  · intro j hj
    rw [World.cell?_setCell_other _ _ _ _ (fun e => hj (by injection e with _ e _; exact e.symm))]
    exact World.cell?_of_block (hgg.block bs h.ltb hnb)
  · intro k hk hne hnr
    rw [Below.heap_setCell _ _ _ _ hne]
    exact hgg.block k hk hnr
theorem fold_set (cs : List Value) : ∀ (z : Array Value), z.size = cs.length → (cs.toArray.zipIdx.foldl (fun a (x : Value × Nat) => a.setIfInBounds (0 + x.2) x.1) z) = cs.toArray := by
  intro z hz
  have key : ∀ (l : List Value) (o : Nat) (z : Array Value), o + l.length ≤ z.size → ((l.zipIdx o).foldl (fun a (x : Value × Nat) => a.setIfInBounds (0 + x.2) x.1) z).toList = z.toList.take o ++ l ++ z.toList.drop (o + l.length) := by
    intro l
    induction l with
    | nil => intro o z _; simp
    | cons a l ih =>
      intro o z h
      simp only [List.length_cons] at h
      simp only [List.zipIdx_cons, List.foldl_cons]
      rw [ih (o + 1) _ (by simp; omega)]
      have e1 : (z.setIfInBounds (0 + o) a).toList = z.toList.set o a := by simp
      rw [e1]
      have e2 : (z.toList.set o a).take (o + 1) = z.toList.take o ++ [a] := by
        rw [List.take_set, List.take_succ_eq_append_getElem (by simp; omega), List.set_append_right _ _ (by simp; omega)]
        simp [Nat.min_eq_left (show o ≤ z.size by omega)]
      rw [e2, List.drop_set_of_lt (by omega)]
      simp [Nat.add_comm, Nat.add_left_comm]
  apply Array.ext'
  have := key cs 0 z (by omega)
  rw [List.drop_of_length_le (by simp; omega)] at this
  simpa using this
theorem build_one (W : World) (y : Late) (hy : y.2.length = 64) : (Instr.buildSlice 135 1 #[(0, .agg (lateC y).toArray)]).run Tryz.prog W = .ok (.slice (some ⟨W.heap.size, 0, none⟩) 1 1) (W.alloc (.cells (lateC y).toArray 177)) := by
  obtain ⟨Z, hal, hZ, _⟩ := late_zeros
  have hsz : ∀ w, (Go.sizeOf 177).run Tryz.prog w = .ok 65 w := fun w => by kernel_rfl
  have hl := lateC_len hy
  have hf := fold_set (lateC y) ((Array.range (1 * 65)).map (Z[· % Z.size]!)) (by simp [hl])
  simp [Instr.buildSlice, run_underlying Tryz.underlying135, hsz, hal, Value.cells, Instr.fill, hl, newRow] at hf ⊢
  rw [hf]

/-- what DeleteFunc leaves. -/
structure DelIs (w X w' : World) (B : Nat) (v : Value) (L : List Late) (b : Nat) (v' : Value) : Prop where
  own : w'.ownsRow B 177 65 v' (struck L b).length (latesC (struck L b))
  blk : v'.ownBlock = v.ownBlock
  near : X.grownBy w' v.ownBlock
  far : w.grownBy w' v.ownBlock
/-- the load of one that is late, not to be laid open. -/
def ldLate (v : Value) : Sem Value := Instr.loadAt 177 v
theorem ldLate_eq (v : Value) : Instr.loadAt 177 v = ldLate v := rfl
def bsLate (l : Array (Nat × Value)) : Sem Value := Instr.buildSlice 135 1 l
theorem bsLate_eq (l : Array (Nat × Value)) : Instr.buildSlice 135 1 l = bsLate l := rfl
attribute [local go_sem ↓] ldLate_eq bsLate_eq
attribute [local go_sem ↓] Go.wp_at_zero Go.wp_at_succ
set_option maxRecDepth 100000 in
set_option maxHeartbeats 4000000 in
theorem add_any (w : World) (B p bs n : Nat) (s : DSt) (v : Nat → Value) (i b : Nat) (d : List UInt8) (h : DiskAt w B p bs n s v) (hi : i < n) (hb : b < 64) (hd : d.length = 64) :
    Calls Tryz.prog 116 #[.pointer (some ⟨bs, i * 65, none⟩), .agg (lateC (b, d)).toArray] w fun e w' => e = .returned (.tuple #[]) ∧ (∃ v', DiskAt w' B p bs n (s.at i ⟨(s.K i).kept, struck (s.K i).late b ++ [(b, d)]⟩) v') ∧ Spun B w w' := by
  have hk := (h.ok i hi).kept
  have hbA : Below w.heap.size w (w.alloc (.cells (lateC (b, d)).toArray 177)) := (Below.refl _ _).alloc (Nat.le_refl _) _
  have hbx : (Instr.box 177 (.agg (lateC (b, d)).toArray)).run Tryz.prog w = .ok (.pointer (some ⟨w.heap.size, 0, none⟩)) (w.alloc (.cells (lateC (b, d)).toArray 177)) := rfl
  have hs1 : (w.alloc (.cells (lateC (b, d)).toArray 177)).cell? ⟨bs, i * 65 + 64, none⟩ = some (v i) := cell_later hbA (h.cells i hi 64 _ (by rw [List.getElem?_append_right (by simp [hk])]; simp [hk]))
  have hnr : (w.alloc (.cells (lateC (b, d)).toArray 177)).rangeAt w.heap.size 0 (lateC (b, d)) := range_new w _ _ 0 _ (fun j u hj => by rw [Nat.zero_add]; exact hj)
  have hbs : ∀ W, (bsLate #[(0, .agg (lateC (b, d)).toArray)]).run Tryz.prog W = .ok (.slice (some ⟨W.heap.size, 0, none⟩) 1 1) (W.alloc (.cells (lateC (b, d)).toArray 177)) := fun W => build_one W (b, d) hd
  have hmf : ∀ (fn : Fn) (first cap : Array Value) (w : World), (Instr.makeFunc fn first cap).run Tryz.prog w = .ok (.func fn first cap) w := fun _ _ _ _ => rfl
  have HD : ∀ X, Below (w.alloc (.cells (lateC (b, d)).toArray 177)).heap.size (w.alloc (.cells (lateC (b, d)).toArray 177)) X → Calls Tryz.prog 140 #[v i, .func (.func 141) #[] #[.pointer (some ⟨w.heap.size, 0, none⟩)]] X fun e w' => ∃ v', e = .returned v' ∧ DelIs w X w' B (v i) (s.K i).late b v' := fun X hX =>
    (delete_any X B _ b w.heap.size (v i) (s.K i).late (owns_below (h.rows i hi) (hbA.trans (hX.mono hbA.size))) (h.ok i hi).late (h.ok i hi).once rfl (h.ok i hi).few (cell_later hX (hnr 0 _ rfl)) (fun e => by have := ((h.rows i hi).lt _ e).2; omega)).mono fun e w' ⟨v', he, h1, h2, h3⟩ => ⟨v', he, h1, h2, h3, (grownBy_of (hbA.trans (hX.mono hbA.size))).trans h3⟩
  have hrow : (v i).ownBlock ≠ some w.heap.size := fun e => by have := ((h.rows i hi).lt _ e).2; omega
  have hrow1 : (v i).ownBlock ≠ some (w.alloc (.cells (lateC (b, d)).toArray 177)).heap.size := fun e => by have := ((h.rows i hi).lt _ e).2; simp at this; omega
  have hl65 : (lateC (b, d)).length = 65 := lateC_len hd
  have h1c := lateC_one (b, d)
  have hu := Tryz.underlying177
  have hi70 := late_info hl65
  generalize hcs : lateC (b, d) = cs at *
  have HCS : Hid (lateC (b, d) = cs) := hcs
  obtain ⟨a0, c0, hv, _⟩ := owns_shape (h.rows i hi)
  have HV : Hid (v i = .slice a0 (s.K i).late.length c0) := hv
  rw [hv] at hs1 HD hrow hrow1
  have HHD : Hid (DiskAt w B p bs n s v) := h
  have hld : ∀ X, X.rangeAt w.heap.size 0 cs → (ldLate (.pointer (some ⟨w.heap.size, 0, none⟩))).run Tryz.prog X = .ok (.agg cs.toArray) X := fun X hX => run_loadAt_mid X _ _ _ _ _ hX hu rfl hi70
  have HE : ∀ (X : World) (v' : Value) (a : Nat), Hid (w.grownBy X (Value.slice a0 (s.K i).late.length c0).ownBlock) → Hid (X.ownsRow B 177 65 v' (struck (s.K i).late b).length (latesC (struck (s.K i).late b))) → Hid (v'.ownBlock = (Value.slice a0 (s.K i).late.length c0).ownBlock) → Hid (X.rangeAt a 0 cs) →
      ∃ v'' X', (Builtin.append_ #[135, 135] 135 #[v', .slice (some ⟨a, 0, none⟩) 1 1]).run Tryz.prog X = .ok v'' X' ∧ AddEnd w B p bs n s v i b d v'' X' := fun X v' a e1 e2 e3 e4 => by
    rw [← hv] at e1 e3
    rw [← hcs] at e4
    exact add_end h hi hb hd e1.out e2.out e3.out e4.out
  clear hcs h hv
  generalize hW : w.alloc (.cells cs.toArray 177) = W at *
  have hsz : w.heap.size < W.heap.size := by rw [← hW]; simp
  have l1 := hld W.drew (by simpa using hnr)
  have hs2 : ∀ ob : Obj, (W.alloc ob).cell? ⟨bs, i * 65 + 64, none⟩ = some (.slice a0 (s.K i).late.length c0) := fun ob => cell_later ((Below.refl _ _).alloc (Nat.le_refl _) _) hs1
  clear hi70 hu h1c hd hi hb hk
  go_enter Tryz.func116, Tryz.ntmps116
  go_wp2
  go_region_law (first
    | (refine step_own (R := AddEnd w B p bs n s v i b d) rfl (.tmp 10) (.tmp 12) 135 rfl v' (.slice (some ⟨w2.heap.size, 0, none⟩) 1 1) rfl rfl ?hrun ?_; (case hrun => exact HE (w2.alloc (.cells cs.toArray 177)) v' w2.heap.size (hDI.far.trans (grownBy_of ((Below.refl _ _).alloc (Nat.le_refl _) _))) (hDI.own.alloc _) hDI.blk (range_new w2 _ _ 0 _ (fun j u hj => by rw [Nat.zero_add]; exact hj))); rintro v'' X' ⟨⟨a2, m2, c2, rfl⟩, q1, q2, q3, q4⟩)
    | (refine step_own (R := AddEnd w B p bs n s v i b d) rfl (.tmp 10) (.tmp 12) 135 rfl v' (.slice (some ⟨W.heap.size, 0, none⟩) 1 1) rfl rfl ?hrun ?_; (case hrun => exact HE w2 v' W.heap.size hDI.far hDI.own hDI.blk (range_grown hDI.near (range_new W.drew _ _ 0 _ (fun j u hj => by rw [Nat.zero_add]; exact hj)) (Ne.symm hrow1))); rintro v'' X' ⟨⟨a2, m2, c2, rfl⟩, q1, q2, q3, q4⟩)
    | (go_simp; go_at_call 140; refine (HD _ ?hb).mono ?_; (case hb => first | exact (Below.refl _ _).drew | exact ((Below.refl _ _).drew).alloc (Nat.le_refl _) _); rintro e w2 ⟨v', rfl, hDI⟩; have l2 := hld w2 (range_grown hDI.near (by first | exact hnr | exact World.rangeAt_alloc (w := W.drew) hnr _) (Ne.symm hrow))))
  all_goals
    go_end0
    exact ⟨rfl, ⟨_, q3⟩, q4⟩
end Go.Proofs.YtidabcoodolddaaGreatDoor

namespace Go.Proofs.YtidabcoodolddaaGreatDoor
open Go.RowKit

/-- a text as a sector's bytes: noughts behind it. -/
def padB (t : List UInt8) : List UInt8 := t ++ List.replicate (64 - t.length) 0
theorem padB_len {t : List UInt8} (h : t.length ≤ 64) : (padB t).length = 64 := by simp [padB]; omega
/-- a Write that goes through. -/
def DSt.put (s : DSt) (i : Nat) (d : List UInt8) : DSt := { s.at i ⟨(s.K i).kept, struck (s.K i).late s.next ++ [(s.next, d)]⟩ with next := (s.next + 1) % 64 }
theorem write_bound (w : World) (B p bs n : Nat) (s : DSt) (v : Nat → Value) (at' : Int) (t : ByteArray) (h : DiskAt w B p bs n s v) (hf : ¬ (0 ≤ at' ∧ at' < n) ∨ 64 < t.size) (ht : t.size ≤ maxLen) :
    Calls Tryz.prog 89 #[.pointer (some ⟨p, 0, none⟩), .int .i64 at', .string t] w fun e w' => e = .returned (errV 1) ∧ w' = w := by
  have HH := has_any w B p bs n s v at' h
  unfold maxLen at ht
  clear h
  by_cases h1 : 0 ≤ at' ∧ at' < n
  · have hdec : (decide (0 ≤ at') && decide (at' < n)) = true := by simp; exact h1
    rw [hdec] at HH
    have h2 : 64 < t.size := by
      rcases hf with hf | hf
      · exact absurd h1 hf
      · exact hf
    have h3 : (64 : Int) < (t.size : Int) := by omega
    clear hdec h1 hf h2
    go_enter Tryz.func89, Tryz.ntmps89
    go_wp2_with fail
    refine HH.mono ?_
    rintro e w1 ⟨rfl, rfl⟩
    clear HH
    go_wp2
    go_ret
    exact ⟨rfl, rfl⟩
  · have hdec : (decide (0 ≤ at') && decide (at' < n)) = false := by simp; omega
    rw [hdec] at HH
    clear hdec h1 hf
    go_enter Tryz.func89, Tryz.ntmps89
    go_wp2_with fail
    refine HH.mono ?_
    rintro e w1 ⟨rfl, rfl⟩
    clear HH
    go_wp2
    go_ret
    exact ⟨rfl, rfl⟩
theorem write_falls (w : World) (B p bs n : Nat) (s : DSt) (v : Nat → Value) (i : Nat) (t : ByteArray) (h : DiskAt w B p bs n s v) (hi : i < n) (ht : t.size ≤ 64) (hf : s.falls = true) :
    Calls Tryz.prog 89 #[.pointer (some ⟨p, 0, none⟩), .int .i64 (i : Int), .string t] w fun e w' => e = .returned (errV 9) ∧ DiskAt w' B p bs n s.fell v ∧ Spun B w w' := by
  have HH := has_any w B p bs n s v (i : Int) h
  have HS := step_falls w B p bs n s v h hf
  have hdec : (decide (0 ≤ (i : Int)) && decide ((i : Int) < (n : Int))) = true := by simp; exact hi
  rw [hdec] at HH
  have h3 : ¬ (64 : Int) < (t.size : Int) := by omega
  have q9 : errV 9 = .iface 82 (.int .i64 9) := rfl
  clear h hdec
  rw [q9] at HS
  go_enter Tryz.func89, Tryz.ntmps89
  go_wp2_with fail
  refine HH.mono ?_
  rintro e w1 ⟨rfl, rfl⟩
  clear HH
  go_wp2_with fail
  refine HS.mono ?_
  rintro e w2 ⟨rfl, hD, hS⟩
  clear HS
  go_wp2
  go_ret
  exact ⟨rfl, hD, hS⟩
def noughts : List UInt8 := List.replicate 64 0
theorem noughts_len : noughts.length = 64 := by simp [noughts]
/-- one that is late, made of its bit. -/
theorem build_late (w : World) (b : Int) : (Instr.build 177 #[(0, .int .u64 b)]).run Tryz.prog w = .ok (.agg (.int .u64 b :: bytesV (noughts)).toArray) w := by kernel_rfl
def bdLate (l : Array (Nat × Value)) : Sem Value := Instr.build 177 l
theorem bdLate_eq (l : Array (Nat × Value)) : Instr.build 177 l = bdLate l := rfl
theorem pad_filled (w : World) (b : Nat) (t : ByteArray) (ht : t.size ≤ 64) : (w.alloc (.cells (lateC (b, noughts)).toArray 177)).setCells w.heap.size 1 (bytesV t.data.toList) = w.alloc (.cells (lateC (b, padB t.data.toList)).toArray 177) := by
  have hl : t.data.toList.length = t.size := by simp
  rw [setCells_new w _ _ _ 1 _ (by simp [lateC, noughts_len]; omega)]
  congr 3
  have e1 : (lateC (b, noughts)).toArray.toList = .int .u64 (b : Int) :: bytesV (noughts) := rfl
  rw [e1]
  have e2 : lateC (b, padB t.data.toList) = .int .u64 (b : Int) :: (bytesV t.data.toList ++ bytesV (List.replicate (64 - t.data.toList.length) 0)) := by
    simp [lateC, padB, bytesV]
  rw [e2]
  simp only [List.take_succ_cons, List.take_zero, bytesV_length, List.cons_append, List.nil_append]
  rw [Nat.add_comm 1, List.drop_succ_cons]
  congr 2
  unfold bytesV noughts
  rw [← List.map_drop, List.drop_replicate]

attribute [local go_sem ↓] ldLate_eq bdLate_eq
attribute [local go_sem ↓] Go.wp_at_zero Go.wp_at_succ
set_option maxRecDepth 100000 in
set_option maxHeartbeats 4000000 in
theorem write_goes (w : World) (B p bs n : Nat) (s : DSt) (v : Nat → Value) (i : Nat) (t : ByteArray) (h : DiskAt w B p bs n s v) (hi : i < n) (ht : t.size ≤ 64) (hf : s.falls = false) (hl : s.left ≤ 9223372036854775807) :
    Calls Tryz.prog 89 #[.pointer (some ⟨p, 0, none⟩), .int .i64 (i : Int), .string t] w fun e w' => e = .returned .nilIface ∧ (∃ v', DiskAt w' B p bs n (s.stepped.put i (padB t.data.toList)) v') ∧ Spun B w w' := by
  have HH := has_any w B p bs n s v (i : Int) h
  have HS := step_goes w B p bs n s v h hf hl
  have hdec : (decide (0 ≤ (i : Int)) && decide ((i : Int) < (n : Int))) = true := by simp; exact hi
  rw [hdec] at HH
  have h3 : ¬ (64 : Int) < (t.size : Int) := by omega
  have hfew := h.few
  obtain ⟨Z, hal, hZ⟩ := late_zero
  have hbl : ∀ (W : World) (b : Nat), (bdLate #[(0, .int .u64 (b : Int))]).run Tryz.prog W = .ok (.agg (lateC (b, noughts)).toArray) W := fun W b => build_late W b
  clear h hdec
  go_enter Tryz.func89, Tryz.ntmps89
  go_wp2_with fail
  refine HH.mono ?_
  rintro e w1 ⟨rfl, rfl⟩
  clear HH
  go_wp2_with fail
  refine HS.mono ?_
  rintro e w2 ⟨rfl, hD, hS⟩
  clear HS
  have c0 := hD.c0
  have c1 := hD.c1
  have HL : Hid ((lateC (s.stepped.next, noughts)).length = 65) := by show (lateC (s.stepped.next, noughts)).length = 65; simp [lateC, noughts_len]
  have hcp : ∀ ty, (Builtin.copy_ #[181, 9] ty #[.slice (some ⟨w2.heap.size, 1, none⟩) 64 64, .string t]).run Tryz.prog (w2.alloc (.cells (lateC (s.stepped.next, noughts)).toArray 177)) = .ok (goInt t.size) (w2.alloc (.cells (lateC (s.stepped.next, padB t.data.toList)).toArray 177)) := fun ty => by
    rw [← pad_filled w2 s.stepped.next t ht]
    have hth := there_new w2 177 (lateC (s.stepped.next, noughts)).toArray
    refine Go.run_copy_string _ _ _ _ 5 _ _ _ _ t Tryz.underlying181 (fun w => by kernel_rfl) ht (fun j hj => ?_) (fun j hj => ?_)
    · have := (hth (1 + j) (by simp [lateC, noughts_len]; omega)).1
      rwa [Nat.zero_add] at this
    · have := (hth (1 + j) (by simp [lateC, noughts_len]; omega)).2
      rwa [Nat.zero_add] at this
  generalize hN : s.stepped.next = nx at *
  go_wp2_with (first
    | (refine wpList_fill rfl 177 (.tmp 8) (.tmp 28) rfl w2 Z rfl (lateC (nx, noughts)) rfl rfl (hZ.trans HL.out.symm) (late_info HL.out) (lateC_one _) ?_))
  have hpl := padB_len (t := t.data.toList) (by simpa using ht)
  have hnx : nx < 64 := by rw [← hN]; exact hD.nx
  have hb3 : Below w2.heap.size w2 (w2.alloc (.cells (lateC (nx, padB t.data.toList)).toArray 177)) := (Below.refl _ _).alloc (Nat.le_refl _) _
  have hD3 : DiskAt (w2.alloc (.cells (lateC (nx, padB t.data.toList)).toArray 177)).drew B p bs n s.stepped v := (hD.later hb3).later (Below.refl _ _).drew
  have hS3 : Spun B w1 (w2.alloc (.cells (lateC (nx, padB t.data.toList)).toArray 177)).drew := hS.trans (Spun.of (by have := hD.bp; have := hD.lt; omega) ((hb3.trans ((Below.refl _ _).drew))))
  have c03 := cell_later hb3 c0
  have HA := add_any _ B p bs n s.stepped v i nx (padB t.data.toList) hD3 hi hnx hpl
  have hnr : (w2.alloc (.cells (lateC (nx, padB t.data.toList)).toArray 177)).rangeAt w2.heap.size 0 (lateC (nx, padB t.data.toList)) := range_new w2 _ _ 0 _ (fun j u hj => by rw [Nat.zero_add]; exact hj)
  have l1 : (ldLate (.pointer (some ⟨w2.heap.size, 0, none⟩))).run Tryz.prog (w2.alloc (.cells (lateC (nx, padB t.data.toList)).toArray 177)).drew = .ok (.agg (lateC (nx, padB t.data.toList)).toArray) (w2.alloc (.cells (lateC (nx, padB t.data.toList)).toArray 177)).drew :=
    run_loadAt_mid _ _ _ _ _ _ (by simpa using hnr) Tryz.underlying177 rfl (late_info (lateC_len hpl))
  have HN : Hid (s.stepped.next = nx) := hN
  generalize hcs : (lateC (nx, padB t.data.toList)) = cs at *
  generalize hW : w2.alloc (.cells cs.toArray 177) = W at *
  have hi0 : (0 : Int) ≤ (i : Int) := by omega
  have hi1 : (i : Int) < (n : Int) := by omega
  clear hcp hbl HL hD hD3 hnr hb3 c0 c1 hS hN hZ hal hcs hW h3
  go_region_law (first
    | (go_simp; go_at_call 116; refine HA.mono ?_; rintro e w4 ⟨rfl, ⟨v4, hD4⟩, hS4⟩))
  all_goals
    have c1 := hD4.c1
    have fz := hD4.fz 1
    have hnn : (s.stepped.at i ⟨(s.stepped.K i).kept, struck (s.stepped.K i).late nx ++ [(nx, padB t.data.toList)]⟩).next = nx := HN.out
    rw [hnn] at c1
    have hD5 : DiskAt (w4.setCell ⟨p, 1, none⟩ (.int .u64 (((nx + 1) % 64 : Nat) : Int))) B p bs n (s.stepped.put i (padB t.data.toList)) v4 := by
      refine hD4.put (fun k hk => Below.heap_setCell _ _ _ _ hk) ?_ ?_ ?_ hD4.lo
      · rw [heap_set0 _ hD4.blk]
        simp only [DSt.put, HN.out]
        rfl
      · simp only [DSt.put, HN.out]
      · simp only [DSt.put]
        omega
    have hS5 := (hS3.trans hS4).trans (Spun.set (i := 1) hD4.blk hD4.bp (.inl rfl) (.int .u64 (((nx + 1) % 64 : Nat) : Int)))
    have en : ((((nx + 1) % 64 : Nat) : Int)) = ((nx : Int) + 1) % 64 := by omega
    rw [en] at hD5 hS5
    clear hD4 HA hnn en
    go_wp2
    go_ret
    exact ⟨rfl, ⟨_, hD5⟩, hS5⟩
end Go.Proofs.YtidabcoodolddaaGreatDoor

namespace Go.Proofs.YtidabcoodolddaaGreatDoor
open Go.RowKit

/-- a disk, and how many steps are left to it. -/
def Disk (w : World) (B p n : Nat) (s : DSt) : Prop := IsDisk w B p n s ∧ s.left ≤ 9223372036854775807
theorem Disk.later {w w' : World} {B p n : Nat} {s : DSt} (h : Disk w B p n s) (hb : Below w.heap.size w w') : Disk w' B p n s := ⟨h.1.later hb, h.2⟩
theorem Disk.ok {w : World} {B p n : Nat} {s : DSt} (h : Disk w B p n s) {i : Nat} (hi : i < n) : SecOk (s.K i) := by
  obtain ⟨⟨bs, v, h⟩, _⟩ := h
  exact h.ok i hi
theorem Disk.base {w : World} {B p n : Nat} {s : DSt} (h : Disk w B p n s) : B ≤ w.heap.size := by
  obtain ⟨⟨bs, v, h⟩, _⟩ := h
  have := h.bp
  have := h.lt
  omega
/-- another block's cells turn. -/
theorem Disk.other {w w' : World} {B p n : Nat} {s : DSt} (h : Disk w B p n s) (hk : ∀ (k : Nat) (o : Obj), w.heap[k]? = some o → DiskTy o → w'.heap[k]? = some o) : Disk w' B p n s := by
  obtain ⟨⟨bs, v, h⟩, hl⟩ := h
  obtain ⟨C, hC⟩ := h.sec
  have hb := hk bs _ hC ⟨_, _, _, rfl, .inr (.inl rfl)⟩
  refine ⟨⟨bs, v, hk p _ h.blk ⟨_, _, _, rfl, .inl rfl⟩, ⟨C, hb⟩, ?_, h.ok, ?_, h.apart, h.bp, h.bb, h.nx, h.lo, h.few⟩, hl⟩
  · intro i hi j u hj
    exact (World.cell?_of_block (a := ⟨bs, i * 65 + j, none⟩) (hb.trans hC.symm)).trans (h.cells i hi j u hj)
  · intro i hi
    refine own_kept (h.rows i hi) (fun k e => ?_)
    obtain ⟨c, hc⟩ := own_type (h.rows i hi) e
    exact (hk k _ hc ⟨_, _, _, rfl, .inr (.inr rfl)⟩).trans hc.symm
/-- what Write answers, and leaves. -/
def DSt.writeF (s : DSt) (n : Nat) (at' : Int) (t : ByteArray) : Nat := if ¬ (0 ≤ at' ∧ at' < n) ∨ 64 < t.size then 1 else if s.falls = true then 9 else 0
def DSt.wrote (s : DSt) (n : Nat) (at' : Int) (t : ByteArray) : DSt := if ¬ (0 ≤ at' ∧ at' < n) ∨ 64 < t.size then s else if s.falls = true then s.fell else s.stepped.put at'.toNat (padB t.data.toList)
theorem stepped_left {s : DSt} (h : s.left ≤ 9223372036854775807) : s.stepped.left ≤ 9223372036854775807 := by
  unfold DSt.stepped
  split <;> simp <;> omega
theorem diskWrite_any (w : World) (B p n : Nat) (s : DSt) (at' : Int) (t : ByteArray) (h : Disk w B p n s) (ht : t.size ≤ maxLen) :
    Calls Tryz.prog 89 #[.pointer (some ⟨p, 0, none⟩), .int .i64 at', .string t] w fun e w' => e = .returned (errV (s.writeF n at' t)) ∧ Disk w' B p n (s.wrote n at' t) ∧ Spun B w w' := by
  obtain ⟨⟨bs, v, h⟩, hl⟩ := h
  unfold DSt.writeF DSt.wrote
  by_cases h1 : ¬ (0 ≤ at' ∧ at' < n) ∨ 64 < t.size
  · rw [if_pos h1, if_pos h1]
    exact (write_bound w B p bs n s v at' t h h1 ht).mono fun e w' ⟨he, hw⟩ => ⟨he, by rw [hw]; exact ⟨⟨bs, v, h⟩, hl⟩, by rw [hw]; exact Spun.refl _ _⟩
  · rw [if_neg h1, if_neg h1]
    obtain ⟨i, rfl⟩ := Int.eq_ofNat_of_zero_le (show 0 ≤ at' by omega)
    by_cases h2 : s.falls = true
    · rw [if_pos h2, if_pos h2]
      exact (write_falls w B p bs n s v i t h (by omega) (by omega) h2).mono fun e w' ⟨he, hd, hs⟩ => ⟨he, ⟨⟨bs, v, hd⟩, hl⟩, hs⟩
    · rw [if_neg h2, if_neg h2]
      exact (write_goes w B p bs n s v i t h (by omega) (by omega) (by simpa using h2) hl).mono fun e w' ⟨he, ⟨v', hd⟩, hs⟩ => ⟨he, ⟨⟨bs, v', by rw [Int.toNat_natCast]; exact hd⟩, stepped_left hl⟩, hs⟩
/-- what Flush answers, and leaves. -/
def DSt.flushF (s : DSt) : Nat := if s.falls = true then 9 else 0
def DSt.flushed (s : DSt) : DSt := if s.falls = true then s.fell else s.stepped.settled 18446744073709551615
theorem diskFlush_any (w : World) (B p n : Nat) (s : DSt) (h : Disk w B p n s) :
    Calls Tryz.prog 91 #[.pointer (some ⟨p, 0, none⟩)] w fun e w' => e = .returned (errV s.flushF) ∧ Disk w' B p n s.flushed ∧ Spun B w w' := by
  obtain ⟨⟨bs, v, h⟩, hl⟩ := h
  unfold DSt.flushF DSt.flushed
  by_cases h2 : s.falls = true
  · rw [if_pos h2, if_pos h2]
    exact (flush_falls w B p bs n s v h h2).mono fun e w' ⟨he, hd, hs⟩ => ⟨he, ⟨⟨bs, v, hd⟩, hl⟩, hs⟩
  · rw [if_neg h2, if_neg h2]
    exact (flush_goes w B p bs n s v h (by simpa using h2) hl).mono fun e w' ⟨he, ⟨v', hd⟩, hs⟩ => ⟨he, ⟨⟨bs, v', hd⟩, stepped_left hl⟩, hs⟩
/-- what Read answers. -/
def DSt.readT (s : DSt) (n : Nat) (at' : Int) : ByteArray := if s.readF n at' = 0 then ⟨(s.K at'.toNat).now.toArray⟩ else ⟨#[]⟩
theorem diskRead_any (w : World) (B p n : Nat) (s : DSt) (at' : Int) (h : Disk w B p n s) :
    Calls Tryz.prog 92 #[.pointer (some ⟨p, 0, none⟩), .int .i64 at'] w fun e w' => e = .returned (.tuple #[.string (s.readT n at'), errV (s.readF n at')]) ∧ Below w.heap.size w w' := by
  obtain ⟨⟨bs, v, h⟩, _⟩ := h
  unfold DSt.readT
  by_cases h0 : s.readF n at' = 0
  · rw [if_pos h0, h0]
    unfold DSt.readF at h0
    by_cases hd : s.down = true
    · rw [if_pos hd] at h0; cases h0
    · rw [if_neg hd] at h0
      by_cases h1 : 0 ≤ at' ∧ at' < n
      · obtain ⟨i, rfl⟩ := Int.eq_ofNat_of_zero_le h1.1
        rw [Int.toNat_natCast]
        exact read_ok w B p bs n s v i h (by simpa using hd) (by omega)
      · rw [if_neg h1] at h0; cases h0
  · rw [if_neg h0]
    exact (read_bad w B p bs n s v at' h h0).mono fun e w' ⟨he, hw⟩ => ⟨he, by rw [hw]; exact Below.refl _ _⟩
/-- behind Restart. -/
def DSt.again (s : DSt) (keep : Int) : DSt := { s.settled keep with down := false, left := -1 }
theorem diskRestart_any (w : World) (B p n : Nat) (s : DSt) (keep : Int) (h : Disk w B p n s) :
    Calls Tryz.prog 21 #[.pointer (some ⟨p, 0, none⟩), .int .u64 keep] w fun e w' => e = .returned (.tuple #[]) ∧ Disk w' B p n (s.again keep) ∧ Spun B w w' := by
  obtain ⟨⟨bs, v, h⟩, _⟩ := h
  exact (restart_any w B p bs n s v keep h).mono fun e w' ⟨he, ⟨v', hd⟩, hs⟩ => ⟨he, ⟨⟨bs, v', hd⟩, by show (-1 : Int) ≤ _; decide⟩, hs⟩
/-- what was made behind a disk stays when it is started again. -/
theorem diskRestart_still (w0 w : World) (B p n : Nat) (s : DSt) (keep : Int) (h : Disk w0 B p n s) (hb : Below w0.heap.size w0 w) :
    Calls Tryz.prog 21 #[.pointer (some ⟨p, 0, none⟩), .int .u64 keep] w fun e w' => e = .returned (.tuple #[]) ∧ Disk w' B p n (s.again keep) ∧ Spun B w w' ∧ ∀ k, w0.heap.size ≤ k → k < w.heap.size → w'.heap[k]? = w.heap[k]? := by
  obtain ⟨⟨bs, v, h⟩, _⟩ := h
  have h1 := h.lt
  have h2 := h.ltb
  exact (restart_still w B p bs n s v keep (h.later hb)).mono fun e w' ⟨he, ⟨v', hd⟩, hs⟩ => ⟨he, ⟨⟨bs, v', hd⟩, by show (-1 : Int) ≤ _; decide⟩, hs.spun, fun k hk hlt => hs.still k hlt (by omega) (by omega)⟩
theorem diskNew_any (w : World) (n : Nat) (h1 : 1 ≤ n) (h2 : n ≤ 120) :
    Calls Tryz.prog 45 #[.int .i64 (n : Int)] w fun e w' => ∃ p, e = .returned (.tuple #[.pointer (some ⟨p, 0, none⟩), .nilIface]) ∧ Disk w' w.heap.size p n DSt.fresh ∧ Below w.heap.size w w' :=
  (newDisk_ok w n h1 h2).mono fun e w' ⟨p, he, hd, hb⟩ => ⟨p, he, ⟨hd, by decide⟩, hb⟩
theorem diskArm_any (w : World) (B p n : Nat) (s : DSt) (a : Int) (h : Disk w B p n s) (ha : a ≤ 9223372036854775807) :
    Calls Tryz.prog 24 #[.pointer (some ⟨p, 0, none⟩), .int .i64 a] w fun e w' => e = .returned (.tuple #[]) ∧ Disk w' B p n { s with left := max a (-1) } ∧ Spun B w w' := by
  obtain ⟨⟨bs, v, h⟩, _⟩ := h
  exact (arm_any w B p bs n s v a h).mono fun e w' ⟨he, hd, hs⟩ => ⟨he, ⟨⟨bs, v, hd⟩, by show max a (-1) ≤ _; omega⟩, hs⟩
theorem diskDown_any (w : World) (B p n : Nat) (s : DSt) (h : Disk w B p n s) :
    Calls Tryz.prog 25 #[.pointer (some ⟨p, 0, none⟩)] w fun e w' => e = .returned (.bool s.down) ∧ w' = w := by
  obtain ⟨⟨bs, v, h⟩, _⟩ := h
  exact down_any w B p bs n s v h
theorem diskSectors_any (w : World) (B p n : Nat) (s : DSt) (h : Disk w B p n s) :
    Calls Tryz.prog 63 #[.pointer (some ⟨p, 0, none⟩)] w fun e w' => e = .returned (.int .i64 n) ∧ w' = w := by
  obtain ⟨⟨bs, v, h⟩, _⟩ := h
  exact sectors_any w B p bs n s v h
end Go.Proofs.YtidabcoodolddaaGreatDoor
