/-
  The document's disk in memory: what its rows hold; what noughts, NewDisk and step do; all else stays as it was.
-/
import Derived.Test.YtlljpedanlnjaaaDiskAll
import Derived.Laws.IdiomStrings
import Derived.Deep.DrawnRows
namespace Go.Proofs.Ytlljpedanlnjaaa
open Go.RowKit

/-- the state of the document's disk. -/
structure RSt where
  kept : Nat → List UInt8
  now : Nat → List UInt8
  wait : List (Nat × List UInt8)
  fuse : Int
  down : Bool
def textV (l : List UInt8) : Value := .string ⟨l.toArray⟩
def textsC (f : Nat → List UInt8) (n : Nat) : List Value := (List.range n).map fun i => textV (f i)
def waitC (l : List (Nat × List UInt8)) : List Value := l.flatMap fun x => [.int .i64 (x.1 : Int), textV x.2]
@[simp] theorem textsC_length (f : Nat → List UInt8) (n : Nat) : (textsC f n).length = n := by simp [textsC]
theorem textsC_succ (f : Nat → List UInt8) (n : Nat) : textsC f (n + 1) = textsC f n ++ [textV (f n)] := by simp [textsC, List.range_succ]
theorem textsC_at (f : Nat → List UInt8) {n i : Nat} (h : i < n) : (textsC f n)[i]? = some (textV (f i)) := by simp [textsC, h]
theorem textsC_set (f : Nat → List UInt8) {n i : Nat} (h : i < n) (t : List UInt8) : (textsC f n).set i (textV t) = textsC (fun j => if j = i then t else f j) n := by
  apply List.ext_getElem?
  intro q
  rw [List.getElem?_set, textsC_length]
  by_cases e : i = q
  · subst e; rw [if_pos rfl, if_pos h, textsC_at _ h]; simp
  · rw [if_neg e]
    by_cases hq : q < n
    · rw [textsC_at _ hq, textsC_at _ hq, if_neg (Ne.symm e)]
    · rw [List.getElem?_eq_none (by simp; omega), List.getElem?_eq_none (by simp; omega)]
theorem waitC_length (l : List (Nat × List UInt8)) : (waitC l).length = l.length * 2 := by
  induction l with
  | nil => rfl
  | cons a l ih => simp only [waitC, List.flatMap_cons, List.length_append, List.length_cons, List.length_nil] at ih ⊢; omega
theorem waitC_at : ∀ {l : List (Nat × List UInt8)} {i : Nat} {x : Nat × List UInt8}, l[i]? = some x → (waitC l)[i * 2]? = some (.int .i64 (x.1 : Int)) ∧ (waitC l)[i * 2 + 1]? = some (textV x.2)
  | [], i, x, h => by simp at h
  | a :: l, 0, x, h => by simp at h; subst h; exact ⟨rfl, rfl⟩
  | a :: l, i + 1, x, h => by
    obtain ⟨h1, h2⟩ := waitC_at (l := l) (i := i) (by simpa using h)
    refine ⟨?_, ?_⟩
    · rw [show (i + 1) * 2 = i * 2 + 1 + 1 by omega]; exact h1
    · rw [show (i + 1) * 2 + 1 = i * 2 + 1 + 1 + 1 by omega]; exact h2
theorem waitC_snoc (l : List (Nat × List UInt8)) (x : Nat × List UInt8) : waitC (l ++ [x]) = waitC l ++ [.int .i64 (x.1 : Int), textV x.2] := by simp [waitC]
structure RefAt (w : World) (B q n : Nat) (r : RSt) (vK vN vW : Value) : Prop where
  blk : w.heap[q]? = some (.cells #[vK, vN, vW, .int .i64 r.fuse, .bool r.down] 53 (0, 0))
  kept : w.ownsRow B 9 1 vK n (textsC r.kept n)
  now : w.ownsRow B 9 1 vN n (textsC r.now n)
  wait : w.ownsRow B 77 2 vW r.wait.length (waitC r.wait)
  apart : vK.ownBlock = none ∨ vK.ownBlock ≠ vN.ownBlock
  bq : B ≤ q
/-- a block of the document's disk. -/
def RefTy (o : Obj) : Prop := ∃ c t f, o = .cells c t f ∧ (t = 53 ∨ t = 9 ∨ t = 77)
structure RSpun (B : Nat) (w w' : World) : Prop where
  below : Below B w w'
  block : ∀ (k : Nat) (o : Obj), w.heap[k]? = some o → ¬ RefTy o → w'.heap[k]? = some o
theorem RSpun.refl (B : Nat) (w : World) : RSpun B w w := ⟨Below.refl _ _, fun _ _ h _ => h⟩
theorem RSpun.trans {B : Nat} {a b c : World} (h : RSpun B a b) (g : RSpun B b c) : RSpun B a c := ⟨h.below.trans g.below, fun k o hk ho => g.block k o (h.block k o hk ho) ho⟩
theorem RSpun.of {B : Nat} {w w' : World} (hB : B ≤ w.heap.size) (h : Below w.heap.size w w') : RSpun B w w' := ⟨h.mono hB, fun k _ hk _ => (h.block k (Array.getElem?_eq_some_iff.1 hk).1).trans hk⟩
theorem RSpun.set {B g i : Nat} {w : World} {c : Array Value} {t : TypeId} {f : Nat × Nat} (hg : w.heap[g]? = some (.cells c t f)) (hB : B ≤ g) (ht : t = 53 ∨ t = 9 ∨ t = 77) (u : Value) : RSpun B w (w.setCell ⟨g, i, none⟩ u) :=
  ⟨⟨rfl, rfl, rfl, by simp [World.setCell], fun k hk => Below.heap_setCell _ _ _ _ (by show k ≠ g; omega)⟩, fun k o hk ho => by
    by_cases e : k = g
    · subst e; rw [hg] at hk; injection hk with hk; exact absurd ⟨c, t, f, hk.symm, ht⟩ ho
    · rw [Below.heap_setCell _ _ _ _ e]; exact hk⟩
theorem RSpun.grown {B : Nat} {w w' : World} {row : Option Nat} (hg : w.grownBy w' row) (hr : ∀ k, row = some k → B ≤ k ∧ ∃ c t, w.heap[k]? = some (.cells c t (0, 0)) ∧ (t = 9 ∨ t = 77)) (hB : B ≤ w.heap.size) : RSpun B w w' :=
  ⟨⟨hg.os, hg.tape, hg.output, hg.size, fun k hk => hg.block k (by omega) (fun e => by have := (hr k e.symm).1; omega)⟩, fun k o hk ho => by
    by_cases e : some k = row
    · obtain ⟨_, c, t, hc, ht⟩ := hr k e.symm
      rw [hk] at hc
      injection hc with hc
      exact absurd ⟨c, _, _, hc, .inr ht⟩ ho
    · rw [hg.block k (Array.getElem?_eq_some_iff.1 hk).1 e]; exact hk⟩
theorem ref_not_disk {o : Obj} (h : DiskTy o) : ¬ RefTy o := by
  rintro ⟨c', t', f', h', ht'⟩
  obtain ⟨c, t, f, rfl, ht⟩ := h
  injection h' with _ h' _
  subst h'
  revert ht ht'
  rintro (rfl | rfl | rfl) (h | h | h) <;> exact absurd h (by decide)
theorem Disk.ref {w w' : World} {B B' p n : Nat} {s : DSt} (h : Disk w B p n s) (hs : RSpun B' w w') : Disk w' B p n s := h.other (fun k o hk ht => hs.block k o hk (ref_not_disk ht))
theorem RefAt.lt {w : World} {B q n : Nat} {r : RSt} {vK vN vW : Value} (h : RefAt w B q n r vK vN vW) : q < w.heap.size := (Array.getElem?_eq_some_iff.1 h.blk).1
theorem RefAt.spun {w w' : World} {B B' q n : Nat} {r : RSt} {vK vN vW : Value} (h : RefAt w B q n r vK vN vW) (hs : Spun B' w w') : RefAt w' B q n r vK vN vW := by
  have key : ∀ (k : Nat) (o : Obj), w.heap[k]? = some o → RefTy o → w'.heap[k]? = some o := fun k o hk ht => hs.block k o hk (fun hd => ref_not_disk hd ht)
  refine ⟨key q _ h.blk ⟨_, _, _, rfl, .inl rfl⟩, ?_, ?_, ?_, h.apart, h.bq⟩
  · refine own_kept h.kept (fun k e => ?_)
    obtain ⟨c, hc⟩ := own_type h.kept e
    exact (key k _ hc ⟨_, _, _, rfl, .inr (.inl rfl)⟩).trans hc.symm
  · refine own_kept h.now (fun k e => ?_)
    obtain ⟨c, hc⟩ := own_type h.now e
    exact (key k _ hc ⟨_, _, _, rfl, .inr (.inl rfl)⟩).trans hc.symm
  · refine own_kept h.wait (fun k e => ?_)
    obtain ⟨c, hc⟩ := own_type h.wait e
    exact (key k _ hc ⟨_, _, _, rfl, .inr (.inr rfl)⟩).trans hc.symm
theorem RefAt.later {w w' : World} {B q n : Nat} {r : RSt} {vK vN vW : Value} (h : RefAt w B q n r vK vN vW) (hb : Below w.heap.size w w') : RefAt w' B q n r vK vN vW :=
  ⟨(hb.block _ h.lt).trans h.blk, owns_below h.kept hb, owns_below h.now hb, owns_below h.wait hb, h.apart, h.bq⟩
theorem RefAt.c0 {w : World} {B q n : Nat} {r : RSt} {vK vN vW : Value} (h : RefAt w B q n r vK vN vW) : w.cell? ⟨q, 0, none⟩ = some vK := by simp [World.cell?, h.blk]
theorem RefAt.c1 {w : World} {B q n : Nat} {r : RSt} {vK vN vW : Value} (h : RefAt w B q n r vK vN vW) : w.cell? ⟨q, 1, none⟩ = some vN := by simp [World.cell?, h.blk]
theorem RefAt.c2 {w : World} {B q n : Nat} {r : RSt} {vK vN vW : Value} (h : RefAt w B q n r vK vN vW) : w.cell? ⟨q, 2, none⟩ = some vW := by simp [World.cell?, h.blk]
theorem RefAt.c3 {w : World} {B q n : Nat} {r : RSt} {vK vN vW : Value} (h : RefAt w B q n r vK vN vW) : w.cell? ⟨q, 3, none⟩ = some (.int .i64 r.fuse) := by simp [World.cell?, h.blk]
theorem RefAt.c4 {w : World} {B q n : Nat} {r : RSt} {vK vN vW : Value} (h : RefAt w B q n r vK vN vW) : w.cell? ⟨q, 4, none⟩ = some (.bool r.down) := by simp [World.cell?, h.blk]
theorem RefAt.fz {w : World} {B q n : Nat} {r : RSt} {vK vN vW : Value} (h : RefAt w B q n r vK vN vW) (i : Nat) : w.frozen? ⟨q, i, none⟩ = false := by simp [World.frozen?, h.blk]
/-- own rows are kept where block q alone turns. -/
theorem own_set {w : World} {B s n q i : Nat} {e : TypeId} {v u : Value} {xs : List Value} {c : Array Value} {t : TypeId} (h : w.ownsRow B e s v n xs) (hq : w.heap[q]? = some (.cells c t (0, 0))) (hne : e ≠ t) : (w.setCell ⟨q, i, none⟩ u).ownsRow B e s v n xs :=
  own_kept h (fun k hk => Below.heap_setCell _ _ _ _ (fun ee => by
    obtain ⟨c', hc'⟩ := own_type h hk
    have ee' : k = q := ee
    rw [ee', hq] at hc'
    injection hc' with hc'
    injection hc' with _ hc' _
    exact hne hc'.symm))

set_option maxRecDepth 100000 in
theorem noughts_any (w : World) (n : Nat) (hn : n ≤ 64) :
    Calls Try.prog 22 #[.int .i64 (n : Int)] w fun e w' => e = .returned (textV (List.replicate n 0)) ∧ Below w.heap.size w w' := by
  obtain ⟨x, hx, hp⟩ := Option.map_eq_some_iff.1 (show (Try.prog.info? 5).map (fun i => (i.zero, i.size, i.bytes)) = some (some (.int .u8 0), 1, 1) by kernel_rfl)
  simp only [Prod.mk.injEq] at hp
  obtain ⟨h1, h2, h3⟩ := hp
  have hmk := run_makeSlice (P := Try.prog) w 71 5 x (.int .u8 0) Try.underlying71 hx h1 .i64 .i64 n n (by omega) (Int.le_refl _) (by rw [h2]; omega) (by rw [h3]; omega) (by omega)
  rw [h2, Nat.mul_one, Int.toNat_natCast] at hmk
  have hcv : ∀ (src dst : TypeId), Try.prog.underlying src = some (.slice 5) → Try.prog.underlying dst = some .string → (convert src dst (.slice (some ⟨w.heap.size, 0, none⟩) n n)).run Try.prog (w.alloc (.cells (madeCells (Value.int .u8 0).cells n) 5)) = .ok (textV (List.replicate n 0)) (w.alloc (.cells (madeCells (Value.int .u8 0).cells n) 5)) := fun src dst hs hd' => by
    have := run_convert_bytes_back (P := Try.prog) (w.alloc (.cells (madeCells (Value.int .u8 0).cells n) 5)) src dst 5 ⟨w.heap.size, 0, none⟩ n (List.replicate n 0) hs Try.underlying5 hd' (fun j hj => by
      rw [Addr.add_mid, Nat.zero_add, World.cell?_alloc_mark]
      have hj' : j < n := by simpa using hj
      simp [madeCells, hj', Value.cells, Nat.mod_one])
    rw [List.length_replicate] at this
    exact this
  have hb : Below w.heap.size w (w.alloc (.cells (madeCells (Value.int .u8 0).cells n) 5)) := (Below.refl _ _).alloc (Nat.le_refl _) _
  generalize madeCells (Value.int .u8 0).cells n = C at *
  go_enter Try.func22, Try.ntmps22
  go_wp2
  go_ret
  exact ⟨rfl, hb⟩
/-- one text more in a row of texts. -/
theorem growS {w : World} {B m : Nat} {v : Value} {xs : List Value} (h : w.ownsRow B 9 1 v m xs) (t : List UInt8) (a : Nat) (hs : w.cell? ⟨a, 0, none⟩ = some (textV t)) (hB : B ≤ w.heap.size) (hm : m ≤ 1000) :
    ∃ v' W, (Builtin.append_ #[50, 50] 50 #[v, .slice (some ⟨a, 0, none⟩) 1 1]).run Try.prog w = .ok v' W ∧ W.ownsRow B 9 1 v' (m + 1) (xs ++ [textV t]) ∧ w.grownBy W v.ownBlock ∧ (v'.ownBlock = v.ownBlock ∨ v'.ownBlock = some w.heap.size) := by
  obtain ⟨x, hx, hp⟩ := Option.map_eq_some_iff.1 (show (Try.prog.info? 9).map (fun i => (i.zero, i.size, i.bytes)) = some (some (.string ⟨#[]⟩), 1, 16) by kernel_rfl)
  simp only [Prod.mk.injEq] at hp
  obtain ⟨h1, h2, h3⟩ := hp
  obtain ⟨v', W, hrun, hO, hg, _, hbl⟩ := run_append_own_at (P := Try.prog) w B 50 50 9 x _ 1 16 Try.underlying50 hx h1 h2 h3 rfl (by decide) v m xs h ⟨a, 0, none⟩ 1 1 [textV t] rfl
    (fun j u hj => by
      match j, hj with
      | 0, hj => simp at hj; subst hj; rw [Addr.add_mid]; exact hs) (fun u hu => by simp at hu; subst hu; rfl) (by simp only [maxLen]; omega) (by omega) hB
  exact ⟨v', W, hrun, hO, hg, hbl⟩
end Go.Proofs.Ytlljpedanlnjaaa
