/-
  An object that is being read: its four rows are the call's own; what becomes of it when one of them grows.
  What number and the library's Clone return here, for every text; memory that was there stays as it was.
  An object that is being read: what becomes of it, and of memory, when one of its rows grows by one.
-/
import Derived.Test.YthdccmjdbcllkaaGreatDoorTextUse
import Derived.Test.YthdccmjdbcllkaaGreatDoorPlainNumb
import Derived.Laws.AppendOwn
import Derived.Deep.RegionLaw
import Derived.Lib.AtoiErrMem
namespace Go.Proofs.YthdccmjdbcllkaaGreatDoor
open Go.RowKit

/-- cells of the first k, one behind the other. -/
def catV (g : Nat → List Value) : Nat → List Value
  | 0 => []
  | k + 1 => catV g k ++ g k
theorem catV_congr {g h : Nat → List Value} {n : Nat} (e : ∀ i, i < n → g i = h i) : catV g n = catV h n := by
  induction n with
  | zero => rfl
  | succ n ih => simp only [catV, ih (fun i hi => e i (by omega)), e n (by omega)]
theorem catV_len {g : Nat → List Value} {s n : Nat} (e : ∀ i, i < n → (g i).length = s) : (catV g n).length = n * s := by
  induction n with
  | zero => simp [catV]
  | succ n ih => simp only [catV, List.length_append, ih (fun i hi => e i (by omega)), e n (by omega), Nat.add_mul]; omega
theorem catV_at {g : Nat → List Value} {s n i j : Nat} (e : ∀ i, i < n → (g i).length = s) (hi : i < n) (hj : j < s) : (catV g n)[i * s + j]? = (g i)[j]? := by
  induction n with
  | zero => omega
  | succ n ih =>
    have hl := catV_len (g := g) (s := s) (n := n) (fun i hi => e i (by omega))
    simp only [catV]
    by_cases h : i = n
    · subst h
      rw [List.getElem?_append_right (by omega), hl]
      congr 1
      omega
    · have hlt : i * s + j < n * s := by
        have h1 : (i + 1) * s ≤ n * s := Nat.mul_le_mul_right s (by omega)
        rw [Nat.add_mul] at h1
        omega
      rw [List.getElem?_append_left (by omega)]
      exact ih (fun i hi => e i (by omega)) (by omega)

def needC (o : ObjF) (i : Nat) : List Value := [.string (o.needs i)]
def wordC (o : ObjF) (i : Nat) : List Value := [.int .i64 (o.words i)]
def symC (o : ObjF) (i : Nat) : List Value := [.string (o.sName i), .int .i64 (o.sAt i), .bool (o.sWeak i)]
def tieC (o : ObjF) (i : Nat) : List Value := [.int .i64 (o.tAt i), .int .i64 (o.tKind i), .int .i64 (o.tAdd i), .string (o.tName i), .bool (o.tWeak i)]

/-- one more of each. -/
def addNeed (o : ObjF) (s : ByteArray) : ObjF := { o with nN := o.nN + 1, needs := fun i => if i = o.nN then s else o.needs i }
def addWord (o : ObjF) (n : Int) : ObjF := { o with nW := o.nW + 1, words := fun i => if i = o.nW then n else o.words i }
def addSym (o : ObjF) (s : ByteArray) (a : Int) (b : Bool) : ObjF := { o with nS := o.nS + 1, sName := fun i => if i = o.nS then s else o.sName i, sAt := fun i => if i = o.nS then a else o.sAt i, sWeak := fun i => if i = o.nS then b else o.sWeak i }
def addTie (o : ObjF) (x k d : Int) (s : ByteArray) (b : Bool) : ObjF := { o with nT := o.nT + 1, tAt := fun i => if i = o.nT then x else o.tAt i, tKind := fun i => if i = o.nT then k else o.tKind i, tAdd := fun i => if i = o.nT then d else o.tAdd i, tName := fun i => if i = o.nT then s else o.tName i, tWeak := fun i => if i = o.nT then b else o.tWeak i }

/-- below block number B the world is as it was, but for the object's own block. -/
structure Kept (B bo : Nat) (w w' : World) : Prop where
  os : w'.os = w.os
  tape : w'.tape = w.tape
  output : w'.output = w.output
  size : w.heap.size ≤ w'.heap.size
  block : ∀ k, k < B → k ≠ bo → w'.heap[k]? = w.heap[k]?
theorem Kept.refl (B bo : Nat) (w : World) : Kept B bo w w := ⟨rfl, rfl, rfl, Nat.le_refl _, fun _ _ _ => rfl⟩
theorem Kept.trans {B bo : Nat} {a b c : World} (h : Kept B bo a b) (k : Kept B bo b c) : Kept B bo a c :=
  ⟨k.os.trans h.os, k.tape.trans h.tape, k.output.trans h.output, Nat.le_trans h.size k.size, fun i hi hn => (k.block i hi hn).trans (h.block i hi hn)⟩
theorem Kept.of {B C bo : Nat} {w w' : World} (h : Below C w w') (hB : B ≤ C) : Kept B bo w w' := ⟨h.os, h.tape, h.output, h.size, fun k hk _ => h.block k (Nat.lt_of_lt_of_le hk hB)⟩
theorem Kept.below {B bo : Nat} {w w' : World} (h : Kept B bo w w') : Below (min B bo) w w' := ⟨h.os, h.tape, h.output, h.size, fun k hk => h.block k (by omega) (by omega)⟩

/-- the object at 'bo': its four slices, each a row of the call's own (from block B on). -/
structure Reading (B : Nat) (w : World) (bo : Nat) (vN vW vS vT : Value) (o : ObjF) : Prop where
  lo : B ≤ w.heap.size
  blk : w.heap[bo]? = some (.cells #[vN, vW, vS, vT] 116 (0, 0))
  needs : w.ownsRow B 9 1 vN o.nN (catV (needC o) o.nN)
  words : w.ownsRow B 3 1 vW o.nW (catV (wordC o) o.nW)
  syms : w.ownsRow B 155 3 vS o.nS (catV (symC o) o.nS)
  ties : w.ownsRow B 157 5 vT o.nT (catV (tieC o) o.nT)

theorem own_ne {w : World} {B g s n : Nat} {e t : TypeId} {v : Value} {xs : List Value} {c : Array Value} (h : w.ownsRow B e s v n xs) (hb : w.heap[g]? = some (.cells c t (0, 0))) (hne : e ≠ t) : some g ≠ v.ownBlock := by
  intro hv
  rcases h.2 with ⟨rfl, _⟩ | ⟨g', cap, cur, rfl, _, hg, _⟩
  · simp [Value.ownBlock] at hv
  · simp [Value.ownBlock] at hv
    subst hv
    rw [hg] at hb
    injection hb with hb
    injection hb with h1 h2
    exact hne h2
theorem own_own {w : World} {B B' s s' n n' : Nat} {e t : TypeId} {v v' : Value} {xs xs' : List Value} (h : w.ownsRow B e s v n xs) (h' : w.ownsRow B' t s' v' n' xs') (hne : e ≠ t) : v'.ownBlock = none ∨ v'.ownBlock ≠ v.ownBlock := by
  rcases h'.2 with ⟨rfl, _⟩ | ⟨g', cap, cur, rfl, _, hg, _⟩
  · exact .inl rfl
  · exact .inr (own_ne h hg hne)

theorem Reading.below {B bo : Nat} {w w' : World} {vN vW vS vT : Value} {o : ObjF} (h : Reading B w bo vN vW vS vT o) (hb : Below w.heap.size w w') : Reading B w' bo vN vW vS vT o := by
  have keep : ∀ {e : TypeId} {s n : Nat} {v : Value} {xs : List Value}, w.ownsRow B e s v n xs → w'.ownsRow B e s v n xs := by
    intro e s n v xs h
    refine h.kept (row := none) ⟨hb.os, hb.tape, hb.output, hb.size, fun k hk _ => hb.block k hk⟩ ?_
    cases hv : v.ownBlock <;> simp
  exact ⟨Nat.le_trans h.lo hb.size, (hb.block bo (Array.getElem?_eq_some_iff.1 h.blk).1).trans h.blk, keep h.needs, keep h.words, keep h.syms, keep h.ties⟩
theorem Reading.lt {B bo : Nat} {w : World} {vN vW vS vT : Value} {o : ObjF} (h : Reading B w bo vN vW vS vT o) : bo < w.heap.size := (Array.getElem?_eq_some_iff.1 h.blk).1
theorem Reading.c0 {B bo : Nat} {w : World} {vN vW vS vT : Value} {o : ObjF} (h : Reading B w bo vN vW vS vT o) : w.cell? ⟨bo, 0, none⟩ = some vN := by simp [World.cell?, h.blk]
theorem Reading.c1 {B bo : Nat} {w : World} {vN vW vS vT : Value} {o : ObjF} (h : Reading B w bo vN vW vS vT o) : w.cell? ⟨bo, 1, none⟩ = some vW := by simp [World.cell?, h.blk]
theorem Reading.c2 {B bo : Nat} {w : World} {vN vW vS vT : Value} {o : ObjF} (h : Reading B w bo vN vW vS vT o) : w.cell? ⟨bo, 2, none⟩ = some vS := by simp [World.cell?, h.blk]
theorem Reading.c3 {B bo : Nat} {w : World} {vN vW vS vT : Value} {o : ObjF} (h : Reading B w bo vN vW vS vT o) : w.cell? ⟨bo, 3, none⟩ = some vT := by simp [World.cell?, h.blk]
theorem Reading.fz {B bo : Nat} {w : World} {vN vW vS vT : Value} {o : ObjF} (h : Reading B w bo vN vW vS vT o) (i : Nat) : w.frozen? ⟨bo, i, none⟩ = false := by simp [World.frozen?, h.blk]

/-- a store into the object's own block. -/
theorem heap_setCell (w : World) (b i : Nat) (c : Array Value) (t : TypeId) (v : Value) (h : w.heap[b]? = some (.cells c t (0, 0))) : (w.setCell ⟨b, i, none⟩ v).heap[b]? = some (.cells (c.set! i v) t (0, 0)) := by
  show (w.heap.modify b _)[b]? = _
  rw [Array.getElem?_modify, if_pos rfl, h]
  rfl
theorem grownBy_setCell (w : World) (b i : Nat) (v : Value) : w.grownBy (w.setCell ⟨b, i, none⟩ v) (some b) := by
  refine ⟨rfl, rfl, rfl, by simp [World.setCell], fun k hk hne => ?_⟩
  show (w.heap.modify b _)[k]? = _
  rw [Array.getElem?_modify, if_neg (fun e => hne (by rw [e]))]
theorem kept_set {w : World} {B g i s n : Nat} {e t : TypeId} {v u : Value} {xs : List Value} {c : Array Value} (h : w.ownsRow B e s v n xs) (hb : w.heap[g]? = some (.cells c t (0, 0))) (hne : e ≠ t) : (w.setCell ⟨g, i, none⟩ u).ownsRow B e s v n xs :=
  h.kept (grownBy_setCell w g i u) (by
    cases hv : v.ownBlock with
    | none => exact .inl rfl
    | some k => exact .inr (fun he => own_ne h hb hne (by rw [hv]; exact he.symm)))

/-- one need more. -/
theorem Reading.need {B bo : Nat} {w W : World} {vN vW vS vT v' : Value} {o : ObjF} {a : ByteArray} (h : Reading B w bo vN vW vS vT o) (hg : w.grownBy W vN.ownBlock) (hN : W.ownsRow B 9 1 v' (o.nN + 1) (catV (needC o) o.nN ++ [.string a])) :
    W.heap[bo]? = some (.cells #[vN, vW, vS, vT] 116 (0, 0)) ∧ Reading B (W.setCell ⟨bo, 0, none⟩ v') bo v' vW vS vT (addNeed o a) := by
  have hb : W.heap[bo]? = some (.cells #[vN, vW, vS, vT] 116 (0, 0)) := (hg.block bo h.lt (own_ne h.needs h.blk (by decide))).trans h.blk
  have e : catV (needC (addNeed o a)) (o.nN + 1) = catV (needC o) o.nN ++ [.string a] := by
    show catV (needC (addNeed o a)) o.nN ++ needC (addNeed o a) o.nN = _
    congr 1
    · exact catV_congr (fun i hi => by simp [needC, addNeed, Nat.ne_of_lt hi])
    · simp [needC, addNeed]
  refine ⟨hb, Nat.le_trans h.lo (Nat.le_trans hg.size (by simp [World.setCell])), heap_setCell W bo 0 _ _ v' hb, ?_, kept_set (h.words.kept hg (own_own h.needs h.words (by decide))) hb (by decide), kept_set (h.syms.kept hg (own_own h.needs h.syms (by decide))) hb (by decide), kept_set (h.ties.kept hg (own_own h.needs h.ties (by decide))) hb (by decide)⟩
  show (W.setCell ⟨bo, 0, none⟩ v').ownsRow B 9 1 v' (o.nN + 1) (catV (needC (addNeed o a)) (o.nN + 1))
  rw [e]
  exact kept_set hN hb (by decide)
theorem Reading.word {B bo : Nat} {w W : World} {vN vW vS vT v' : Value} {o : ObjF} {a : Int} (h : Reading B w bo vN vW vS vT o) (hg : w.grownBy W vW.ownBlock) (hN : W.ownsRow B 3 1 v' (o.nW + 1) (catV (wordC o) o.nW ++ [.int .i64 a])) :
    W.heap[bo]? = some (.cells #[vN, vW, vS, vT] 116 (0, 0)) ∧ Reading B (W.setCell ⟨bo, 1, none⟩ v') bo vN v' vS vT (addWord o a) := by
  have hb : W.heap[bo]? = some (.cells #[vN, vW, vS, vT] 116 (0, 0)) := (hg.block bo h.lt (own_ne h.words h.blk (by decide))).trans h.blk
  have e : catV (wordC (addWord o a)) (o.nW + 1) = catV (wordC o) o.nW ++ [.int .i64 a] := by
    show catV (wordC (addWord o a)) o.nW ++ wordC (addWord o a) o.nW = _
    congr 1
    · exact catV_congr (fun i hi => by simp [wordC, addWord, Nat.ne_of_lt hi])
    · simp [wordC, addWord]
  refine ⟨hb, Nat.le_trans h.lo (Nat.le_trans hg.size (by simp [World.setCell])), heap_setCell W bo 1 _ _ v' hb, kept_set (h.needs.kept hg (own_own h.words h.needs (by decide))) hb (by decide), ?_, kept_set (h.syms.kept hg (own_own h.words h.syms (by decide))) hb (by decide), kept_set (h.ties.kept hg (own_own h.words h.ties (by decide))) hb (by decide)⟩
  show (W.setCell ⟨bo, 1, none⟩ v').ownsRow B 3 1 v' (o.nW + 1) (catV (wordC (addWord o a)) (o.nW + 1))
  rw [e]
  exact kept_set hN hb (by decide)
theorem Reading.sym {B bo : Nat} {w W : World} {vN vW vS vT v' : Value} {o : ObjF} {s : ByteArray} {a : Int} {b : Bool} (h : Reading B w bo vN vW vS vT o) (hg : w.grownBy W vS.ownBlock) (hN : W.ownsRow B 155 3 v' (o.nS + 1) (catV (symC o) o.nS ++ [.string s, .int .i64 a, .bool b])) :
    W.heap[bo]? = some (.cells #[vN, vW, vS, vT] 116 (0, 0)) ∧ Reading B (W.setCell ⟨bo, 2, none⟩ v') bo vN vW v' vT (addSym o s a b) := by
  have hb : W.heap[bo]? = some (.cells #[vN, vW, vS, vT] 116 (0, 0)) := (hg.block bo h.lt (own_ne h.syms h.blk (by decide))).trans h.blk
  have e : catV (symC (addSym o s a b)) (o.nS + 1) = catV (symC o) o.nS ++ [.string s, .int .i64 a, .bool b] := by
    show catV (symC (addSym o s a b)) o.nS ++ symC (addSym o s a b) o.nS = _
    congr 1
    · exact catV_congr (fun i hi => by simp [symC, addSym, Nat.ne_of_lt hi])
    · simp [symC, addSym]
  refine ⟨hb, Nat.le_trans h.lo (Nat.le_trans hg.size (by simp [World.setCell])), heap_setCell W bo 2 _ _ v' hb, kept_set (h.needs.kept hg (own_own h.syms h.needs (by decide))) hb (by decide), kept_set (h.words.kept hg (own_own h.syms h.words (by decide))) hb (by decide), ?_, kept_set (h.ties.kept hg (own_own h.syms h.ties (by decide))) hb (by decide)⟩
  show (W.setCell ⟨bo, 2, none⟩ v').ownsRow B 155 3 v' (o.nS + 1) (catV (symC (addSym o s a b)) (o.nS + 1))
  rw [e]
  exact kept_set hN hb (by decide)
theorem Reading.tie {B bo : Nat} {w W : World} {vN vW vS vT v' : Value} {o : ObjF} {x k d : Int} {s : ByteArray} {b : Bool} (h : Reading B w bo vN vW vS vT o) (hg : w.grownBy W vT.ownBlock) (hN : W.ownsRow B 157 5 v' (o.nT + 1) (catV (tieC o) o.nT ++ [.int .i64 x, .int .i64 k, .int .i64 d, .string s, .bool b])) :
    W.heap[bo]? = some (.cells #[vN, vW, vS, vT] 116 (0, 0)) ∧ Reading B (W.setCell ⟨bo, 3, none⟩ v') bo vN vW vS v' (addTie o x k d s b) := by
  have hb : W.heap[bo]? = some (.cells #[vN, vW, vS, vT] 116 (0, 0)) := (hg.block bo h.lt (own_ne h.ties h.blk (by decide))).trans h.blk
  have e : catV (tieC (addTie o x k d s b)) (o.nT + 1) = catV (tieC o) o.nT ++ [.int .i64 x, .int .i64 k, .int .i64 d, .string s, .bool b] := by
    show catV (tieC (addTie o x k d s b)) o.nT ++ tieC (addTie o x k d s b) o.nT = _
    congr 1
    · exact catV_congr (fun i hi => by simp [tieC, addTie, Nat.ne_of_lt hi])
    · simp [tieC, addTie]
  refine ⟨hb, Nat.le_trans h.lo (Nat.le_trans hg.size (by simp [World.setCell])), heap_setCell W bo 3 _ _ v' hb, kept_set (h.needs.kept hg (own_own h.ties h.needs (by decide))) hb (by decide), kept_set (h.words.kept hg (own_own h.ties h.words (by decide))) hb (by decide), kept_set (h.syms.kept hg (own_own h.ties h.syms (by decide))) hb (by decide), ?_⟩
  show (W.setCell ⟨bo, 3, none⟩ v').ownsRow B 157 5 v' (o.nT + 1) (catV (tieC (addTie o x k d s b)) (o.nT + 1))
  rw [e]
  exact kept_set hN hb (by decide)

/-- append of one element that lies in a new block of its own. -/
theorem append_one (t e : TypeId) (size bytes : Nat) (z : Value) (ht : Tryz.prog.underlying t = some (.slice e)) (hinfo : (Tryz.prog.info? e).map (fun i => (i.zero, i.size, i.bytes)) = some (some z, size, bytes)) (hzs : z.cells.size = size) (hsz : 0 < size)
    (B : Nat) (w : World) (v : Value) (n : Nat) (xs news : List Value) (hown : w.ownsRow B e size v n xs) (hl : news.length = size) (h1 : ∀ u ∈ news, u.oneCell' = true) (hB : B ≤ w.heap.size) (hn : n + 1 ≤ 1000000) (hby : bytes ≤ 1000) :
    ∃ g cap W, (Builtin.append_ #[t, t] t #[v, .slice (some ⟨w.heap.size, 0, none⟩) 1 1]).run Tryz.prog (w.alloc (.cells news.toArray e)) = .ok (.slice (some ⟨g, 0, none⟩) (n + 1) cap) W ∧ W.ownsRow B e size (.slice (some ⟨g, 0, none⟩) (n + 1) cap) (n + 1) (xs ++ news) ∧ (w.alloc (.cells news.toArray e)).grownBy W v.ownBlock := by
  obtain ⟨i, hi, hzz⟩ := Option.map_eq_some_iff.1 hinfo
  simp only [Prod.mk.injEq] at hzz
  obtain ⟨hz, hs, hb⟩ := hzz
  obtain ⟨v', W, h2, h3, h4, _⟩ := run_append_own (P := Tryz.prog) (w.alloc (.cells news.toArray e)) B t t e i z size bytes ht hi hz hs hb hzs hsz v n xs (hown.alloc _) ⟨w.heap.size, 0, none⟩ 1 1 news (by omega)
    (by
      intro j u hj
      have hadd : (⟨w.heap.size, 0, none⟩ : Addr).add j = ⟨w.heap.size, j, none⟩ := by
        cases j with
        | zero => rfl
        | succ j => simp [Addr.add]
      rw [hadd]
      simp [go_sem, hj])
    h1 (by simp only [maxLen]; omega) (by
      have : (n + 1) * bytes ≤ 1000000 * 1000 := Nat.mul_le_mul hn hby
      omega) (by simp; omega)
  rcases h3.2 with ⟨_, h0⟩ | ⟨g, cap, cur, rfl, _⟩
  · omega
  · exact ⟨g, cap, W, h2, h3, h4⟩

theorem step_run_append {P : Program} {ops : Array Oper} {o : Oper} {a : Act} {w W : World} {K : Act → World → Prop} {Q : Exit → Act → World → Prop} {E : Prop}
    (hg : o.guard = none) (s x : Operand) (t : TypeId) (hop : o.op = Op.call { callee := Callee.builtin Builtin.append, args := #[s, x], argTypes := #[t, t] }) (v sl v' : Value)
    (hs : a.eval s = v) (hx : a.eval x = sl) (hrun : (Builtin.append_ #[t, t] o.type #[v, sl]).run P w = .ok v' W) (hK : K (a.put o.dst v') W) :
    if Region.wanted o (yielded ops a.tmps) = true then Oper.wp P o a w K Q else E := by
  have hw : Region.wanted o (yielded ops a.tmps) = true := by simp [Region.wanted, hg]
  rw [if_pos hw]
  unfold Oper.wp
  simp [execOp, hop, resolve, invoke, builtin, hs, hx, hrun, Result.andThen]
  exact hK
end Go.Proofs.YthdccmjdbcllkaaGreatDoor

namespace Go.Proofs.YthdccmjdbcllkaaGreatDoor
open Go.RowKit


theorem number_any (s : ByteArray) (w : World) (hE : Env w) (hs : s.size ≤ 1000000) :
    Calls Tryz.prog 136 #[.string s] w fun e w' => e = .returned (.int .i64 (numF s.data.toList)) ∧ Below w.heap.size w w' := by
  generalize hF : numF s.data.toList = F
  unfold numF at hF
  cases hq : Lib.atoiAll s.data.toList with
  | ok v =>
    rw [hq] at hF
    have HA := Tryz.strconv_Atoi_ok s (by omega) v hq w
    have HE : Hid (v = F) := hF
    clear hF hq
    go_enter Tryz.func136, Tryz.ntmps136
    go_wp2_with fail
    refine HA.mono ?_
    rintro e w' ⟨rfl, hw⟩
    have hb : Below w.heap.size w w' := by
      rcases hw with rfl | ⟨t, rfl⟩
      · exact Below.refl _ _
      · exact Lib.bytesWorld_below _ _ _
    clear hw HA
    go_wp2
    go_ret
    exact ⟨ret_int HE.out, hb⟩
  | range =>
    rw [hq] at hF
    obtain ⟨ev, hv, hev⟩ := hE.errR
    have HA := Tryz.strconv_Atoi_range s (by omega) hq ev w hv hev
    have HE : Hid (Lib.atoiSat s.data.toList = F) := hF
    generalize Lib.atoiSat s.data.toList = v at *
    clear hF hq hv hev
    go_enter Tryz.func136, Tryz.ntmps136
    go_wp2_with fail
    refine HA.mono ?_
    rintro e w' ⟨N, rfl, _, _, hb⟩
    clear HA
    go_wp2
    go_ret
    exact ⟨ret_int HE.out, hb⟩
  | _ =>
    rw [hq] at hF
    obtain ⟨ev, hv, hev⟩ := hE.errS
    have HA := Tryz.strconv_Atoi_syntax s (by omega) hq ev w hv hev
    have HE : Hid (0 = F) := hF
    clear hF hq hv hev
    go_enter Tryz.func136, Tryz.ntmps136
    go_wp2_with fail
    refine HA.mono ?_
    rintro e w' ⟨N, rfl, _, _, hb⟩
    clear HA
    go_wp2
    go_ret
    exact ⟨ret_int HE.out, hb⟩

theorem clone_any (s : ByteArray) (w : World) (hs : s.size ≤ 1000000) :
    Calls Tryz.prog 50 #[.string s] w fun e w' => e = .returned (.string s) ∧ Below w.heap.size w w' := by
  have HA := Tryz.stringslite_Clone s w (by omega)
  go_enter Tryz.func50, Tryz.ntmps50
  go_wp2_with fail
  refine HA.mono ?_
  rintro e w' ⟨rfl, hb⟩
  clear HA
  go_wp2
  go_ret
  exact ⟨rfl, hb⟩
end Go.Proofs.YthdccmjdbcllkaaGreatDoor

namespace Go.Proofs.YthdccmjdbcllkaaGreatDoor
open Go.RowKit

theorem grown_kept {B bo i : Nat} {w w2 W : World} {row : Option Nat} {u : Value} {o : Obj} (hb : Kept B bo w w2) (hB : B ≤ w2.heap.size) (hg : (w2.alloc o).grownBy W row) (hr : ∀ k, row = some k → B ≤ k) : Kept B bo w (W.setCell ⟨bo, i, none⟩ u) :=
  (hb.trans (Kept.of (((Below.refl B w2).alloc hB o).grown hg (by simp; omega) hr) (Nat.le_refl _))).trans ⟨rfl, rfl, rfl, by simp [World.setCell], fun k _ hk => Below.heap_setCell _ _ _ _ hk⟩

theorem Reading.needGrow {B bo : Nat} {w w2 : World} {vN vW vS vT : Value} {o : ObjF} (h : Reading B w2 bo vN vW vS vT o) (hb : Kept B bo w w2) (a : ByteArray) (hn : o.nN + 1 ≤ 1000000) :
    ∃ g cap W, (Builtin.append_ #[72, 72] 72 #[vN, .slice (some ⟨w2.heap.size, 0, none⟩) 1 1]).run Tryz.prog (w2.alloc (.cells #[.string a] 9)) = .ok (.slice (some ⟨g, 0, none⟩) (o.nN + 1) cap) W ∧ W.cell? ⟨bo, 0, none⟩ = some vN ∧ W.frozen? ⟨bo, 0, none⟩ = false ∧
      (∃ v0 v1 v2 v3, Reading B (W.setCell ⟨bo, 0, none⟩ (.slice (some ⟨g, 0, none⟩) (o.nN + 1) cap)) bo v0 v1 v2 v3 (addNeed o a)) ∧ Kept B bo w (W.setCell ⟨bo, 0, none⟩ (.slice (some ⟨g, 0, none⟩) (o.nN + 1) cap)) := by
  have hB : B ≤ w2.heap.size := h.lo
  obtain ⟨g, cap, W, happ, hown, hgr⟩ := append_one 72 9 1 16 (.string ⟨#[]⟩) (by kernel_rfl) (by kernel_rfl) (by rfl) (by decide) B w2 vN o.nN (catV (needC o) o.nN) [.string a] h.needs rfl (by simp [Value.oneCell']) hB hn (by decide)
  obtain ⟨hbo, hRn⟩ := (h.below (show Below w2.heap.size w2 (w2.alloc (.cells #[.string a] 9)) from (Below.refl _ _).alloc (Nat.le_refl _) _)).need hgr hown
  exact ⟨g, cap, W, happ, by simp [World.cell?, hbo], by simp [World.frozen?, hbo], ⟨_, _, _, _, hRn⟩, grown_kept hb hB hgr (fun k hk => (h.needs.lt k hk).1)⟩

theorem Reading.wordGrow {B bo : Nat} {w w2 : World} {vN vW vS vT : Value} {o : ObjF} (h : Reading B w2 bo vN vW vS vT o) (hb : Kept B bo w w2) (a : Int) (hn : o.nW + 1 ≤ 1000000) :
    ∃ g cap W, (Builtin.append_ #[97, 97] 97 #[vW, .slice (some ⟨w2.heap.size, 0, none⟩) 1 1]).run Tryz.prog (w2.alloc (.cells #[.int .i64 a] 3)) = .ok (.slice (some ⟨g, 0, none⟩) (o.nW + 1) cap) W ∧ W.cell? ⟨bo, 1, none⟩ = some vW ∧ W.frozen? ⟨bo, 1, none⟩ = false ∧
      (∃ v0 v1 v2 v3, Reading B (W.setCell ⟨bo, 1, none⟩ (.slice (some ⟨g, 0, none⟩) (o.nW + 1) cap)) bo v0 v1 v2 v3 (addWord o a)) ∧ Kept B bo w (W.setCell ⟨bo, 1, none⟩ (.slice (some ⟨g, 0, none⟩) (o.nW + 1) cap)) := by
  have hB : B ≤ w2.heap.size := h.lo
  obtain ⟨g, cap, W, happ, hown, hgr⟩ := append_one 97 3 1 8 (.int .i64 0) (by kernel_rfl) (by kernel_rfl) (by rfl) (by decide) B w2 vW o.nW (catV (wordC o) o.nW) [.int .i64 a] h.words rfl (by simp [Value.oneCell']) hB hn (by decide)
  obtain ⟨hbo, hRn⟩ := (h.below (show Below w2.heap.size w2 (w2.alloc (.cells #[.int .i64 a] 3)) from (Below.refl _ _).alloc (Nat.le_refl _) _)).word hgr hown
  exact ⟨g, cap, W, happ, by simp [World.cell?, hbo], by simp [World.frozen?, hbo], ⟨_, _, _, _, hRn⟩, grown_kept hb hB hgr (fun k hk => (h.words.lt k hk).1)⟩

theorem Reading.symGrow {B bo : Nat} {w w2 : World} {vN vW vS vT : Value} {o : ObjF} (h : Reading B w2 bo vN vW vS vT o) (hb : Kept B bo w w2) (s : ByteArray) (a : Int) (b : Bool) (hn : o.nS + 1 ≤ 1000000) :
    ∃ g cap W, (Builtin.append_ #[113, 113] 113 #[vS, .slice (some ⟨w2.heap.size, 0, none⟩) 1 1]).run Tryz.prog (w2.alloc (.cells #[.string s, .int .i64 a, .bool b] 155)) = .ok (.slice (some ⟨g, 0, none⟩) (o.nS + 1) cap) W ∧ W.cell? ⟨bo, 2, none⟩ = some vS ∧ W.frozen? ⟨bo, 2, none⟩ = false ∧
      (∃ v0 v1 v2 v3, Reading B (W.setCell ⟨bo, 2, none⟩ (.slice (some ⟨g, 0, none⟩) (o.nS + 1) cap)) bo v0 v1 v2 v3 (addSym o s a b)) ∧ Kept B bo w (W.setCell ⟨bo, 2, none⟩ (.slice (some ⟨g, 0, none⟩) (o.nS + 1) cap)) := by
  have hB : B ≤ w2.heap.size := h.lo
  obtain ⟨g, cap, W, happ, hown, hgr⟩ := append_one 113 155 3 32 (.agg #[.string ⟨#[]⟩, .int .i64 0, .bool false]) (by kernel_rfl) (by kernel_rfl) (by rfl) (by decide) B w2 vS o.nS (catV (symC o) o.nS) [.string s, .int .i64 a, .bool b] h.syms rfl (by simp [Value.oneCell']) hB hn (by decide)
  obtain ⟨hbo, hRn⟩ := (h.below (show Below w2.heap.size w2 (w2.alloc (.cells #[.string s, .int .i64 a, .bool b] 155)) from (Below.refl _ _).alloc (Nat.le_refl _) _)).sym hgr hown
  exact ⟨g, cap, W, happ, by simp [World.cell?, hbo], by simp [World.frozen?, hbo], ⟨_, _, _, _, hRn⟩, grown_kept hb hB hgr (fun k hk => (h.syms.lt k hk).1)⟩

theorem Reading.tieGrow {B bo : Nat} {w w2 : World} {vN vW vS vT : Value} {o : ObjF} (h : Reading B w2 bo vN vW vS vT o) (hb : Kept B bo w w2) (x k d : Int) (s : ByteArray) (b : Bool) (hn : o.nT + 1 ≤ 1000000) :
    ∃ g cap W, (Builtin.append_ #[114, 114] 114 #[vT, .slice (some ⟨w2.heap.size, 0, none⟩) 1 1]).run Tryz.prog (w2.alloc (.cells #[.int .i64 x, .int .i64 k, .int .i64 d, .string s, .bool b] 157)) = .ok (.slice (some ⟨g, 0, none⟩) (o.nT + 1) cap) W ∧ W.cell? ⟨bo, 3, none⟩ = some vT ∧ W.frozen? ⟨bo, 3, none⟩ = false ∧
      (∃ v0 v1 v2 v3, Reading B (W.setCell ⟨bo, 3, none⟩ (.slice (some ⟨g, 0, none⟩) (o.nT + 1) cap)) bo v0 v1 v2 v3 (addTie o x k d s b)) ∧ Kept B bo w (W.setCell ⟨bo, 3, none⟩ (.slice (some ⟨g, 0, none⟩) (o.nT + 1) cap)) := by
  have hB : B ≤ w2.heap.size := h.lo
  obtain ⟨g, cap, W, happ, hown, hgr⟩ := append_one 114 157 5 48 (.agg #[.int .i64 0, .int .i64 0, .int .i64 0, .string ⟨#[]⟩, .bool false]) (by kernel_rfl) (by kernel_rfl) (by rfl) (by decide) B w2 vT o.nT (catV (tieC o) o.nT) [.int .i64 x, .int .i64 k, .int .i64 d, .string s, .bool b] h.ties rfl (by simp [Value.oneCell']) hB hn (by decide)
  obtain ⟨hbo, hRn⟩ := (h.below (show Below w2.heap.size w2 (w2.alloc (.cells #[.int .i64 x, .int .i64 k, .int .i64 d, .string s, .bool b] 157)) from (Below.refl _ _).alloc (Nat.le_refl _) _)).tie hgr hown
  exact ⟨g, cap, W, happ, by simp [World.cell?, hbo], by simp [World.frozen?, hbo], ⟨_, _, _, _, hRn⟩, grown_kept hb hB hgr (fun k hk => (h.ties.lt k hk).1)⟩
end Go.Proofs.YthdccmjdbcllkaaGreatDoor
