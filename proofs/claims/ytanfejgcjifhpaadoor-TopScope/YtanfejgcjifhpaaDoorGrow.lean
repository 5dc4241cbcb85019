/-
  Rows of the call's own that grow: append of whatever slice, said once for all element types; at a step of a region that draws its order, and at one that doesn't.
-/
import Derived.Test.YtanfejgcjifhpaaDoorRows
import Derived.WalkKit
import Derived.ProofKit
import Derived.WalkLawsBesides
import Derived.Below
import Derived.WalkSpells
import Derived.Laws.AppendOwn
import Derived.Deep.RegionLaw
namespace Go.Proofs.YtanfejgcjifhpaaDoor
open Go.RowKit

/-- cells of the first k, one behind the other. -/
def joinC (g : Nat → List Value) : Nat → List Value
  | 0 => []
  | k + 1 => joinC g k ++ g k
theorem joinC_congr {g h : Nat → List Value} {n : Nat} (e : ∀ i, i < n → g i = h i) : joinC g n = joinC h n := by
  induction n with
  | zero => rfl
  | succ n ih => simp only [joinC, ih (fun i hi => e i (by omega)), e n (by omega)]
theorem joinC_len {g : Nat → List Value} {s n : Nat} (e : ∀ i, i < n → (g i).length = s) : (joinC g n).length = n * s := by
  induction n with
  | zero => simp [joinC]
  | succ n ih => simp only [joinC, List.length_append, ih (fun i hi => e i (by omega)), e n (by omega), Nat.add_mul]; omega
theorem joinC_at {g : Nat → List Value} {s n i j : Nat} (e : ∀ i, i < n → (g i).length = s) (hi : i < n) (hj : j < s) : (joinC g n)[i * s + j]? = (g i)[j]? := by
  induction n with
  | zero => omega
  | succ n ih =>
    have hl := joinC_len (g := g) (s := s) (n := n) (fun i hi => e i (by omega))
    simp only [joinC]
    by_cases h : i = n
    · subst h
      rw [List.getElem?_append_right (by omega), hl]
      congr 1
      omega
    · have hlt : i * s + j < n * s := by
        have h1 : (i + 1) * s ≤ n * s := Nat.mul_le_mul_right s (by omega)
        rw [Nat.add_mul] at h1
        omega
      rw [List.getElem?_append_left (by omega)]
      exact ih (fun i hi => e i (by omega)) (by omega)
theorem joinC_add {g : Nat → List Value} (n m : Nat) : joinC g (n + m) = joinC g n ++ joinC (fun i => g (n + i)) m := by
  induction m with
  | zero => simp [joinC]
  | succ m ih =>
    show joinC g (n + m) ++ g (n + m) = _
    rw [ih]; simp [joinC]
theorem joinC_mem {g : Nat → List Value} {n : Nat} {u : Value} (h : u ∈ joinC g n) : ∃ i, i < n ∧ u ∈ g i := by
  induction n with
  | zero => simp [joinC] at h
  | succ n ih =>
    simp only [joinC, List.mem_append] at h
    rcases h with h | h
    · obtain ⟨i, hi, hu⟩ := ih h; exact ⟨i, by omega, hu⟩
    · exact ⟨n, by omega, h⟩
theorem add_at (b o j : Nat) : (⟨b, o, none⟩ : Addr).add j = ⟨b, o + j, none⟩ := by cases j <;> simp [Addr.add]

/-- what an owned row's cells are. -/
theorem owns_cell {w : World} {B : Nat} {e : TypeId} {s n : Nat} {a : Option Addr} {m c : Nat} {xs : List Value} (h : w.ownsRow B e s (.slice a m c) n xs) {j : Nat} {u : Value} (hj : xs[j]? = some u) :
    ∃ g, a = some ⟨g, 0, none⟩ ∧ B ≤ g ∧ w.cell? ⟨g, j, none⟩ = some u := by
  have hlen := h.1
  rcases h.2 with ⟨hv, rfl⟩ | ⟨g, cap, cur, hv, hB, hg, _, _, hcs, ht⟩
  · have : xs = [] := List.eq_nil_of_length_eq_zero (by simpa using hlen)
    subst this
    simp at hj
  · injection hv with h1 h2 h3
    refine ⟨g, h1, hB, ?_⟩
    rw [← ht] at hj
    have hlt : j < n * s := by
      have := (List.getElem?_eq_some_iff.1 hj).1
      simp at this
      omega
    rw [List.getElem?_take_of_lt hlt] at hj
    simp [World.cell?, hg]
    simpa using hj
theorem owns_shape {w : World} {B : Nat} {e : TypeId} {s n : Nat} {v : Value} {xs : List Value} (h : w.ownsRow B e s v n xs) : ∃ a c, v = .slice a n c ∧ n ≤ c := by
  rcases h.2 with ⟨rfl, rfl⟩ | ⟨g, cap, cur, rfl, _, _, hc, _⟩
  · exact ⟨_, _, rfl, Nat.le_refl _⟩
  · exact ⟨_, _, rfl, hc⟩
theorem owns_below {w w' : World} {B : Nat} {e : TypeId} {s n : Nat} {v : Value} {xs : List Value} (h : w.ownsRow B e s v n xs) (hb : Below w.heap.size w w') : w'.ownsRow B e s v n xs := by
  refine h.kept (row := none) ⟨hb.os, hb.tape, hb.output, hb.size, fun k hk _ => hb.block k hk⟩ ?_
  cases hv : v.ownBlock <;> simp
/-- memory ahead of B stays when an owned row grows. -/
theorem below_grown {B : Nat} {w w' : World} {e : TypeId} {s n : Nat} {v : Value} {xs : List Value} (h : w.ownsRow B e s v n xs) (hB : B ≤ w.heap.size) (hg : w.grownBy w' v.ownBlock) : Below B w w' :=
  (Below.refl B w).grown hg hB (fun k hk => (h.lt k hk).1)

/-- what becomes of append: it goes on with a row of the call's own that holds both. -/
structure Grown (B : Nat) (e : TypeId) (s : Nat) (w : World) (v : Value) (n : Nat) (xs : List Value) (v' : Value) (W : World) : Prop where
  own : W.ownsRow B e s v' n xs
  grown : w.grownBy W v.ownBlock
  below : Below B w W

theorem append_none (t e ty : TypeId) (size bytes : Nat) (z : Value) (ht : Tryd.prog.underlying t = some (.slice e)) (hinfo : (Tryd.prog.info? e).map (fun i => (i.zero, i.size, i.bytes)) = some (some z, size, bytes))
    (B : Nat) (w : World) (v : Value) (n c : Nat) (xs : List Value) (hown : w.ownsRow B e size v n xs) :
    (Builtin.append_ #[t, t] ty #[v, .slice none 0 c]).run Tryd.prog w = .ok v w := by
  obtain ⟨i, hi, hzz⟩ := Option.map_eq_some_iff.1 hinfo
  simp only [Prod.mk.injEq] at hzz
  obtain ⟨hz, hs, hb⟩ := hzz
  rcases hown.2 with ⟨rfl, rfl⟩ | ⟨g, cap, cur, rfl, hbg, hg, hnc, hcm, hcs, htake⟩
  · simp [Builtin.append_, run_underlying ht, sizeOf, typeInfo, hi, Builtin.lenOf, Builtin.firstCells]
  · simp [Builtin.append_, run_underlying ht, sizeOf, typeInfo, hi, Builtin.lenOf, Builtin.firstCells, hnc, storeCells]

/-- append of whatever slice onto a row of the call's own. -/
theorem append_from (t e : TypeId) (size bytes : Nat) (z : Value) (ht : Tryd.prog.underlying t = some (.slice e)) (hinfo : (Tryd.prog.info? e).map (fun i => (i.zero, i.size, i.bytes)) = some (some z, size, bytes)) (hzs : z.cells.size = size) (hsz : 0 < size)
    (B : Nat) (w : World) (v : Value) (n : Nat) (xs : List Value) (hown : w.ownsRow B e size v n xs) (a : Option Addr) (m c : Nat) (news : List Value) (hl : news.length = m * size)
    (hsrc : m = 0 ∨ ∃ b o, a = some ⟨b, o, none⟩ ∧ ∀ j u, news[j]? = some u → w.cell? ⟨b, o + j, none⟩ = some u) (h1 : ∀ u ∈ news, u.oneCell' = true) (hB : B ≤ w.heap.size) (hn : n + m ≤ 1000000) (hby : bytes ≤ 1000) :
    ∃ v' W, (Builtin.append_ #[t, t] t #[v, .slice a m c]).run Tryd.prog w = .ok v' W ∧ Grown B e size w v (n + m) (xs ++ news) v' W := by
  obtain ⟨i, hi, hzz⟩ := Option.map_eq_some_iff.1 hinfo
  simp only [Prod.mk.injEq] at hzz
  obtain ⟨hz, hs, hb⟩ := hzz
  have hbnd : (n + m) * bytes ≤ 140737488355328 := by
    have : (n + m) * bytes ≤ 1000000 * 1000 := Nat.mul_le_mul hn hby
    omega
  have fin : ∀ (ad : Addr), (∀ j u, news[j]? = some u → w.cell? (ad.add j) = some u) → ∃ v' W, (Builtin.append_ #[t, t] t #[v, .slice (some ad) m c]).run Tryd.prog w = .ok v' W ∧ Grown B e size w v (n + m) (xs ++ news) v' W := fun ad hc => by
    obtain ⟨v', W, h2, h3, h4, _⟩ := run_append_own (P := Tryd.prog) w B t t e i z size bytes ht hi hz hs hb hzs hsz v n xs hown ad m c news hl hc h1 (by simp only [maxLen]; omega) hbnd hB
    exact ⟨v', W, h2, h3, h4, below_grown hown hB h4⟩
  cases a with
  | none =>
    rcases hsrc with rfl | ⟨b, o, h, _⟩
    · have : news = [] := List.eq_nil_of_length_eq_zero (by simpa using hl)
      subst this
      exact ⟨v, w, append_none t e t size bytes z ht hinfo B w v n c xs hown, by simpa using hown, ⟨rfl, rfl, rfl, Nat.le_refl _, fun _ _ _ => rfl⟩, Below.refl _ _⟩
    · cases h
  | some ad =>
    refine fin ad ?_
    rcases hsrc with rfl | ⟨b, o, h, hc⟩
    · have : news = [] := List.eq_nil_of_length_eq_zero (by simpa using hl)
      subst this
      intro j u hj
      simp at hj
    · injection h with h
      subst h
      intro j u hj
      rw [add_at]
      exact hc j u hj

/-- append at a step of a region that draws its order. -/
theorem step_own {P : Program} {ops : Array Oper} {o : Oper} {a : Act} {w : World} {K : Act → World → Prop} {Q : Exit → Act → World → Prop} {E : Prop} {R : Value → World → Prop}
    (hg : o.guard = none) (s x : Operand) (t : TypeId) (hop : o.op = Op.call { callee := Callee.builtin Builtin.append, args := #[s, x], argTypes := #[t, t] }) (v sl : Value)
    (hs : a.eval s = v) (hx : a.eval x = sl) (hrun : ∃ v' W, (Builtin.append_ #[t, t] o.type #[v, sl]).run P w = .ok v' W ∧ R v' W) (hK : ∀ v' W, R v' W → K (a.put o.dst v') W) :
    if Region.wanted o (yielded ops a.tmps) = true then Oper.wp P o a w K Q else E := by
  obtain ⟨v', W, hrun, hR⟩ := hrun
  have hw : Region.wanted o (yielded ops a.tmps) = true := by simp [Region.wanted, hg]
  rw [if_pos hw]
  unfold Oper.wp
  simp [execOp, hop, resolve, invoke, builtin, hs, hx, hrun, Result.andThen]
  exact hK _ _ hR
theorem step_run {P : Program} {ops : Array Oper} {o : Oper} {a : Act} {w W : World} {K : Act → World → Prop} {Q : Exit → Act → World → Prop} {E : Prop}
    (hg : o.guard = none) (s x : Operand) (t : TypeId) (hop : o.op = Op.call { callee := Callee.builtin Builtin.append, args := #[s, x], argTypes := #[t, t] }) (v sl v' : Value)
    (hs : a.eval s = v) (hx : a.eval x = sl) (hrun : (Builtin.append_ #[t, t] o.type #[v, sl]).run P w = .ok v' W) (hK : K (a.put o.dst v') W) :
    if Region.wanted o (yielded ops a.tmps) = true then Oper.wp P o a w K Q else E :=
  step_own (R := fun u X => u = v' ∧ X = W) hg s x t hop v sl hs hx ⟨v', W, hrun, rfl, rfl⟩ (by rintro _ _ ⟨rfl, rfl⟩; exact hK)
theorem list_run {P : Program} {ops : Array Oper} {rest : List Oper} {o : Oper} {a : Act} {w W : World} {Q : Exit → Act → World → Prop} (hg : o.guard = none) (s x : Operand) (t : TypeId)
    (hop : o.op = Op.call { callee := Callee.builtin Builtin.append, args := #[s, x], argTypes := #[t, t] }) (v sl v' : Value)
    (hs : a.eval s = v) (hx : a.eval x = sl) (hrun : (Builtin.append_ #[t, t] o.type #[v, sl]).run P w = .ok v' W) (h : wpList P ops Q rest (a.put o.dst v') W) : wpList P ops Q (o :: rest) a w :=
  wpList_plain hg fun _ hK => by
    unfold Oper.wp
    simp [execOp, hop, resolve, invoke, builtin, hs, hx, hrun, Result.andThen]
    exact hK _ _ h
/-- append at a step of plain code. -/
theorem list_own {P : Program} {ops : Array Oper} {rest : List Oper} {o : Oper} {a : Act} {w : World} {Q : Exit → Act → World → Prop} {R : Value → World → Prop} (hg : o.guard = none) (s x : Operand) (t : TypeId)
    (hop : o.op = Op.call { callee := Callee.builtin Builtin.append, args := #[s, x], argTypes := #[t, t] }) (v sl : Value)
    (hs : a.eval s = v) (hx : a.eval x = sl) (hrun : ∃ v' W, (Builtin.append_ #[t, t] o.type #[v, sl]).run P w = .ok v' W ∧ R v' W) (h : ∀ v' W, R v' W → wpList P ops Q rest (a.put o.dst v') W) : wpList P ops Q (o :: rest) a w := by
  obtain ⟨v', W, hrun, hR⟩ := hrun
  exact wpList_plain hg fun _ hK => by
    unfold Oper.wp
    simp [execOp, hop, resolve, invoke, builtin, hs, hx, hrun, Result.andThen]
    exact hK _ _ (h _ _ hR)
end Go.Proofs.YtanfejgcjifhpaaDoor
