/-
  Rows of numbers and rows of ranges of the call's own, that grow by one; what each place of them holds; a list of ranges, cloned.
-/
import Derived.Test.YtidabcoodolddaaGreatDoorAtAll
import Derived.Test.YtidabcoodolddaaGreatDoorPlaceWalks
import Derived.Lib.SliceRun
namespace Go.Proofs.YtidabcoodolddaaGreatDoor
open Go.RowKit

def rngC (f m : Nat → Int) (i : Nat) : List Value := [.int .i64 (f i), .int .i64 (m i)]
def intC (b : Nat → Int) (i : Nat) : List Value := [.int .i64 (b i)]
theorem rngC_len (f m : Nat → Int) (i : Nat) : (rngC f m i).length = 2 := rfl
theorem intC_len (b : Nat → Int) (i : Nat) : (intC b i).length = 1 := rfl

/-- rows of other types lie in other blocks. -/
theorem owns_apart {w : World} {B B' : Nat} {e e' : TypeId} {s s' n n' : Nat} {v v' : Value} {xs xs' : List Value} (h : w.ownsRow B e s v n xs) (h' : w.ownsRow B' e' s' v' n' xs') (he : e ≠ e') : v.ownBlock = none ∨ v.ownBlock ≠ v'.ownBlock := by
  rcases h.2 with ⟨rfl, _⟩ | ⟨g, cap, cur, rfl, _, hg, _⟩
  · exact .inl rfl
  · rcases h'.2 with ⟨rfl, _⟩ | ⟨g', cap', cur', rfl, _, hg', _⟩
    · exact .inr (by simp [Value.ownBlock])
    · refine .inr fun e2 => ?_
      simp [Value.ownBlock] at e2
      subst e2
      rw [hg] at hg'
      injection hg' with hg'
      injection hg' with _ h2 _
      exact he h2

theorem rows_rng {w : World} {B : Nat} {e : TypeId} {v : Value} {n : Nat} {f m : Nat → Int} (h : w.ownsRow B e 2 v n (joinC (rngC f m) n)) : ∃ a c, v = .slice a n c ∧ n ≤ c ∧ RngRow w a n f m := by
  obtain ⟨a, c, rfl, hc⟩ := owns_shape h
  refine ⟨a, c, rfl, hc, ?_⟩
  by_cases h0 : n = 0
  · exact .inl h0
  · have key : ∀ i, i < n → ∀ j u, (rngC f m i)[j]? = some u → j < 2 → ∃ g, a = some ⟨g, 0, none⟩ ∧ B ≤ g ∧ w.cell? ⟨g, i * 2 + j, none⟩ = some u := fun i hi j u hu hj =>
      owns_cell h (by rw [joinC_at (fun i _ => rngC_len f m i) hi hj]; exact hu)
    obtain ⟨g, ha, _, _⟩ := key 0 (by omega) 0 _ rfl (by omega)
    refine .inr ⟨g, 0, ha, fun i hi => ?_⟩
    obtain ⟨g1, ha1, _, h1⟩ := key i hi 0 _ rfl (by omega)
    obtain ⟨g2, ha2, _, h2⟩ := key i hi 1 _ rfl (by omega)
    rw [ha] at ha1 ha2
    injection ha1 with ha1
    injection ha1 with ha1
    injection ha2 with ha2
    injection ha2 with ha2
    subst ha1 ha2
    exact ⟨by simpa using h1, by simpa using h2⟩
theorem rows_rng' {w : World} {B : Nat} {e : TypeId} {a : Option Addr} {n c : Nat} {f m : Nat → Int} (h : w.ownsRow B e 2 (.slice a n c) n (joinC (rngC f m) n)) : RngRow w a n f m := by
  obtain ⟨a', c', e, _, h'⟩ := rows_rng h
  injection e with e1 _ _
  rw [e1]; exact h'
theorem rows_int {w : World} {B : Nat} {e : TypeId} {v : Value} {n : Nat} {b : Nat → Int} (h : w.ownsRow B e 1 v n (joinC (intC b) n)) : ∃ a c, v = .slice a n c ∧ n ≤ c ∧ RowAt w a n fun i => .int .i64 (b i) := by
  obtain ⟨a, c, rfl, hc⟩ := owns_shape h
  refine ⟨a, c, rfl, hc, ?_⟩
  by_cases h0 : n = 0
  · exact .inl h0
  · have key : ∀ i, i < n → ∃ g, a = some ⟨g, 0, none⟩ ∧ B ≤ g ∧ w.cell? ⟨g, i, none⟩ = some (.int .i64 (b i)) := fun i hi =>
      owns_cell h (by have := joinC_at (g := intC b) (s := 1) (n := n) (i := i) (j := 0) (fun i _ => intC_len b i) hi (by omega); simpa [intC] using this)
    obtain ⟨g, ha, _, _⟩ := key 0 (by omega)
    refine .inr ⟨g, 0, ha, fun i hi => ?_⟩
    obtain ⟨g1, ha1, _, h1⟩ := key i hi
    rw [ha] at ha1
    injection ha1 with ha1
    injection ha1 with ha1
    subst ha1
    simpa using h1

/-- one number more. -/
theorem growInt {B : Nat} {w : World} {v : Value} {n : Nat} {b : Nat → Int} (x : Int) (hB : B ≤ w.heap.size) (h : w.ownsRow B 3 1 v n (joinC (intC b) n)) (hn : n < 1000000) :
    ∃ v' W, (Builtin.append_ #[45, 45] 45 #[v, .slice (some ⟨w.heap.size, 0, none⟩) 1 1]).run Tryz.prog (w.alloc (.cells #[.int .i64 x] 3)) = .ok v' W ∧ Grown B 3 1 (w.alloc (.cells #[.int .i64 x] 3)) v (n + 1) (joinC (intC b) n ++ [.int .i64 x]) v' W :=
  append_from 45 3 1 8 (.int .i64 0) (by kernel_rfl) (by kernel_rfl) (by rfl) (by decide) B _ v n _ (h.alloc _) (some ⟨w.heap.size, 0, none⟩) 1 1 [.int .i64 x] rfl
    (.inr ⟨_, _, rfl, fun j u hj => by
      match j, hj with
      | 0, hj => simp at hj; subst hj; simp [go_sem]
      | j + 1, hj => simp at hj⟩) (fun u hu => by simp at hu; subst hu; rfl) (by simp; omega) (by omega) (by decide)
/-- one range more. -/
theorem growRng {B : Nat} {w : World} {v : Value} {n : Nat} {f m : Nat → Int} (x y : Int) (hB : B ≤ w.heap.size) (h : w.ownsRow B 157 2 v n (joinC (rngC f m) n)) (hn : n < 1000000) :
    ∃ v' W, (Builtin.append_ #[153, 153] 153 #[v, .slice (some ⟨w.heap.size, 0, none⟩) 1 1]).run Tryz.prog (w.alloc (.cells #[.int .i64 x, .int .i64 y] 157)) = .ok v' W ∧ Grown B 157 2 (w.alloc (.cells #[.int .i64 x, .int .i64 y] 157)) v (n + 1) (joinC (rngC f m) n ++ [.int .i64 x, .int .i64 y]) v' W :=
  append_from 153 157 2 16 (.agg #[.int .i64 0, .int .i64 0]) (by kernel_rfl) (by kernel_rfl) (by rfl) (by decide) B _ v n _ (h.alloc _) (some ⟨w.heap.size, 0, none⟩) 1 1 [.int .i64 x, .int .i64 y] rfl
    (.inr ⟨_, _, rfl, fun j u hj => by
      match j, hj with
      | 0, hj => simp at hj; subst hj; simp [go_sem]
      | 1, hj => simp at hj; subst hj; simp [go_sem]
      | j + 2, hj => simp at hj⟩) (fun u hu => by simp at hu; rcases hu with rfl | rfl <;> rfl) (by simp; omega) (by omega) (by decide)
theorem joinInt {b b' : Nat → Int} {n : Nat} {x : Int} (h : ∀ i, i < n → b i = b' i) (hx : b' n = x) : joinC (intC b) n ++ [.int .i64 x] = joinC (intC b') (n + 1) := by
  show _ = joinC (intC b') n ++ intC b' n
  rw [joinC_congr (h := intC b') (fun i hi => by simp [intC, h i hi])]
  simp [intC, hx]
theorem joinRng {f m f' m' : Nat → Int} {n : Nat} {x y : Int} (h : ∀ i, i < n → f i = f' i ∧ m i = m' i) (hx : f' n = x) (hy : m' n = y) : joinC (rngC f m) n ++ [.int .i64 x, .int .i64 y] = joinC (rngC f' m') (n + 1) := by
  show _ = joinC (rngC f' m') n ++ rngC f' m' n
  rw [joinC_congr (h := rngC f' m') (fun i hi => by simp [rngC, h i hi])]
  simp [rngC, hx, hy]
/-- the cells of ranges that lie anywhere. -/
theorem rng_cells {w : World} {a : Option Addr} {n : Nat} {f m : Nat → Int} (h : RngRow w a n f m) : n = 0 ∨ ∃ b o, a = some ⟨b, o, none⟩ ∧ ∀ j u, (joinC (rngC f m) n)[j]? = some u → w.cell? ⟨b, o + j, none⟩ = some u := by
  rcases h with h | ⟨b, o, ha, hc⟩
  · exact .inl h
  · refine .inr ⟨b, o, ha, fun j u hj => ?_⟩
    have hlt : j < n * 2 := by
      have := (List.getElem?_eq_some_iff.1 hj).1
      rw [joinC_len (fun i _ => rngC_len f m i)] at this
      exact this
    have e : j = j / 2 * 2 + j % 2 := by omega
    rw [e, joinC_at (fun i _ => rngC_len f m i) (by omega : j / 2 < n) (by omega : j % 2 < 2)] at hj
    have := hc (j / 2) (by omega)
    have hm : j % 2 = 0 ∨ j % 2 = 1 := by omega
    rcases hm with h2 | h2
    · rw [h2] at hj
      simp [rngC] at hj
      rw [e, h2]
      simpa [hj] using this.1
    · rw [h2] at hj
      simp [rngC] at hj
      rw [e, h2, ← Nat.add_assoc]
      simpa [hj] using this.2
theorem rng_one {f m : Nat → Int} {n : Nat} : ∀ u ∈ joinC (rngC f m) n, u.oneCell' = true := fun u hu => by
  obtain ⟨i, _, h⟩ := joinC_mem hu
  simp [rngC] at h
  rcases h with rfl | rfl <;> rfl

set_option maxHeartbeats 1000000 in
theorem cloneRng_any (f m : Nat → Int) (a : Option Addr) (n c : Nat) (w : World) (hn : n ≤ 1000000) (hr : RngRow w a n f m) :
    Calls Tryz.prog 75 #[.slice a n c] w fun e w' => (∃ v', e = .returned v' ∧ w'.ownsRow w.heap.size 157 2 v' n (joinC (rngC f m) n)) ∧ Below w.heap.size w w' := by
  have q : ∀ (w : World) (a : Option Addr) (n c n' c' : Nat), (binOp .eql 153 (.slice a n c) (.slice none n' c')).run Tryz.prog w = .ok (.bool a.isNone) w := fun w a n c n' c' => Lib.run_eql_slice_nil w _ _ a n c n' c' Tryz.underlying153
  cases a with
  | none =>
    have h0 : n = 0 := by
      rcases hr with h | ⟨b, o, h, _⟩
      · exact h
      · cases h
    subst h0
    go_enter Tryz.func75, Tryz.ntmps75
    go_wp2
    go_ret
    exact ⟨⟨_, rfl, World.ownsRow_nil _ _ _ _⟩, Below.refl _ _⟩
  | some ad =>
    obtain ⟨v', W, happ, hG⟩ := append_from 153 157 2 16 (.agg #[.int .i64 0, .int .i64 0]) (by kernel_rfl) (by kernel_rfl) (by rfl) (by decide) w.heap.size (w.alloc (.cells #[] 157)) (.slice (some ⟨w.heap.size, 0, none⟩) 0 0) 0 []
      (World.ownsRow_made w #[] 0 (Nat.le_refl _) (Nat.zero_le _) rfl) (some ad) n c (joinC (rngC f m) n) (joinC_len (fun i _ => rngC_len f m i)) (rng_cells (hr.later ((Below.refl _ _).alloc (Nat.le_refl _) _))) rng_one (by simp) (by omega) (by decide)
    clear hr
    go_enter Tryz.func75, Tryz.ntmps75
    go_wp2_with (at_builtin; refine list_run rfl _ _ 153 rfl _ _ _ rfl rfl happ ?_)
    go_ret
    exact ⟨⟨v', rfl, by simpa using hG.own⟩, ((Below.refl _ _).alloc (Nat.le_refl _) _).trans hG.below⟩
end Go.Proofs.YtidabcoodolddaaGreatDoor
