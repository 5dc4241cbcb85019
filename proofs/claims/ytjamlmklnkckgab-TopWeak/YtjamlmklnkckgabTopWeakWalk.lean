/-
  The law TopWeak returns true, for every row of objects, every object, text and number; memory that was there stays as it was.
-/
import Derived.Test.YtjamlmklnkckgabScopeFind
import Derived.Test.YtjamlmklnkckgabLightObjs
import Derived.Test.YtjamlmklnkckgabGrowObjs
import Derived.Test.YtjamlmklnkckgabPlainWeak
import Derived.Deep.RegionWith
import Derived.Deep.CutRange
import Derived.Laws.BitsLemmas
namespace Go.Proofs.Ytjamlmklnkckgab
open Go.RowKit

abbrev xName : ByteArray := ⟨#[120]⟩
/-- an object of one symbol. -/
def oneSym (b : Bool) : ObjF := ⟨0, fun _ => xName, 0, fun _ => 0, 1, fun _ => xName, fun _ => 0, fun _ => b, 0, fun _ => 0, fun _ => 0, fun _ => 0, fun _ => xName, fun _ => false⟩
def oneV (bk : Nat) : ObjV := ⟨none, 0, none, 0, some ⟨bk, 0, none⟩, 1, none, 0⟩
theorem one_found {p q : Int} (h : IsFound (symsF 1 fun _ => oneSym true) xName p q) : p = 0 ∧ q = 0 := by
  have h2 : IsFound (symsF 1 fun _ => oneSym true) xName ((0 : Nat) : Int) ((0 : Nat) : Int) :=
    .weak 0 0 ⟨by decide, by decide, rfl⟩ (fun a b hh e => by unfold Bef at e; omega) fun a b hh => rfl
  simpa using h.unique h2
/-- the world behind an object of one symbol. -/
abbrev oneW (w : World) (B : Nat) : World :=
  (w.alloc (.cells #[.string xName, .int .i64 0, .bool true] 32)).alloc (.cells #[.slice none 0 0, .slice none 0 0, .slice (some ⟨B, 0, none⟩) 1 1, .slice none 0 0] 28)
theorem closed_find (w : World) (B : Nat) (hB : w.heap.size = B) : Calls Try.prog 4 #[.slice (some ⟨B + 1, 0, none⟩) 1 1, .string xName] (oneW w B) fun e w' => e = .returned (.tuple #[.int .i64 0, .int .i64 0]) ∧ Below w.heap.size w w' := by
  subst hB
  have hb : Below w.heap.size w (oneW w w.heap.size) := ((Below.refl _ _).alloc (Nat.le_refl _) _).alloc (by simp) _
  have hr : ObjsRow (oneW w w.heap.size) (some ⟨w.heap.size + 1, 0, none⟩) 1 (fun _ => oneV w.heap.size) (fun _ => oneSym true) := by
    refine .inr ⟨_, _, rfl, fun i hi => ?_⟩
    have : i = 0 := by omega
    subst this
    refine ⟨by simp [go_sem, oneV, oneSym], by simp [go_sem, oneV, oneSym], by simp [go_sem, oneV, oneSym], by simp [go_sem, oneV, oneSym], ⟨.inl rfl, .inl rfl, .inr ⟨_, _, rfl, fun j hj => ?_⟩, .inl rfl, Nat.le_refl _, Nat.le_refl _⟩⟩
    have e : j = 0 := by simp [oneSym] at hj; omega
    subst e
    exact ⟨by simp [go_sem, oneSym], by simp [go_sem, oneSym], by simp [go_sem, oneSym]⟩
  refine (find_any _ 1 1 _ _ xName _ (by decide) (fun i _ => by simp [oneSym]) hr).mono ?_
  rintro e w' ⟨⟨p, q, rfl, hF⟩, hb'⟩
  obtain ⟨rfl, rfl⟩ := one_found hF
  exact ⟨rfl, hb.trans (hb'.mono hb.size)⟩

theorem i64_and1023 (n : Int) : bits .and .i64 n 1023 = n % 1024 := by
  have h1 : (BitVec.ofInt 64 1023).toNat = 2 ^ 10 - 1 := by decide
  have key : (BitVec.ofInt 64 n &&& BitVec.ofInt 64 1023).toNat = (n % ((2 ^ 64 : Nat) : Int)).toNat % 2 ^ 10 := by
    rw [BitVec.toNat_and, BitVec.toNat_ofInt, h1, Nat.and_two_pow_sub_one_eq_mod]
  show IntKind.i64.wrap ((BitVec.ofInt 64 n &&& BitVec.ofInt 64 1023).toNat : Nat) = n % 1024
  rw [key, IntKind.wrap_i64]
  omega
theorem place_of (x : Int) (n : Nat) : ∃ k : Nat, k ≤ n ∧ (bits .and .i64 x 1023).tmod ((n : Int) + 1) = k := by
  rw [i64_and1023]
  have h0 : 0 ≤ x % 1024 := by omega
  rw [Int.tmod_eq_emod_of_nonneg h0]
  have h1 : 0 ≤ x % 1024 % ((n : Int) + 1) := Int.emod_nonneg _ (by omega)
  have h2 : x % 1024 % ((n : Int) + 1) < (n : Int) + 1 := Int.emod_lt_of_pos _ (by omega)
  exact ⟨(x % 1024 % ((n : Int) + 1)).toNat, by omega, by omega⟩
/-- has it one of that name, among the first k? one that isn't weak? -/
def hasTo (o : ObjF) (s : ByteArray) (k : Nat) : Bool := anyTo (fun j => decide (o.sName j = s)) k
def strongTo (o : ObjF) (s : ByteArray) (k : Nat) : Bool := anyTo (fun j => decide (o.sName j = s) && !o.sWeak j) k
theorem anyTo_no_iff {p : Nat → Bool} {n : Nat} (h : anyTo p n = false) : ∀ i, i < n → p i = false := by
  intro i hi
  cases hp : p i with
  | false => rfl
  | true => rw [anyTo_yes hi hp] at h; cases h

/-- the object at a place, boxed. -/
structure Boxed (w wr : World) (aN aW aS aT : Option Addr) (cN cW cS cT : Nat) (o : ObjF) : Prop where
  below : Below w.heap.size w wr
  p0 : wr.cell? ⟨w.heap.size, 0, none⟩ = some (.slice aN o.nN cN)
  p1 : wr.cell? ⟨w.heap.size, 1, none⟩ = some (.slice aW o.nW cW)
  p2 : wr.cell? ⟨w.heap.size, 2, none⟩ = some (.slice aS o.nS cS)
  p3 : wr.cell? ⟨w.heap.size, 3, none⟩ = some (.slice aT o.nT cT)
theorem Boxed.later {w wr w2 : World} {aN aW aS aT : Option Addr} {cN cW cS cT : Nat} {o : ObjF} (h : Boxed w wr aN aW aS aT cN cW cS cT o) (hb : Below wr.heap.size wr w2) : Boxed w w2 aN aW aS aT cN cW cS cT o :=
  ⟨h.below.trans (hb.mono h.below.size), cell_later hb h.p0, cell_later hb h.p1, cell_later hb h.p2, cell_later hb h.p3⟩

theorem below_new {w w' : World} (h : Below w.heap.size w w') (ob : Obj) : Below w.heap.size w (w'.alloc ob) := h.alloc h.size ob
theorem below_step {B : Nat} {w X W : World} (hX : Below B w X) (h : Below X.heap.size X W) (hB : B ≤ w.heap.size) : Below B w W := hX.trans (h.mono (Nat.le_trans hB hX.size))
theorem undrew1 {B : Nat} {w w' : World} (h : Below B w.drew w') : Below B w w' := ⟨h.os, h.tape, h.output, h.size, h.block⟩
/-- one object, as a row of one. -/
theorem one_src {w : World} {g : Nat} {v : ObjV} {o : ObjF} (h0 : w.cell? ⟨g, 0, none⟩ = some (.slice v.aN o.nN v.cN)) (h1 : w.cell? ⟨g, 1, none⟩ = some (.slice v.aW o.nW v.cW)) (h2 : w.cell? ⟨g, 2, none⟩ = some (.slice v.aS o.nS v.cS)) (h3 : w.cell? ⟨g, 3, none⟩ = some (.slice v.aT o.nT v.cT)) (hA : ObjAt w v o) :
    ObjsRow w (some ⟨g, 0, none⟩) 1 (fun _ => v) (fun _ => o) := by
  refine .inr ⟨g, 0, rfl, fun i hi => ?_⟩
  have e : i = 0 := by omega
  subst e
  exact ⟨by simpa using h0, by simpa using h1, by simpa using h2, by simpa using h3, hA⟩
/-- objects of two rows. -/
theorem at_cat {w : World} {n m : Nat} {V V' : Nat → ObjV} {O O' : Nat → ObjF} (h : ∀ i, i < n → ObjAt w (V i) (O i)) (h' : ∀ i, i < m → ObjAt w (V' i) (O' i)) : ∀ i, i < n + m → ObjAt w (catV2 n V V' i) (catV2 n O O' i) := by
  intro i hi
  unfold catV2
  by_cases e : i < n
  · rw [if_pos e, if_pos e]; exact h i e
  · rw [if_neg e, if_neg e]; exact h' _ (by omega)
theorem rows_at {w : World} {a : Option Addr} {n : Nat} {V : Nat → ObjV} {O : Nat → ObjF} (h : ObjsRow w a n V O) : ∀ i, i < n → ObjAt w (V i) (O i) := by
  intro i hi
  rcases h with h | ⟨b, o, _, hc⟩
  · omega
  · exact (hc i hi).here
/-- one object behind the others. -/
theorem found_end {n : Nat} {O : Nat → ObjF} {o : ObjF} {s : ByteArray} {p q : Int} (hF : IsFound (symsF n O) s p q) (h1 : strongTo o s o.nS = false) (h2 : hasTo o s o.nS = true → ¬ p < 0) {p2 q2 : Int} (hF2 : IsFound (symsF (n + 1) (catV2 n O fun _ => o)) s p2 q2) : p = p2 ∧ q = q2 := by
  have hO : OneMore (symsF n O) (symsF (n + 1) (catV2 n O fun _ => o)) (symsF n O).n := by
    refine ⟨Nat.le_refl _, rfl, fun i h => ?_, fun i j h => ?_, fun i j h => ?_, fun i h h' => absurd h' (Nat.not_lt.2 h), fun i j h h' => absurd h' (Nat.not_lt.2 h), fun i j h h' => absurd h' (Nat.not_lt.2 h)⟩
    all_goals
      have : i < n := h
      simp [symsF, catV2, this]
  refine (hF.behind hO fun j hh => ?_).unique hF2
  have hj : j < o.nS := by have := hh.lk; simpa [symsF, catV2] using this
  have hnm : o.sName j = s := by have := hh.eq; simpa [symsF, catV2] using this
  refine ⟨?_, h2 (anyTo_yes hj (by simp [hnm]))⟩
  have := anyTo_no_iff h1 j hj
  simp [hnm] at this
  simpa [symsF, catV2] using this

/-- one object among the others, that doesn't have it. -/
theorem found_mid {n k : Nat} {O : Nat → ObjF} {o : ObjF} {s : ByteArray} {p q : Int} (hk : k ≤ n) (hF : IsFound (symsF n O) s p q) (h1 : hasTo o s o.nS = false) {p2 q2 : Int} (hF2 : IsFound (symsF (k + 1 + (n - k)) (catV2 (k + 1) (catV2 k O fun _ => o) fun i => O (k + i))) s p2 q2) : p2 = farther k p ∧ q2 = q := by
  have lo : ∀ i, i < k → catV2 (k + 1) (catV2 k O fun _ => o) (fun i => O (k + i)) i = O i := fun i h => by
    unfold catV2; rw [if_pos (by omega), if_pos h]
  have mid : catV2 (k + 1) (catV2 k O fun _ => o) (fun i => O (k + i)) k = o := by
    unfold catV2; rw [if_pos (by omega), if_neg (by omega)]
  have hi : ∀ i, k ≤ i → catV2 (k + 1) (catV2 k O fun _ => o) (fun i => O (k + i)) (i + 1) = O i := fun i h => by
    unfold catV2; rw [if_neg (by omega)]; show O (k + (i + 1 - (k + 1))) = O i; rw [show k + (i + 1 - (k + 1)) = i by omega]
  have hO : OneMore (symsF n O) (symsF (k + 1 + (n - k)) (catV2 (k + 1) (catV2 k O fun _ => o) fun i => O (k + i))) k :=
    ⟨hk, by show k + 1 + (n - k) = n + 1; omega, fun i h => by simp only [symsF, lo i h], fun i j h => by simp only [symsF, lo i h], fun i j h => by simp only [symsF, lo i h], fun i h _ => by simp only [symsF, hi i h], fun i j h _ => by simp only [symsF, hi i h], fun i j h _ => by simp only [symsF, hi i h]⟩
  refine hF2.unique (hF.more hO fun j hh => ?_)
  have hj : j < o.nS := by have := hh.lk; simp only [symsF, mid] at this; exact this
  have hnm : o.sName j = s := by have := hh.eq; simp only [symsF, mid] at this; exact this
  have := anyTo_no_iff h1 j hj
  simp [hnm] at this
theorem found_bounds {n : Nat} {O : Nat → ObjF} {s : ByteArray} {p q : Int} (hF : IsFound (symsF n O) s p q) : -1 ≤ p ∧ p < n := by
  rcases hF.shape with ⟨h, _, _⟩ | ⟨x, y, h, _, hh⟩
  · omega
  · have : x < n := hh.li
    omega
set_option maxRecDepth 100000 in
set_option maxHeartbeats 4000000 in
theorem topWeak_walk (a : Option Addr) (n c : Nat) (V : Nat → ObjV) (O : Nat → ObjF) (v : ObjV) (o : ObjF) (s : ByteArray) (at' : Int) (w : World) (hr : ObjsRow w a n V O) (hf : ∀ i, i < n → ObjFit (O i)) (hA : ObjAt w v o) (hfo : ObjFit o) (hc : n ≤ c) :
    Calls Try.prog 3 #[.slice a n c, .agg (v.cells o), .string s, .int .i64 at'] w fun e w' => e = .returned (.bool true) ∧ Below w.heap.size w w' := by
  obtain ⟨aN, cN, aW, cW, aS, cS, aT, cT⟩ := v
  unfold ObjV.cells
  have hx : Boxed w (w.alloc (.cells #[.slice aN o.nN cN, .slice aW o.nW cW, .slice aS o.nS cS, .slice aT o.nT cT] 28)) aN aW aS aT cN cW cS cT o :=
    ⟨(Below.refl _ _).alloc (Nat.le_refl _) _, by simp [go_sem], by simp [go_sem], by simp [go_sem], by simp [go_sem]⟩
  have HC := closed_find (w.alloc (.cells #[.slice aN o.nN cN, .slice aW o.nW cW, .slice aS o.nS cS, .slice aT o.nT cT] 28)) (w.heap.size + 1) (by simp)
  go_enter Try.func3, Try.ntmps3
  go_wp2_with fail
  refine HC.mono ?_
  rintro e w1 ⟨rfl, hb⟩
  replace hx := hx.later hb
  clear HC hb
  have HL := lights_any a n c V O w1 (hr.later hx.below) hf
  clear hf
  go_wp2_with fail
  refine HL.mono ?_
  rintro e w2 ⟨⟨b, rfl, hl⟩, hb2⟩
  replace hx := hx.later hb2
  clear HL hb2
  cases b with
  | false =>
    clear hl hr
    go_wp2
    go_ret
    exact ⟨rfl, hx.below⟩
  | true =>
    obtain ⟨h8, hl⟩ := hl rfl
    have HL := light_full ⟨aN, cN, aW, cW, aS, cS, aT, cT⟩ o w2 (hA.later hx.below) hfo
    unfold ObjV.cells at HL
    have p0 := hx.p0
    have p1 := hx.p1
    have p2 := hx.p2
    have p3 := hx.p3
    have hS : ∀ i, i < n → (O i).nS ≤ 10 := fun i hi => (hl i hi).nS
    clear hl
    go_wp2_with fail
    refine HL.mono ?_
    rintro e w3 ⟨⟨b, rfl, hlo⟩, hb3⟩
    replace hx := hx.later hb3
    clear HL hb3 p0 p1 p2 p3
    cases b with
    | false =>
      clear hlo hr
      go_wp2
      go_ret
      exact ⟨rfl, hx.below⟩
    | true =>
      have hoS := (hlo rfl).nS
      clear hlo
      by_cases hs : 20 < s.size
      · have hs' : (20 : Int) < (s.size : Int) := by omega
        clear hr hs
        go_wp2
        go_ret
        exact ⟨rfl, hx.below⟩
      · have hs' : ¬ (20 : Int) < (s.size : Int) := by omega
        clear hs
        go_wp2
        go_loopw [11, 12, 13] (fun x y z wr => ∃ (k : Nat) (b1 b2 : Bool), k ≤ o.nS ∧ z = .int .i64 k ∧ x = .bool b1 ∧ y = .bool b2 ∧ Hid (hasTo o s k = b1) ∧ Hid (strongTo o s k = b2) ∧ wr = w3) (fun _ _ z _ => o.nS - (intOf z).toNat)
        case atStart => exact ⟨0, false, false, Nat.zero_le _, rfl, rfl, rfl, rfl, rfl, rfl⟩
        case round =>
          obtain ⟨k, b1, b2, hk, rfl, rfl, rfl, H1, H2, hw⟩ := hrel
          replace hw := hw.symm
          subst hw
          have p2 := hx.p2
          by_cases hlt : k < o.nS
          · rcases (hA.later hx.below).syms with h0 | ⟨b3, o3, ha3, hs3⟩
            · exfalso; have h0' : o.nS = 0 := h0; omega
            have ha4 : aS = some ⟨b3, o3, none⟩ := ha3
            have d0 := (hs3 k hlt).1
            have d2 := (hs3 k hlt).2.2
            rw [ha4] at p2
            clear hs3 hr
            by_cases hnm : o.sName k = s
            · have hn1 : ((o.sName k).toList == s.toList) = true := by rw [toList_beq]; exact decide_eq_true hnm
              have E1 : Hid (hasTo o s (k + 1) = true) := by show hasTo o s (k + 1) = true; simp [hasTo, anyTo, hnm]
              cases hwk : o.sWeak k with
              | false =>
                have E2 : Hid (strongTo o s (k + 1) = true) := by show strongTo o s (k + 1) = true; simp [strongTo, anyTo, hnm, hwk]
                rw [hwk] at d2
                clear hwk hnm
                cases b1 <;> cases b2
                all_goals
                  go_wp2
                  go_roundw
                  case rel => exact ⟨k + 1, true, true, by omega, by go_num, rfl, rfl, E1, E2, trivial⟩
                  case measure => simp [intOf]; omega
              | true =>
                have E2 : Hid (strongTo o s (k + 1) = b2) := by show strongTo o s (k + 1) = b2; rw [← H2.out]; simp [strongTo, anyTo, hwk]
                rw [hwk] at d2
                clear hwk hnm
                cases b1 <;> cases b2
                all_goals
                  go_wp2
                  go_roundw
                  case rel => exact ⟨k + 1, true, _, by omega, by go_num, rfl, rfl, E1, E2, trivial⟩
                  case measure => simp [intOf]; omega
            · have hn1 : ((o.sName k).toList == s.toList) = false := by rw [toList_beq]; exact decide_eq_false hnm
              have E1 : Hid (hasTo o s (k + 1) = b1) := by show hasTo o s (k + 1) = b1; rw [← H1.out]; simp [hasTo, anyTo, hnm]
              have E2 : Hid (strongTo o s (k + 1) = b2) := by show strongTo o s (k + 1) = b2; rw [← H2.out]; simp [strongTo, anyTo, hnm]
              clear hnm
              cases b1 <;> cases b2
              all_goals
                go_wp2
                go_roundw
                case rel => exact ⟨k + 1, _, _, by omega, by go_num, rfl, rfl, E1, E2, trivial⟩
                case measure => simp [intOf]; omega
          · have e : k = o.nS := by omega
            subst e
            have HF := find_any a n c V O s w3 (by omega) (fun i hi => by have := hS i hi; omega) (hr.later hx.below)
            go_wp2_with fail
            refine HF.mono ?_
            rintro e w4 ⟨⟨p, q, rfl, hF⟩, hb4⟩
            replace hx := hx.later hb4
            clear HF hb4 p2
            have hgo : (b2 = true ∨ (b1 = true ∧ p < 0)) ∨ (b2 = false ∧ (b1 = true → ¬ p < 0)) := by
              cases b1 <;> cases b2 <;> simp <;> omega
            rcases hgo with hgo | ⟨rfl, hp⟩
            · have hB := hx.below
              clear H1 H2 hF hr hA hfo hS hx
              rcases hgo with rfl | ⟨rfl, hp⟩
              · go_wp2
                go_ret
                exact ⟨rfl, hB⟩
              · cases b2
                all_goals
                  go_wp2
                  go_ret
                  exact ⟨rfl, hB⟩
            · have hB4 := hx.below
              have hr4 := hr.later hB4
              have hA4 := hA.later hB4
              have p0 := hx.p0
              have p1 := hx.p1
              have p2 := hx.p2
              have p3 := hx.p3
              cases b1 with
              | true =>
                have hp' := hp rfl
                clear hp
                have hU : ∀ {p2 q2 : Int}, IsFound (symsF (n + 1) (catV2 n O fun _ => o)) s p2 q2 → p = p2 ∧ q = q2 := fun h => found_end hF H2.out (fun _ => hp') h
                have hS2 : ∀ i, i < n + 1 → (catV2 n O (fun _ => o) i).nS ≤ 1000000000 := fun i hi => by
                  unfold catV2
                  by_cases e : i < n
                  · rw [if_pos e]; have := hS i e; omega
                  · rw [if_neg e]; show o.nS ≤ _; omega
                clear hF H1 H2
                go_upto_region 16 with fail
                go_cut [14, 15] from 98 to 107 (fun x y wc => x = .int .i64 p ∧ y = .int .i64 q ∧ Boxed w wc aN aW aS aT cN cW cS cT o)
                case first =>
                  go_region_law (first
                    | (refine step_run rfl _ _ 22 rfl v1 _ _ rfl rfl happ ?_; clear happ)
                    | (refine step_own rfl _ _ 22 rfl _ _ rfl rfl (append_objs_beside w4.heap.size w4 _ (.slice aN o.nN cN) (.slice aW o.nW cW) (.slice aS o.nS cS) (.slice aT o.nT cT) V O a n c ?hX hr4 (Nat.le_refl _) (by omega)) ?_
                       case hX => (first | exact Below.refl _ _ | exact (Below.refl _ _).drew | exact (Below.refl _ _).drew.drew | exact (Below.refl _ _).drew.drew.drew)
                       rintro v1 W1 ⟨own1, bel1, s0, s1, s2, s3⟩
                       have b41 := bel1
                       have bx1 := hx.later b41
                       replace p0 := bx1.p0
                       replace p1 := bx1.p1
                       replace p2 := bx1.p2
                       replace p3 := bx1.p3
                       obtain ⟨v2, W2, happ, own2, bel2⟩ := append_objs w4.heap.size W1 v1 n V (fun _ => ⟨aN, cN, aW, cW, aS, cS, aT, cT⟩) O (fun _ => o) (some ⟨w4.heap.size, 0, none⟩) 1 1 (owns_below own1 (by repeat (first | exact Below.refl _ _ | refine Below.drew ?_ | refine below_new ?_ _))) (one_src s0 s1 s2 s3 (hA4.later (by first | exact b41 | exact below_new b41 _))) (by have := b41.size; simp; omega) (by omega)
                       have b42 := Below.trans (show Below w4.heap.size w4 W1 by first | exact b41 | exact below_new b41 _) bel2
                       obtain ⟨a2, c2, rfl, _, row2⟩ := OwnObjs.row own2 (at_cat (rows_at (hr4.later b42)) (fun _ _ => hA4.later b42))
                       clear bel1 bel2 own2 own1)
                    | (refine step_own rfl _ _ 22 rfl _ _ rfl rfl (append_objs_nil w4.heap.size _ V O a n c (hr4.later (by repeat (first | exact Below.refl _ _ | refine Below.drew ?_ | refine below_new ?_ _))) (by simp) (by omega)) ?_
                       rintro v1 W1 ⟨own1, bel1⟩
                       have b41 := below_step (w := w4) (by repeat (first | exact Below.refl _ _ | refine Below.drew ?_ | refine below_new ?_ _)) bel1 (Nat.le_refl _)
                       have bx1 := hx.later b41
                       replace p0 := bx1.p0
                       replace p1 := bx1.p1
                       replace p2 := bx1.p2
                       replace p3 := bx1.p3
                       obtain ⟨v2, W2, happ, own2, bel2⟩ := append_objs w4.heap.size (W1.alloc (.cells #[.slice aN o.nN cN, .slice aW o.nW cW, .slice aS o.nS cS, .slice aT o.nT cT] 28)) v1 n V (fun _ => ⟨aN, cN, aW, cW, aS, cS, aT, cT⟩) O (fun _ => o) (some ⟨W1.heap.size, 0, none⟩) 1 1 (owns_below own1 (by repeat (first | exact Below.refl _ _ | refine Below.drew ?_ | refine below_new ?_ _))) (one_src (by simp [go_sem]) (by simp [go_sem]) (by simp [go_sem]) (by simp [go_sem]) (hA4.later (by first | exact b41 | exact below_new b41 _))) (by have := b41.size; simp; omega) (by omega)
                       have b42 := Below.trans (show Below w4.heap.size w4 (W1.alloc (.cells #[.slice aN o.nN cN, .slice aW o.nW cW, .slice aS o.nS cS, .slice aT o.nT cT] 28)) by first | exact b41 | exact below_new b41 _) bel2
                       obtain ⟨a2, c2, rfl, _, row2⟩ := OwnObjs.row own2 (at_cat (rows_at (hr4.later b42)) (fun _ _ => hA4.later b42))
                       clear bel1 bel2 own2 own1)
                    | (go_simp
                       go_at_call 4
                       refine (find_any a2 (n + 1) c2 _ _ s _ (by omega) hS2 (row2.later (by repeat (first | exact Below.refl _ _ | refine Below.drew ?_ | refine below_new ?_ _)))).mono ?_
                       rintro e w5 ⟨⟨p5, q5, rfl, hF5⟩, hb5⟩
                       obtain ⟨rfl, rfl⟩ := hU hF5
                       try replace hb5 := undrew1 hb5
                       have bx5 := (hx.later b42).later hb5))
                  all_goals
                    go_wp2
                    go_meet
                    exact ⟨rfl, rfl, bx5⟩
                case rest =>
                  obtain ⟨rfl, rfl, hx5⟩ := hcut
                  have hB5 := hx5.below
                  go_wp2
                  go_ret
                  exact ⟨rfl, hB5⟩
              | false =>
                clear hp
                have hU : ∀ {p2 q2 : Int}, IsFound (symsF (n + 1) (catV2 n O fun _ => o)) s p2 q2 → p = p2 ∧ q = q2 := fun h => found_end hF H2.out (fun h1 => absurd (h1.symm.trans H1.out) (by decide)) h
                have hS2 : ∀ i, i < n + 1 → (catV2 n O (fun _ => o) i).nS ≤ 1000000000 := fun i hi => by
                  unfold catV2
                  by_cases e : i < n
                  · rw [if_pos e]; have := hS i e; omega
                  · rw [if_neg e]; show o.nS ≤ _; omega
                clear H2
                go_upto_region 16 with fail
                go_cut [14, 15] from 98 to 107 (fun x y wc => x = .int .i64 p ∧ y = .int .i64 q ∧ Boxed w wc aN aW aS aT cN cW cS cT o)
                case first =>
                  go_region_law (first
                    | (refine step_run rfl _ _ 22 rfl v1 _ _ rfl rfl happ ?_; clear happ)
                    | (refine step_own rfl _ _ 22 rfl _ _ rfl rfl (append_objs_beside w4.heap.size w4 _ (.slice aN o.nN cN) (.slice aW o.nW cW) (.slice aS o.nS cS) (.slice aT o.nT cT) V O a n c ?hX hr4 (Nat.le_refl _) (by omega)) ?_
                       case hX => (first | exact Below.refl _ _ | exact (Below.refl _ _).drew | exact (Below.refl _ _).drew.drew | exact (Below.refl _ _).drew.drew.drew)
                       rintro v1 W1 ⟨own1, bel1, s0, s1, s2, s3⟩
                       have b41 := bel1
                       have bx1 := hx.later b41
                       replace p0 := bx1.p0
                       replace p1 := bx1.p1
                       replace p2 := bx1.p2
                       replace p3 := bx1.p3
                       obtain ⟨v2, W2, happ, own2, bel2⟩ := append_objs w4.heap.size W1 v1 n V (fun _ => ⟨aN, cN, aW, cW, aS, cS, aT, cT⟩) O (fun _ => o) (some ⟨w4.heap.size, 0, none⟩) 1 1 (owns_below own1 (by repeat (first | exact Below.refl _ _ | refine Below.drew ?_ | refine below_new ?_ _))) (one_src s0 s1 s2 s3 (hA4.later (by first | exact b41 | exact below_new b41 _))) (by have := b41.size; simp; omega) (by omega)
                       have b42 := Below.trans (show Below w4.heap.size w4 W1 by first | exact b41 | exact below_new b41 _) bel2
                       obtain ⟨a2, c2, rfl, _, row2⟩ := OwnObjs.row own2 (at_cat (rows_at (hr4.later b42)) (fun _ _ => hA4.later b42))
                       clear bel1 bel2 own2 own1)
                    | (refine step_own rfl _ _ 22 rfl _ _ rfl rfl (append_objs_nil w4.heap.size _ V O a n c (hr4.later (by repeat (first | exact Below.refl _ _ | refine Below.drew ?_ | refine below_new ?_ _))) (by simp) (by omega)) ?_
                       rintro v1 W1 ⟨own1, bel1⟩
                       have b41 := below_step (w := w4) (by repeat (first | exact Below.refl _ _ | refine Below.drew ?_ | refine below_new ?_ _)) bel1 (Nat.le_refl _)
                       have bx1 := hx.later b41
                       replace p0 := bx1.p0
                       replace p1 := bx1.p1
                       replace p2 := bx1.p2
                       replace p3 := bx1.p3
                       obtain ⟨v2, W2, happ, own2, bel2⟩ := append_objs w4.heap.size (W1.alloc (.cells #[.slice aN o.nN cN, .slice aW o.nW cW, .slice aS o.nS cS, .slice aT o.nT cT] 28)) v1 n V (fun _ => ⟨aN, cN, aW, cW, aS, cS, aT, cT⟩) O (fun _ => o) (some ⟨W1.heap.size, 0, none⟩) 1 1 (owns_below own1 (by repeat (first | exact Below.refl _ _ | refine Below.drew ?_ | refine below_new ?_ _))) (one_src (by simp [go_sem]) (by simp [go_sem]) (by simp [go_sem]) (by simp [go_sem]) (hA4.later (by first | exact b41 | exact below_new b41 _))) (by have := b41.size; simp; omega) (by omega)
                       have b42 := Below.trans (show Below w4.heap.size w4 (W1.alloc (.cells #[.slice aN o.nN cN, .slice aW o.nW cW, .slice aS o.nS cS, .slice aT o.nT cT] 28)) by first | exact b41 | exact below_new b41 _) bel2
                       obtain ⟨a2, c2, rfl, _, row2⟩ := OwnObjs.row own2 (at_cat (rows_at (hr4.later b42)) (fun _ _ => hA4.later b42))
                       clear bel1 bel2 own2 own1)
                    | (go_simp
                       go_at_call 4
                       refine (find_any a2 (n + 1) c2 _ _ s _ (by omega) hS2 (row2.later (by repeat (first | exact Below.refl _ _ | refine Below.drew ?_ | refine below_new ?_ _)))).mono ?_
                       rintro e w5 ⟨⟨p5, q5, rfl, hF5⟩, hb5⟩
                       obtain ⟨rfl, rfl⟩ := hU hF5
                       try replace hb5 := undrew1 hb5
                       have bx5 := (hx.later b42).later hb5))
                  all_goals
                    go_wp2
                    go_meet
                    exact ⟨rfl, rfl, bx5⟩
                case rest =>
                  obtain ⟨rfl, rfl, hx5⟩ := hcut
                  obtain ⟨w5, hw5⟩ : ∃ w5, w5 = wc := ⟨_, rfl⟩
                  subst hw5
                  have hr5 := hr.later hx5.below
                  have hA5 := hA.later hx5.below
                  clear hr4 hA4 hr hA hx p0 p1 p2 p3 hU hB4
                  go_upto_if 119 with fail
                  go_cut [16] from 120 to 125 (fun x w6 => ∃ k : Nat, k ≤ n ∧ x = .int .i64 k ∧ w6 = w5)
                  case first =>
                    by_cases hn0 : n = 0
                    · subst hn0
                      go_wp2
                      go_meet
                      exact ⟨0, Nat.le_refl _, rfl, rfl⟩
                    · have hn1 : (0 : Int) < (n : Int) := by omega
                      obtain ⟨k, hk, ek⟩ := place_of at' n
                      go_wp2
                      go_meet
                      exact ⟨k, hk, rfl, rfl⟩
                  case rest =>
                    obtain ⟨k, hk, rfl, hw6⟩ := hcut
                    replace hw6 := hw6.symm
                    subst hw6
                    have p0 := hx5.p0
                    have p1 := hx5.p1
                    have p2 := hx5.p2
                    have p3 := hx5.p3
                    have hr6 : ObjsRow w5 a k V O := by
                      rcases hr5 with h0 | ⟨bk, of, ha, hcc⟩
                      · exact .inl (by omega)
                      · exact .inr ⟨bk, of, ha, fun i hi => hcc i (by omega)⟩
                    have hkc : (k : Int) ≤ (c : Int) := by omega
                    have hk0 : ¬ (k : Int) < 0 := by omega
                    go_upto_region 24 with fail
                    go_cut [17] from 126 to 132 (fun x w7 => OwnObjs w5.heap.size w7 x (k + 1) (catV2 k V fun _ => ⟨aN, cN, aW, cW, aS, cS, aT, cT⟩) (catV2 k O fun _ => o) ∧ Below w5.heap.size w5 w7)
                    case first =>
                      go_region_law (first
                        | (refine step_run rfl _ _ 22 rfl v1 _ _ rfl rfl happ ?_; clear happ)
                        | (refine step_own rfl _ _ 22 rfl _ _ rfl rfl (append_objs_beside w5.heap.size w5 _ (.slice aN o.nN cN) (.slice aW o.nW cW) (.slice aS o.nS cS) (.slice aT o.nT cT) V O a k c ?hX hr6 (Nat.le_refl _) (by omega)) ?_
                           case hX => (first | exact Below.refl _ _ | exact (Below.refl _ _).drew | exact (Below.refl _ _).drew.drew | exact (Below.refl _ _).drew.drew.drew)
                           rintro v1 W1 ⟨own1, bel1, s0, s1, s2, s3⟩
                           have b51 := bel1
                           have bx1 := hx5.later b51
                           replace p0 := bx1.p0
                           replace p1 := bx1.p1
                           replace p2 := bx1.p2
                           replace p3 := bx1.p3
                           obtain ⟨v2, W2, happ, own2, bel2⟩ := append_objs w5.heap.size W1 v1 k V (fun _ => ⟨aN, cN, aW, cW, aS, cS, aT, cT⟩) O (fun _ => o) (some ⟨w5.heap.size, 0, none⟩) 1 1 (owns_below own1 (by repeat (first | exact Below.refl _ _ | refine Below.drew ?_ | refine below_new ?_ _))) (one_src s0 s1 s2 s3 (hA5.later (by first | exact b51 | exact below_new b51 _))) (by have := b51.size; simp; omega) (by omega)
                           have b52 := Below.trans (show Below w5.heap.size w5 W1 by first | exact b51 | exact below_new b51 _) bel2
                           clear bel1 bel2 own1)
                        | (refine step_own rfl _ _ 22 rfl _ _ rfl rfl (append_objs_nil w5.heap.size _ V O a k c (hr6.later (by repeat (first | exact Below.refl _ _ | refine Below.drew ?_ | refine below_new ?_ _))) (by simp) (by omega)) ?_
                           rintro v1 W1 ⟨own1, bel1⟩
                           have b51 := below_step (w := w5) (by repeat (first | exact Below.refl _ _ | refine Below.drew ?_ | refine below_new ?_ _)) bel1 (Nat.le_refl _)
                           have bx1 := hx5.later b51
                           replace p0 := bx1.p0
                           replace p1 := bx1.p1
                           replace p2 := bx1.p2
                           replace p3 := bx1.p3
                           obtain ⟨v2, W2, happ, own2, bel2⟩ := append_objs w5.heap.size (W1.alloc (.cells #[.slice aN o.nN cN, .slice aW o.nW cW, .slice aS o.nS cS, .slice aT o.nT cT] 28)) v1 k V (fun _ => ⟨aN, cN, aW, cW, aS, cS, aT, cT⟩) O (fun _ => o) (some ⟨W1.heap.size, 0, none⟩) 1 1 (owns_below own1 (by repeat (first | exact Below.refl _ _ | refine Below.drew ?_ | refine below_new ?_ _))) (one_src (by simp [go_sem]) (by simp [go_sem]) (by simp [go_sem]) (by simp [go_sem]) (hA5.later (by first | exact b51 | exact below_new b51 _))) (by have := b51.size; simp; omega) (by omega)
                           have b52 := Below.trans (show Below w5.heap.size w5 (W1.alloc (.cells #[.slice aN o.nN cN, .slice aW o.nW cW, .slice aS o.nS cS, .slice aT o.nT cT] 28)) by first | exact b51 | exact below_new b51 _) bel2
                           clear bel1 bel2 own1))
                      all_goals
                        go_wp2
                        go_meet
                        exact ⟨own2, b52⟩
                    case rest =>
                      obtain ⟨own6, hb6⟩ := hcut
                      have hx6 := hx5.later hb6
                      have HS8 : ∀ i, i < k + 1 + (n - k) → (catV2 (k + 1) (catV2 k O fun _ => o) (fun i => O (k + i)) i).nS ≤ 1000000000 := fun i hi => by
                        unfold catV2
                        by_cases e1 : i < k + 1
                        · rw [if_pos e1]
                          by_cases e2 : i < k
                          · rw [if_pos e2]; have := hS i (by omega); omega
                          · rw [if_neg e2]; show o.nS ≤ _; omega
                        · rw [if_neg e1]; show (O (k + (i - (k + 1)))).nS ≤ _; have := hS (k + (i - (k + 1))) (by omega); omega
                      obtain ⟨hp1, hp2⟩ := found_bounds hF
                      by_cases hkn : k = n
                      · subst hkn
                        have hz : k - k = 0 := Nat.sub_self k
                        rw [hz] at HS8
                        by_cases hck : c = k
                        all_goals
                          go_wp2_with (at_builtin; refine list_own rfl _ _ 22 rfl _ _ rfl rfl (append_objs w5.heap.size _ _ (k + 1) (catV2 k V fun _ => ⟨aN, cN, aW, cW, aS, cS, aT, cT⟩) (fun i => V (k + i)) (catV2 k O fun _ => o) (fun i => O (k + i)) _ 0 _ own6 (.inl rfl) hb6.size (by omega)) ?_; rintro v8 W8 ⟨own8, bel8⟩)
                          have hb8 := hb6.trans bel8
                          have hx8 := hx5.later hb8
                          obtain ⟨a8, c8, rfl, _, row8⟩ := OwnObjs.row own8 (at_cat (at_cat (rows_at (hr6.later hb8)) (fun _ _ => hA5.later hb8)) (fun i hi => absurd hi (Nat.not_lt_zero i)))
                          have HF8 := find_any a8 (k + 1 + 0) c8 _ _ s W8 (by omega) HS8 row8
                          clear own8 bel8 row8 own6
                          go_wp2_with fail
                          refine HF8.mono ?_
                          rintro e w9 ⟨⟨p9, q9, rfl, hF9⟩, hb9⟩
                          obtain ⟨rfl, rfl⟩ := found_mid (Nat.le_refl k) hF H1.out (by rw [hz]; exact hF9)
                          have hB9 := (hx8.later hb9).below
                          clear HF8 hF9 hb9
                          by_cases hpk : (k : Int) ≤ p
                          · have e1 : farther k p = p + 1 := if_pos hpk
                            rw [e1]
                            clear e1
                            go_wp2
                            go_ret
                            exact ⟨rfl, hB9⟩
                          · have e1 : farther k p = p := if_neg hpk
                            rw [e1]
                            clear e1
                            go_wp2
                            go_ret
                            exact ⟨rfl, hB9⟩
                      · rcases hr5 with h0 | ⟨bk, of, rfl, hcc⟩
                        · omega
                        have hkc2 : (k : Int) < (c : Int) := by omega
                        have hsub : ObjsRow w5 (some ⟨bk, of + k * 4, none⟩) (n - k) (fun i => V (k + i)) (fun i => O (k + i)) := by
                          refine .inr ⟨bk, of + k * 4, rfl, fun i hi => ?_⟩
                          have := hcc (k + i) (by omega)
                          rw [show of + (k + i) * 4 = of + k * 4 + i * 4 by omega] at this
                          exact this
                        go_wp2_with (at_builtin; refine list_own rfl _ _ 22 rfl u17 (.slice (some ⟨bk, of + k * 4, none⟩) (n - k) (c - k)) rfl rfl (append_objs w5.heap.size _ u17 (k + 1) (catV2 k V fun _ => ⟨aN, cN, aW, cW, aS, cS, aT, cT⟩) (fun i => V (k + i)) (catV2 k O fun _ => o) (fun i => O (k + i)) (some ⟨bk, of + k * 4, none⟩) (n - k) (c - k) own6 (hsub.later hb6) hb6.size (by omega)) ?_; rintro v8 W8 ⟨own8, bel8⟩)
                        have hb8 := hb6.trans bel8
                        have hx8 := hx5.later hb8
                        obtain ⟨a8, c8, rfl, _, row8⟩ := OwnObjs.row own8 (at_cat (at_cat (rows_at (hr6.later hb8)) (fun _ _ => hA5.later hb8)) (rows_at (hsub.later hb8)))
                        have HF8 := find_any a8 (k + 1 + (n - k)) c8 _ _ s W8 (by omega) HS8 row8
                        clear own8 bel8 row8 own6
                        go_wp2_with fail
                        refine HF8.mono ?_
                        rintro e w9 ⟨⟨p9, q9, rfl, hF9⟩, hb9⟩
                        obtain ⟨rfl, rfl⟩ := found_mid hk hF H1.out hF9
                        have hB9 := (hx8.later hb9).below
                        clear HF8 hF9 hb9
                        by_cases hpk : (k : Int) ≤ p
                        · have e1 : farther k p = p + 1 := if_pos hpk
                          rw [e1]
                          clear e1
                          go_wp2
                          go_ret
                          exact ⟨rfl, hB9⟩
                        · have e1 : farther k p = p := if_neg hpk
                          rw [e1]
                          clear e1
                          go_wp2
                          go_ret
                          exact ⟨rfl, hB9⟩
end Go.Proofs.Ytjamlmklnkckgab
