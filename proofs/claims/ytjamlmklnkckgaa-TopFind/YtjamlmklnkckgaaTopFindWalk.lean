/-
  The law TopFind returns true, for every row of objects and every text; memory that was there stays as it was.
-/
import Derived.Test.YtjamlmklnkckgaaScopeFind
import Derived.Test.YtjamlmklnkckgaaLightObjs
namespace Go.Proofs.Ytjamlmklnkckgaa
open Go.RowKit

abbrev xName : ByteArray := ⟨#[120]⟩
/-- an object of one symbol. -/
def oneSym (b : Bool) : ObjF := ⟨0, fun _ => xName, 0, fun _ => 0, 1, fun _ => xName, fun _ => 0, fun _ => b, 0, fun _ => 0, fun _ => 0, fun _ => 0, fun _ => xName, fun _ => false⟩
def oneV (bk : Nat) : ObjV := ⟨none, 0, none, 0, some ⟨bk, 0, none⟩, 1, none, 0⟩
theorem two_found {p q : Int} (h : IsFound (symsF 2 fun i => oneSym (i == 0)) xName p q) : p = 1 ∧ q = 0 := by
  have h2 : IsFound (symsF 2 fun i => oneSym (i == 0)) xName ((1 : Nat) : Int) ((0 : Nat) : Int) :=
    .strong 1 0 ⟨by decide, by decide, rfl⟩ rfl fun a b hh e => by
      have : a = 0 := by unfold Bef at e; omega
      subst this; rfl
  simpa using h.unique h2

/-- who was found, as one holds it against any other one that has that name. -/
theorem IsFound.checks {L : SymsF} {s : ByteArray} {p q : Int} (h : IsFound L s p q) : (p = -1 ∧ q = -1 ∧ ∀ x y, ¬ Hit L s x y) ∨
    ∃ i k : Nat, p = i ∧ q = k ∧ Hit L s i k ∧ ∀ a b, Hit L s a b → (Bef a b i k → L.wk a b = true ∧ L.wk i k = false) ∧ (¬ Bef a b i k → ¬ (L.wk i k = true ∧ L.wk a b = false)) := by
  cases h with
  | strong i k hh hw hb => exact .inr ⟨i, k, rfl, rfl, hh, fun a b g => ⟨fun e => ⟨hb a b g e, hw⟩, fun _ x => by simp [hw] at x⟩⟩
  | weak i k hh hf hw => exact .inr ⟨i, k, rfl, rfl, hh, fun a b g => ⟨fun e => absurd e (hf a b g), fun _ x => by simp [hw a b g] at x⟩⟩
  | none h => exact .inl ⟨rfl, rfl, h⟩
theorem cell_alloc {w : World} {b o : Nat} {v : Value} (h : w.cell? ⟨b, o, none⟩ = some v) (ob : Obj) : (w.alloc ob).cell? ⟨b, o, none⟩ = some v := by
  rw [World.cell?_alloc_lt _ _ _ (World.block_lt_of_cell? _ _ h)]; exact h

/-- the world behind two objects of one symbol each. -/
abbrev twoW (w : World) : World :=
  ((w.alloc (.cells #[.string xName, .int .i64 0, .bool true] 36)).alloc (.cells #[.string xName, .int .i64 0, .bool false] 36)).alloc
    (.cells #[.slice none 0 0, .slice none 0 0, .slice (some ⟨w.heap.size, 0, none⟩) 1 1, .slice none 0 0, .slice none 0 0, .slice none 0 0, .slice (some ⟨w.heap.size + 1, 0, none⟩) 1 1, .slice none 0 0] 72)

theorem closed_find (w : World) : Calls Try.prog 28 #[.slice (some ⟨w.heap.size + 1 + 1, 0, none⟩) 2 2, .string xName] (twoW w) fun e w' => e = .returned (.tuple #[.int .i64 1, .int .i64 0]) ∧ Below w.heap.size w w' := by
  have hb : Below w.heap.size w (twoW w) := (((Below.refl _ _).alloc (Nat.le_refl _) _).alloc (by simp) _).alloc (by simp; omega) _
  have hr : ObjsRow (twoW w) (some ⟨w.heap.size + 1 + 1, 0, none⟩) 2 (fun i => oneV (w.heap.size + i)) (fun i => oneSym (i == 0)) := by
    refine .inr ⟨_, _, rfl, fun i hi => ?_⟩
    have : i = 0 ∨ i = 1 := by omega
    rcases this with rfl | rfl
    all_goals
      refine ⟨by simp [go_sem, oneV, oneSym], by simp [go_sem, oneV, oneSym], by simp [go_sem, oneV, oneSym], by simp [go_sem, oneV, oneSym], ⟨.inl rfl, .inl rfl, .inr ⟨_, _, rfl, fun j hj => ?_⟩, .inl rfl, Nat.le_refl _, Nat.le_refl _⟩⟩
      have e : j = 0 := by simp [oneSym] at hj; omega
      subst e
      exact ⟨by simp [go_sem, oneSym], by simp [go_sem, oneSym], by simp [go_sem, oneSym]⟩
  refine (find_any _ 2 2 _ _ xName _ (by decide) (fun i _ => by simp [oneSym]) hr).mono ?_
  rintro e w' ⟨⟨p, q, rfl, hF⟩, hb'⟩
  obtain ⟨rfl, rfl⟩ := two_found hF
  exact ⟨rfl, hb.trans (hb'.mono hb.size)⟩

set_option maxRecDepth 100000 in
set_option maxHeartbeats 4000000 in
theorem topFind_walk (a : Option Addr) (n c : Nat) (V : Nat → ObjV) (O : Nat → ObjF) (s : ByteArray) (w : World) (hr : ObjsRow w a n V O) (hf : ∀ i, i < n → ObjFit (O i)) :
    Calls Try.prog 9 #[.slice a n c, .string s] w fun e w' => e = .returned (.bool true) ∧ Below w.heap.size w w' := by
  go_enter Try.func9, Try.ntmps9
  go_wp2_with fail
  refine (closed_find w).mono ?_
  rintro e w1 ⟨rfl, hb⟩
  have HL := lights_any a n c V O w1 (hr.later hb) hf
  clear hf
  go_wp2_with fail
  refine HL.mono ?_
  rintro e w2 ⟨⟨b, rfl, hl⟩, hb2⟩
  replace hb := hb.trans (hb2.mono hb.size)
  clear HL hb2
  cases b with
  | false =>
    clear hl hr
    go_wp2
    go_ret
    exact ⟨rfl, hb⟩
  | true =>
    obtain ⟨h8, hl⟩ := hl rfl
    by_cases hs : 20 < s.size
    · have hs' : (20 : Int) < (s.size : Int) := by omega
      clear hl hr hs
      go_wp2
      go_ret
      exact ⟨rfl, hb⟩
    · have hs' : ¬ (20 : Int) < (s.size : Int) := by omega
      have HF := find_any a n c V O s w2 (by omega) (fun i hi => by have := (hl i hi).nS; omega) (hr.later hb)
      have hS : ∀ i, i < n → (O i).nS ≤ 10 := fun i hi => (hl i hi).nS
      clear hl hs
      go_wp2_with fail
      refine HF.mono ?_
      rintro e w3 ⟨⟨p, q, rfl, hF⟩, hb3⟩
      replace hb := hb.trans (hb3.mono hb.size)
      clear HF hb3
      rcases hF.checks with ⟨rfl, rfl, hno⟩ | ⟨i, k, rfl, rfl, hh, hT⟩
      · clear hF
        go_wp2
        go_loopw [7] (fun x wr => ∃ i : Nat, i ≤ n ∧ x = .int .i64 i ∧ Below w.heap.size w wr) (fun x _ => n - (intOf x).toNat)
        case atStart => exact ⟨0, Nat.zero_le _, rfl, hb⟩
        case round =>
          clear hb
          obtain ⟨x, hx, rfl, hb⟩ := hrel
          by_cases hlt : x < n
          · have hSx := hS x hlt
            have hr' := hr
            rcases hr' with h0 | ⟨bk, o, rfl, hc⟩
            · omega
            go_wp2
            go_loopw [8] (fun z wr => ∃ k : Nat, k ≤ (O x).nS ∧ z = .int .i64 k ∧ Below w.heap.size w wr) (fun z _ => (O x).nS - (intOf z).toNat)
            case atStart => exact ⟨0, Nat.zero_le _, rfl, hb⟩
            case round =>
              clear hb
              obtain ⟨y, hy, rfl, hb⟩ := hrel
              have c2 := ((hc x hlt).later hb).c2
              by_cases hly : y < (O x).nS
              · have hsy := ((hc x hlt).later hb).here.syms
                rcases hsy with h0 | ⟨b2, o2, ha2, hs2⟩
                · omega
                rw [ha2] at c2
                have d0 := (hs2 y hly).1
                have d1 := (hs2 y hly).2.1
                have d2 := (hs2 y hly).2.2
                have hx1 : ∀ ob : Obj, Below w.heap.size w (wr.alloc ob) := fun ob => hb.alloc hb.size ob
                clear hs2
                have hnm : (((O x).sName y).toList == s.toList) = false := by rw [toList_beq]; exact decide_eq_false fun e => hno x y ⟨hlt, hly, e⟩
                clear hc
                go_wp2
                go_roundw
                case rel => exact ⟨y + 1, by omega, by go_num, hx1 _⟩
                case measure => simp [intOf]; omega
              · have e : y = (O x).nS := by omega
                subst e
                go_wp2
                go_roundw
                case rel => exact ⟨x + 1, by omega, by go_num, hb⟩
                case measure => simp [intOf]; omega
          · go_wp2
            go_ret
            exact ⟨rfl, hb⟩
      · clear hF
        have hi := hh.li
        have hi2 : i < n := hi
        have hk := hh.lk
        have hk2 : k < (O i).nS := hk
        have heq : (((O i).sName k).toList == s.toList) = true := by rw [toList_beq]; exact decide_eq_true hh.eq
        have hSi := hS i hi2
        have hi3 : ¬ (i : Int) < 0 := by omega
        have hk3 : ¬ (k : Int) < 0 := by omega
        rcases hr with h0 | ⟨bk, o, rfl, hc⟩
        · omega
        have c2 := ((hc i hi2).later hb).c2
        have hsy := ((hc i hi2).later hb).here.syms
        rcases hsy with h0 | ⟨b2, o2, ha2, hs2⟩
        · omega
        rw [ha2] at c2
        have d0 := (hs2 k hk2).1
        have hk0 : ∀ wr, Below w.heap.size w wr → wr.cell? ⟨b2, o2 + k * 3, none⟩ = some (.string ((O i).sName k)) ∧ wr.cell? ⟨b2, o2 + k * 3 + 1, none⟩ = some (.int .i64 ((O i).sAt k)) ∧ wr.cell? ⟨b2, o2 + k * 3 + 2, none⟩ = some (.bool ((O i).sWeak k)) := by
          intro wr hw
          rcases (hc i hi2).here.syms with h0 | ⟨b3, o3, ha3, hs3⟩
          · omega
          rw [ha2] at ha3
          simp at ha3
          obtain ⟨rfl, rfl⟩ := ha3
          exact ⟨cell_later hw (hs3 k hk2).1, cell_later hw (hs3 k hk2).2.1, cell_later hw (hs3 k hk2).2.2⟩
        clear hs2 hi hk
        go_wp2
        clear c2 d0
        go_loopw [7] (fun x wr => ∃ i : Nat, i ≤ n ∧ x = .int .i64 i ∧ Below w.heap.size w wr) (fun x _ => n - (intOf x).toNat)
        case atStart => exact ⟨0, Nat.zero_le _, rfl, hb⟩
        case round =>
          clear hb
          obtain ⟨x, hx, rfl, hb⟩ := hrel
          by_cases hlt : x < n
          · have hSx := hS x hlt
            go_wp2
            go_loopw [8] (fun z wr => ∃ k : Nat, k ≤ (O x).nS ∧ z = .int .i64 k ∧ Below w.heap.size w wr) (fun z _ => (O x).nS - (intOf z).toNat)
            case atStart => exact ⟨0, Nat.zero_le _, rfl, hb⟩
            case round =>
              clear hb
              obtain ⟨y, hy, rfl, hb⟩ := hrel
              have c2 := ((hc x hlt).later hb).c2
              by_cases hly : y < (O x).nS
              · have hsy := ((hc x hlt).later hb).here.syms
                rcases hsy with h0 | ⟨b3, o3, ha3, hs3⟩
                · omega
                rw [ha3] at c2
                have d0 := (hs3 y hly).1
                have d1 := (hs3 y hly).2.1
                have d2 := (hs3 y hly).2.2
                have hx1 : ∀ ob : Obj, Below w.heap.size w (wr.alloc ob) := fun ob => hb.alloc hb.size ob
                clear hs3
                by_cases hnm : (O x).sName y = s
                · have hn1 : (((O x).sName y).toList == s.toList) = true := by rw [toList_beq]; exact decide_eq_true hnm
                  obtain ⟨t1, t2⟩ := hT x y ⟨hlt, hly, hnm⟩
                  have t1' : Bef x y i k → (O x).sWeak y = true ∧ (O i).sWeak k = false := t1
                  have t2' : ¬ Bef x y i k → ¬ ((O i).sWeak k = true ∧ (O x).sWeak y = false) := t2
                  have f2 := ((hc i hi2).later hb).c2
                  rw [ha2] at f2
                  have g0 := cell_alloc (hk0 wr hb).1
                  have g1 := cell_alloc (hk0 wr hb).2.1
                  have g2 := cell_alloc (hk0 wr hb).2.2
                  have f2' := cell_alloc f2
                  have hx2 : ∀ ob ob' : Obj, Below w.heap.size w ((wr.alloc ob).alloc ob') := fun ob ob' => (hx1 ob).alloc (hx1 ob).size ob'
                  clear hc hnm hT t1 t2 hk0 f2
                  by_cases hB : Bef x y i k
                  · obtain ⟨p1, p2⟩ := t1' hB
                    rw [p1] at d2
                    simp only [p2] at g2
                    clear t1' t2' p1 p2
                    by_cases e1 : x < i
                    · have e1' : (x : Int) < (i : Int) := by omega
                      clear hB
                      go_wp2
                      go_roundw
                      case rel => exact ⟨y + 1, by omega, by go_num, hx2 _ _⟩
                      case measure => simp [intOf]; omega
                    · have e1' : ¬ (x : Int) < (i : Int) := by omega
                      have e2 : ((x : Int) == (i : Int)) = true := by rw [beq_iff_eq]; unfold Bef at hB; omega
                      have e3 : (y : Int) < (k : Int) := by unfold Bef at hB; omega
                      clear hB
                      go_wp2
                      go_roundw
                      case rel => exact ⟨y + 1, by omega, by go_num, hx2 _ _⟩
                      case measure => simp [intOf]; omega
                  · have t3 := t2' hB
                    have e1' : ¬ (x : Int) < (i : Int) := by unfold Bef at hB; omega
                    clear t1' t2'
                    cases hw1 : (O i).sWeak k with
                    | false =>
                      simp only [hw1] at g2
                      clear t3 hw1
                      by_cases e2 : x = i
                      · have e3 : ((x : Int) == (i : Int)) = true := by rw [beq_iff_eq]; omega
                        have e4 : ¬ (y : Int) < (k : Int) := by unfold Bef at hB; omega
                        clear hB e2
                        go_wp2
                        go_roundw
                        case rel => exact ⟨y + 1, by omega, by go_num, hx2 _ _⟩
                        case measure => simp [intOf]; omega
                      · have e3 : ((x : Int) == (i : Int)) = false := by rw [beq_eq_false_iff_ne]; omega
                        clear hB e2
                        go_wp2
                        go_roundw
                        case rel => exact ⟨y + 1, by omega, by go_num, hx2 _ _⟩
                        case measure => simp [intOf]; omega
                    | true =>
                      have hw2 : (O x).sWeak y = true := by
                        cases h : (O x).sWeak y with
                        | true => rfl
                        | false => exact absurd ⟨hw1, h⟩ t3
                      simp only [hw1] at g2
                      rw [hw2] at d2
                      clear t3 hw1 hw2
                      by_cases e2 : x = i
                      · have e3 : ((x : Int) == (i : Int)) = true := by rw [beq_iff_eq]; omega
                        have e4 : ¬ (y : Int) < (k : Int) := by unfold Bef at hB; omega
                        clear hB e2
                        go_wp2
                        go_roundw
                        case rel => exact ⟨y + 1, by omega, by go_num, hx2 _ _⟩
                        case measure => simp [intOf]; omega
                      · have e3 : ((x : Int) == (i : Int)) = false := by rw [beq_eq_false_iff_ne]; omega
                        clear hB e2
                        go_wp2
                        go_roundw
                        case rel => exact ⟨y + 1, by omega, by go_num, hx2 _ _⟩
                        case measure => simp [intOf]; omega
                · have hn1 : (((O x).sName y).toList == s.toList) = false := by rw [toList_beq]; exact decide_eq_false hnm
                  clear hc hnm hT
                  go_wp2
                  go_roundw
                  case rel => exact ⟨y + 1, by omega, by go_num, hx1 _⟩
                  case measure => simp [intOf]; omega
              · have e : y = (O x).nS := by omega
                subst e
                go_wp2
                go_roundw
                case rel => exact ⟨x + 1, by omega, by go_num, hb⟩
                case measure => simp [intOf]; omega
          · go_wp2
            go_ret
            exact ⟨rfl, hb⟩
end Go.Proofs.Ytjamlmklnkckgaa
