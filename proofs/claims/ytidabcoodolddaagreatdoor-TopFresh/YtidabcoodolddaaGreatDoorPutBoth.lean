/-
  What Put of package patch returns, for every list of lists of numbers and every list of patches: a copy, patched; or that there is no such word; memory that was there stays as it was.
  What Put of package patch returns: the walk.
-/
import Derived.Test.YtidabcoodolddaaGreatDoorAtAll
import Derived.Test.YtidabcoodolddaaGreatDoorGrowInts
import Derived.Deep.QuietTactic
import Derived.BigQuiet
import Derived.RegionTactic
import Derived.BigRegion
namespace Go.Proofs.YtidabcoodolddaaGreatDoor
open Go.RowKit

theorem isPlaceP_any (a n : Int) (w : World) : Calls Tryz.prog 81 #[.int .i64 a, .int .i64 n] w fun e w' => e = .returned (.bool (isPlaceF a n)) ∧ w' = w := by
  by_cases h1 : 0 ≤ a
  all_goals by_cases h2 : a < n
  all_goals
    go_enter Tryz.func81, Tryz.ntmps81
    go_wp2
    go_ret
    exact ⟨ret_bool (by simp [isPlaceF] <;> omega), rfl⟩

/-- the cells of numbers that lie anywhere. -/
theorem int_cells {w : World} {a : Option Addr} {n : Nat} {f : Nat → Int} (h : RowAt w a n fun i => .int .i64 (f i)) : n = 0 ∨ ∃ b o, a = some ⟨b, o, none⟩ ∧ ∀ j u, (joinC (intC f) n)[j]? = some u → w.cell? ⟨b, o + j, none⟩ = some u := by
  rcases h with h | ⟨b, o, ha, hc⟩
  · exact .inl h
  · refine .inr ⟨b, o, ha, fun j u hj => ?_⟩
    have hlt : j < n := by
      have := (List.getElem?_eq_some_iff.1 hj).1
      rw [joinC_len (fun i _ => intC_len f i)] at this
      omega
    have hj' := joinC_at (g := intC f) (s := 1) (n := n) (i := j) (j := 0) (fun i _ => intC_len f i) hlt (by omega)
    simp only [Nat.mul_one, Nat.add_zero] at hj'
    rw [hj'] at hj
    simp [intC] at hj
    rw [← hj]
    exact hc j hlt
theorem int_one {f : Nat → Int} {n : Nat} : ∀ u ∈ joinC (intC f) n, u.oneCell' = true := fun u hu => by
  obtain ⟨i, _, h⟩ := joinC_mem hu
  simp [intC] at h
  subst h
  rfl

set_option maxHeartbeats 1000000 in
theorem cloneInt_any (f : Nat → Int) (a : Option Addr) (n c : Nat) (w : World) (hn : n ≤ 1000000) (hr : RowAt w a n fun i => .int .i64 (f i)) :
    Calls Tryz.prog 80 #[.slice a n c] w fun e w' => (∃ v', e = .returned v' ∧ w'.ownsRow w.heap.size 3 1 v' n (joinC (intC f) n)) ∧ Below w.heap.size w w' := by
  have q : ∀ (w : World) (a : Option Addr) (n c n' c' : Nat), (binOp .eql 45 (.slice a n c) (.slice none n' c')).run Tryz.prog w = .ok (.bool a.isNone) w := fun w a n c n' c' => Lib.run_eql_slice_nil w _ _ a n c n' c' Tryz.underlying45
  cases a with
  | none =>
    have h0 : n = 0 := by
      rcases hr with h | ⟨b, o, h, _⟩
      · exact h
      · cases h
    subst h0
    go_enter Tryz.func80, Tryz.ntmps80
    go_wp2
    go_ret
    exact ⟨⟨_, rfl, World.ownsRow_nil _ _ _ _⟩, Below.refl _ _⟩
  | some ad =>
    obtain ⟨v', W, happ, hG⟩ := append_from 45 3 1 8 (.int .i64 0) (by kernel_rfl) (by kernel_rfl) (by rfl) (by decide) w.heap.size (w.alloc (.cells #[] 3)) (.slice (some ⟨w.heap.size, 0, none⟩) 0 0) 0 []
      (World.ownsRow_made w #[] 0 (Nat.le_refl _) (Nat.zero_le _) rfl) (some ad) n c (joinC (intC f) n) (by rw [joinC_len (fun i _ => intC_len f i)]) (int_cells (hr.later ((Below.refl _ _).alloc (Nat.le_refl _) _))) int_one (by simp) (by omega) (by decide)
    clear hr
    go_enter Tryz.func80, Tryz.ntmps80
    go_wp2_with (at_builtin; refine list_run rfl _ _ 45 rfl _ _ _ rfl rfl happ ?_)
    go_ret
    exact ⟨⟨v', rfl, by simpa using hG.own⟩, ((Below.refl _ _).alloc (Nat.le_refl _) _).trans hG.below⟩

/-- an owned row that isn't empty: its block. -/
theorem owns_block {w : World} {B : Nat} {e : TypeId} {n c : Nat} {a : Option Addr} {b : Nat → Int} (h : w.ownsRow B e 1 (.slice a n c) n (joinC (intC b) n)) (hn : 0 < n) :
    ∃ g, a = some ⟨g, 0, none⟩ ∧ B ≤ g ∧ (∀ j, j < n → w.cell? ⟨g, j, none⟩ = some (.int .i64 (b j))) ∧ ∀ j, w.frozen? ⟨g, j, none⟩ = false := by
  have hc : ∀ j, j < n → ∃ g, a = some ⟨g, 0, none⟩ ∧ B ≤ g ∧ w.cell? ⟨g, j, none⟩ = some (.int .i64 (b j)) := fun i hi =>
    owns_cell h (by have := joinC_at (g := intC b) (s := 1) (n := n) (i := i) (j := 0) (fun i _ => intC_len b i) hi (by omega); simpa [intC] using this)
  rcases h.2 with ⟨_, h0⟩ | ⟨g, cap, cur, hv, hB, hg, _⟩
  · omega
  · injection hv with h1 h2 h3
    refine ⟨g, h1, hB, fun j hj => ?_, fun j => by simp [World.frozen?, hg]⟩
    obtain ⟨g', ha, _, h'⟩ := hc j hj
    rw [h1] at ha
    injection ha with ha
    injection ha with ha
    subst ha
    exact h'
/-- one place is another. -/
def updF {α : Type} (f : Nat → α) (k : Nat) (x : α) : Nat → α := fun i => if i = k then x else f i
theorem updF_new {α : Type} {f : Nat → α} {k : Nat} {x : α} : updF f k x k = x := if_pos rfl
theorem updF_old {α : Type} {f : Nat → α} {k : Nat} {x : α} {i : Nat} (h : i ≠ k) : updF f k x i = f i := if_neg h
/-- one list more. -/
theorem OutAt.more {w w1 : World} {B g k : Nat} {M : Nat → Nat} {A : Nat → Option Addr} {C G : Nat → Nat} {X : Nat → Nat → Int} {e : TypeId} {a' : Option Addr} {c' : Nat} {u : Value} (h : OutAt w B g k M A C G X) (hb : Below w.heap.size w w1) (hB : B ≤ w.heap.size)
    (hc : w1.cell? ⟨g, k, none⟩ = some u) (ho : w1.ownsRow w.heap.size e 1 (.slice a' (M k) c') (M k) (joinC (intC (X k)) (M k))) :
    ∃ A' C' G', OutAt (w1.setCell ⟨g, k, none⟩ (.slice a' (M k) c')) B g (k + 1) M A' C' G' X := by
  have h1 := h.later hb
  obtain ⟨gk, hgk⟩ : ∃ gk, 0 < M k → a' = some ⟨gk, 0, none⟩ ∧ w.heap.size ≤ gk ∧ (∀ j, j < M k → w1.cell? ⟨gk, j, none⟩ = some (.int .i64 (X k j))) ∧ ∀ j, w1.frozen? ⟨gk, j, none⟩ = false := by
    by_cases hm : 0 < M k
    · obtain ⟨gk, hh⟩ := owns_block ho hm
      exact ⟨gk, fun _ => hh⟩
    · exact ⟨0, fun h => absurd h hm⟩
  have lts : ∀ i, i < k → 0 < M i → G i < w.heap.size := fun i hi hm => World.block_lt_of_cell? _ _ (h.row i hi 0 hm)
  refine ⟨updF A k a', updF C k c', updF G k gk, h.hB, ?_, ?_, ?_, ?_, ?_, ?_, ?_, ?_, ?_⟩
  · simpa [World.setCell] using h1.lt
  · intro i hi
    by_cases e : i = k
    · subst e
      rw [World.cell?_setCell_same _ _ _ hc, updF_new, updF_new]
    · rw [World.cell?_setCell_other _ _ _ _ (by intro e2; injection e2 with _ e2 _; exact e e2.symm), updF_old e, updF_old e]
      exact h1.top i (by omega)
  · intro i; rw [World.frozen?_setCell]; exact h1.free i
  · intro i hi hm
    by_cases e : i = k
    · subst e; rw [updF_new, updF_new]; exact (hgk hm).1
    · rw [updF_old e, updF_old e]; exact h1.adr i (by omega) hm
  · intro i hi hm
    by_cases e : i = k
    · subst e; rw [updF_new]; exact Nat.le_trans hB (hgk hm).2.1
    · rw [updF_old e]; exact h1.own i (by omega) hm
  · intro i hi hm
    by_cases e : i = k
    · subst e; rw [updF_new]; have := (hgk hm).2.1; have := h.lt; omega
    · rw [updF_old e]; exact h1.ne i (by omega) hm
  · intro i hi j hj
    by_cases e : i = k
    · subst e
      rw [updF_new]
      have hh := hgk (by omega)
      rw [World.cell?_setCell_other _ _ _ _ (by intro e2; injection e2 with e2 _ _; have := hh.2.1; have := h.lt; omega)]
      exact hh.2.2.1 j hj
    · rw [updF_old e, World.cell?_setCell_other _ _ _ _ (by intro e2; injection e2 with e2 _ _; exact h1.ne i (by omega) (by omega) e2.symm)]
      exact h1.row i (by omega) j hj
  · intro i hi hm j
    rw [World.frozen?_setCell]
    by_cases e : i = k
    · subst e; rw [updF_new]; exact (hgk hm).2.2.2 j
    · rw [updF_old e]; exact h1.rfree i (by omega) hm j
  · intro i j hi hj hij hmi hmj
    by_cases e : i = k
    · subst e
      rw [updF_new, updF_old (fun e => hij e.symm)]
      have := (hgk hmi).2.1
      have := lts j (by omega) hmj
      omega
    · by_cases e2 : j = k
      · subst e2
        rw [updF_old e, updF_new]
        have := (hgk hmj).2.1
        have := lts i (by omega) hmi
        omega
      · rw [updF_old e, updF_old e2]; exact h1.apart i j (by omega) (by omega) hij hmi hmj
theorem OutAt.none {w : World} {B g : Nat} (hB : B ≤ g) (hg : g < w.heap.size) (hf : ∀ i, w.frozen? ⟨g, i, none⟩ = false) (M : Nat → Nat) (X : Nat → Nat → Int) : OutAt w B g 0 M (fun _ => none) (fun _ => 0) (fun _ => 0) X :=
  ⟨hB, hg, fun i hi => by omega, hf, fun i hi => by omega, fun i hi => by omega, fun i hi => by omega, fun i hi => by omega, fun i hi => by omega, fun i j hi => by omega⟩

/-- a call of Put that returned. -/
inductive PutEnd (w : World) (B n : Nat) (M : Nat → Nat) (X : Nat → Nat → Int) (np : Nat) (p t v : Nat → Int) : Ending → Prop
  | bad (h : BadAt (fun k => patOk n M (p k) (t k)) np) : PutEnd w B n M X np p t v (.returned (.tuple #[.slice none 0 0, errV 1]))
  | ok (g : Nat) (A : Nat → Option Addr) (C G : Nat → Nat) (h : AllOk (fun k => patOk n M (p k) (t k)) np) (ho : OutAt w B g n M A C G (putF X p t v np)) : PutEnd w B n M X np p t v (.returned (.tuple #[.slice (some ⟨g, 0, none⟩) n n, .nilIface]))
end Go.Proofs.YtidabcoodolddaaGreatDoor

namespace Go.Proofs.YtidabcoodolddaaGreatDoor
open Go.RowKit

set_option maxHeartbeats 4000000 in
theorem put_any (a a' : Option Addr) (n c np c' : Nat) (A : Nat → Option Addr) (M C : Nat → Nat) (X : Nat → Nat → Int) (p t v : Nat → Int) (w : World) (hn : n ≤ 1000) (hM : ∀ i, i < n → M i ≤ 1000) (hnp : np ≤ 1000) (hr : ListsRow w a n A M C X) (hp : PatRow w a' np p t v) :
    Calls Tryz.prog 56 #[.slice a n c, .slice a' np c'] w fun e w' => PutEnd w' w.heap.size n M X np p t v e ∧ Below w.heap.size w w' := by
  have hmk := fun (w : World) => run_make_row' (P := Tryz.prog) 126 45 (.slice none 0 0) 24 Tryz.underlying126 (by kernel_rfl) rfl .i64 .i64 n (by omega) (by omega) w
  have hrow := World.rowIs_made w (.slice none 0 0) n 45
  have hb0 : Below w.heap.size w (w.alloc (.cells (madeCells #[.slice none 0 0] n) 45)) := (Below.refl _ _).alloc (Nat.le_refl _) _
  have hlt0 : w.heap.size < (w.alloc (.cells (madeCells #[.slice none 0 0] n) 45)).heap.size := by simp
  go_enter Tryz.func56, Tryz.ntmps56
  go_wp2
  clear hmk
  generalize w.alloc (.cells (madeCells #[.slice none 0 0] n) 45) = w0 at *
  go_loopw [16] (fun x wr => ∃ (k : Nat) (A' : Nat → Option Addr) (C' G : Nat → Nat), k ≤ n ∧ x = .int .i64 k ∧ OutAt wr w.heap.size w.heap.size k M A' C' G X ∧ (∀ i, i < n → ∃ u, wr.cell? ⟨w.heap.size, i, none⟩ = some u) ∧ Below w.heap.size w wr) (fun x _ => n - (intOf x).toNat)
  case atStart => exact ⟨0, _, _, _, Nat.zero_le _, rfl, OutAt.none (Nat.le_refl _) hlt0 hrow.frozen _ _, fun i hi => ⟨_, hrow.cell hi⟩, hb0⟩
  case round =>
    clear hrow hb0 hlt0
    obtain ⟨k, A', C', G, hk, rfl, hO, hcs, hb⟩ := hrel
    by_cases hlt : k < n
    · have hr1 := hr.later hb
      rcases hr1 with h0 | ⟨bk, o, rfl, hc⟩
      · omega
      have hck := (hc k hlt).1
      have HC := cloneInt_any (X k) (A k) (M k) (C k) wr (by have := hM k hlt; omega) (hc k hlt).2
      clear hc
      go_wp2_with fail
      refine HC.mono ?_
      rintro e w2 ⟨⟨v', rfl, ho⟩, hb2⟩
      clear HC
      obtain ⟨a2, c2, rfl, _⟩ := owns_shape ho
      obtain ⟨u, hu⟩ := hcs k hlt
      have hu2 := cell_later hb2 hu
      have hz := (hO.later hb2).free k
      obtain ⟨A2, C2, G2, hO2⟩ := hO.more hb2 hb.size hu2 ho
      have hcs2 : ∀ i, i < n → ∃ u, (w2.setCell ⟨w.heap.size, k, none⟩ (.slice a2 (M k) c2)).cell? ⟨w.heap.size, i, none⟩ = some u := fun i hi => by
        obtain ⟨u, hu⟩ := hcs i hi
        exact cell?_setCell_some (cell_later hb2 hu)
      have hb3 : Below w.heap.size w (w2.setCell ⟨w.heap.size, k, none⟩ (.slice a2 (M k) c2)) := (hb.trans (hb2.mono hb.size)).setCell (Nat.le_refl _) _
      clear hO hcs hu hb hb2 ho
      go_wp2
      go_roundw
      case rel => exact ⟨k + 1, A2, C2, G2, by omega, by go_num, hO2, hcs2, hb3⟩
      case measure => simp [intOf]; omega
    · have e : k = n := by omega
      subst e
      clear hcs
      go_wp2
      go_loopw [29] (fun x wr => ∃ j : Nat, j ≤ np ∧ x = .int .i64 j ∧ OutAt wr w.heap.size w.heap.size k M A' C' G (putF X p t v j) ∧ Hid (∀ i, i < j → patOk k M (p i) (t i) = true) ∧ Below w.heap.size w wr) (fun x _ => np - (intOf x).toNat)
      case atStart => exact ⟨0, Nat.zero_le _, rfl, hO, fun i hi => by omega, hb⟩
      case round =>
        clear hO hb
        obtain ⟨j, hj, rfl, hO, HP, hb⟩ := hrel
        by_cases hlj : j < np
        · have hp1 := hp.later hb
          rcases hp1 with h0 | ⟨bp, op, rfl, hc⟩
          · omega
          obtain ⟨p0, p1, p2⟩ := hc j hlj
          clear hc
          have hq : ∀ ob : Obj, Below wr.heap.size wr (wr.alloc ob) := fun ob => (Below.refl _ _).alloc (Nat.le_refl _) ob
          have HI := isPlaceP_any
          cases h1 : isPlaceF (p j) (k : Int) with
          | false =>
            have HE : Hid (BadAt (fun i => patOk k M (p i) (t i)) np) := ⟨j, hlj, by simp [patOk, h1]⟩
            have HI1 := fun (w : World) => HI (p j) (k : Int) w
            simp only [h1] at HI1
            clear h1 HI
            go_wp2
            go_quiet ((go_at_call 81; exact Calls.quiet_of_same (HI1 _)))
            go_wp2
            go_ret2
            exact ⟨.bad HE.out, below_drewN (hb.alloc hb.size _) _⟩
          | true =>
            obtain ⟨x, hx, hxk⟩ : ∃ x : Nat, p j = x ∧ x < k := by
              simp [isPlaceF] at h1
              exact ⟨(p j).toNat, by omega, by omega⟩
            have HI1 := fun (w : World) => HI (x : Int) (k : Int) w
            rw [hx] at h1 p0
            simp only [h1] at HI1
            clear h1
            have htop : ∀ ob, (wr.alloc ob).cell? ⟨w.heap.size, x, none⟩ = some (.slice (A' x) (M x) (C' x)) := fun ob => cell_later (hq ob) (hO.top x hxk)
            have hMx := hM x hxk
            cases h2 : isPlaceF (t j) (M x : Int) with
            | false =>
              have HE : Hid (BadAt (fun i => patOk k M (p i) (t i)) np) := ⟨j, hlj, by simp [patOk, hx, h2]⟩
              have HI2 := fun (w : World) => HI (t j) (M x : Int) w
              simp only [h2] at HI2
              clear h2 HI
              go_wp2
              go_quiet ((first | (go_at_call_of 81 (Value.int IntKind.i64 (x : Int)); exact Calls.quiet_of_same (HI1 _)) | (go_at_call_of 81 (Value.int IntKind.i64 (t j)); exact Calls.quiet_of_same (HI2 _))))
              go_wp2
              go_ret2
              exact ⟨.bad HE.out, below_drewN (hb.alloc hb.size _) _⟩
            | true =>
              obtain ⟨y, hy, hyk⟩ : ∃ y : Nat, t j = y ∧ y < M x := by
                simp [isPlaceF] at h2
                exact ⟨(t j).toNat, by omega, by omega⟩
              have HE : Hid (∀ i, i < j + 1 → patOk k M (p i) (t i) = true) := fun i hi => by
                by_cases e : i = j
                · subst e
                  simp [patOk, hx, hy, isPlaceF, hxk, hyk]
                · exact HP.out i (by omega)
              have HI2 := fun (w : World) => HI (y : Int) (M x : Int) w
              rw [hy] at h2 p1
              simp only [h2] at HI2
              clear h2 HI
              have hO1 := fun ob => (hO.later (hq ob)).put hxk hyk (v j)
              have hadr := hO.adr x hxk (by omega)
              rw [hadr] at htop
              have hcy : ∀ ob, (wr.alloc ob).cell? ⟨G x, y, none⟩ = some (.int .i64 (putF X p t v j x y)) := fun ob => cell_later (hq ob) (hO.row x hxk y hyk)
              have hzy : ∀ ob, (wr.alloc ob).frozen? ⟨G x, y, none⟩ = false := fun ob => (hO.later (hq ob)).rfree x hxk (by omega) y
              have hown := hO.own x hxk (by omega)
              have hpf : ∀ i i', putF X p t v (j + 1) i i' = if i = x ∧ i' = y then v j else putF X p t v j i i' := fun i i' => by
                simp only [putF, hx, hy]
                by_cases e : i = x ∧ i' = y
                · rw [if_pos e, if_pos (by omega)]
                · rw [if_neg e, if_neg (by omega)]
              have HPF : Hid (∀ i i', putF X p t v (j + 1) i i' = if i = x ∧ i' = y then v j else putF X p t v j i i') := hpf
              clear hpf hO hx hy hadr
              go_wp2
              go_quiet ((first | (go_at_call_of 81 (Value.int IntKind.i64 (x : Int)); exact Calls.quiet_of_same (HI1 _)) | (go_at_call_of 81 (Value.int IntKind.i64 (y : Int)); exact Calls.quiet_of_same (HI2 _))))
              go_wp2
              go_region
              go_wp2
              go_roundw
              case rel => exact ⟨j + 1, by omega, by go_num, ((hO1 _).congr fun i _ i' _ => (HPF.out i i').symm).later (below_drewN (Below.refl _ _) _), HE, below_drewN ((hb.alloc hb.size _).setCell hown _) _⟩
              case measure => simp [intOf]; omega
        · have e : j = np := by omega
          subst e
          go_wp2
          go_ret2
          exact ⟨.ok _ _ _ _ HP.out hO, hb⟩
end Go.Proofs.YtidabcoodolddaaGreatDoor
