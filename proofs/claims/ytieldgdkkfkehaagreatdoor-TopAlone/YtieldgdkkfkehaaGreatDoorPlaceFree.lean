/-
  What free of package place returns, for every list of ranges: the least page that is free, or that there is none; memory that was there stays as it was.
-/
import Derived.Test.YtieldgdkkfkehaaGreatDoorPlaceWalks
namespace Go.Proofs.YtieldgdkkfkehaaGreatDoor
open Go.RowKit

/-- the ranges are inside. -/
def RngIn (n : Nat) (f m : Nat → Int) : Prop := ∀ i, i < n → 0 ≤ f i ∧ f i ≤ 300 ∧ 0 ≤ m i ∧ m i ≤ 300

theorem meets_any (x m y k : Int) (bs : Nat) (w : World) (hx : 0 ≤ x ∧ x ≤ 300) (hm : 0 ≤ m ∧ m ≤ 300) (hy : 0 ≤ y ∧ y ≤ 300) (hk : 0 ≤ k ∧ k ≤ 300) (h0 : w.cell? ⟨bs, 0, none⟩ = some (.int .i64 x)) (h1 : w.cell? ⟨bs, 1, none⟩ = some (.int .i64 m)) :
    Calls Tryz.prog 84 #[.agg #[.int .i64 y, .int .i64 k], .pointer (some ⟨bs, 0, none⟩)] w fun e w' => e = .returned (.bool (!(apartB x m y k))) ∧ Below w.heap.size w w' := by
  have hl := World.block_lt_of_cell? _ _ h0
  have g0 : ∀ ob : Obj, (w.alloc ob).cell? ⟨bs, 0, none⟩ = some (.int .i64 x) := fun ob => by rw [World.cell?_alloc_lt _ _ _ hl]; exact h0
  have g1 : ∀ ob : Obj, (w.alloc ob).cell? ⟨bs, 1, none⟩ = some (.int .i64 m) := fun ob => by rw [World.cell?_alloc_lt _ _ _ (show bs < w.heap.size from hl)]; exact h1
  have HA := fun (w : World) => apart_any x m y k w (by omega) (by omega) (by omega) (by omega)
  clear h0 h1 hl hx hm hy hk
  generalize apartB x m y k = B at *
  go_enter Tryz.func84, Tryz.ntmps84
  go_wp2_with fail
  refine (HA _).mono ?_
  rintro e w2 ⟨rfl, hb⟩
  clear HA
  go_wp2
  go_ret
  exact ⟨rfl, ((Below.refl _ _).alloc (Nat.le_refl _) _).trans (hb.mono (by simp))⟩

set_option maxHeartbeats 1000000 in
theorem containsRng_any (f m : Nat → Int) (a : Option Addr) (n c bs : Nat) (x y : Int) (w : World) (hn : n ≤ 1000000000) (hr : RngRow w a n f m) (hi : RngIn n f m) (hx : 0 ≤ x ∧ x ≤ 300) (hy : 0 ≤ y ∧ y ≤ 300) (h0 : w.cell? ⟨bs, 0, none⟩ = some (.int .i64 x)) (h1 : w.cell? ⟨bs, 1, none⟩ = some (.int .i64 y)) :
    Calls Tryz.prog 86 #[.slice a n c, .func (.func 84) #[] #[.pointer (some ⟨bs, 0, none⟩)]] w fun e w' => e = .returned (.bool (meetsB f m n x y)) ∧ Below w.heap.size w w' := by
  generalize hF : meetsB f m n x y = F
  have HF : Hid (anyTo (fun j => !(apartB x y (f j) (m j))) n = F) := hF
  clear hF
  go_enter Tryz.func86, Tryz.ntmps86
  go_wp2
  go_loopw [8] (fun z wr => ∃ k : Nat, k ≤ n ∧ z = .int .i64 k ∧ Hid (anyTo (fun j => !(apartB x y (f j) (m j))) k = false) ∧ Below w.heap.size w wr) (fun z _ => n - (intOf z).toNat)
  case atStart => exact ⟨0, Nat.zero_le _, rfl, rfl, Below.refl _ _⟩
  case round =>
    obtain ⟨k, hk, rfl, HK, hb⟩ := hrel
    by_cases hlt : k < n
    · rcases hr with h0 | ⟨bk, o, rfl, hc⟩
      · omega
      · have hc0 := cell_later hb (hc k hlt).1
        have hc1 := cell_later hb (hc k hlt).2
        have hik := hi k hlt
        have HC := meets_any x y (f k) (m k) bs wr hx hy (by omega) (by omega) (cell_later hb h0) (cell_later hb h1)
        clear hc h0 h1 hi hik hx hy
        cases he : (!(apartB x y (f k) (m k))) with
        | true =>
          have HE : Hid (F = true) := HF.out.symm.trans (anyTo_yes hlt he)
          rw [he] at HC
          clear he
          go_wp2_with fail
          refine HC.mono ?_
          rintro e w2 ⟨rfl, hb2⟩
          clear HC
          go_wp2
          go_ret
          exact ⟨ret_bool HE.out.symm, hb.trans (hb2.mono hb.size)⟩
        | false =>
          have HE : Hid (anyTo (fun j => !(apartB x y (f j) (m j))) (k + 1) = false) := anyTo_no HK.out he
          rw [he] at HC
          clear he
          go_wp2_with fail
          refine HC.mono ?_
          rintro e w2 ⟨rfl, hb2⟩
          clear HC
          go_wp2
          go_roundw
          case rel => exact ⟨k + 1, by omega, by go_num, HE, hb.trans (hb2.mono hb.size)⟩
          case measure => simp [intOf]; omega
    · have HE : Hid (F = false) := by
        have e : k = n := by omega
        rw [← HF.out, ← e]; exact HK.out
      go_wp2
      go_ret
      exact ⟨ret_bool HE.out.symm, hb⟩

/-- a call of free that returned. -/
inductive FreeEnd (f m : Nat → Int) (n : Nat) (many : Int) : Ending → Prop
  | yes (k : Nat) (h : IsBase f m n many k) : FreeEnd f m n many (.returned (.tuple #[.agg #[.int .i64 (16 * (k : Int)), .int .i64 many], .bool true]))
  | no (h : NoBase f m n many) : FreeEnd f m n many (.returned (.tuple #[.agg #[.int .i64 0, .int .i64 0], .bool false]))

set_option maxHeartbeats 2000000 in
theorem free_any (f m : Nat → Int) (a : Option Addr) (n c : Nat) (many : Int) (w : World) (hn : n ≤ 1000000000) (hr : RngRow w a n f m) (hi : RngIn n f m) (hm0 : 1 ≤ many) (hm1 : many ≤ 256) :
    Calls Tryz.prog 72 #[.int .i64 many, .slice a n c] w fun e w' => FreeEnd f m n many e ∧ Below w.heap.size w w' := by
  have hx0 : ∀ ob : Obj, Below w.heap.size w (w.alloc ob) := fun ob => (Below.refl _ _).alloc (Nat.le_refl _) ob
  go_enter Tryz.func72, Tryz.ntmps72
  go_wp2
  go_loopw [6] (fun z wr => ∃ k : Nat, z = .int .i64 (16 * (k : Int)) ∧ k ≤ 17 ∧ Hid (∀ j : Nat, j < k → meetsB f m n (16 * (j : Int)) many = true) ∧ Below (w.heap.size + 1) (w.alloc (.cells #[.int .i64 0, .int .i64 0] 141)) wr) (fun z _ => 300 - (intOf z).toNat)
  case atStart => exact ⟨0, rfl, by omega, fun j hj => by omega, Below.refl _ _⟩
  case round =>
    obtain ⟨k, rfl, hk, HK, hb⟩ := hrel
    have hz : w.heap.size < wr.heap.size := by have := hb.size; simp at this; omega
    have c0 : wr.cell? ⟨w.heap.size, 0, none⟩ = some (.int .i64 0) := by rw [hb.cell (p := ⟨w.heap.size, 0, none⟩) (Nat.lt_succ_self _)]; simp [go_sem]
    have c1 : wr.cell? ⟨w.heap.size, 1, none⟩ = some (.int .i64 0) := by rw [hb.cell (p := ⟨w.heap.size, 1, none⟩) (Nat.lt_succ_self _)]; simp [go_sem]
    have z0 : ∀ o, wr.frozen? ⟨w.heap.size, o, none⟩ = false := fun o => by rw [hb.frozen (p := ⟨w.heap.size, o, none⟩) (Nat.lt_succ_self _)]; simp [go_sem]
    have hbw : Below w.heap.size w wr := (hx0 _).trans (hb.mono (Nat.le_succ _))
    by_cases hin : 16 * (k : Int) + many ≤ 256
    · have HC := fun (w' : World) (hw : Below w.heap.size w w') (bs : Nat) (h0 : w'.cell? ⟨bs, 0, none⟩ = some (.int .i64 (16 * (k : Int)))) (h1 : w'.cell? ⟨bs, 1, none⟩ = some (.int .i64 many)) =>
        containsRng_any f m a n c bs (16 * (k : Int)) many w' hn (hr.later hw) hi (by omega) (by omega) h0 h1
      have hq : ∀ ob : Obj, Below wr.heap.size wr (wr.alloc ob) := fun ob => (Below.refl _ _).alloc (Nat.le_refl _) ob
      clear hr hi
      cases he : meetsB f m n (16 * (k : Int)) many with
      | true =>
        have HE : Hid (∀ j : Nat, j < k + 1 → meetsB f m n (16 * (j : Int)) many = true) := fun j hj => by
          by_cases e : j = k
          · subst e; exact he
          · exact HK.out j (by omega)
        rw [he] at HC
        clear he
        go_wp2_with fail
        refine (HC _ (hbw.trans ((hq _).mono hbw.size)) _ (by simp [go_sem]) (by simp [go_sem])).mono ?_
        rintro e w2 ⟨rfl, hb2⟩
        clear HC
        go_wp2
        go_roundw
        case rel => exact ⟨k + 1, by go_num, by omega, HE, (hb.trans ((hq _).mono (by omega))).trans (hb2.mono (by simp; omega))⟩
        case measure => simp [intOf]; omega
      | false =>
        have HE : Hid (IsBase f m n many k) := ⟨hin, he, HK.out⟩
        rw [he] at HC
        clear he
        go_wp2_with fail
        refine (HC _ (hbw.trans ((hq _).mono hbw.size)) _ (by simp [go_sem]) (by simp [go_sem])).mono ?_
        rintro e w2 ⟨rfl, hb2⟩
        have d0 : w2.cell? ⟨wr.heap.size, 0, none⟩ = some (.int .i64 (16 * (k : Int))) := cell_later hb2 (by simp [go_sem])
        have d1 : w2.cell? ⟨wr.heap.size, 1, none⟩ = some (.int .i64 many) := cell_later hb2 (by simp [go_sem])
        have e0 := cell_later ((hq _).trans (hb2.mono (by simp))) c0
        have e1 := cell_later ((hq _).trans (hb2.mono (by simp))) c1
        have e2 : ∀ o, w2.frozen? ⟨w.heap.size, o, none⟩ = false := fun o => by
          rw [((hq _).trans (hb2.mono (by simp))).frozen (p := ⟨w.heap.size, o, none⟩) hz]; exact z0 o
        have hbe := hbw.trans ((hq _).trans (hb2.mono (by simp)) |>.mono hbw.size)
        clear HC c0 c1 z0 hb2
        go_wp2
        exact bodyPost_ret (v := .tuple #[.agg #[.int .i64 (16 * (k : Int)), .int .i64 many], .bool true]) (by simp [results, Tryz.results72, go_sem, e0, e1]) rfl ⟨.yes k HE.out, (hbe.setCell (Nat.le_refl _) _).setCell (Nat.le_refl _) _⟩
    · have HE : Hid (NoBase f m n many) := fun j hj => HK.out j (by omega)
      have hin' : 256 < 16 * (k : Int) + many := by omega
      clear hr hi
      go_wp2
      exact bodyPost_ret (v := .tuple #[.agg #[.int .i64 0, .int .i64 0], .bool false]) (by simp [results, Tryz.results72, go_sem, c0, c1]) rfl ⟨.no HE.out, (hbw.setCell (Nat.le_refl _) _).setCell (Nat.le_refl _) _⟩
end Go.Proofs.YtieldgdkkfkehaaGreatDoor
