/-
  Rows of entries in memory; small functions of package shelf: start, other, find.
-/
import Derived.Test.YtidabcoodolddaaGreatDoorEntCheck
namespace Go.Proofs.YtidabcoodolddaaGreatDoor
open Go.RowKit

/-- an entry in a row: its three cells, and what they lead to. -/
structure EntHere (w : World) (bk o : Nat) (v : EntV) (x : EntF) : Prop where
  c0 : w.cell? ⟨bk, o, none⟩ = some (.string x.root)
  c1 : w.cell? ⟨bk, o + 1, none⟩ = some (.slice v.aP x.nP v.cP)
  c2 : w.cell? ⟨bk, o + 2, none⟩ = some (.slice v.aQ x.nQ v.cQ)
  here : EntAt w v x
theorem EntHere.later {w w' : World} {bk o : Nat} {v : EntV} {x : EntF} (h : EntHere w bk o v x) (hb : Below w.heap.size w w') : EntHere w' bk o v x :=
  ⟨cell_later hb h.c0, cell_later hb h.c1, cell_later hb h.c2, h.here.later hb⟩
/-- the n entries behind 'a'. -/
def EntsRow (w : World) (a : Option Addr) (n : Nat) (V : Nat → EntV) (E : Nat → EntF) : Prop :=
  n = 0 ∨ ∃ bk o, a = some ⟨bk, o, none⟩ ∧ ∀ i, i < n → EntHere w bk (o + i * 3) (V i) (E i)
theorem EntsRow.later {w w' : World} {a : Option Addr} {n : Nat} {V : Nat → EntV} {E : Nat → EntF} (h : EntsRow w a n V E) (hb : Below w.heap.size w w') : EntsRow w' a n V E :=
  h.imp id fun ⟨bk, o, ha, hc⟩ => ⟨bk, o, ha, fun i hi => (hc i hi).later hb⟩
/-- the first of the first n entries, from number i on, that has that root; below 0: there is none. -/
def findF (E : Nat → EntF) (root : ByteArray) (n i : Nat) : Int := if h : i < n then (if (E i).root = root then (i : Int) else findF E root n (i + 1)) else -1
termination_by n - i
theorem findF_hit {E : Nat → EntF} {root : ByteArray} {n i : Nat} (hi : i < n) (h : (E i).root = root) : findF E root n i = i := by
  rw [findF, dif_pos hi, if_pos h]
theorem findF_miss {E : Nat → EntF} {root : ByteArray} {n i : Nat} (hi : i < n) (h : (E i).root ≠ root) : findF E root n i = findF E root n (i + 1) := by
  rw [findF, dif_pos hi, if_neg h]
theorem findF_end {E : Nat → EntF} {root : ByteArray} {n i : Nat} (hi : ¬ i < n) : findF E root n i = -1 := by
  rw [findF, dif_neg hi]

theorem start_any (b : Int) (w : World) (h0 : 0 ≤ b) (h1 : b ≤ 1) : Calls Tryz.prog 93 #[.int .i64 b] w fun e w' => e = .returned (.int .i64 (1 + b * 55)) ∧ w = w' := by
  go_enter Tryz.func93, Tryz.ntmps93
  go_wp2
  go_ret
  exact ⟨rfl, rfl⟩
theorem other_any (b s : Int) (w : World) (h0 : 0 ≤ b) (h1 : b ≤ 1) : Calls Tryz.prog 87 #[.agg #[.int .i64 b, .int .i64 s]] w fun e w' => e = .returned (.int .i64 (1 - b)) ∧ Below w.heap.size w w' := by
  go_enter Tryz.func87, Tryz.ntmps87
  go_wp2
  go_ret
  exact ⟨rfl, (Below.refl _ _).alloc (Nat.le_refl _) _⟩
/-- the closure of find: has an entry that root? -/
theorem finds1_any (v : EntV) (x : EntF) (root : ByteArray) (g : Nat) (w : World) (hg : w.cell? ⟨g, 0, none⟩ = some (.string root)) :
    Calls Tryz.prog 71 #[.agg (entCs v x), .pointer (some ⟨g, 0, none⟩)] w fun e w' => e = .returned (.bool (decide (x.root = root))) ∧ Below w.heap.size w w' := by
  have hb0 : Below w.heap.size w (w.alloc (.cells (entCs v x) 62)) := (Below.refl _ _).alloc (Nat.le_refl _) _
  have hg2 := cell_later hb0 hg
  have c0 : (w.alloc (.cells (entCs v x) 62)).cell? ⟨w.heap.size, 0, none⟩ = some (.string x.root) := by simp [go_sem]
  have hd : (x.root.toList == root.toList) = decide (x.root = root) := toList_beq _ _
  generalize hW : w.alloc (.cells (entCs v x) 62) = W at *
  go_enter Tryz.func71, Tryz.ntmps71
  go_wp2
  go_ret
  exact ⟨ret_bool rfl, hb0⟩
set_option maxRecDepth 100000 in
set_option maxHeartbeats 2000000 in
theorem indexFunc_any (a : Option Addr) (n c : Nat) (V : Nat → EntV) (E : Nat → EntF) (root : ByteArray) (g : Nat) (w : World) (hn : n ≤ 1000) (hr : EntsRow w a n V E) (hg : w.cell? ⟨g, 0, none⟩ = some (.string root)) :
    Calls Tryz.prog 70 #[.slice a n c, .func (.func 71) #[] #[.pointer (some ⟨g, 0, none⟩)]] w fun e w' => e = .returned (.int .i64 (findF E root n 0)) ∧ Below w.heap.size w w' := by
  go_enter Tryz.func70, Tryz.ntmps70
  go_wp2
  go_loopw [8] (fun y wr => ∃ i : Nat, i ≤ n ∧ y = .int .i64 i ∧ Hid (findF E root n 0 = findF E root n i) ∧ Below w.heap.size w wr) (fun y _ => n - (intOf y).toNat)
  case atStart => exact ⟨0, Nat.zero_le _, rfl, rfl, Below.refl _ _⟩
  case round =>
    obtain ⟨i, hi, rfl, HF, hb⟩ := hrel
    by_cases hlt : i < n
    · rcases hr with h0 | ⟨bk, o, rfl, hc⟩
      · omega
      have H := (hc i hlt).later hb
      obtain ⟨c0, c1, c2, _⟩ := H
      have HC := finds1_any (V i) (E i) root g wr (cell_later hb hg)
      unfold entCs at HC
      have hi0 : (0 : Int) ≤ (i : Int) := by omega
      have hi1 : (i : Int) < (n : Int) := by omega
      clear hc
      by_cases he : (E i).root = root
      · rw [decide_eq_true he] at HC
        have HE : Hid (findF E root n 0 = i) := HF.out.trans (findF_hit hlt he)
        clear he
        go_wp2_with fail
        refine (show Calls _ _ _ _ _ from HC).mono ?_
        rintro e w2 ⟨rfl, hb2⟩
        clear HC c0 c1 c2 HF
        go_wp2
        go_ret
        exact ⟨ret_int HE.out.symm, hb.trans (hb2.mono hb.size)⟩
      · rw [decide_eq_false he] at HC
        have HE : Hid (findF E root n 0 = findF E root n (i + 1)) := HF.out.trans (findF_miss hlt he)
        go_wp2_with fail
        refine (show Calls _ _ _ _ _ from HC).mono ?_
        rintro e w2 ⟨rfl, hb2⟩
        clear HC c0 c1 c2 HF
        go_wp2
        go_roundw
        case rel => exact ⟨i + 1, by omega, by go_num, HE, hb.trans (hb2.mono hb.size)⟩
        case measure => simp [intOf]; omega
    · have HE : Hid (findF E root n 0 = -1) := HF.out.trans (findF_end hlt)
      go_wp2
      go_ret
      exact ⟨ret_int HE.out.symm, hb⟩
theorem shelfFind_any (a : Option Addr) (n c : Nat) (V : Nat → EntV) (E : Nat → EntF) (root : ByteArray) (w : World) (hn : n ≤ 1000) (hr : EntsRow w a n V E) :
    Calls Tryz.prog 51 #[.slice a n c, .string root] w fun e w' => e = .returned (.int .i64 (findF E root n 0)) ∧ Below w.heap.size w w' := by
  have hb0 : Below w.heap.size w (w.alloc (.cells #[.string root] 9)) := (Below.refl _ _).alloc (Nat.le_refl _) _
  have HI := indexFunc_any a n c V E root w.heap.size _ hn (hr.later hb0) (by simp [go_sem])
  go_enter Tryz.func51, Tryz.ntmps51
  go_wp2_with fail
  refine (show Calls _ _ _ _ _ from HI).mono ?_
  rintro e w2 ⟨rfl, hb2⟩
  clear HI
  go_wp2
  go_ret
  exact ⟨rfl, hb0.trans (hb2.mono hb0.size)⟩
end Go.Proofs.YtidabcoodolddaaGreatDoor
