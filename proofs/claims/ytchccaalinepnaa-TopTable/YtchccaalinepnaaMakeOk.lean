/-
  What Make returns where nothing is wrong: a table whose chains are those of the document; memory that was there stays as it was.
-/
import Derived.Test.YtchccaalinepnaaMakeErr
namespace Go.Proofs.Ytchccaalinepnaa
open Go.RowKit

/-- the bucket of the i-th name. -/
def bkOf (nm : Nat → ByteArray) (m : Nat) (i : Nat) : Nat := hashL (nm i).data.toList % m
/-- the first row behind the symbols from k on. -/
def firstRow (nm : Nat → ByteArray) (m n k : Nat) (b : Nat) : Int := firstFrom (fun q => decide (bkOf nm m q = b)) n k
/-- the second row behind the symbols from k on. -/
def nextRow (nm : Nat → ByteArray) (m n k : Nat) (i : Nat) : Int := if k ≤ i then firstFrom (fun q => decide (bkOf nm m q = bkOf nm m i)) n (i + 1) else 0

theorem firstRow_end (nm : Nat → ByteArray) (m n b : Nat) : firstRow nm m n n b = -1 := firstFrom_end _ _ _ (Nat.le_refl _)
theorem nextRow_end (nm : Nat → ByteArray) (m n i : Nat) (h : i < n) : nextRow nm m n n i = 0 := if_neg (by omega)
/-- one symbol more, from behind: what becomes of the first row. -/
theorem firstRow_step (nm : Nat → ByteArray) (m n q b : Nat) (hq : q < n) : (if b = bkOf nm m q then (q : Int) else firstRow nm m n (q + 1) b) = firstRow nm m n q b := by
  unfold firstRow
  rw [firstFrom_step _ n q hq]
  by_cases h : b = bkOf nm m q
  · rw [if_pos h, if_pos (by simp [h])]
  · rw [if_neg h, if_neg (by simp; exact fun e => h e.symm)]
/-- .. of the second row. -/
theorem nextRow_step (nm : Nat → ByteArray) (m n q i : Nat) : (if i = q then firstRow nm m n (q + 1) (bkOf nm m q) else nextRow nm m n (q + 1) i) = nextRow nm m n q i := by
  unfold nextRow firstRow
  by_cases h : i = q
  · subst h
    rw [if_pos rfl, if_pos (Nat.le_refl _)]
  · rw [if_neg h]
    by_cases h2 : q ≤ i
    · rw [if_pos (by omega), if_pos h2]
    · rw [if_neg (by omega), if_neg h2]

set_option maxHeartbeats 2000000 in
theorem make_ok (al : Option Addr) (n cap m : Nat) (nm : Nat → ByteArray) (w : World) (h1 : 1 ≤ m) (hm : m ≤ 16) (hn : n ≤ 8) (hl : SymsAt w al n nm) (hs : ∀ i, i < n → (nm i).size ≤ maxLen) :
    Calls Try.prog 14 #[.slice al n cap, .int .i64 (m : Int)] w fun e w' => ∃ br bt bf bn, e = .returned (.tuple #[.agg #[.slice (some ⟨bf, 0, none⟩) m m, .slice (some ⟨bn, 0, none⟩) n n], .nilIface]) ∧ Tab w w' br bt bf bn m n (firstRow nm m n 0) (nextRow nm m n 0) := by
  have hmk := fun (w : World) => run_make_row' (P := Try.prog) 32 3 (.int .i64 0) 8 Try.underlying32 (by kernel_rfl) rfl .i64 .i64 n (by omega) (by omega) w
  simp only [madeCells_zero] at hmk
  go_enter Try.func14, Try.ntmps14
  go_upto_region 5 with fail
  go_cut [6] from 22 to 28 (fun t wc => ∃ bt bf bn, t = .pointer (some ⟨bt, 0, none⟩) ∧ Tab w wc w.heap.size bt bf bn m n (fun _ => -1) (fun _ => 0))
  case first =>
    go_region_with (go_at_call 17; refine (repeat_any m h1 hm _ (-1) _ (by simp) (by simp [go_sem])).mono ?_; rintro e w' ⟨rfl, j, rfl⟩)
    all_goals (go_wp2_with fail)
    all_goals go_meet
    all_goals clear hmk hl hs
    all_goals (repeat (first | rw [drewN_alloc] | rw [drewN_setCell]))
    all_goals first
      | (refine ⟨w.heap.size + 1 + 1 + 1 + 1, w.heap.size + 1 + 1, w.heap.size + 1 + 1 + 1, rfl, ?_⟩
         apply Tab.drewN
         constructor
         case below => repeat (first | exact Below.refl _ _ | refine Below.setCell ?_ (by simp <;> omega) _ | refine Below.alloc ?_ (by simp <;> omega) _)
         case ff => intro b hb; simp [go_sem, hb]
         case gg => intro b hb; simp [go_sem, hb]
         all_goals first | omega | (simp [go_sem]; done) | (intro i; simp [go_sem]; done) | (refine ⟨_, ?_⟩; simp [go_sem]; rfl))
      | (refine ⟨w.heap.size + 1 + 1 + 1, w.heap.size + 1 + 1, w.heap.size + 1 + 1 + 1 + 1, rfl, ?_⟩
         apply Tab.drewN
         constructor
         case below => repeat (first | exact Below.refl _ _ | refine Below.setCell ?_ (by simp <;> omega) _ | refine Below.alloc ?_ (by simp <;> omega) _)
         case ff => intro b hb; simp [go_sem, hb]
         case gg => intro b hb; simp [go_sem, hb]
         all_goals first | omega | (simp [go_sem]; done) | (intro i; simp [go_sem]; done) | (refine ⟨_, ?_⟩; simp [go_sem]; rfl))
      | (refine ⟨w.heap.size + 1 + 1 + 1 + 1, w.heap.size + 1 + 1 + 1, w.heap.size + 1 + 1, rfl, ?_⟩
         apply Tab.drewN
         constructor
         case below => repeat (first | exact Below.refl _ _ | refine Below.setCell ?_ (by simp <;> omega) _ | refine Below.alloc ?_ (by simp <;> omega) _)
         case ff => intro b hb; simp [go_sem, hb]
         case gg => intro b hb; simp [go_sem, hb]
         all_goals first | omega | (simp [go_sem]; done) | (intro i; simp [go_sem]; done) | (refine ⟨_, ?_⟩; simp [go_sem]; rfl))
      | (refine ⟨w.heap.size + 1 + 1 + 1, w.heap.size + 1 + 1 + 1 + 1, w.heap.size + 1 + 1, rfl, ?_⟩
         apply Tab.drewN
         constructor
         case below => repeat (first | exact Below.refl _ _ | refine Below.setCell ?_ (by simp <;> omega) _ | refine Below.alloc ?_ (by simp <;> omega) _)
         case ff => intro b hb; simp [go_sem, hb]
         case gg => intro b hb; simp [go_sem, hb]
         all_goals first | omega | (simp [go_sem]; done) | (intro i; simp [go_sem]; done) | (refine ⟨_, ?_⟩; simp [go_sem]; rfl))
      | (refine ⟨w.heap.size + 1 + 1, w.heap.size + 1 + 1 + 1, w.heap.size + 1 + 1 + 1 + 1, rfl, ?_⟩
         apply Tab.drewN
         constructor
         case below => repeat (first | exact Below.refl _ _ | refine Below.setCell ?_ (by simp <;> omega) _ | refine Below.alloc ?_ (by simp <;> omega) _)
         case ff => intro b hb; simp [go_sem, hb]
         case gg => intro b hb; simp [go_sem, hb]
         all_goals first | omega | (simp [go_sem]; done) | (intro i; simp [go_sem]; done) | (refine ⟨_, ?_⟩; simp [go_sem]; rfl))
      | (refine ⟨w.heap.size + 1 + 1, w.heap.size + 1 + 1 + 1 + 1, w.heap.size + 1 + 1 + 1, rfl, ?_⟩
         apply Tab.drewN
         constructor
         case below => repeat (first | exact Below.refl _ _ | refine Below.setCell ?_ (by simp <;> omega) _ | refine Below.alloc ?_ (by simp <;> omega) _)
         case ff => intro b hb; simp [go_sem, hb]
         case gg => intro b hb; simp [go_sem, hb]
         all_goals first | omega | (simp [go_sem]; done) | (intro i; simp [go_sem]; done) | (refine ⟨_, ?_⟩; simp [go_sem]; rfl))
      | (refine ⟨w.heap.size + 1 + 1 + 1 + 1, w.heap.size + 1 + 1 + 1, w.heap.size + 1, rfl, ?_⟩
         apply Tab.drewN
         constructor
         case below => repeat (first | exact Below.refl _ _ | refine Below.setCell ?_ (by simp <;> omega) _ | refine Below.alloc ?_ (by simp <;> omega) _)
         case ff => intro b hb; simp [go_sem, hb]
         case gg => intro b hb; simp [go_sem, hb]
         all_goals first | omega | (simp [go_sem]; done) | (intro i; simp [go_sem]; done) | (refine ⟨_, ?_⟩; simp [go_sem]; rfl))
      | (refine ⟨w.heap.size + 1 + 1 + 1, w.heap.size + 1 + 1 + 1 + 1, w.heap.size + 1, rfl, ?_⟩
         apply Tab.drewN
         constructor
         case below => repeat (first | exact Below.refl _ _ | refine Below.setCell ?_ (by simp <;> omega) _ | refine Below.alloc ?_ (by simp <;> omega) _)
         case ff => intro b hb; simp [go_sem, hb]
         case gg => intro b hb; simp [go_sem, hb]
         all_goals first | omega | (simp [go_sem]; done) | (intro i; simp [go_sem]; done) | (refine ⟨_, ?_⟩; simp [go_sem]; rfl))
      | (refine ⟨w.heap.size + 1 + 1, w.heap.size + 1 + 1 + 1 + 1, w.heap.size + 1, rfl, ?_⟩
         apply Tab.drewN
         constructor
         case below => repeat (first | exact Below.refl _ _ | refine Below.setCell ?_ (by simp <;> omega) _ | refine Below.alloc ?_ (by simp <;> omega) _)
         case ff => intro b hb; simp [go_sem, hb]
         case gg => intro b hb; simp [go_sem, hb]
         all_goals first | omega | (simp [go_sem]; done) | (intro i; simp [go_sem]; done) | (refine ⟨_, ?_⟩; simp [go_sem]; rfl))
      | (refine ⟨w.heap.size + 1, w.heap.size + 1 + 1 + 1, w.heap.size + 1 + 1 + 1 + 1, rfl, ?_⟩
         apply Tab.drewN
         constructor
         case below => repeat (first | exact Below.refl _ _ | refine Below.setCell ?_ (by simp <;> omega) _ | refine Below.alloc ?_ (by simp <;> omega) _)
         case ff => intro b hb; simp [go_sem, hb]
         case gg => intro b hb; simp [go_sem, hb]
         all_goals first | omega | (simp [go_sem]; done) | (intro i; simp [go_sem]; done) | (refine ⟨_, ?_⟩; simp [go_sem]; rfl))
      | (refine ⟨w.heap.size + 1, w.heap.size + 1 + 1 + 1 + 1, w.heap.size + 1 + 1 + 1, rfl, ?_⟩
         apply Tab.drewN
         constructor
         case below => repeat (first | exact Below.refl _ _ | refine Below.setCell ?_ (by simp <;> omega) _ | refine Below.alloc ?_ (by simp <;> omega) _)
         case ff => intro b hb; simp [go_sem, hb]
         case gg => intro b hb; simp [go_sem, hb]
         all_goals first | omega | (simp [go_sem]; done) | (intro i; simp [go_sem]; done) | (refine ⟨_, ?_⟩; simp [go_sem]; rfl))
      | (refine ⟨w.heap.size + 1, w.heap.size + 1 + 1 + 1 + 1, w.heap.size + 1 + 1, rfl, ?_⟩
         apply Tab.drewN
         constructor
         case below => repeat (first | exact Below.refl _ _ | refine Below.setCell ?_ (by simp <;> omega) _ | refine Below.alloc ?_ (by simp <;> omega) _)
         case ff => intro b hb; simp [go_sem, hb]
         case gg => intro b hb; simp [go_sem, hb]
         all_goals first | omega | (simp [go_sem]; done) | (intro i; simp [go_sem]; done) | (refine ⟨_, ?_⟩; simp [go_sem]; rfl))
  case rest =>
    obtain ⟨bt, bf, bn, rfl, hT⟩ := hcut
    clear hmk
    go_wp2
    go_loopw [7] (fun x wr => ∃ (k : Nat) (i : Int), k ≤ n ∧ x = .int .i64 i ∧ Hid (i + 1 = (k : Int)) ∧ Tab w wr w.heap.size bt bf bn m n (firstRow nm m n k) (nextRow nm m n k)) (fun x _ => (intOf x + 1).toNat)
    case atStart => exact ⟨n, (n : Int) - 1, Nat.le_refl _, rfl, by show (n : Int) - 1 + 1 = n; omega, hT.congr (fun b _ => (firstRow_end nm m n b).symm) (fun i hi => (nextRow_end nm m n i hi).symm)⟩
    case round =>
      obtain ⟨k, i, hk, rfl, HI, hT⟩ := hrel
      by_cases hneg : i < 0
      · have hk0 : k = 0 := by
          have := HI.out
          omega
        subst hk0
        have ht0 := hT.t0
        have ht1 := hT.t1
        obtain ⟨v0, hr0⟩ := hT.r0
        obtain ⟨v1, hr1⟩ := hT.r1
        have hz0 := hT.zr 0
        have hz1 := hT.zr (0 + 1)
        go_wp2
        exact bodyPost_ret (v := .tuple #[.agg #[.slice (some ⟨bf, 0, none⟩) m m, .slice (some ⟨bn, 0, none⟩) n n], .nilIface]) (by simp [results, Try.results14, go_sem, hr0, hr1]) rfl ⟨w.heap.size, bt, bf, bn, rfl, (hT.storeR 0 _).storeR 1 _⟩
      · obtain ⟨q, rfl⟩ := Int.eq_ofNat_of_zero_le (show 0 ≤ i by omega)
        have hkq : k = q + 1 := by
          have := HI.out
          omega
        subst hkq
        rcases hl with h0 | ⟨b, o, rfl, hc⟩
        · omega
        · have hcq := cell_later hT.below (hc q (by omega))
          have ht0 := hT.t0
          have ht1 := hT.t1
          have HB := fun (w : World) => bucket_any (nm q) m w (hs q (by omega)) h1 (by omega)
          have hbm : hashL (nm q).data.toList % m < m := Nat.mod_lt _ (by omega)
          have HK : Hid (hashL (nm q).data.toList % m = bkOf nm m q) := rfl
          generalize hashL (nm q).data.toList % m = x at *
          have hfx := hT.ff x hbm
          have hgq := hT.gg q (by omega)
          have hzn := hT.zn q
          have hzf := hT.zf x
          clear hs hc
          go_wp2_with fail
          refine (HB _).mono ?_
          rintro e w' ⟨rfl, rfl⟩
          clear HB
          go_wp2
          go_region
          have hT2 := hT.storeN q (by omega) (firstRow nm m n (q + 1) x)
          clear hcq ht0 ht1 hfx hgq hzn hzf hT
          generalize wr.setCell ⟨bn, q, none⟩ (.int .i64 (firstRow nm m n (q + 1) x)) = w2 at *
          have ht0 := hT2.t0
          have hfx := hT2.ff x hbm
          have hzf := hT2.zf x
          go_wp2
          go_roundw
          case rel =>
            refine ⟨q, (q : Int) - 1, by omega, rfl, by show (q : Int) - 1 + 1 = q; omega, ?_⟩
            refine ((hT2.storeF x hbm (q : Int)).drewN 1).congr (fun b _ => ?_) (fun i _ => ?_)
            · rw [HK.out]; exact firstRow_step nm m n q b (by omega)
            · rw [HK.out]; exact nextRow_step nm m n q i
          case measure => simp [intOf]
end Go.Proofs.Ytchccaalinepnaa
