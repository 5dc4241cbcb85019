/-
  An entry in memory: its root, its row of parts, its row of patches. What Check of package entry returns, of any entry; memory that was there stays as it was.
-/
import Derived.Test.YthdccmjdbcllkaaGreatDoorErr
import Derived.Test.YthdccmjdbcllkaaGreatDoorPlainEntry
import Derived.Test.YthdccmjdbcllkaaGreatDoorAtAll
import Derived.Test.YthdccmjdbcllkaaGreatDoorNameWalks
import Derived.Deep.QuietTactic
import Derived.BigQuiet
import Derived.Deep.RegionLaw
import Derived.Deep.DrawnRows
namespace Go.Proofs.YthdccmjdbcllkaaGreatDoor
open Go.RowKit

/-- the n parts behind 'a': name, stamp, base. -/
def RowE (w : World) (a : Option Addr) (n : Nat) (s : Nat → ByteArray) (k b : Nat → Int) : Prop :=
  n = 0 ∨ ∃ bk o, a = some ⟨bk, o, none⟩ ∧ ∀ i, i < n → w.cell? ⟨bk, o + i * 3, none⟩ = some (.string (s i)) ∧ w.cell? ⟨bk, o + i * 3 + 1, none⟩ = some (.int .i64 (k i)) ∧ w.cell? ⟨bk, o + i * 3 + 2, none⟩ = some (.int .i64 (b i))
theorem RowE.later {w w' : World} {a : Option Addr} {n : Nat} {s : Nat → ByteArray} {k b : Nat → Int} (h : RowE w a n s k b) (hb : Below w.heap.size w w') : RowE w' a n s k b := by
  rcases h with h | ⟨bk, o, ha, hc⟩
  · exact .inl h
  · exact .inr ⟨bk, o, ha, fun i hi => ⟨cell_later hb (hc i hi).1, cell_later hb (hc i hi).2.1, cell_later hb (hc i hi).2.2⟩⟩
/-- where an entry's rows lie. -/
structure EntV where
  aP : Option Addr
  cP : Nat
  aQ : Option Addr
  cQ : Nat
abbrev entCs (v : EntV) (e : EntF) : Array Value := #[.string e.root, .slice v.aP e.nP v.cP, .slice v.aQ e.nQ v.cQ]
structure EntAt (w : World) (v : EntV) (e : EntF) : Prop where
  parts : RowE w v.aP e.nP e.pName e.pStamp e.pBase
  pats : PatRow w v.aQ e.nQ e.qPart e.qAt e.qWord
theorem EntAt.later {w w' : World} {v : EntV} {e : EntF} (h : EntAt w v e) (hb : Below w.heap.size w w') : EntAt w' v e := ⟨h.parts.later hb, h.pats.later hb⟩
/-- no length, no number is too great. -/
def In64 (n : Int) : Prop := -9223372036854775808 ≤ n ∧ n ≤ 9223372036854775807
structure EntFit (e : EntF) : Prop where
  root : e.root.size ≤ maxLen
  nP : e.nP ≤ maxLen
  nQ : e.nQ ≤ maxLen
  names : ∀ i, i < e.nP → (e.pName i).size ≤ maxLen

theorem entPlace_any (a n : Int) (w : World) : Calls Tryz.prog 60 #[.int .i64 a, .int .i64 n] w fun e w' => e = .returned (.bool (isPlaceF a n)) ∧ w = w' := by
  by_cases h1 : 0 ≤ a
  all_goals by_cases h2 : a < n
  all_goals
    go_enter Tryz.func60, Tryz.ntmps60
    go_wp2
    go_ret
    exact ⟨ret_bool (by simp [isPlaceF] <;> omega), rfl⟩
theorem entWord_any (n : Int) (w : World) : Calls Tryz.prog 61 #[.int .i64 n] w fun e w' => e = .returned (.bool (isWordF n)) ∧ w = w' := by
  by_cases h1 : -2147483648 ≤ n
  all_goals by_cases h2 : n ≤ 2147483647
  all_goals
    go_enter Tryz.func61, Tryz.ntmps61
    go_wp2
    go_ret
    exact ⟨ret_bool (by simp [isWordF] <;> omega), rfl⟩
theorem mayBe_any (p q : Int) (w : World) : Calls Tryz.prog 32 #[.int .i64 p, .int .i64 q] w fun e w' => e = .returned (.bool (mayBeB p q)) ∧ w = w' := by
  by_cases h1 : 1 ≤ p
  all_goals by_cases h2 : p ≤ 6
  all_goals by_cases h3 : 0 ≤ q
  all_goals by_cases h4 : q ≤ 36
  all_goals
    go_enter Tryz.func32, Tryz.ntmps32
    go_wp2
    go_ret
    exact ⟨ret_bool (by simp [mayBeB] <;> omega), rfl⟩
set_option maxHeartbeats 1000000 in
theorem checkPart_any (s : ByteArray) (k b : Int) (w : World) (hs : s.size ≤ maxLen) :
    Calls Tryz.prog 33 #[.agg #[.string s, .int .i64 k, .int .i64 b]] w fun e w' => e = .returned (errV (stampedF s k b)) ∧ Below w.heap.size w w' := by
  have hb : Below w.heap.size w (w.alloc (.cells #[.string s, .int .i64 k, .int .i64 b] 69)) := (Below.refl _ _).alloc (Nat.le_refl _) _
  have HC := check_any s (w.alloc (.cells #[.string s, .int .i64 k, .int .i64 b] 69)) hs
  have HP := fun W => entPlace_any b 256 W
  generalize hN : nameF s.data.toList = F at *
  have HN : Hid (nameF s.data.toList = F) := hN
  clear hN
  by_cases hF : F = 0
  · subst hF
    by_cases h1 : k < 1 ∨ 1000000 < k
    · have HE : Hid (stampedF s k b = 1) := by show stampedF s k b = 1; unfold stampedF; rw [HN.out, seqF_zero, if_pos h1]
      by_cases h2 : k < 1
      · go_enter Tryz.func33, Tryz.ntmps33
        go_wp2_with fail
        refine HC.mono ?_
        rintro e w1 ⟨rfl, rfl⟩
        clear HC
        rw [show errV 0 = .nilIface from rfl]
        go_wp2
        go_ret
        exact ⟨by rw [HE.out]; rfl, hb⟩
      · have h3 : 1000000 < k := by omega
        go_enter Tryz.func33, Tryz.ntmps33
        go_wp2_with fail
        refine HC.mono ?_
        rintro e w1 ⟨rfl, rfl⟩
        clear HC
        rw [show errV 0 = .nilIface from rfl]
        go_wp2
        go_ret
        exact ⟨by rw [HE.out]; rfl, hb⟩
    · have h2 : ¬ k < 1 := by omega
      have h3 : ¬ 1000000 < k := by omega
      have HE0 : Hid (stampedF s k b = if b < 0 ∨ 256 ≤ b ∨ b % 16 ≠ 0 then 1 else 0) := by show stampedF s k b = _; unfold stampedF; rw [HN.out, seqF_zero, if_neg h1]
      clear h1
      by_cases h4 : 0 ≤ b ∧ b < 256
      · have hp : isPlaceF b 256 = true := by simp [isPlaceF]; exact h4
        rw [hp] at HP
        have h40 := h4.1
        by_cases h5 : b % 16 = 0
        · have HE : Hid (stampedF s k b = 0) := by show stampedF s k b = 0; rw [HE0.out, if_neg (by omega)]
          have e5 : (b % 16 != 0) = false := by simp [h5]
          clear HE0 hp h5
          go_enter Tryz.func33, Tryz.ntmps33
          go_wp2_with fail
          refine HC.mono ?_
          rintro e w1 ⟨rfl, rfl⟩
          clear HC
          rw [show errV 0 = .nilIface from rfl]
          go_wp2_with (go_at_call 60; refine (HP _).mono ?_; rintro e w2 ⟨rfl, rfl⟩)
          go_ret
          exact ⟨by rw [HE.out]; rfl, hb⟩
        · have HE : Hid (stampedF s k b = 1) := by show stampedF s k b = 1; rw [HE0.out, if_pos (by omega)]
          have e5 : (b % 16 != 0) = true := by rw [bne_iff_ne]; exact h5
          clear HE0 hp h5
          go_enter Tryz.func33, Tryz.ntmps33
          go_wp2_with fail
          refine HC.mono ?_
          rintro e w1 ⟨rfl, rfl⟩
          clear HC
          rw [show errV 0 = .nilIface from rfl]
          go_wp2_with (go_at_call 60; refine (HP _).mono ?_; rintro e w2 ⟨rfl, rfl⟩)
          go_ret
          exact ⟨by rw [HE.out]; rfl, hb⟩
      · have hp : isPlaceF b 256 = false := by simp [isPlaceF]; omega
        rw [hp] at HP
        have HE : Hid (stampedF s k b = 1) := by show stampedF s k b = 1; rw [HE0.out, if_pos (by omega)]
        clear HE0 hp h4
        go_enter Tryz.func33, Tryz.ntmps33
        go_wp2_with fail
        refine HC.mono ?_
        rintro e w1 ⟨rfl, rfl⟩
        clear HC
        rw [show errV 0 = .nilIface from rfl]
        go_wp2_with (go_at_call 60; refine (HP _).mono ?_; rintro e w2 ⟨rfl, rfl⟩)
        go_ret
        exact ⟨by rw [HE.out]; rfl, hb⟩
  · obtain ⟨f, rfl⟩ : ∃ f, F = f + 1 := ⟨F - 1, by omega⟩
    have HE : Hid (stampedF s k b = f + 1) := by show stampedF s k b = f + 1; unfold stampedF; rw [HN.out, seqF_some _ (by omega)]
    rw [show errV (f + 1) = .iface 74 (.int .i64 ((f + 1 : Nat) : Int)) from rfl] at HC
    clear HP
    generalize hff : (((f + 1 : Nat) : Int)) = ff at HC
    have HFF : Hid (errV (f + 1) = .iface 74 (.int .i64 ff)) := by rw [← hff]; rfl
    clear hff
    go_enter Tryz.func33, Tryz.ntmps33
    go_wp2_with fail
    refine HC.mono ?_
    rintro e w1 ⟨rfl, rfl⟩
    clear HC
    go_wp2
    go_ret
    exact ⟨by rw [HE.out, HFF.out]; rfl, hb⟩
set_option maxHeartbeats 1000000 in
theorem checkPatch_any (n p a x : Int) (w : World) :
    Calls Tryz.prog 34 #[.agg #[.int .i64 p, .int .i64 a, .int .i64 x], .int .i64 n] w fun e w' => e = .returned (errV (patchedF n p a x)) ∧ Below w.heap.size w w' := by
  have hb : Below w.heap.size w (w.alloc (.cells #[.int .i64 p, .int .i64 a, .int .i64 x] 67)) := (Below.refl _ _).alloc (Nat.le_refl _) _
  have HP1 := fun W => entPlace_any p n W
  have HP2 := fun W => entPlace_any a 40 W
  have HW := fun W => entWord_any x W
  cases h1 : isPlaceF p n with
  | false =>
    have HE : Hid (patchedF n p a x = 1) := by show patchedF n p a x = 1; unfold patchedF; rw [if_neg (by simp [h1])]
    rw [h1] at HP1
    clear HP2 HW h1
    go_enter Tryz.func34, Tryz.ntmps34
    go_wp2_with fail
    refine (HP1 _).mono ?_
    rintro e w1 ⟨rfl, rfl⟩
    go_wp2
    go_ret
    exact ⟨by rw [HE.out]; rfl, hb⟩
  | true =>
    rw [h1] at HP1
    cases h2 : isPlaceF a 40 with
    | false =>
      have HE : Hid (patchedF n p a x = 1) := by show patchedF n p a x = 1; unfold patchedF; rw [if_neg (by simp [h2])]
      rw [h2] at HP2
      clear HW h1 h2
      go_enter Tryz.func34, Tryz.ntmps34
      go_wp2_with fail
      refine (HP1 _).mono ?_
      rintro e w1 ⟨rfl, rfl⟩
      clear HP1
      go_wp2_with fail
      refine (HP2 _).mono ?_
      rintro e w1 ⟨rfl, rfl⟩
      go_wp2
      go_ret
      exact ⟨by rw [HE.out]; rfl, hb⟩
    | true =>
      rw [h2] at HP2
      cases h3 : isWordF x with
      | false =>
        have HE : Hid (patchedF n p a x = 1) := by show patchedF n p a x = 1; unfold patchedF; rw [if_neg (by simp [h3])]
        rw [h3] at HW
        clear h1 h2 h3
        go_enter Tryz.func34, Tryz.ntmps34
        go_wp2_with fail
        refine (HP1 _).mono ?_
        rintro e w1 ⟨rfl, rfl⟩
        clear HP1
        go_wp2_with fail
        refine (HP2 _).mono ?_
        rintro e w1 ⟨rfl, rfl⟩
        clear HP2
        go_wp2_with fail
        refine (HW _).mono ?_
        rintro e w1 ⟨rfl, rfl⟩
        go_wp2
        go_ret
        exact ⟨by rw [HE.out]; rfl, hb⟩
      | true =>
        have HE : Hid (patchedF n p a x = 0) := by show patchedF n p a x = 0; unfold patchedF; rw [if_pos ⟨h1, h2, h3⟩]
        rw [h3] at HW
        clear h1 h2 h3
        go_enter Tryz.func34, Tryz.ntmps34
        go_wp2_with fail
        refine (HP1 _).mono ?_
        rintro e w1 ⟨rfl, rfl⟩
        clear HP1
        go_wp2_with fail
        refine (HP2 _).mono ?_
        rintro e w1 ⟨rfl, rfl⟩
        clear HP2
        go_wp2_with fail
        refine (HW _).mono ?_
        rintro e w1 ⟨rfl, rfl⟩
        go_wp2
        go_ret
        exact ⟨by rw [HE.out]; rfl, hb⟩
theorem errV_is {F : Nat} (h : F ≠ 0) : ∃ ff : Int, errV F = .iface 74 (.int .i64 ff) := by
  obtain ⟨f, rfl⟩ : ∃ f, F = f + 1 := ⟨F - 1, by omega⟩
  exact ⟨_, rfl⟩

attribute [local go_sem ↓] Go.wp_at_zero Go.wp_at_succ
set_option maxRecDepth 100000 in
set_option maxHeartbeats 2000000 in
theorem entCheck_any (v : EntV) (en : EntF) (w : World) (h : EntAt w v en) (hf : EntFit en) :
    Calls Tryz.prog 10 #[.agg (entCs v en)] w fun e w' => e = .returned (errV (entF en)) ∧ Below w.heap.size w w' := by
  obtain ⟨aP, cP, aQ, cQ⟩ := v
  have hb0 : Below w.heap.size w (w.alloc (.cells (entCs ⟨aP, cP, aQ, cQ⟩ en) 26)) := (Below.refl _ _).alloc (Nat.le_refl _) _
  have c0 : (w.alloc (.cells (entCs ⟨aP, cP, aQ, cQ⟩ en) 26)).cell? ⟨w.heap.size, 0, none⟩ = some (.string en.root) := by rw [World.cell?_alloc_mark]; rfl
  have c1 : (w.alloc (.cells (entCs ⟨aP, cP, aQ, cQ⟩ en) 26)).cell? ⟨w.heap.size, 1, none⟩ = some (.slice aP en.nP cP) := by rw [World.cell?_alloc_mark]; rfl
  have c2 : (w.alloc (.cells (entCs ⟨aP, cP, aQ, cQ⟩ en) 26)).cell? ⟨w.heap.size, 2, none⟩ = some (.slice aQ en.nQ cQ) := by rw [World.cell?_alloc_mark]; rfl
  have h1 := h.later hb0
  have HC := check_any en.root (w.alloc (.cells (entCs ⟨aP, cP, aQ, cQ⟩ en) 26)) hf.root
  have HM := fun W => mayBe_any en.nP en.nQ W
  have hnm := hf.names
  have hnP := hf.nP
  have hnQ := hf.nQ
  unfold maxLen at hnP hnQ
  obtain ⟨F, hF⟩ : ∃ F, entF en = F := ⟨_, rfl⟩
  rw [hF]
  have HF : Hid (entF en = F) := hF
  unfold entF at hF
  clear h hf
  by_cases hn : nameF en.root.data.toList = 0
  · rw [hn] at HC hF
    rw [seqF_zero] at hF
    by_cases hm : mayBeB en.nP en.nQ = true
    · rw [hm] at HM hF
      rw [if_pos rfl, seqF_zero] at hF
      have hm2 : en.nP ≤ 6 ∧ en.nQ ≤ 36 := by unfold mayBeB at hm; simp at hm; omega
      obtain ⟨hm6, hm36⟩ := hm2
      have HFF : Hid (seqF (partsF en en.nP) (patchesF en en.nQ) = F) := hF
      clear hF hn hm
      generalize hW : w.alloc (.cells (entCs ⟨aP, cP, aQ, cQ⟩ en) 26) = W at *
      go_enter Tryz.func10, Tryz.ntmps10
      go_wp2_with fail
      refine HC.mono ?_
      rintro e w1 ⟨rfl, rfl⟩
      clear HC
      rw [show errV 0 = .nilIface from rfl]
      go_wp2_with fail
      refine (HM _).mono ?_
      rintro e w1 ⟨rfl, rfl⟩
      clear HM
      go_wp2
      go_loopw [26] (fun y wr => ∃ i : Nat, i ≤ en.nP ∧ y = .int .i64 i ∧ Hid (partsF en i = 0) ∧ Below W.heap.size W wr) (fun y _ => en.nP - (intOf y).toNat)
      case atStart => exact ⟨0, Nat.zero_le _, rfl, rfl, Below.refl _ _⟩
      case round =>
        obtain ⟨i, hi, rfl, HK, hbr⟩ := hrel
        have c1r := cell_later hbr c1
        have hbw : Below w.heap.size w wr := hb0.trans (hbr.mono hb0.size)
        by_cases hlt : i < en.nP
        · have hprt : RowE wr aP en.nP en.pName en.pStamp en.pBase := (h1.later hbr).parts
          rcases hprt with h0 | ⟨bk, o, rfl, hc⟩
          · omega
          obtain ⟨x0, x1, x2⟩ := hc i hlt
          have HCP := checkPart_any (en.pName i) (en.pStamp i) (en.pBase i) wr (hnm i hlt)
          by_cases hs : stampedF (en.pName i) (en.pStamp i) (en.pBase i) = 0
          · rw [hs] at HCP
            have HK2 : Hid (partsF en (i + 1) = 0) := faultTo_ok HK.out hs
            clear hs HK hc
            go_wp2_with fail
            refine HCP.mono ?_
            rintro e w2 ⟨rfl, hb2⟩
            clear HCP
            rw [show errV 0 = .nilIface from rfl]
            have hb3 := hbr.trans (hb2.mono hbr.size)
            go_wp2
            go_roundw
            case rel => exact ⟨i + 1, by omega, by go_num, HK2, hb3⟩
            case measure => simp [intOf]; omega
          · have HE : Hid (F = stampedF (en.pName i) (en.pStamp i) (en.pBase i)) := by
              show F = _
              rw [← HFF.out, show partsF en en.nP = stampedF (en.pName i) (en.pStamp i) (en.pBase i) from faultTo_stop hlt HK.out hs, seqF_some _ hs]
            obtain ⟨ff, hff⟩ := errV_is hs
            have HX : Hid (errV (stampedF (en.pName i) (en.pStamp i) (en.pBase i)) = .iface 74 (.int .i64 ff)) := hff
            rw [hff] at HCP
            clear hs HK hc hff
            go_wp2_with fail
            refine HCP.mono ?_
            rintro e w2 ⟨rfl, hb2⟩
            clear HCP
            have hb3 := hbw.trans (hb2.mono hbw.size)
            go_wp2
            go_ret
            exact ⟨by rw [HE.out, HX.out]; rfl, hb3⟩
        · have HP0 : Hid (partsF en en.nP = 0) := by
            have e : i = en.nP := by omega
            rw [← e]; exact HK.out
          have HQ : Hid (patchesF en en.nQ = F) := by
            have := HFF.out
            rw [HP0.out, seqF_zero] at this
            exact this
          have c2r := cell_later hbr c2
          clear HK HP0
          go_wp2
          go_loopw [42] (fun y wq => ∃ i : Nat, i ≤ en.nQ ∧ y = .int .i64 i ∧ Hid (patchesF en i = 0) ∧ Below W.heap.size W wq) (fun y _ => en.nQ - (intOf y).toNat)
          case atStart => exact ⟨0, Nat.zero_le _, rfl, rfl, hbr⟩
          case round =>
            obtain ⟨i, hi, rfl, HK, hbq⟩ := hrel
            have c1q := cell_later hbq c1
            have c2q := cell_later hbq c2
            have hbw : Below w.heap.size w wr := hb0.trans (hbq.mono hb0.size)
            by_cases hlt : i < en.nQ
            · have hpat : PatRow wr aQ en.nQ en.qPart en.qAt en.qWord := (h1.later hbq).pats
              rcases hpat with h0 | ⟨bk, o, rfl, hc⟩
              · omega
              obtain ⟨x0, x1, x2⟩ := hc i hlt
              have HCP := fun X => checkPatch_any en.nP (en.qPart i) (en.qAt i) (en.qWord i) X
              by_cases hs : patchedF en.nP (en.qPart i) (en.qAt i) (en.qWord i) = 0
              · rw [hs] at HCP
                have HK2 : Hid (patchesF en (i + 1) = 0) := faultTo_ok HK.out hs
                clear hs HK hc
                generalize en.qPart i = z0 at *
                generalize en.qAt i = z1 at *
                generalize en.qWord i = z2 at *
                go_wp2
                go_region_law (first
                  | (go_simp; go_at_call 34; refine (HCP _).mono ?_; rintro e w2 ⟨rfl, hb2⟩))
                all_goals
                  rw [show errV 0 = .nilIface from rfl]
                  have hb3 : Below W.heap.size W w2 := (hbq.trans (Below.refl _ _).drew).trans (hb2.mono hbq.size)
                  go_wp2
                  go_roundw
                  case rel => exact ⟨i + 1, by omega, by go_num, HK2, hb3⟩
                  case measure => simp [intOf]; omega
              · have HE : Hid (F = patchedF en.nP (en.qPart i) (en.qAt i) (en.qWord i)) := by
                  show F = _
                  rw [← HQ.out]
                  exact faultTo_stop hlt HK.out hs
                obtain ⟨ff, hff⟩ := errV_is hs
                have HX : Hid (errV (patchedF en.nP (en.qPart i) (en.qAt i) (en.qWord i)) = .iface 74 (.int .i64 ff)) := hff
                rw [hff] at HCP
                clear hs HK hc hff
                generalize en.qPart i = z0 at *
                generalize en.qAt i = z1 at *
                generalize en.qWord i = z2 at *
                go_wp2
                go_region_law (first
                  | (go_simp; go_at_call 34; refine (HCP _).mono ?_; rintro e w2 ⟨rfl, hb2⟩))
                all_goals
                  have hb3 : Below w.heap.size w w2 := (hbw.trans (Below.refl _ _).drew).trans (hb2.mono hbw.size)
                  go_wp2
                  go_ret
                  exact ⟨by rw [HE.out, HX.out]; rfl, hb3⟩
            · have HE : Hid (F = 0) := by
                show F = 0
                rw [← HQ.out]
                have e : i = en.nQ := by omega
                rw [← e]; exact HK.out
              clear HK
              go_wp2
              go_ret
              exact ⟨by rw [HE.out]; rfl, hbw⟩
    · have HE : Hid (F = 2) := by
        show F = 2
        rw [← hF, if_neg hm]
        rfl
      rw [show mayBeB en.nP en.nQ = false by simpa using hm] at HM
      clear hF hn hm
      go_enter Tryz.func10, Tryz.ntmps10
      go_wp2_with fail
      refine HC.mono ?_
      rintro e w1 ⟨rfl, rfl⟩
      clear HC
      rw [show errV 0 = .nilIface from rfl]
      go_wp2_with fail
      refine (HM _).mono ?_
      rintro e w1 ⟨rfl, rfl⟩
      clear HM
      go_wp2
      go_ret
      exact ⟨by rw [HE.out]; rfl, hb0⟩
  · have HE : Hid (F = nameF en.root.data.toList) := by
      show F = _
      rw [← hF, seqF_some _ hn]
    obtain ⟨ff, hff⟩ := errV_is hn
    have HX : Hid (errV (nameF en.root.data.toList) = .iface 74 (.int .i64 ff)) := hff
    rw [hff] at HC
    clear hF hn hff HM
    go_enter Tryz.func10, Tryz.ntmps10
    go_wp2_with fail
    refine HC.mono ?_
    rintro e w1 ⟨rfl, rfl⟩
    clear HC
    go_wp2
    go_ret
    exact ⟨by rw [HE.out, HX.out]; rfl, hb0⟩
end Go.Proofs.YthdccmjdbcllkaaGreatDoor
