/-
  What all and sameShelf of the statements do, and the closed fact of a shelf.
-/
import Derived.Test.YtphabchelllhpaaGreatDoorShelfDels
import Derived.Test.YtphabchelllhpaaGreatDoorSameAll
namespace Go.Proofs.YtphabchelllhpaaGreatDoor
open Go.RowKit

theorem rowsR {w : World} {B k : Nat} {v : Value} {E : Nat → EntF} (h : w.ownsRow B 9 1 v k (joinC (rootC E) k)) : ∃ a c, v = .slice a k c ∧ (k = 0 ∨ ∃ bk, a = some ⟨bk, 0, none⟩ ∧ ∀ i, i < k → w.cell? ⟨bk, i, none⟩ = some (.string (E i).root)) := by
  rcases h.2 with ⟨rfl, rfl⟩ | ⟨g, cap, cur, rfl, _⟩
  · exact ⟨none, 0, rfl, .inl rfl⟩
  · refine ⟨_, cap, rfl, .inr ⟨g, rfl, fun i hi => ?_⟩⟩
    have e := joinC_at (g := rootC E) (s := 1) (n := k) (i := i) (j := 0) (fun _ _ => rfl) hi (by decide)
    rw [Nat.mul_one, Nat.add_zero] at e
    rw [h.cellAt i (by omega), e]
    rfl
set_option maxRecDepth 100000 in
set_option maxHeartbeats 4000000 in
theorem all_any (w : World) (B p n g : Nat) (s : DSt) (E : Nat → EntF) (k : Nat) (h : Disk w B p n s) (hS : Stands s n E k) (hg : ShelfAt w g p) (hE : Env w) :
    Calls Tryz.prog 15 #[.pointer (some ⟨g, 0, none⟩)] w fun e w' => ∃ v V E', e = .returned v ∧ EntsOwn w' 0 w.heap.size v k V E' ∧ (∀ i, i < k → SameE (E' i) (E i)) ∧ Below w.heap.size w w' := by
  have HR := roots_any w B p n g s E k h hS hg hE
  have hk3 := hS.good.few
  go_enter Tryz.func15, Tryz.ntmps15
  go_wp2_with fail
  refine (show Calls _ _ _ _ _ from HR).mono ?_
  rintro e W ⟨vr, rfl, hOw, hb1⟩
  clear HR
  obtain ⟨ar, cr, rfl, hRt⟩ := rowsR hOw
  go_wp2
  go_loopw [3, 5] (fun y3 y5 wr => ∃ (i : Nat) (v : Value) (V : Nat → EntV) (E' : Nat → EntF), i ≤ k ∧ y5 = .int .i64 i ∧ y3 = v ∧ EntsOwn wr 0 W.heap.size v i V E' ∧ Hid (∀ j, j < i → SameE (E' j) (E j)) ∧ Below W.heap.size W wr) (fun _ y5 _ => k - (intOf y5).toNat)
  case atStart => exact ⟨0, _, fun _ => ⟨none, 0, none, 0⟩, E, Nat.zero_le _, rfl, rfl, ⟨World.ownsRow_nil _ _ _ _, fun i hi => absurd hi (Nat.not_lt_zero _)⟩, fun j hj => absurd hj (Nat.not_lt_zero _), Below.refl _ _⟩
  case round =>
    obtain ⟨i, v, V, E', hi, rfl, rfl, hEO, HS, hb⟩ := hrel
    obtain ⟨av, cv, rfl, _⟩ := hEO.ents
    have hbw := hb1.trans (hb.mono hb1.size)
    by_cases hlt : i < k
    · rcases hRt with h0 | ⟨bk, rfl, hc⟩
      · omega
      have y0 := cell_later hb (hc i hlt)
      have hi0 : (0 : Int) ≤ (i : Int) := by omega
      have hi1 : (i : Int) < (k : Int) := by omega
      have HG := get_any wr B p n g s E k (E i).root (h.later hbw) hS (hg.later hbw) (hE.later hbw)
      have egg : getE E k (E i).root = (true, E i) := by
        unfold getE
        have : findF E (E i).root k 0 = (i : Int) := by
          obtain ⟨j, _, hj, hr, hf⟩ := findF_some _ 0 rfl (show 0 ≤ findF E (E i).root k 0 by
            apply Classical.byContradiction
            intro hn
            exact findF_none (E := E) _ 0 rfl (by omega) i (Nat.zero_le _) hlt rfl)
          rw [hf, hS.good.once j i hj hlt hr]
        rw [if_neg (by omega), this]
        rfl
      rw [egg] at HG
      clear egg hc
      go_wp2_with fail
      refine (show Calls _ _ _ _ _ from HG).mono ?_
      rintro e w2 ⟨xv, en, rfl, hSm, hIn, hb2⟩
      clear HG y0
      unfold entCs
      have hbx : Below w2.heap.size w2 (w2.alloc (.cells #[.string en.root, .slice xv.aP en.nP xv.cP, .slice xv.aQ en.nQ xv.cQ] 40)) := (Below.refl _ _).alloc (Nat.le_refl _) _
      have d0 : (w2.alloc (.cells #[.string en.root, .slice xv.aP en.nP xv.cP, .slice xv.aQ en.nQ xv.cQ] 40)).cell? ⟨w2.heap.size, 0, none⟩ = some (.string en.root) := by simp [go_sem]
      have d1 : (w2.alloc (.cells #[.string en.root, .slice xv.aP en.nP xv.cP, .slice xv.aQ en.nQ xv.cQ] 40)).cell? ⟨w2.heap.size, 1, none⟩ = some (.slice xv.aP en.nP xv.cP) := by simp [go_sem]
      have d2 : (w2.alloc (.cells #[.string en.root, .slice xv.aP en.nP xv.cP, .slice xv.aQ en.nQ xv.cQ] 40)).cell? ⟨w2.heap.size, 2, none⟩ = some (.slice xv.aQ en.nQ xv.cQ) := by simp [go_sem]
      have hb3 := hb2.trans (hbx.mono hb2.size)
      have hEO3 := hEO.later (Nat.zero_le _) hb3
      have hIn3 := hIn.keeps (Keeps.of_below (Nat.zero_le _) hbx)
      have hbW3 := hb.trans (hb3.mono hb.size)
      obtain ⟨v', W6, happ, hG6⟩ := growE (w := w2.alloc (.cells #[.string en.root, .slice xv.aP en.nP xv.cP, .slice xv.aQ en.nQ xv.cQ] 40)) (.string en.root) (.slice xv.aP en.nP xv.cP) (.slice xv.aQ en.nQ xv.cQ) rfl rfl rfl hbW3.size hEO3.row (by omega)
      have hkp : Keeps 0 _ W6 := (Keeps.of_below (Nat.zero_le _) ((Below.refl _ (w2.alloc (.cells #[.string en.root, .slice xv.aP en.nP xv.cP, .slice xv.aQ en.nQ xv.cQ] 40))).alloc (Nat.le_refl _) _)).trans (Keeps.grown (Nat.zero_le _) (Nat.zero_le _) (hEO3.row.alloc _) (by decide) hG6.grown)
      have hEO6 := EntsOwn.added (V := V) (E := E') (k := i) (x := xv) (e := en) (fun j hj => (hEO3.ins j hj).keeps hkp) (hIn3.keeps hkp) hG6.own
      have hb6 : Below W.heap.size W W6 := (hbW3.alloc hbW3.size _).trans hG6.below
      have HS6 : Hid (∀ j, j < i + 1 → SameE (addV E' i en j) (E j)) := fun j hj => by
        unfold addV
        split
        · rename_i e; rw [e]; exact hSm
        · exact HS.out j (by omega)
      obtain ⟨g', cap', rfl⟩ := ownsRow_succ hEO6.row
      simp only [World.size_alloc] at happ
      clear hEO hEO3 hG6 HS
      go_wp2_with (at_builtin; refine list_run rfl (.tmp 25) (.tmp 27) 31 rfl (.slice av i cv) (.slice (some ⟨w2.heap.size + 1, 0, none⟩) 1 1) _ rfl rfl happ ?_)
      go_roundw
      case rel => exact ⟨i + 1, _, _, _, by omega, by go_num, rfl, hEO6, HS6, hb6⟩
      case measure => simp [intOf]; omega
    · obtain rfl : i = k := by omega
      have HF : Hid (∃ v V E'', Ending.returned (.slice av i cv) = .returned v ∧ EntsOwn wr 0 w.heap.size v i V E'' ∧ (∀ j, j < i → SameE (E'' j) (E j)) ∧ Below w.heap.size w wr) := ⟨_, V, E', rfl, ⟨own_lower hEO.row hb1.size, hEO.ins⟩, HS.out, hbw⟩
      go_wp2
      go_ret
      exact HF.out
set_option maxRecDepth 100000 in
set_option maxHeartbeats 4000000 in
theorem sameShelf_true (w : World) (a b : Option Addr) (k c d : Nat) (V U : Nat → EntV) (E F : Nat → EntF) (hk : k ≤ 1000) (hx : EntsRow w a k V E) (hy : EntsRow w b k U F) (hsame : ∀ i, i < k → SameE (E i) (F i)) (hsz : ∀ i, i < k → (F i).nP ≤ 1000 ∧ (F i).nQ ≤ 1000000) :
    Calls Tryz.prog 16 #[.slice a k c, .slice b k d] w fun e w' => e = .returned (.bool true) ∧ Below w.heap.size w w' := by
  go_enter Tryz.func16, Tryz.ntmps16
  go_wp2
  go_loopw [5] (fun y wr => ∃ i : Nat, i ≤ k ∧ y = .int .i64 i ∧ Below w.heap.size w wr) (fun y _ => k - (intOf y).toNat)
  case atStart => exact ⟨0, Nat.zero_le _, rfl, Below.refl _ _⟩
  case round =>
    obtain ⟨i, hi, rfl, hb⟩ := hrel
    by_cases hlt : i < k
    · rcases hx.later hb with h0 | ⟨bx, ox, rfl, hcx⟩
      · omega
      rcases hy.later hb with h0 | ⟨bY, oY, rfl, hcy⟩
      · omega
      obtain ⟨x0, x1, x2, hA⟩ := hcx i hlt
      obtain ⟨y0, y1, y2, hB⟩ := hcy i hlt
      have hi0 : (0 : Int) ≤ (i : Int) := by omega
      have hi1 : (i : Int) < (k : Int) := by omega
      have hbE : Below wr.heap.size wr wr.drew := (Below.refl _ _).drew
      have HSE := sameE_true (hsame i hlt) (V i) (U i) wr.drew (hsz i hlt).1 (hsz i hlt).2 (hA.later hbE) (hB.later hbE)
      have hbD : Below w.heap.size w wr.drew := hb.drew
      unfold entCs at HSE
      generalize E i = x at *
      generalize F i = y at *
      generalize V i = vx at *
      generalize U i = vy at *
      clear hcx hcy hA hB
      go_wp2
      have hSS : (fun w' : World => w'.cell? ⟨bx, ox + i * 3, none⟩ = some (.string x.root) ∧ w'.cell? ⟨bx, ox + i * 3 + 1, none⟩ = some (.slice vx.aP x.nP vx.cP) ∧ w'.cell? ⟨bx, ox + i * 3 + 2, none⟩ = some (.slice vx.aQ x.nQ vx.cQ) ∧ w'.cell? ⟨bY, oY + i * 3, none⟩ = some (.string y.root) ∧ w'.cell? ⟨bY, oY + i * 3 + 1, none⟩ = some (.slice vy.aP y.nP vy.cP) ∧ w'.cell? ⟨bY, oY + i * 3 + 2, none⟩ = some (.slice vy.aQ y.nQ vy.cQ)) wr.drew := ⟨x0, x1, x2, y0, y1, y2⟩
      clear x0 x1 x2 y0 y1 y2
      refine wp_region_G (fun w' : World => w'.cell? ⟨bx, ox + i * 3, none⟩ = some (.string x.root) ∧ w'.cell? ⟨bx, ox + i * 3 + 1, none⟩ = some (.slice vx.aP x.nP vx.cP) ∧ w'.cell? ⟨bx, ox + i * 3 + 2, none⟩ = some (.slice vx.aQ x.nQ vx.cQ) ∧ w'.cell? ⟨bY, oY + i * 3, none⟩ = some (.string y.root) ∧ w'.cell? ⟨bY, oY + i * 3 + 1, none⟩ = some (.slice vy.aP y.nP vy.cP) ∧ w'.cell? ⟨bY, oY + i * 3 + 2, none⟩ = some (.slice vy.aQ y.nQ vy.cQ)) 8 10 (by kernel_rfl) rfl ?_
      generalize wr.drew = w1 at *
      refine takeW 0 (v := ?v1) rfl (by kernel_rfl) (by kernel_rfl) (by kernel_rfl) (by kernel_rfl) (fun _ _ _ h => h) (.inr hSS) (.inl ⟨by rfl, fun w => ?hy1⟩) ?rest1
      case hy1 => (go_simp <;> with_reducible rfl)
      simp only [Go.Act.put, List.setIfInBounds_toArray, List.set_cons_zero, List.set_cons_succ]
      refine takeW 1 (v := ?v2) rfl (by kernel_rfl) (by kernel_rfl) (by kernel_rfl) (by kernel_rfl) (fun _ _ _ h => h) (.inr hSS) (.inl ⟨by rfl, fun w => ?hy2⟩) ?rest2
      case hy2 => (go_simp <;> with_reducible rfl)
      simp only [Go.Act.put, List.setIfInBounds_toArray, List.set_cons_zero, List.set_cons_succ]
      refine takeW 2 (v := ?v3) rfl (by kernel_rfl) (by kernel_rfl) (by kernel_rfl) (by kernel_rfl) (fun _ _ _ h => h) (.inr hSS) (.inl ⟨by rfl, fun w => ?hy3⟩) ?rest3
      case hy3 => (go_simp <;> with_reducible rfl)
      simp only [Go.Act.put, List.setIfInBounds_toArray, List.set_cons_zero, List.set_cons_succ]
      refine takeW 4 (v := ?v4) rfl (by kernel_rfl) (by kernel_rfl) (by kernel_rfl) (by kernel_rfl) (fun _ _ _ h => h) (.inr hSS) (.inl ⟨by rfl, fun w => ?hy4⟩) ?rest4
      case hy4 => (go_simp <;> with_reducible rfl)
      simp only [Go.Act.put, List.setIfInBounds_toArray, List.set_cons_zero, List.set_cons_succ]
      refine takeW 5 (v := ?v5) rfl (by kernel_rfl) (by kernel_rfl) (by kernel_rfl) (by kernel_rfl) (fun _ _ _ h => h) (.inr hSS) (.inl ⟨by rfl, fun w => ?hy5⟩) ?rest5
      case hy5 => (go_simp <;> with_reducible rfl)
      simp only [Go.Act.put, List.setIfInBounds_toArray, List.set_cons_zero, List.set_cons_succ]
      refine takeW 6 (v := ?v6) rfl (by kernel_rfl) (by kernel_rfl) (by kernel_rfl) (by kernel_rfl) (fun _ _ _ h => h) (.inr hSS) (.inl ⟨by rfl, fun w => ?hy6⟩) ?rest6
      case hy6 => (go_simp <;> with_reducible rfl)
      simp only [Go.Act.put, List.setIfInBounds_toArray, List.set_cons_zero, List.set_cons_succ]
      refine takeR 3 [] (v := ?v7) rfl (by kernel_rfl) (by kernel_rfl) (by kernel_rfl) (by kernel_rfl) (by kernel_rfl) (fun _ _ _ h => h) hSS (.inl ⟨by rfl, fun w hSw => ?hy7⟩) ?rest7
      case hy7 => ((try dsimp only at hSw); go_simp <;> with_reducible rfl)
      simp only [Go.Act.put, List.setIfInBounds_toArray, List.set_cons_zero, List.set_cons_succ]
      refine takeR 7 [] (v := ?v8) rfl (by kernel_rfl) (by kernel_rfl) (by kernel_rfl) (by kernel_rfl) (by kernel_rfl) (fun _ _ _ h => h) hSS (.inl ⟨by rfl, fun w hSw => ?hy8⟩) ?rest8
      case hy8 => ((try dsimp only at hSw); go_simp <;> with_reducible rfl)
      simp only [Go.Act.put, List.setIfInBounds_toArray, List.set_cons_zero, List.set_cons_succ]
      refine lastG 8 rfl (by kernel_rfl) (by kernel_rfl) (fun K hK => ?_)
      go_wp2_with fail
      refine (show Calls _ _ _ _ _ from HSE).mono ?_
      rintro e w2 ⟨rfl, hb2⟩
      clear HSE
      have hbF := hbD.trans (hb2.mono hbD.size)
      go_wp2
      refine hK _ _ ?_
      clear hK
      refine takeW 9 (v := ?v10) rfl (by kernel_rfl) (by kernel_rfl) (by kernel_rfl) (by kernel_rfl) (fun _ _ _ h => h) (.inl (by kernel_rfl)) (.inl ⟨by rfl, fun w => ?hy10⟩) ?rest10
      case hy10 => (go_simp <;> with_reducible rfl)
      simp only [Go.Act.put, List.setIfInBounds_toArray, List.set_cons_zero, List.set_cons_succ]
      refine doneG (by kernel_rfl) ?_ _
      go_wp2
      go_roundw
      case rel => exact ⟨i + 1, by omega, by go_num, hbF⟩
      case measure => simp [intOf]; omega
    · go_wp2
      go_ret
      exact ⟨rfl, hb⟩
set_option maxRecDepth 100000 in
set_option maxHeartbeats 4000000 in
theorem sameShelf_some (w : World) (a b : Option Addr) (k m c d : Nat) (V U : Nat → EntV) (E F : Nat → EntF) (hk : k ≤ 1000) (hx : EntsRow w a k V E) (hy : EntsRow w b m U F) (hsz : ∀ i, i < k → (E i).nP ≤ 1000000 ∧ (E i).nQ ≤ 1000000) :
    Calls Tryz.prog 16 #[.slice a k c, .slice b m d] w fun e w' => IsB e ∧ Below w.heap.size w w' := by
  by_cases hkm : k = m
  · subst hkm
    go_enter Tryz.func16, Tryz.ntmps16
    go_wp2
    go_loopw [5] (fun y wr => ∃ i : Nat, i ≤ k ∧ y = .int .i64 i ∧ Below w.heap.size w wr) (fun y _ => k - (intOf y).toNat)
    case atStart => exact ⟨0, Nat.zero_le _, rfl, Below.refl _ _⟩
    case round =>
      obtain ⟨i, hi, rfl, hb⟩ := hrel
      by_cases hlt : i < k
      · rcases hx.later hb with h0 | ⟨bx, ox, rfl, hcx⟩
        · omega
        rcases hy.later hb with h0 | ⟨bY, oY, rfl, hcy⟩
        · omega
        obtain ⟨x0, x1, x2, hA⟩ := hcx i hlt
        obtain ⟨y0, y1, y2, hB⟩ := hcy i hlt
        have hi0 : (0 : Int) ≤ (i : Int) := by omega
        have hi1 : (i : Int) < (k : Int) := by omega
        have hbE : Below wr.heap.size wr wr.drew := (Below.refl _ _).drew
        have HSE := sameEntry_some (E i) (F i) (V i) (U i) wr.drew (hsz i hlt).1 (hsz i hlt).2 (hA.later hbE) (hB.later hbE)
        have hbD : Below w.heap.size w wr.drew := hb.drew
        unfold entCs at HSE
        generalize E i = x at *
        generalize F i = y at *
        generalize V i = vx at *
        generalize U i = vy at *
        clear hcx hcy hA hB
        go_wp2
        have hSS : (fun w' : World => w'.cell? ⟨bx, ox + i * 3, none⟩ = some (.string x.root) ∧ w'.cell? ⟨bx, ox + i * 3 + 1, none⟩ = some (.slice vx.aP x.nP vx.cP) ∧ w'.cell? ⟨bx, ox + i * 3 + 2, none⟩ = some (.slice vx.aQ x.nQ vx.cQ) ∧ w'.cell? ⟨bY, oY + i * 3, none⟩ = some (.string y.root) ∧ w'.cell? ⟨bY, oY + i * 3 + 1, none⟩ = some (.slice vy.aP y.nP vy.cP) ∧ w'.cell? ⟨bY, oY + i * 3 + 2, none⟩ = some (.slice vy.aQ y.nQ vy.cQ)) wr.drew := ⟨x0, x1, x2, y0, y1, y2⟩
        clear x0 x1 x2 y0 y1 y2
        refine wp_region_G (fun w' : World => w'.cell? ⟨bx, ox + i * 3, none⟩ = some (.string x.root) ∧ w'.cell? ⟨bx, ox + i * 3 + 1, none⟩ = some (.slice vx.aP x.nP vx.cP) ∧ w'.cell? ⟨bx, ox + i * 3 + 2, none⟩ = some (.slice vx.aQ x.nQ vx.cQ) ∧ w'.cell? ⟨bY, oY + i * 3, none⟩ = some (.string y.root) ∧ w'.cell? ⟨bY, oY + i * 3 + 1, none⟩ = some (.slice vy.aP y.nP vy.cP) ∧ w'.cell? ⟨bY, oY + i * 3 + 2, none⟩ = some (.slice vy.aQ y.nQ vy.cQ)) 8 10 (by kernel_rfl) rfl ?_
        generalize wr.drew = w1 at *
        refine takeW 0 (v := ?v12) rfl (by kernel_rfl) (by kernel_rfl) (by kernel_rfl) (by kernel_rfl) (fun _ _ _ h => h) (.inr hSS) (.inl ⟨by rfl, fun w => ?hy12⟩) ?rest12
        case hy12 => (go_simp <;> with_reducible rfl)
        simp only [Go.Act.put, List.setIfInBounds_toArray, List.set_cons_zero, List.set_cons_succ]
        refine takeW 1 (v := ?v13) rfl (by kernel_rfl) (by kernel_rfl) (by kernel_rfl) (by kernel_rfl) (fun _ _ _ h => h) (.inr hSS) (.inl ⟨by rfl, fun w => ?hy13⟩) ?rest13
        case hy13 => (go_simp <;> with_reducible rfl)
        simp only [Go.Act.put, List.setIfInBounds_toArray, List.set_cons_zero, List.set_cons_succ]
        refine takeW 2 (v := ?v14) rfl (by kernel_rfl) (by kernel_rfl) (by kernel_rfl) (by kernel_rfl) (fun _ _ _ h => h) (.inr hSS) (.inl ⟨by rfl, fun w => ?hy14⟩) ?rest14
        case hy14 => (go_simp <;> with_reducible rfl)
        simp only [Go.Act.put, List.setIfInBounds_toArray, List.set_cons_zero, List.set_cons_succ]
        refine takeW 4 (v := ?v15) rfl (by kernel_rfl) (by kernel_rfl) (by kernel_rfl) (by kernel_rfl) (fun _ _ _ h => h) (.inr hSS) (.inl ⟨by rfl, fun w => ?hy15⟩) ?rest15
        case hy15 => (go_simp <;> with_reducible rfl)
        simp only [Go.Act.put, List.setIfInBounds_toArray, List.set_cons_zero, List.set_cons_succ]
        refine takeW 5 (v := ?v16) rfl (by kernel_rfl) (by kernel_rfl) (by kernel_rfl) (by kernel_rfl) (fun _ _ _ h => h) (.inr hSS) (.inl ⟨by rfl, fun w => ?hy16⟩) ?rest16
        case hy16 => (go_simp <;> with_reducible rfl)
        simp only [Go.Act.put, List.setIfInBounds_toArray, List.set_cons_zero, List.set_cons_succ]
        refine takeW 6 (v := ?v17) rfl (by kernel_rfl) (by kernel_rfl) (by kernel_rfl) (by kernel_rfl) (fun _ _ _ h => h) (.inr hSS) (.inl ⟨by rfl, fun w => ?hy17⟩) ?rest17
        case hy17 => (go_simp <;> with_reducible rfl)
        simp only [Go.Act.put, List.setIfInBounds_toArray, List.set_cons_zero, List.set_cons_succ]
        refine takeR 3 [] (v := ?v18) rfl (by kernel_rfl) (by kernel_rfl) (by kernel_rfl) (by kernel_rfl) (by kernel_rfl) (fun _ _ _ h => h) hSS (.inl ⟨by rfl, fun w hSw => ?hy18⟩) ?rest18
        case hy18 => ((try dsimp only at hSw); go_simp <;> with_reducible rfl)
        simp only [Go.Act.put, List.setIfInBounds_toArray, List.set_cons_zero, List.set_cons_succ]
        refine takeR 7 [] (v := ?v19) rfl (by kernel_rfl) (by kernel_rfl) (by kernel_rfl) (by kernel_rfl) (by kernel_rfl) (fun _ _ _ h => h) hSS (.inl ⟨by rfl, fun w hSw => ?hy19⟩) ?rest19
        case hy19 => ((try dsimp only at hSw); go_simp <;> with_reducible rfl)
        simp only [Go.Act.put, List.setIfInBounds_toArray, List.set_cons_zero, List.set_cons_succ]
        refine lastG 8 rfl (by kernel_rfl) (by kernel_rfl) (fun K hK => ?_)
        go_wp2_with fail
        refine (show Calls _ _ _ _ _ from HSE).mono ?_
        rintro e w2 ⟨⟨bb, rfl⟩, hb2⟩
        clear HSE
        have hbF := hbD.trans (hb2.mono hbD.size)
        cases bb with
        | true =>
          go_wp2
          refine hK _ _ ?_
          clear hK
          refine takeW 9 (v := ?v21) rfl (by kernel_rfl) (by kernel_rfl) (by kernel_rfl) (by kernel_rfl) (fun _ _ _ h => h) (.inl (by kernel_rfl)) (.inl ⟨by rfl, fun w => ?hy21⟩) ?rest21
          case hy21 => (go_simp <;> with_reducible rfl)
          simp only [Go.Act.put, List.setIfInBounds_toArray, List.set_cons_zero, List.set_cons_succ]
          refine doneG (by kernel_rfl) ?_ _
          go_wp2
          go_roundw
          case rel => exact ⟨i + 1, by omega, by go_num, hbF⟩
          case measure => simp [intOf]; omega
        | false =>
          go_wp2
          refine hK _ _ ?_
          clear hK
          refine takeW 9 (v := ?v23) rfl (by kernel_rfl) (by kernel_rfl) (by kernel_rfl) (by kernel_rfl) (fun _ _ _ h => h) (.inl (by kernel_rfl)) (.inl ⟨by rfl, fun w => ?hy23⟩) ?rest23
          case hy23 => (go_simp <;> with_reducible rfl)
          simp only [Go.Act.put, List.setIfInBounds_toArray, List.set_cons_zero, List.set_cons_succ]
          refine doneG (by kernel_rfl) ?_ _
          go_wp2
          go_ret
          exact ⟨⟨_, rfl⟩, hbF⟩
      · go_wp2
        go_ret
        exact ⟨⟨_, rfl⟩, hb⟩
  · have hne : ((k : Int) != (m : Int)) = true := by simp; omega
    go_enter Tryz.func16, Tryz.ntmps16
    go_wp2
    go_ret
    exact ⟨⟨_, rfl⟩, Below.refl _ _⟩
set_option maxRecDepth 100000 in
set_option maxHeartbeats 4000000 in
theorem lawShelved_any (w : World) (E : Nat → EntF) (hE : Env w) :
    Calls Tryz.prog 5 #[] w fun e w' => ∃ p g, e = .returned (.tuple #[.pointer (some ⟨p, 0, none⟩), .pointer (some ⟨g, 0, none⟩), .bool true]) ∧ w.heap.size ≤ g ∧ ShelfAt w' g p ∧ (∃ s, Disk w' w.heap.size p 112 s ∧ Stands s 112 E 0 ∧ s.left = -1) ∧ Below w.heap.size w w' := by
  have HN := diskNew_any w 112 (by decide) (by decide)
  go_enter Tryz.func5, Tryz.ntmps5
  go_wp2_with fail
  refine (show Calls _ _ _ _ _ from HN).mono ?_
  rintro e w1 ⟨p, rfl, hD1, hb1⟩
  clear HN
  have HF := format_any w1 w.heap.size p 112 DSt.fresh E hD1 rfl (by decide) rfl
  go_wp2_with fail
  refine (show Calls _ _ _ _ _ from HF).mono ?_
  rintro e w2 ⟨rfl, ⟨s2, hD2, hS2, hl2⟩, hSp2⟩
  clear HF
  have hb2 := hb1.trans hSp2.below
  have HO := open_any w2 w.heap.size p 112 s2 E 0 hD2 hS2 (hE.later hb2)
  go_wp2_with fail
  refine (show Calls _ _ _ _ _ from HO).mono ?_
  rintro e w3 ⟨g, rfl, hge, hg, hb3⟩
  clear HO
  have HFIN : Hid (∃ p' g', Ending.returned (.tuple #[.pointer (some ⟨p, 0, none⟩), .pointer (some ⟨g, 0, none⟩), .bool true]) = .returned (.tuple #[.pointer (some ⟨p', 0, none⟩), .pointer (some ⟨g', 0, none⟩), .bool true]) ∧ w.heap.size ≤ g' ∧ ShelfAt w3 g' p' ∧ (∃ s, Disk w3 w.heap.size p' 112 s ∧ Stands s 112 E 0 ∧ s.left = -1) ∧ Below w.heap.size w w3) :=
    ⟨p, g, rfl, Nat.le_trans hb2.size hge, hg, ⟨s2, hD2.later hb3, hS2, hl2⟩, hb2.trans (hb3.mono hb2.size)⟩
  go_wp2
  refine bodyPost_ret (v := .tuple #[.pointer (some ⟨p, 0, none⟩), .pointer (some ⟨g, 0, none⟩), .bool true]) (by simp [results, Tryz.results5, go_sem]) rfl ?_
  exact HFIN.out
end Go.Proofs.YtphabchelllhpaaGreatDoor

