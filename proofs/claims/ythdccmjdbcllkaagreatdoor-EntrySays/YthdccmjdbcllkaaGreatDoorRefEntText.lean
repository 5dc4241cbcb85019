/-
  What EntryText of the document returns, of every entry that may be: its line; memory that was there stays as it was.
-/
import Derived.Test.YthdccmjdbcllkaaGreatDoorEntCheck
import Derived.Test.YthdccmjdbcllkaaGreatDoorPlainLine
import Derived.Test.YthdccmjdbcllkaaGreatDoorRefDec
import Derived.Test.YthdccmjdbcllkaaGreatDoorRefText
import Derived.Test.YthdccmjdbcllkaaGreatDoorEarly
namespace Go.Proofs.YthdccmjdbcllkaaGreatDoor
open Go.RowKit

theorem join_more (ws : List (List UInt8)) (x : List UInt8) (h : ws ≠ []) : Lib.join (ws ++ [x]) [32] = Lib.join ws [32] ++ ([32] ++ x) := by
  cases ws with
  | nil => exact absurd rfl h
  | cons a r =>
    rw [List.cons_append, Lib.join_cons, Lib.join_cons]
    simp [Lib.joinTail]
theorem join_three (ws : List (List UInt8)) (x y z : List UInt8) (h : ws ≠ []) : Lib.join (ws ++ [x, y, z]) [32] = Lib.join ws [32] ++ [32] ++ x ++ [32] ++ y ++ [32] ++ z := by
  rw [show ws ++ [x, y, z] = ((ws ++ [x]) ++ [y]) ++ [z] by simp, join_more _ _ (by simp), join_more _ _ (by simp), join_more _ _ h]
  simp
theorem head_text (e : EntF) (r s : ByteArray) (hr : r.data.toList = Lib.itoa (e.nP : Int)) (hs : s.data.toList = Lib.itoa (e.nQ : Int)) : (e.root ++ ⟨#[32]⟩ ++ r ++ ⟨#[32]⟩ ++ s).data.toList = Lib.join (headW e ++ catW (partW e) 0) [32] := by
  show _ = Lib.join ([e.root.data.toList, Lib.itoa e.nP, Lib.itoa e.nQ] ++ []) [32]
  rw [List.append_nil, ← hr, ← hs, show [e.root.data.toList, r.data.toList, s.data.toList] = ([e.root.data.toList] ++ [r.data.toList]) ++ [s.data.toList] by simp, join_more _ _ (by simp), join_more _ _ (by simp), Lib.join_one]
  simp
theorem part_text (e : EntF) (i : Nat) (t r s : ByteArray) (h : t.data.toList = Lib.join (headW e ++ catW (partW e) i) [32]) (hr : r.data.toList = Lib.itoa (e.pStamp i)) (hs : s.data.toList = Lib.itoa (e.pBase i)) : (t ++ ⟨#[32]⟩ ++ e.pName i ++ ⟨#[32]⟩ ++ r ++ ⟨#[32]⟩ ++ s).data.toList = Lib.join (headW e ++ catW (partW e) (i + 1)) [32] := by
  show _ = Lib.join (headW e ++ (catW (partW e) i ++ [(e.pName i).data.toList, Lib.itoa (e.pStamp i), Lib.itoa (e.pBase i)])) [32]
  rw [← List.append_assoc, join_three _ _ _ _ (by simp [headW]), ← h, ← hr, ← hs]
  simp
theorem pat_text (e : EntF) (i : Nat) (t r s u : ByteArray) (h : t.data.toList = Lib.join (headW e ++ catW (partW e) e.nP ++ catW (patW e) i) [32]) (hr : r.data.toList = Lib.itoa (e.qPart i)) (hs : s.data.toList = Lib.itoa (e.qAt i)) (hu : u.data.toList = Lib.itoa (e.qWord i)) : (t ++ ⟨#[32]⟩ ++ r ++ ⟨#[32]⟩ ++ s ++ ⟨#[32]⟩ ++ u).data.toList = Lib.join (headW e ++ catW (partW e) e.nP ++ catW (patW e) (i + 1)) [32] := by
  show _ = Lib.join (headW e ++ catW (partW e) e.nP ++ (catW (patW e) i ++ [Lib.itoa (e.qPart i), Lib.itoa (e.qAt i), Lib.itoa (e.qWord i)])) [32]
  rw [← List.append_assoc, join_three _ _ _ _ (by simp [headW]), ← h, ← hr, ← hs, ← hu]
  simp
theorem catW_sub {g : Nat → List (List UInt8)} {x : List UInt8} {i n : Nat} (hi : i ≤ n) (h : x ∈ catW g i) : x ∈ catW g n := by
  induction n with
  | zero => obtain rfl : i = 0 := by omega
            exact h
  | succ n ih =>
    by_cases e : i = n + 1
    · subst e; exact h
    · exact List.mem_append_left _ (ih (by omega))
theorem text_small {e : EntF} (h : EntOk e) {i j : Nat} (hi : i ≤ e.nP) (hj : j ≤ e.nQ) {t : ByteArray} (ht : t.data.toList = Lib.join (headW e ++ catW (partW e) i ++ catW (patW e) j) [32]) : t.size ≤ 3000 := by
  have hs := entW_short h
  have h1 := h.nP
  have h2 := h.nQ
  have hl := (join_len_le (headW e ++ catW (partW e) i ++ catW (patW e) j) (fun x hx => hs x (by
    unfold entW
    rcases List.mem_append.1 hx with hx | hx
    · rcases List.mem_append.1 hx with hx | hx
      · exact List.mem_append_left _ (List.mem_append_left _ hx)
      · exact List.mem_append_left _ (List.mem_append_right _ (catW_sub hi hx))
    · exact List.mem_append_right _ (catW_sub hj hx)))).1
  have hn : (headW e ++ catW (partW e) i ++ catW (patW e) j).length = 3 + 3 * i + 3 * j := by
    rw [List.length_append, List.length_append, catW_len (fun _ => rfl), catW_len (fun _ => rfl)]
    rfl
  rw [hn] at hl
  rw [size_of ht]
  omega
set_option maxRecDepth 100000 in
set_option maxHeartbeats 16000000 in
theorem refEntText_any (v : EntV) (en : EntF) (w : World) (h : EntAt w v en) (h0 : entF en = 0) :
    Calls Tryz.prog 11 #[.agg (entCs v en)] w fun e w' => (∃ t : ByteArray, e = .returned (.string t) ∧ t.data.toList = lineE en) ∧ Below w.heap.size w w' := by
  have hok := entOk h0
  have hsh := entW_short hok
  obtain ⟨aP, cP, aQ, cQ⟩ := v
  have hb0 : Below w.heap.size w (w.alloc (.cells #[.string en.root, .slice aP en.nP cP, .slice aQ en.nQ cQ] 26)) := (Below.refl _ _).alloc (Nat.le_refl _) _
  have e0 : (w.alloc (.cells #[.string en.root, .slice aP en.nP cP, .slice aQ en.nQ cQ] 26)).cell? ⟨w.heap.size, 0, none⟩ = some (.string en.root) := by simp [go_sem]
  have e1 : (w.alloc (.cells #[.string en.root, .slice aP en.nP cP, .slice aQ en.nQ cQ] 26)).cell? ⟨w.heap.size, 1, none⟩ = some (.slice aP en.nP cP) := by simp [go_sem]
  have e2 : (w.alloc (.cells #[.string en.root, .slice aP en.nP cP, .slice aQ en.nQ cQ] 26)).cell? ⟨w.heap.size, 2, none⟩ = some (.slice aQ en.nQ cQ) := by simp [go_sem]
  have hp : RowE (w.alloc (.cells #[.string en.root, .slice aP en.nP cP, .slice aQ en.nQ cQ] 26)) aP en.nP en.pName en.pStamp en.pBase := h.parts.later hb0
  have hq : PatRow (w.alloc (.cells #[.string en.root, .slice aP en.nP cP, .slice aQ en.nQ cQ] 26)) aQ en.nQ en.qPart en.qAt en.qWord := h.pats.later hb0
  have n1 := hok.nP
  have n2 := hok.nQ
  have HSM : Hid (∀ (i j : Nat) (t : ByteArray), i ≤ en.nP → j ≤ en.nQ → t.data.toList = Lib.join (headW en ++ catW (partW en) i ++ catW (patW en) j) [32] → t.size ≤ 3000) := fun i j t hi hj ht => text_small hok hi hj ht
  have HNM : Hid (∀ i, i < en.nP → (en.pName i).size ≤ 20) := fun i hi => by
    have := hsh (en.pName i).data.toList (List.mem_of_getElem? (entW_part en (j := 0) hi (by decide)))
    simpa using this
  have HRT : Hid (en.root.size ≤ 20) := by
    have := hsh en.root.data.toList (List.mem_of_getElem? (entW_head en (j := 0) (by decide)))
    show en.root.size ≤ 20
    simpa using this
  have HW : Hid (∀ i, i < en.nQ → -9223372036854775807 ≤ en.qWord i ∧ en.qWord i ≤ 9223372036854775807 ∧ -9223372036854775807 ≤ en.qPart i ∧ en.qPart i ≤ 9223372036854775807 ∧ -9223372036854775807 ≤ en.qAt i ∧ en.qAt i ≤ 9223372036854775807) := fun i hi => by
    have := hok.pats i hi
    omega
  have HST : Hid (∀ i, i < en.nP → -9223372036854775807 ≤ en.pStamp i ∧ en.pStamp i ≤ 9223372036854775807 ∧ -9223372036854775807 ≤ en.pBase i ∧ en.pBase i ≤ 9223372036854775807) := fun i hi => by
    have := hok.parts i hi
    omega
  clear h hsh hok h0
  go_enter Tryz.func11, Tryz.ntmps11
  unfold entCs
  go_upto_region 1 with fail
  generalize w.alloc (.cells #[.string en.root, .slice aP en.nP cP, .slice aQ en.nQ cQ] 26) = W at *
  generalize hbw : w.heap.size = bw at *
  have HBW : Hid (w.heap.size = bw) := hbw
  clear hbw
  -- the head
  have mkS : ∀ X : World, Below W.heap.size W X → (fun w' : World => w'.cell? ⟨bw, 0, none⟩ = some (.string en.root) ∧ w'.cell? ⟨bw, 1, none⟩ = some (.slice aP en.nP cP) ∧ w'.cell? ⟨bw, 2, none⟩ = some (.slice aQ en.nQ cQ)) X := fun X hX => ⟨cell_later hX e0, cell_later hX e1, cell_later hX e2⟩
  have hbd := (Below.refl W.heap.size W).drew
  have hSS := mkS _ hbd
  refine wp_region_G (fun w' : World => w'.cell? ⟨bw, 0, none⟩ = some (.string en.root) ∧ w'.cell? ⟨bw, 1, none⟩ = some (.slice aP en.nP cP) ∧ w'.cell? ⟨bw, 2, none⟩ = some (.slice aQ en.nQ cQ)) 14 15 (by kernel_rfl) rfl ?_
  generalize W.drew = X1 at *
  have zr := HRT.out
  have y1 : ¬ 9223372036854775807 < en.root.size + 1 := by omega
  refine tW 0 hSS ?_
  refine tW 3 hSS ?_
  refine tW 9 hSS ?_
  refine tR 1 [] hSS ?_
  refine tW 2 hSS ?_
  refine tR 4 [] hSS ?_
  refine tW 5 hSS ?_
  refine tR 10 [] hSS ?_
  refine tW 11 hSS ?_
  refine oG 6 fun K hK => ?_
  go_wp2_with fail
  refine (show Calls _ _ _ _ _ from decimal_any (en.nP : Int) (by omega) (by omega) X1).mono ?_
  rintro e X2 ⟨⟨r1, rfl, hr1⟩, hb2⟩
  have z1 : r1.size ≤ 20 := by rw [size_of hr1]; exact itoa_len _ (by omega) (by omega)
  have hbd2 := hbd.trans (hb2.mono hbd.size)
  have hSS2 := mkS _ hbd2
  clear hSS hb2
  go_wp2
  refine hK _ _ hSS2 ?_
  clear hK
  have hSS := hSS2
  clear hSS2
  have y2 : ¬ 9223372036854775807 < en.root.size + 1 + r1.size := by omega
  have y3 : ¬ 9223372036854775807 < en.root.size + 1 + r1.size + 1 := by omega
  refine tW 7 hSS ?_
  refine tW 8 hSS ?_
  refine oG 12 fun K hK => ?_
  go_wp2_with fail
  refine (show Calls _ _ _ _ _ from decimal_any (en.nQ : Int) (by omega) (by omega) X2).mono ?_
  rintro e X3 ⟨⟨r2, rfl, hr2⟩, hb3⟩
  have z2 : r2.size ≤ 20 := by rw [size_of hr2]; exact itoa_len _ (by omega) (by omega)
  have hbd3 := hbd2.trans (hb3.mono hbd2.size)
  have hSS3 := mkS _ hbd3
  clear hSS hb3
  go_wp2
  refine hK _ _ hSS3 ?_
  clear hK
  have hSS := hSS3
  clear hSS3
  have y4 : ¬ 9223372036854775807 < en.root.size + 1 + r1.size + 1 + r2.size := by omega
  refine tW 13 hSS ?_
  clear hSS
  refine lG 14 fun K hK => ?_
  go_wp2
  refine hK _ _ ?_
  clear hK
  refine doneG (by kernel_rfl) ?_ _
  have HT0 : Hid ((en.root ++ ⟨#[32]⟩ ++ r1 ++ ⟨#[32]⟩ ++ r2).data.toList = Lib.join (headW en ++ catW (partW en) 0) [32]) := head_text en r1 r2 hr1 hr2
  clear hr1 hr2 y1 y2 y3 y4 zr z1 z2 mkS hbd hbd2
  generalize en.root ++ ⟨#[32]⟩ ++ r1 ++ ⟨#[32]⟩ ++ r2 = t0 at *
  go_wp2
  -- the parts
  go_loopw [3, 4] (fun y3 y4 wr => ∃ (i : Nat) (t : ByteArray), i ≤ en.nP ∧ y4 = .int .i64 i ∧ y3 = .string t ∧ Hid (t.data.toList = Lib.join (headW en ++ catW (partW en) i) [32]) ∧ Below W.heap.size W wr) (fun _ y4 _ => en.nP - (intOf y4).toNat)
  case atStart => exact ⟨0, t0, Nat.zero_le _, rfl, rfl, HT0, hbd3⟩
  case round =>
    clear HT0 hbd3
    obtain ⟨i, t, hi, rfl, rfl, HT, hb⟩ := hrel
    have f1 := cell_later hb e1
    by_cases hlt : i < en.nP
    · rcases hp.later hb with h0 | ⟨bk, o, rfl, hc⟩
      · omega
      obtain ⟨x0, x1, x2⟩ := hc i hlt
      have hi0 : (0 : Int) ≤ (i : Int) := by omega
      have hi1 : (i : Int) < (en.nP : Int) := by omega
      have zt := HSM.out i 0 t hi (Nat.zero_le _) (by show t.data.toList = Lib.join (headW en ++ catW (partW en) i ++ []) [32]; rw [List.append_nil]; exact HT.out)
      have zn := HNM.out i hlt
      obtain ⟨g1, g2, g3, g4⟩ := HST.out i hlt
      have HPT := fun (r s : ByteArray) => part_text en i t r s HT.out
      clear hc hp
      go_upto_region 5 with fail
      have mkS : ∀ X : World, Below wr.heap.size wr X → (fun w' : World => w'.cell? ⟨bw, 1, none⟩ = some (.slice (some ⟨bk, o, none⟩) en.nP cP) ∧ w'.cell? ⟨bk, o + i * 3, none⟩ = some (.string (en.pName i)) ∧ w'.cell? ⟨bk, o + i * 3 + 1, none⟩ = some (.int .i64 (en.pStamp i)) ∧ w'.cell? ⟨bk, o + i * 3 + 2, none⟩ = some (.int .i64 (en.pBase i))) X := fun X hX => ⟨cell_later hX f1, cell_later hX x0, cell_later hX x1, cell_later hX x2⟩
      have hbd := (Below.refl wr.heap.size wr).drew
      have hSS := mkS _ hbd
      refine wp_region_G (fun w' : World => w'.cell? ⟨bw, 1, none⟩ = some (.slice (some ⟨bk, o, none⟩) en.nP cP) ∧ w'.cell? ⟨bk, o + i * 3, none⟩ = some (.string (en.pName i)) ∧ w'.cell? ⟨bk, o + i * 3 + 1, none⟩ = some (.int .i64 (en.pStamp i)) ∧ w'.cell? ⟨bk, o + i * 3 + 2, none⟩ = some (.int .i64 (en.pBase i))) 27 28 (by kernel_rfl) rfl ?_
      generalize wr.drew = X1 at *
      generalize hnm : en.pName i = nm at *
      generalize hst : en.pStamp i = st at *
      generalize hbs : en.pBase i = bs at *
      clear hnm hst hbs f1 x0 x1 x2 HT
      have y1 : ¬ 9223372036854775807 < t.size + 1 := by omega
      have y2 : ¬ 9223372036854775807 < t.size + 1 + nm.size := by omega
      have y3 : ¬ 9223372036854775807 < t.size + 1 + nm.size + 1 := by omega
      refine tW 0 hSS ?_
      refine tW 1 hSS ?_
      refine tW 2 hSS ?_
      refine tW 4 hSS ?_
      refine tW 10 hSS ?_
      refine tW 12 hSS ?_
      refine tW 19 hSS ?_
      refine tW 21 hSS ?_
      refine tR 3 [] hSS ?_
      refine tW 5 hSS ?_
      refine tW 6 hSS ?_
      refine tR 7 [] hSS ?_
      refine tW 8 hSS ?_
      refine tW 9 hSS ?_
      refine tR 11 [] hSS ?_
      refine tW 13 hSS ?_
      refine tW 14 hSS ?_
      refine tR 15 [] hSS ?_
      refine tR 20 [] hSS ?_
      refine tW 22 hSS ?_
      refine tW 23 hSS ?_
      refine tR 24 [] hSS ?_
      refine oG 16 fun K hK => ?_
      go_wp2_with fail
      refine (show Calls _ _ _ _ _ from decimal_any st (by omega) (by omega) X1).mono ?_
      rintro e X2 ⟨⟨r1, rfl, hr1⟩, hb2⟩
      have z1 : r1.size ≤ 20 := by rw [size_of hr1]; exact itoa_len _ (by omega) (by omega)
      have hbd2 := hbd.trans (hb2.mono hbd.size)
      have hSS2 := mkS _ hbd2
      clear hSS hb2
      go_wp2
      refine hK _ _ hSS2 ?_
      clear hK
      have hSS := hSS2
      clear hSS2
      have y4 : ¬ 9223372036854775807 < t.size + 1 + nm.size + 1 + r1.size := by omega
      have y5 : ¬ 9223372036854775807 < t.size + 1 + nm.size + 1 + r1.size + 1 := by omega
      refine tW 17 hSS ?_
      refine tW 18 hSS ?_
      refine oG 25 fun K hK => ?_
      go_wp2_with fail
      refine (show Calls _ _ _ _ _ from decimal_any bs (by omega) (by omega) X2).mono ?_
      rintro e X3 ⟨⟨r2, rfl, hr2⟩, hb3⟩
      have z2 : r2.size ≤ 20 := by rw [size_of hr2]; exact itoa_len _ (by omega) (by omega)
      have hbd3 := hbd2.trans (hb3.mono hbd2.size)
      have hSS3 := mkS _ hbd3
      clear hSS hb3
      go_wp2
      refine hK _ _ hSS3 ?_
      clear hK
      have hSS := hSS3
      clear hSS3
      have y6 : ¬ 9223372036854775807 < t.size + 1 + nm.size + 1 + r1.size + 1 + r2.size := by omega
      refine tW 26 hSS ?_
      clear hSS
      refine lG 27 fun K hK => ?_
      go_wp2
      refine hK _ _ ?_
      clear hK
      refine doneG (by kernel_rfl) ?_ _
      have HT1 : Hid ((t ++ ⟨#[32]⟩ ++ nm ++ ⟨#[32]⟩ ++ r1 ++ ⟨#[32]⟩ ++ r2).data.toList = Lib.join (headW en ++ catW (partW en) (i + 1)) [32]) := HPT r1 r2 hr1 hr2
      have hbe := hb.trans (hbd3.mono hb.size)
      clear hr1 hr2 y1 y2 y3 y4 y5 y6 z1 z2 mkS hbd hbd2 hbd3 HPT
      go_wp2
      go_roundw
      case rel => exact ⟨i + 1, _, by omega, by go_num, rfl, HT1, hbe⟩
      case measure => simp [intOf]; omega
    · obtain rfl : i = en.nP := by omega
      have HT2 : Hid (t.data.toList = Lib.join (headW en ++ catW (partW en) en.nP ++ catW (patW en) 0) [32]) := by
        show t.data.toList = Lib.join (headW en ++ catW (partW en) en.nP ++ []) [32]
        rw [List.append_nil]
        exact HT.out
      clear HT hp
      go_wp2
      go_loopw [3, 5] (fun y3 y5 wx => ∃ (j : Nat) (t : ByteArray), j ≤ en.nQ ∧ y5 = .int .i64 j ∧ y3 = .string t ∧ Hid (t.data.toList = Lib.join (headW en ++ catW (partW en) en.nP ++ catW (patW en) j) [32]) ∧ Below W.heap.size W wx) (fun _ y5 _ => en.nQ - (intOf y5).toNat)
      case atStart => exact ⟨0, t, Nat.zero_le _, rfl, rfl, HT2, hb⟩
      case round =>
        clear HT2 hb f1
        obtain ⟨j, t, hj, rfl, rfl, HT, hb⟩ := hrel
        have f2 := cell_later hb e2
        by_cases hlt : j < en.nQ
        · rcases hq.later hb with h0 | ⟨bk, o, rfl, hc⟩
          · omega
          obtain ⟨x0, x1, x2⟩ := hc j hlt
          have hj0 : (0 : Int) ≤ (j : Int) := by omega
          have hj1 : (j : Int) < (en.nQ : Int) := by omega
          have zt := HSM.out en.nP j t (Nat.le_refl _) hj HT.out
          obtain ⟨g1, g2, g3, g4, g5, g6⟩ := HW.out j hlt
          have HPT := fun (r s u : ByteArray) => pat_text en j t r s u HT.out
          clear hc hq
          go_upto_region 9 with fail
          have mkS : ∀ X : World, Below wr.heap.size wr X → (fun w' : World => w'.cell? ⟨bw, 2, none⟩ = some (.slice (some ⟨bk, o, none⟩) en.nQ cQ) ∧ w'.cell? ⟨bk, o + j * 3, none⟩ = some (.int .i64 (en.qPart j)) ∧ w'.cell? ⟨bk, o + j * 3 + 1, none⟩ = some (.int .i64 (en.qAt j)) ∧ w'.cell? ⟨bk, o + j * 3 + 2, none⟩ = some (.int .i64 (en.qWord j))) X := fun X hX => ⟨cell_later hX f2, cell_later hX x0, cell_later hX x1, cell_later hX x2⟩
          have hbd := (Below.refl wr.heap.size wr).drew
          have hSS := mkS _ hbd
          refine wp_region_G (fun w' : World => w'.cell? ⟨bw, 2, none⟩ = some (.slice (some ⟨bk, o, none⟩) en.nQ cQ) ∧ w'.cell? ⟨bk, o + j * 3, none⟩ = some (.int .i64 (en.qPart j)) ∧ w'.cell? ⟨bk, o + j * 3 + 1, none⟩ = some (.int .i64 (en.qAt j)) ∧ w'.cell? ⟨bk, o + j * 3 + 2, none⟩ = some (.int .i64 (en.qWord j))) 28 29 (by kernel_rfl) rfl ?_
          generalize wr.drew = X1 at *
          generalize hnm : en.qPart j = qa at *
          generalize hst : en.qAt j = qb at *
          generalize hbs : en.qWord j = qc at *
          clear hnm hst hbs f2 x0 x1 x2 HT
          have y1 : ¬ 9223372036854775807 < t.size + 1 := by omega
          refine tW 0 hSS ?_
          refine tW 1 hSS ?_
          refine tW 2 hSS ?_
          refine tW 4 hSS ?_
          refine tW 11 hSS ?_
          refine tW 13 hSS ?_
          refine tW 20 hSS ?_
          refine tW 22 hSS ?_
          refine tR 3 [] hSS ?_
          refine tW 5 hSS ?_
          refine tW 6 hSS ?_
          refine tR 7 [] hSS ?_
          refine tR 12 [] hSS ?_
          refine tW 14 hSS ?_
          refine tW 15 hSS ?_
          refine tR 16 [] hSS ?_
          refine tR 21 [] hSS ?_
          refine tW 23 hSS ?_
          refine tW 24 hSS ?_
          refine tR 25 [] hSS ?_
          refine oG 8 fun K hK => ?_
          go_wp2_with fail
          refine (show Calls _ _ _ _ _ from decimal_any qa (by omega) (by omega) X1).mono ?_
          rintro e X2 ⟨⟨r1, rfl, hr1⟩, hb2⟩
          have z1 : r1.size ≤ 20 := by rw [size_of hr1]; exact itoa_len _ (by omega) (by omega)
          have hbd2 := hbd.trans (hb2.mono hbd.size)
          have hSS2 := mkS _ hbd2
          clear hSS hb2
          go_wp2
          refine hK _ _ hSS2 ?_
          clear hK
          have hSS := hSS2
          clear hSS2
          have y4 : ¬ 9223372036854775807 < t.size + 1 + r1.size := by omega
          have y5 : ¬ 9223372036854775807 < t.size + 1 + r1.size + 1 := by omega
          refine tW 9 hSS ?_
          refine tW 10 hSS ?_
          refine oG 17 fun K hK => ?_
          go_wp2_with fail
          refine (show Calls _ _ _ _ _ from decimal_any qb (by omega) (by omega) X2).mono ?_
          rintro e X3 ⟨⟨r2, rfl, hr2⟩, hb3⟩
          have z2 : r2.size ≤ 20 := by rw [size_of hr2]; exact itoa_len _ (by omega) (by omega)
          have hbd3 := hbd2.trans (hb3.mono hbd2.size)
          have hSS3 := mkS _ hbd3
          clear hSS hb3
          go_wp2
          refine hK _ _ hSS3 ?_
          clear hK
          have hSS := hSS3
          clear hSS3
          have y6 : ¬ 9223372036854775807 < t.size + 1 + r1.size + 1 + r2.size := by omega
          have y7 : ¬ 9223372036854775807 < t.size + 1 + r1.size + 1 + r2.size + 1 := by omega
          refine tW 18 hSS ?_
          refine tW 19 hSS ?_
          refine oG 26 fun K hK => ?_
          go_wp2_with fail
          refine (show Calls _ _ _ _ _ from decimal_any qc (by omega) (by omega) X3).mono ?_
          rintro e X4 ⟨⟨r3, rfl, hr3⟩, hb4⟩
          have z3 : r3.size ≤ 20 := by rw [size_of hr3]; exact itoa_len _ (by omega) (by omega)
          have hbd4 := hbd3.trans (hb4.mono hbd3.size)
          have hSS4 := mkS _ hbd4
          clear hSS hb4
          go_wp2
          refine hK _ _ hSS4 ?_
          clear hK
          have hSS := hSS4
          clear hSS4
          have y8 : ¬ 9223372036854775807 < t.size + 1 + r1.size + 1 + r2.size + 1 + r3.size := by omega
          refine tW 27 hSS ?_
          clear hSS
          refine lG 28 fun K hK => ?_
          go_wp2
          refine hK _ _ ?_
          clear hK
          refine doneG (by kernel_rfl) ?_ _
          have HT1 : Hid ((t ++ ⟨#[32]⟩ ++ r1 ++ ⟨#[32]⟩ ++ r2 ++ ⟨#[32]⟩ ++ r3).data.toList = Lib.join (headW en ++ catW (partW en) en.nP ++ catW (patW en) (j + 1)) [32]) := HPT r1 r2 r3 hr1 hr2 hr3
          have hbe := hb.trans (hbd4.mono hb.size)
          clear hr1 hr2 hr3 y1 y4 y5 y6 y7 y8 z1 z2 z3 mkS hbd hbd2 hbd3 hbd4 HPT
          go_wp2
          go_roundw
          case rel => exact ⟨j + 1, _, by omega, by go_num, rfl, HT1, hbe⟩
          case measure => simp [intOf]; omega
        · obtain rfl : j = en.nQ := by omega
          have zt := HSM.out en.nP en.nQ t (Nat.le_refl _) (Nat.le_refl _) HT.out
          have HTL : Hid ((t ++ ⟨#[10]⟩).data.toList = lineE en) := by
            show _ = Lib.join (headW en ++ catW (partW en) en.nP ++ catW (patW en) en.nQ) [32] ++ [10]
            rw [← HT.out]
            simp
          have hbf : Below bw w wr := hb0.trans (hb.mono (by have := hb0.size; have := HBW.out; omega))
          clear HT hq
          go_wp2
          go_ret
          refine ⟨⟨_, rfl, HTL.out⟩, ?_⟩
          rw [HBW.out]
          exact hbf
end Go.Proofs.YthdccmjdbcllkaaGreatDoor

