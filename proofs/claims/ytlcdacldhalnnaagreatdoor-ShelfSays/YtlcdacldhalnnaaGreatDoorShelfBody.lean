/-
  What writeBody of package shelf does, of any disk that isn't down and on which nothing is late: the body is kept, or the disk fell, and all but that body is as it was.
-/
import Derived.Test.YtlcdacldhalnnaaGreatDoorShelfSmall
import Derived.Test.YtlcdacldhalnnaaGreatDoorPlainShelf
namespace Go.Proofs.YtlcdacldhalnnaaGreatDoor
open Go.RowKit

/-- a call of writeBody that returned. -/
inductive BodyEnd (s : DSt) (n b : Nat) (t : List UInt8) (s' : DSt) : Ending → Prop
  | ok (h : BodyKept s s' n b t) : BodyEnd s n b t s' (.returned (.tuple #[.agg #[.int .i64 (b : Int), .int .i64 (many64 t : Int)], .nilIface]))
  | fell (x y : Int) (hl : s.left ≠ -1) (hd : s'.down = true) (hr : ∀ i, i < n → ¬ (1 + b * 55 ≤ i ∧ i < 1 + b * 55 + 55) → s'.K i = s.K i) : BodyEnd s n b t s' (.returned (.tuple #[.agg #[.int .i64 x, .int .i64 y], errV 9]))
theorem Disk.nx {w : World} {B p n : Nat} {s : DSt} (h : Disk w B p n s) : s.next < 64 := by
  obtain ⟨⟨bs, v, h⟩, _⟩ := h
  exact h.nx
/-- a block of the call's own turns. -/
theorem Spun.own {B g i : Nat} {w wr : World} (h : Spun B w wr) (hB : B ≤ w.heap.size) (hg : w.heap.size ≤ g) (v : Value) : Spun B w (wr.setCell ⟨g, i, none⟩ v) :=
  ⟨⟨h.below.os, h.below.tape, h.below.output, by simp [World.setCell]; exact h.below.size, fun k hk => (Below.heap_setCell _ _ _ _ (by show k ≠ g; omega)).trans (h.below.block k hk)⟩, fun k o hk ho => by
    have hl := (Array.getElem?_eq_some_iff.1 hk).1
    rw [Below.heap_setCell _ _ _ _ (by show k ≠ g; omega)]
    exact h.block k o hk ho⟩
theorem Disk.set {w : World} {B p n g i : Nat} {s : DSt} {C : Array Value} {t : TypeId} {f : Nat × Nat} (h : Disk w B p n s) (hg : w.heap[g]? = some (.cells C t f)) (ht : ¬ (t = 66 ∨ t = 116 ∨ t = 113)) (v : Value) : Disk (w.setCell ⟨g, i, none⟩ v) B p n s :=
  h.other fun k o hk ho => by
    by_cases e : k = g
    · subst e
      rw [hg] at hk
      injection hk with hk
      obtain ⟨c, t', f', rfl, h'⟩ := ho
      injection hk with _ h2 _
      exact absurd (h2 ▸ h') ht
    · rw [Below.heap_setCell _ _ _ _ e]; exact hk
/-- a text's part, and what is behind it. -/
theorem chunk_cut (t : List UInt8) (j : Nat) : (⟨(t.drop (64 * j)).toArray⟩ : ByteArray).extract 0 (min (⟨(t.drop (64 * j)).toArray⟩ : ByteArray).size 64) = ⟨(chunk t j).toArray⟩ ∧
    (⟨(t.drop (64 * j)).toArray⟩ : ByteArray).extract (min (⟨(t.drop (64 * j)).toArray⟩ : ByteArray).size 64) (⟨(t.drop (64 * j)).toArray⟩ : ByteArray).size = ⟨(t.drop (64 * (j + 1))).toArray⟩ := by
  rw [Lib.extract_mk, Lib.extract_mk, ba_size]
  have e : t.drop (64 * (j + 1)) = (t.drop (64 * j)).drop 64 := by rw [List.drop_drop]; rfl
  rw [e]
  unfold chunk
  generalize t.drop (64 * j) = l
  rw [List.drop_zero, Nat.sub_zero]
  by_cases h64 : 64 ≤ l.length
  · rw [Nat.min_eq_right h64, List.take_of_length_le (l := l.drop 64) (by simp)]
    exact ⟨rfl, rfl⟩
  · rw [Nat.min_eq_left (by omega), List.take_of_length_le (Nat.le_refl _), List.take_of_length_le (l := l) (by omega), List.drop_of_length_le (Nat.le_refl _), List.drop_of_length_le (l := l) (by omega)]
    exact ⟨rfl, by simp⟩
theorem head_not (C : Array Value) (f : Nat × Nat) : ¬ DiskTy (.cells C 75 f) := by
  rintro ⟨c, t, f', h, ht⟩
  injection h with _ h2 _
  subst h2
  exact absurd ht (by decide)
theorem two_new0 (w : World) (a b : Obj) : ((w.alloc a).alloc b).heap[w.heap.size]? = some a := by
  have h : w.heap.size < (w.alloc a).heap.size := by simp
  exact ((((Below.refl _ _).alloc (Nat.le_refl _) b).block _ h : ((w.alloc a).alloc b).heap[w.heap.size]? = (w.alloc a).heap[w.heap.size]?)).trans Array.getElem?_push_size
theorem two_new1 (w : World) (a b : Obj) : ((w.alloc a).alloc b).heap[w.heap.size + 1]? = some b := by
  have h : (w.alloc a).heap.size = w.heap.size + 1 := by simp
  rw [← h]
  exact Array.getElem?_push_size
set_option maxRecDepth 100000 in
set_option maxHeartbeats 4000000 in
theorem writeBody_any (w : World) (B p n : Nat) (s : DSt) (b : Nat) (t : List UInt8) (h : Disk w B p n s) (hup : s.down = false) (hn : 112 ≤ n) (hb : b ≤ 1) (ht : t.length ≤ 3520) (hc : ∀ i, i < n → (s.K i).late = []) :
    Calls Tryz.prog 44 #[.pointer (some ⟨p, 0, none⟩), .int .i64 (b : Int), .string ⟨t.toArray⟩] w fun e w' => ∃ s', BodyEnd s n b t s' e ∧ Disk w' B p n s' ∧ Spun B w w' := by
  have hB := h.base
  have hbi : (b : Int) ≤ 1 := by omega
  have hbi0 : (0 : Int) ≤ (b : Int) := by omega
  have q0 : errV 0 = .nilIface := rfl
  have q9 : errV 9 = .iface 62 (.int .i64 9) := rfl
  have hb0 : Below w.heap.size w ((w.alloc (.cells #[.int .i64 0, .int .i64 0] 75)).alloc (.cells #[.int .i64 (b : Int), .int .i64 0] 75)) := ((Below.refl _ _).alloc (Nat.le_refl _) _).alloc (by simp) _
  have r0 : ((w.alloc (.cells #[.int .i64 0, .int .i64 0] 75)).alloc (.cells #[.int .i64 (b : Int), .int .i64 0] 75)).heap[w.heap.size]? = some (.cells #[.int .i64 0, .int .i64 0] 75 (0, 0)) := two_new0 _ _ _
  have r1 : ((w.alloc (.cells #[.int .i64 0, .int .i64 0] 75)).alloc (.cells #[.int .i64 (b : Int), .int .i64 0] 75)).heap[w.heap.size + 1]? = some (.cells #[.int .i64 (b : Int), .int .i64 0] 75 (0, 0)) := two_new1 _ _ _
  go_enter Tryz.func44, Tryz.ntmps44
  go_wp2
  go_loopw [2] (fun y wr => ∃ (j : Nat) (s1 : DSt), y = .string ⟨(t.drop (64 * j)).toArray⟩ ∧ Hid (64 * j < t.length + 64) ∧ Bodied s s1 b t j ∧ Disk wr B p n s1 ∧ Spun B w wr ∧ wr.heap[w.heap.size]? = some (.cells #[.int .i64 0, .int .i64 0] 75 (0, 0)) ∧ wr.heap[w.heap.size + 1]? = some (.cells #[.int .i64 (b : Int), .int .i64 (j : Int)] 75 (0, 0))) (fun y _ => Lib.strSize y)
  case atStart => exact ⟨0, s, rfl, by show 64 * 0 < t.length + 64; omega, Bodied.start hup b t, h.later hb0, Spun.of hB hb0, r0, r1⟩
  case round =>
    clear r0 r1 hb0
    obtain ⟨j, s1, rfl, hj, hBd, hD, hSp, r0, r1⟩ := hrel
    have hsz : Hid ((⟨(t.drop (64 * j)).toArray⟩ : ByteArray).size = t.length - 64 * j) := by rw [ba_size, List.length_drop]; exact rfl
    obtain ⟨x0, x1, y0, y1⟩ := box2 r1
    have HT : Hid (_ ∧ _) := chunk_cut t j
    generalize (⟨(t.drop (64 * j)).toArray⟩ : ByteArray) = T at *
    have hjn : j < 55 ∨ T.size = 0 := by have h1 := hj.out; have h2 := hsz.out; omega
    by_cases hpos : 0 < T.size
    · have hp : (0 : Int) < (T.size : Int) := by omega
      have hj55 : j < 55 := by omega
      have hlt : 1 + b * 55 + j < n := by have : b * 55 ≤ 55 := by omega
                                          omega
      have hji : (j : Int) < 55 := by omega
      have hji0 : (0 : Int) ≤ (j : Int) := by omega
      have HA := fun W => start_any (b : Int) W hbi0 hbi
      obtain ⟨m, hm⟩ : ∃ m : Nat, m = min T.size 64 := ⟨_, rfl⟩
      have hmi : min (T.size : Int) 64 = (m : Int) := by omega
      have hm0 : (0 : Int) ≤ (m : Int) := by omega
      have hm1 : (m : Int) ≤ (T.size : Int) := by omega
      have hmT : m ≤ T.size := by omega
      have HX : Hid (T.extract 0 m = ⟨(chunk t j).toArray⟩) := by rw [hm]; exact HT.out.1
      have HY : Hid (T.extract m T.size = ⟨(t.drop (64 * (j + 1))).toArray⟩) := by rw [hm]; exact HT.out.2
      have hcs : (⟨(chunk t j).toArray⟩ : ByteArray).size ≤ 64 := by rw [ba_size]; exact chunk_len t j
      have HCD : Hid ((⟨(chunk t j).toArray⟩ : ByteArray).data.toList = chunk t j) := by show (chunk t j).toArray.toList = _; simp
      generalize (⟨(chunk t j).toArray⟩ : ByteArray) = CH at *
      have HSZ : Hid (m = min T.size 64) := hm
      clear hm hjn
      go_wp2_with fail
      have hSS : (fun w' : World => w'.cell? ⟨w.heap.size + 1, 1, none⟩ = some (.int .i64 (j : Int))) wr.drew := x1
      have hDd := hD.later (Below.refl _ wr).drew
      have hSd : Spun B w wr.drew := hSp.trans (Spun.of (Nat.le_trans hB hSp.size) (Below.refl _ wr).drew)
      have r0d : wr.drew.heap[w.heap.size]? = some (.cells #[.int .i64 0, .int .i64 0] 75 (0, 0)) := r0
      have r1d : wr.drew.heap[w.heap.size + 1]? = some (.cells #[.int .i64 (b : Int), .int .i64 (j : Int)] 75 (0, 0)) := r1
      clear hD hSp r0 r1 x0 x1 y0 y1
      refine wp_region_G (fun w' : World => w'.cell? ⟨w.heap.size + 1, 1, none⟩ = some (.int .i64 (j : Int))) 9 11 (by kernel_rfl) rfl ?_
      generalize wr.drew = w1 at *
      refine takeW 0 (v := ?v1) rfl (by kernel_rfl) (by kernel_rfl) (by kernel_rfl) (by kernel_rfl) (fun _ _ _ h => h) (.inr hSS) (.inl ⟨by rfl, fun w => ?hy1⟩) ?rest1
      case hy1 => (go_simp <;> with_reducible rfl)
      simp only [Go.Act.put, List.setIfInBounds_toArray, List.set_cons_zero, List.set_cons_succ]
      refine takeW 1 (v := ?v2) rfl (by kernel_rfl) (by kernel_rfl) (by kernel_rfl) (by kernel_rfl) (fun _ _ _ h => h) (.inr hSS) (.inl ⟨by rfl, fun w => ?hy2⟩) ?rest2
      case hy2 => (go_simp <;> with_reducible rfl)
      simp only [Go.Act.put, List.setIfInBounds_toArray, List.set_cons_zero, List.set_cons_succ]
      refine takeW 3 (v := ?v3) rfl (by kernel_rfl) (by kernel_rfl) (by kernel_rfl) (by kernel_rfl) (fun _ _ _ h => h) (.inr hSS) (.inl ⟨by rfl, fun w => ?hy3⟩) ?rest3
      case hy3 => (go_simp <;> with_reducible rfl)
      simp only [Go.Act.put, List.setIfInBounds_toArray, List.set_cons_zero, List.set_cons_succ]
      refine takeW 6 (v := ?v4) rfl (by kernel_rfl) (by kernel_rfl) (by kernel_rfl) (by kernel_rfl) (fun _ _ _ h => h) (.inr hSS) (.inl ⟨by rfl, fun w => ?hy4⟩) ?rest4
      case hy4 => (go_simp <;> with_reducible rfl)
      simp only [Go.Act.put, List.setIfInBounds_toArray, List.set_cons_zero, List.set_cons_succ]
      refine takeW 7 (v := ?v5) rfl (by kernel_rfl) (by kernel_rfl) (by kernel_rfl) (by kernel_rfl) (fun _ _ _ h => h) (.inr hSS) (.inl ⟨by rfl, fun w => ?hy5⟩) ?rest5
      case hy5 => (go_simp <;> with_reducible rfl)
      simp only [Go.Act.put, List.setIfInBounds_toArray, List.set_cons_zero, List.set_cons_succ]
      refine takeW 8 (v := ?v6) rfl (by kernel_rfl) (by kernel_rfl) (by kernel_rfl) (by kernel_rfl) (fun _ _ _ h => h) (.inr hSS) (.inl ⟨by rfl, fun w => ?hy6⟩) ?rest6
      case hy6 => (go_simp <;> with_reducible rfl)
      simp only [Go.Act.put, List.setIfInBounds_toArray, List.set_cons_zero, List.set_cons_succ]
      rw [HX.out]
      refine takeR 4 [5] (v := ?v7) rfl (by kernel_rfl) (by kernel_rfl) (by kernel_rfl) (by kernel_rfl) (by kernel_rfl) (fun _ _ _ h => h) hSS (.inl ⟨by rfl, fun w hSw => ?hy7⟩) ?rest7
      case hy7 => ((try dsimp only at hSw); go_simp <;> with_reducible rfl)
      simp only [Go.Act.put, List.setIfInBounds_toArray, List.set_cons_zero, List.set_cons_succ]
      refine onlyG 2 rfl (by kernel_rfl) (fun K hK => ?_)
      go_wp2_with fail
      refine (show Calls _ _ _ _ _ from HA _).mono ?_
      rintro e w2 ⟨rfl, hw2⟩
      subst hw2
      clear HA
      go_wp2
      refine hK _ _ hSS ?_
      clear hK
      refine takeW 5 (v := ?v9) rfl (by kernel_rfl) (by kernel_rfl) (by kernel_rfl) (by kernel_rfl) (fun _ _ _ h => h) (.inr hSS) (.inl ⟨by rfl, fun w => ?hy9⟩) ?rest9
      case hy9 => (go_simp <;> with_reducible rfl)
      simp only [Go.Act.put, List.setIfInBounds_toArray, List.set_cons_zero, List.set_cons_succ]
      have HWR := diskWrite_any w1 B p n s1 (1 + (b : Int) * 55 + (j : Int)) CH hDd (Nat.le_trans hcs (by decide))
      have hin : ¬ (¬ (0 ≤ 1 + (b : Int) * 55 + (j : Int) ∧ 1 + (b : Int) * 55 + (j : Int) < n) ∨ 64 < CH.size) := by omega
      unfold DSt.writeF DSt.wrote at HWR
      rw [if_neg hin, if_neg hin, HCD.out, show (1 + (b : Int) * 55 + (j : Int)).toNat = 1 + b * 55 + j by omega] at HWR
      refine lastG 9 rfl (by kernel_rfl) (by kernel_rfl) (fun K hK => ?_)
      cases hf : s1.falls with
      | true =>
        rw [if_pos hf, if_pos hf, q9] at HWR
        go_wp2_with fail
        refine (show Calls _ _ _ _ _ from HWR).mono ?_
        rintro e w4 ⟨rfl, hD4, hS4⟩
        clear HWR
        go_wp2
        refine hK _ _ ?_
        clear hK
        refine takeW 10 (v := ?v11) rfl (by kernel_rfl) (by kernel_rfl) (by kernel_rfl) (by kernel_rfl) (fun _ _ _ h => h) (.inl (by kernel_rfl)) (.inl ⟨by rfl, fun w => ?hy11⟩) ?rest11
        case hy11 => (go_simp <;> with_reducible rfl)
        simp only [Go.Act.put, List.setIfInBounds_toArray, List.set_cons_zero, List.set_cons_succ]
        refine doneG (by kernel_rfl) ?_ _
        have r0e := hS4.block _ _ r0d (head_not _ _)
        obtain ⟨z0, z1, z2, z3⟩ := box2 r0e
        have hSE : Spun B w ((w4.setCell ⟨w.heap.size, 0, none⟩ (.int .i64 0)).setCell ⟨w.heap.size, 1, none⟩ (.int .i64 0)) := ((hSd.trans hS4).own hB (Nat.le_refl _) _).own hB (Nat.le_refl _) _
        have hDE : Disk ((w4.setCell ⟨w.heap.size, 0, none⟩ (.int .i64 0)).setCell ⟨w.heap.size, 1, none⟩ (.int .i64 0)) B p n s1.fell := (hD4.set r0e (by decide) _).set (heap_set0 _ r0e) (by decide) _
        have HEND : BodyEnd s n b t s1.fell (.returned (.tuple #[.agg #[.int .i64 0, .int .i64 0], errV 9])) := .fell 0 0 (fun hl => by
          have h1 := hBd.left hl
          simp [DSt.falls, hBd.up, h1] at hf) rfl (fun i hi hni => hBd.rest i (by omega))
        clear hf
        go_wp2
        refine bodyPost_ret (v := .tuple #[.agg #[.int .i64 0, .int .i64 0], .iface 62 (.int .i64 9)]) (by simp [results, Tryz.results44, go_sem, z0, z1]) rfl ?_
        exact ⟨_, HEND, hDE, hSE⟩
      | false =>
        rw [if_neg (by simp [hf]), if_neg (by simp [hf]), q0] at HWR
        have hBd2 := hBd.more hf hDd.nx (hc _ hlt)
        go_wp2_with fail
        refine (show Calls _ _ _ _ _ from HWR).mono ?_
        rintro e w4 ⟨rfl, hD4, hS4⟩
        clear HWR
        go_wp2
        refine hK _ _ ?_
        clear hK
        refine takeW 10 (v := ?v13) rfl (by kernel_rfl) (by kernel_rfl) (by kernel_rfl) (by kernel_rfl) (fun _ _ _ h => h) (.inl (by kernel_rfl)) (.inl ⟨by rfl, fun w => ?hy13⟩) ?rest13
        case hy13 => (go_simp <;> with_reducible rfl)
        simp only [Go.Act.put, List.setIfInBounds_toArray, List.set_cons_zero, List.set_cons_succ]
        refine doneG (by kernel_rfl) ?_ _
        have r0e := hS4.block _ _ r0d (head_not _ _)
        have r1e := hS4.block _ _ r1d (head_not _ _)
        have hSe := hSd.trans hS4
        obtain ⟨x0, x1, y0, y1⟩ := box2 r1e
        clear hf hSS hDd hSd r0d r1d hS4
        go_wp2
        have hSS : (fun w' : World => w'.cell? ⟨w.heap.size + 1, 1, none⟩ = some (.int .i64 (j : Int))) w4.drew := x1
        have hDd := hD4.later (Below.refl _ w4).drew
        have hSd : Spun B w w4.drew := hSe.trans (Spun.of (Nat.le_trans hB hSe.size) (Below.refl _ w4).drew)
        have r0d : w4.drew.heap[w.heap.size]? = some (.cells #[.int .i64 0, .int .i64 0] 75 (0, 0)) := r0e
        have r1d : w4.drew.heap[w.heap.size + 1]? = some (.cells #[.int .i64 (b : Int), .int .i64 (j : Int)] 75 (0, 0)) := r1e
        obtain ⟨x0', x1', y0', y1'⟩ := box2 r1d
        clear hD4 hSe r0e r1e x0 x1 y0 y1
        refine wp_region_G (fun w' : World => w'.cell? ⟨w.heap.size + 1, 1, none⟩ = some (.int .i64 (j : Int))) 8 9 (by kernel_rfl) rfl ?_
        generalize w4.drew = w5 at *
        refine takeW 0 (v := ?v15) rfl (by kernel_rfl) (by kernel_rfl) (by kernel_rfl) (by kernel_rfl) (fun _ _ _ h => h) (.inr hSS) (.inl ⟨by rfl, fun w => ?hy15⟩) ?rest15
        case hy15 => (go_simp <;> with_reducible rfl)
        simp only [Go.Act.put, List.setIfInBounds_toArray, List.set_cons_zero, List.set_cons_succ]
        refine takeW 1 (v := ?v16) rfl (by kernel_rfl) (by kernel_rfl) (by kernel_rfl) (by kernel_rfl) (fun _ _ _ h => h) (.inr hSS) (.inl ⟨by rfl, fun w => ?hy16⟩) ?rest16
        case hy16 => (go_simp <;> with_reducible rfl)
        simp only [Go.Act.put, List.setIfInBounds_toArray, List.set_cons_zero, List.set_cons_succ]
        refine takeW 2 (v := ?v17) rfl (by kernel_rfl) (by kernel_rfl) (by kernel_rfl) (by kernel_rfl) (fun _ _ _ h => h) (.inr hSS) (.inl ⟨by rfl, fun w => ?hy17⟩) ?rest17
        case hy17 => (go_simp <;> with_reducible rfl)
        simp only [Go.Act.put, List.setIfInBounds_toArray, List.set_cons_zero, List.set_cons_succ]
        refine takeW 3 (v := ?v18) rfl (by kernel_rfl) (by kernel_rfl) (by kernel_rfl) (by kernel_rfl) (fun _ _ _ h => h) (.inr hSS) (.inl ⟨by rfl, fun w => ?hy18⟩) ?rest18
        case hy18 => (go_simp <;> with_reducible rfl)
        simp only [Go.Act.put, List.setIfInBounds_toArray, List.set_cons_zero, List.set_cons_succ]
        refine takeW 6 (v := ?v19) rfl (by kernel_rfl) (by kernel_rfl) (by kernel_rfl) (by kernel_rfl) (fun _ _ _ h => h) (.inr hSS) (.inl ⟨by rfl, fun w => ?hy19⟩) ?rest19
        case hy19 => (go_simp <;> with_reducible rfl)
        simp only [Go.Act.put, List.setIfInBounds_toArray, List.set_cons_zero, List.set_cons_succ]
        rw [HY.out]
        refine takeR 4 [] (v := ?v20) rfl (by kernel_rfl) (by kernel_rfl) (by kernel_rfl) (by kernel_rfl) (by kernel_rfl) (fun _ _ _ h => h) hSS (.inl ⟨by rfl, fun w hSw => ?hy20⟩) ?rest20
        case hy20 => ((try dsimp only at hSw); go_simp <;> with_reducible rfl)
        simp only [Go.Act.put, List.setIfInBounds_toArray, List.set_cons_zero, List.set_cons_succ]
        refine takeW 5 (v := ?v21) rfl (by kernel_rfl) (by kernel_rfl) (by kernel_rfl) (by kernel_rfl) (fun _ _ _ h => h) (.inr hSS) (.inl ⟨by rfl, fun w => ?hy21⟩) ?rest21
        case hy21 => (go_simp <;> with_reducible rfl)
        simp only [Go.Act.put, List.setIfInBounds_toArray, List.set_cons_zero, List.set_cons_succ]
        refine takeW 7 (v := ?v22) rfl (by kernel_rfl) (by kernel_rfl) (by kernel_rfl) (by kernel_rfl) (fun _ _ _ h => h) (.inr hSS) (.inl ⟨by rfl, fun w => ?hy22⟩) ?rest22
        case hy22 => (go_simp <;> with_reducible rfl)
        simp only [Go.Act.put, List.setIfInBounds_toArray, List.set_cons_zero, List.set_cons_succ]
        refine lastG 8 rfl (by kernel_rfl) (by kernel_rfl) (fun K hK => ?_)
        go_wp2
        refine hK _ _ ?_
        clear hK
        refine doneG (by kernel_rfl) ?_ _
        have hsz2 : (⟨(t.drop (64 * (j + 1))).toArray⟩ : ByteArray).size = t.length - 64 * (j + 1) := by rw [ba_size, List.length_drop]
        have hsz1 := hsz.out
        have r0n : (w5.setCell ⟨w.heap.size + 1, 1, none⟩ (.int .i64 ((j : Int) + 1))).heap[w.heap.size]? = some (.cells #[.int .i64 0, .int .i64 0] 75 (0, 0)) := (Below.heap_setCell _ _ _ _ (by simp)).trans r0d
        have r1n : (w5.setCell ⟨w.heap.size + 1, 1, none⟩ (.int .i64 ((j : Int) + 1))).heap[w.heap.size + 1]? = some (.cells #[.int .i64 (b : Int), .int .i64 ((j + 1 : Nat) : Int)] 75 (0, 0)) := by rw [heap_set0 _ r1d]; rfl
        have hDn := hDd.set (i := 1) r1d (by decide) (.int .i64 ((j : Int) + 1))
        have hSn := hSd.own (i := 1) hB (Nat.le_succ w.heap.size) (.int .i64 ((j : Int) + 1))
        go_wp2
        go_roundw
        case rel => exact ⟨j + 1, _, rfl, by show 64 * (j + 1) < t.length + 64; omega, hBd2, hDn, hSn, r0n, r1n⟩
        case measure => show Lib.strSize (.string _) < Lib.strSize (.string _); rw [Lib.strSize_string, Lib.strSize_string]; omega
    · have hjq : j = many64 t := by have h1 := hj.out; have h2 := hsz.out; unfold many64; omega
      have hT0 : T.size = 0 := by omega
      have hq55 : many64 t ≤ 55 := by unfold many64; omega
      subst hjq
      go_wp2
      have hSS : (fun w' : World => w'.cell? ⟨w.heap.size + 1, 0, none⟩ = some (.int .i64 (b : Int)) ∧ w'.cell? ⟨w.heap.size + 1, 1, none⟩ = some (.int .i64 (many64 t : Int))) wr.drew := ⟨x0, x1⟩
      have hDd := hD.later (Below.refl _ wr).drew
      have hSd : Spun B w wr.drew := hSp.trans (Spun.of (Nat.le_trans hB hSp.size) (Below.refl _ wr).drew)
      have r0d : wr.drew.heap[w.heap.size]? = some (.cells #[.int .i64 0, .int .i64 0] 75 (0, 0)) := r0
      have r1d : wr.drew.heap[w.heap.size + 1]? = some (.cells #[.int .i64 (b : Int), .int .i64 (many64 t : Int)] 75 (0, 0)) := r1
      clear hD hSp r0 r1 x0 x1 y0 y1 HT
      refine wp_region_G (fun w' : World => w'.cell? ⟨w.heap.size + 1, 0, none⟩ = some (.int .i64 (b : Int)) ∧ w'.cell? ⟨w.heap.size + 1, 1, none⟩ = some (.int .i64 (many64 t : Int))) 3 5 (by kernel_rfl) rfl ?_
      generalize wr.drew = w1 at *
      refine takeW 1 (v := ?v25) rfl (by kernel_rfl) (by kernel_rfl) (by kernel_rfl) (by kernel_rfl) (fun _ _ _ h => h) (.inr hSS) (.inl ⟨by rfl, fun w => ?hy25⟩) ?rest25
      case hy25 => (go_simp <;> with_reducible rfl)
      simp only [Go.Act.put, List.setIfInBounds_toArray, List.set_cons_zero, List.set_cons_succ]
      refine takeR 0 [] (v := ?v26) rfl (by kernel_rfl) (by kernel_rfl) (by kernel_rfl) (by kernel_rfl) (by kernel_rfl) (fun _ _ _ h => h) hSS (.inl ⟨by rfl, fun w hSw => ?hy26⟩) ?rest26
      case hy26 => ((try dsimp only at hSw); go_simp <;> with_reducible rfl)
      simp only [Go.Act.put, List.setIfInBounds_toArray, List.set_cons_zero, List.set_cons_succ]
      have HFL := diskFlush_any w1 B p n s1 hDd
      unfold DSt.flushF DSt.flushed at HFL
      cases hf : s1.falls with
      | true =>
        rw [if_pos hf, if_pos hf, q9] at HFL
        refine onlyG 2 rfl (by kernel_rfl) (fun K hK => ?_)
        go_wp2_with fail
        refine (show Calls _ _ _ _ _ from HFL).mono ?_
        rintro e w4 ⟨rfl, hD4, hS4⟩
        clear HFL
        have r0e := hS4.block _ _ r0d (head_not _ _)
        have r1e := hS4.block _ _ r1d (head_not _ _)
        obtain ⟨x0, x1, y0, y1⟩ := box2 r1e
        obtain ⟨z0, z1, z2, z3⟩ := box2 r0e
        go_wp2
        refine hK _ _ ⟨x0, x1⟩ ?_
        clear hK
        have hSE : Spun B w ((w4.setCell ⟨w.heap.size, 0, none⟩ (.int .i64 (b : Int))).setCell ⟨w.heap.size, 1, none⟩ (.int .i64 (many64 t : Int))) := ((hSd.trans hS4).own hB (Nat.le_refl _) _).own hB (Nat.le_refl _) _
        have hDE : Disk ((w4.setCell ⟨w.heap.size, 0, none⟩ (.int .i64 (b : Int))).setCell ⟨w.heap.size, 1, none⟩ (.int .i64 (many64 t : Int))) B p n s1.fell := (hD4.set r0e (by decide) _).set (heap_set0 _ r0e) (by decide) _
        have HEND : BodyEnd s n b t s1.fell (.returned (.tuple #[.agg #[.int .i64 (b : Int), .int .i64 (many64 t : Int)], errV 9])) := .fell _ _ (fun hl => by
          have h1 := hBd.left hl
          simp [DSt.falls, hBd.up, h1] at hf) rfl (fun i hi hni => hBd.rest i (by omega))
        clear hf
        refine lastG 3 rfl (by kernel_rfl) (by kernel_rfl) (fun K hK => ?_)
        go_wp2
        refine hK _ _ ?_
        clear hK
        refine takeW 4 (v := ?v29) rfl (by kernel_rfl) (by kernel_rfl) (by kernel_rfl) (by kernel_rfl) (fun _ _ _ h => h) (.inl (by kernel_rfl)) (.inl ⟨by rfl, fun w => ?hy29⟩) ?rest29
        case hy29 => (go_simp <;> with_reducible rfl)
        simp only [Go.Act.put, List.setIfInBounds_toArray, List.set_cons_zero, List.set_cons_succ]
        refine doneG (by kernel_rfl) ?_ _
        go_wp2
        refine bodyPost_ret (v := .tuple #[.agg #[.int .i64 (b : Int), .int .i64 (many64 t : Int)], .iface 62 (.int .i64 9)]) (by simp [results, Tryz.results44, go_sem, z0, z1]) rfl ?_
        exact ⟨_, HEND, hDE, hSE⟩
      | false =>
        rw [if_neg (by simp [hf]), if_neg (by simp [hf]), q0] at HFL
        have hKB := hBd.flush hq55 hf hc
        refine onlyG 2 rfl (by kernel_rfl) (fun K hK => ?_)
        go_wp2_with fail
        refine (show Calls _ _ _ _ _ from HFL).mono ?_
        rintro e w4 ⟨rfl, hD4, hS4⟩
        clear HFL
        have r0e := hS4.block _ _ r0d (head_not _ _)
        have r1e := hS4.block _ _ r1d (head_not _ _)
        obtain ⟨x0, x1, y0, y1⟩ := box2 r1e
        obtain ⟨z0, z1, z2, z3⟩ := box2 r0e
        go_wp2
        refine hK _ _ ⟨x0, x1⟩ ?_
        clear hK
        have hSE : Spun B w ((w4.setCell ⟨w.heap.size, 0, none⟩ (.int .i64 (b : Int))).setCell ⟨w.heap.size, 1, none⟩ (.int .i64 (many64 t : Int))) := ((hSd.trans hS4).own hB (Nat.le_refl _) _).own hB (Nat.le_refl _) _
        have hDE : Disk ((w4.setCell ⟨w.heap.size, 0, none⟩ (.int .i64 (b : Int))).setCell ⟨w.heap.size, 1, none⟩ (.int .i64 (many64 t : Int))) B p n (s1.stepped.settled 18446744073709551615) := (hD4.set r0e (by decide) _).set (heap_set0 _ r0e) (by decide) _
        have HEND : BodyEnd s n b t _ (.returned (.tuple #[.agg #[.int .i64 (b : Int), .int .i64 (many64 t : Int)], .nilIface])) := .ok hKB
        clear hf
        refine lastG 3 rfl (by kernel_rfl) (by kernel_rfl) (fun K hK => ?_)
        go_wp2
        refine hK _ _ ?_
        clear hK
        refine takeW 4 (v := ?v33) rfl (by kernel_rfl) (by kernel_rfl) (by kernel_rfl) (by kernel_rfl) (fun _ _ _ h => h) (.inl (by kernel_rfl)) (.inl ⟨by rfl, fun w => ?hy33⟩) ?rest33
        case hy33 => (go_simp <;> with_reducible rfl)
        simp only [Go.Act.put, List.setIfInBounds_toArray, List.set_cons_zero, List.set_cons_succ]
        refine doneG (by kernel_rfl) ?_ _
        go_wp2
        refine bodyPost_ret (v := .tuple #[.agg #[.int .i64 (b : Int), .int .i64 (many64 t : Int)], .nilIface]) (by simp [results, Tryz.results44, go_sem, z0, z1]) rfl ?_
        exact ⟨_, HEND, hDE, hSE⟩
end Go.Proofs.YtlcdacldhalnnaaGreatDoor

