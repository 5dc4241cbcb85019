/-
  The law TopDisk returns true, for all rows of acts and every number; memory that was there stays as it was.
-/
import Derived.Test.YtlljpedanlnjaaaDiskAll
import Derived.Test.YtlljpedanlnjaaaActsAt
import Derived.Deep.DrawnRows
namespace Go.Proofs.Ytlljpedanlnjaaa
open Go.RowKit

/-- a row of four texts, in a block of its own. -/
structure FourAt (w : World) (b : Nat) (W : Nat → List UInt8) : Prop where
  blk : ∃ c, w.heap[b]? = some (.cells c 56 (0, 0))
  at_ : ∀ i, i < 4 → w.cell? ⟨b, i, none⟩ = some (.string ⟨(W i).toArray⟩)
theorem FourAt.later {w w' : World} {b : Nat} {W : Nat → List UInt8} (h : FourAt w b W) (hb : ∀ o, w.heap[b]? = some o → w'.heap[b]? = some o) : FourAt w' b W := by
  obtain ⟨c, hc⟩ := h.blk
  exact ⟨⟨c, hb _ hc⟩, fun i hi => (World.cell?_of_block (a := ⟨b, i, none⟩) ((hb _ hc).trans hc.symm)).trans (h.at_ i hi)⟩
theorem four_ty (c : Array Value) : ¬ DiskTy (.cells c 56 (0, 0)) := by
  rintro ⟨c', t, f, h, ht⟩
  injection h with _ h _
  subst h
  revert ht
  decide
theorem FourAt.spun {w w' : World} {B b : Nat} {W : Nat → List UInt8} (h : FourAt w b W) (hs : Spun B w w') : FourAt w' b W := by
  obtain ⟨c, hc⟩ := h.blk
  exact h.later (fun o ho => hs.block b o ho (by rw [hc] at ho; injection ho with ho; rw [← ho]; exact four_ty c))
theorem FourAt.below {w w' : World} {b : Nat} {W : Nat → List UInt8} (h : FourAt w b W) (hb : Below w.heap.size w w') : FourAt w' b W :=
  h.later (fun _ ho => (hb.block b (Array.getElem?_eq_some_iff.1 ho).1).trans ho)
theorem FourAt.set {w : World} {b : Nat} {W : Nat → List UInt8} (h : FourAt w b W) {i : Nat} (hi : i < 4) (t : List UInt8) : FourAt (w.setCell ⟨b, i, none⟩ (.string ⟨t.toArray⟩)) b (fun j => if j = i then t else W j) := by
  obtain ⟨c, hc⟩ := h.blk
  refine ⟨⟨_, heap_setC _ _ _ _ _ _ _ hc⟩, fun j hj => ?_⟩
  by_cases e : j = i
  · subst e; rw [if_pos rfl]; exact World.cell?_setCell_same _ _ _ (h.at_ j hj)
  · rw [if_neg e, World.cell?_setCell_other _ _ _ _ (fun x => e (by injection x with _ x _; exact x.symm))]; exact h.at_ j hj
theorem Disk.four {w : World} {B p n b i : Nat} {s : DSt} {W : Nat → List UInt8} (h : Disk w B p n s) (hF : FourAt w b W) (u : Value) : Disk (w.setCell ⟨b, i, none⟩ u) B p n s := by
  obtain ⟨c, hc⟩ := hF.blk
  refine h.other (fun k o hk ht => ?_)
  rw [Below.heap_setCell _ _ _ _ (fun e => ?_)]
  · exact hk
  · have e' : k = b := e
    rw [e', hc] at hk
    injection hk with hk
    rw [← hk] at ht
    exact four_ty c ht

theorem ActsRow.below {w w' : World} {a : Option Addr} {n : Nat} {X : Nat → ActF} (h : ActsRow w a n X) (hb : Below w.heap.size w w') : ActsRow w' a n X := h.later hb
/-- a disk that goes on, all of whose late Writes have bits below n. -/
structure Going (s : DSt) (n : Nat) : Prop where
  up : s.down = false
  left : s.left = -1
  next : s.next = n
  bits : ∀ i, i < 4 → ∀ x ∈ (s.K i).late, x.1 < n
theorem Going.falls {s : DSt} {n : Nat} (h : Going s n) : s.falls = false := by simp [DSt.falls, h.up, h.left]
theorem Going.stepped {s : DSt} {n : Nat} (h : Going s n) : s.stepped = s := by
  unfold DSt.stepped
  rw [if_neg (by rw [h.left]; decide)]
theorem struck_below {L : List Late} {n : Nat} (h : ∀ x ∈ L, x.1 < n) : struck L n = L := List.filter_eq_self.2 (fun x hx => by have := h x hx; simp; omega)
/-- a Write that goes through. -/
theorem Going.put {s : DSt} {n i : Nat} (h : Going s n) (hi : i < 4) (hn : n < 63) (d : List UInt8) : Going (s.put i d) (n + 1) ∧ ((s.put i d).K i).kept = (s.K i).kept ∧ ((s.put i d).K i).late = (s.K i).late ++ [(n, d)] ∧ ∀ j, j ≠ i → (s.put i d).K j = s.K j := by
  have e1 : (s.put i d).K i = ⟨(s.K i).kept, (s.K i).late ++ [(n, d)]⟩ := by
    show (s.at i _).K i = _
    rw [DSt.at_same, h.next, struck_below (h.bits i hi)]
  have e2 : ∀ j, j ≠ i → (s.put i d).K j = s.K j := fun j hj => DSt.at_other s _ hj
  refine ⟨⟨h.up, h.left, ?_, ?_⟩, by rw [e1], by rw [e1], e2⟩
  · show (s.next + 1) % 64 = n + 1
    rw [h.next]; omega
  · intro j hj x hx
    by_cases e : j = i
    · subst e
      rw [e1] at hx
      rcases List.mem_append.1 hx with hx | hx
      · have := h.bits j hj x hx; omega
      · simp at hx; subst hx; show n < n + 1; omega
    · rw [e2 j e] at hx
      have := h.bits j hj x hx; omega
theorem now_snoc (k : List UInt8) (l : List Late) (x : Late) : (Sec.mk k (l ++ [x])).now = x.2 := by simp [Sec.now]
theorem now_nil (k : List UInt8) : (Sec.mk k []).now = k := rfl
/-- what a disk that goes on answers. -/
theorem Going.write {s : DSt} {n : Nat} (h : Going s n) (at' : Int) (t : ByteArray) : (¬ (0 ≤ at' ∧ at' < 4) ∨ 64 < t.size) ∧ s.writeF 4 at' t = 1 ∧ s.wrote 4 at' t = s ∨ (0 ≤ at' ∧ at' < 4 ∧ t.size ≤ 64) ∧ s.writeF 4 at' t = 0 ∧ s.wrote 4 at' t = s.put at'.toNat (padB t.data.toList) := by
  unfold DSt.writeF DSt.wrote
  rw [h.falls, h.stepped]
  by_cases h1 : ¬ (0 ≤ at' ∧ at' < ((4 : Nat) : Int)) ∨ 64 < t.size
  · refine .inl ⟨by simpa using h1, ?_, ?_⟩
    · rw [if_pos h1]
    · rw [if_pos h1]
  · refine .inr ⟨by omega, ?_, ?_⟩
    · rw [if_neg h1]; rfl
    · rw [if_neg h1]; rfl
/-- whatever is written, no disk falls that isn't armed. -/
structure Unarmed (s : DSt) : Prop where
  up : s.down = false
  left : s.left = -1
theorem Unarmed.falls {s : DSt} (h : Unarmed s) : s.falls = false := by simp [DSt.falls, h.up, h.left]
theorem Unarmed.stepped {s : DSt} (h : Unarmed s) : s.stepped = s := by
  unfold DSt.stepped
  rw [if_neg (by rw [h.left]; decide)]
theorem Unarmed.wrote {s : DSt} (h : Unarmed s) (n : Nat) (at' : Int) (t : ByteArray) : Unarmed (s.wrote n at' t) := by
  unfold DSt.wrote
  rw [h.falls, h.stepped]
  split
  · exact h
  · exact ⟨h.up, h.left⟩
theorem Unarmed.flush {s : DSt} (h : Unarmed s) : s.flushF = 0 ∧ s.flushed = s.settled 18446744073709551615 := by
  unfold DSt.flushF DSt.flushed
  rw [h.falls, h.stepped]
  exact ⟨rfl, rfl⟩
theorem Unarmed.going {s : DSt} (h : Unarmed s) (keep : Int) : Going (s.settled keep) 0 := ⟨h.up, h.left, rfl, fun i _ x hx => by simp [DSt.settled] at hx⟩
theorem Going.read {s : DSt} {n i : Nat} (h : Going s n) (hi : i < 4) : s.readF 4 (i : Int) = 0 ∧ s.readT 4 (i : Int) = ⟨(s.K i).now.toArray⟩ := by
  have h0 : s.readF 4 (i : Int) = 0 := by
    unfold DSt.readF
    rw [h.up, if_neg (by simp), if_pos (by omega)]
  refine ⟨h0, ?_⟩
  unfold DSt.readT
  rw [if_pos h0, Int.toNat_natCast]
attribute [local go_sem ↓] Go.wp_at_zero Go.wp_at_succ
set_option maxRecDepth 100000 in
set_option maxHeartbeats 8000000 in
theorem topDisk_walk (a1 a2 : Option Addr) (n1 n2 c1 c2 : Nat) (X Y : Nat → ActF) (keep : Int) (w : World) (h1 : ActsRow w a1 n1 X) (f1 : ∀ i, i < n1 → ActFit (X i)) (h2 : ActsRow w a2 n2 Y) (f2 : ∀ i, i < n2 → ActFit (Y i)) :
    Calls Try.prog 4 #[.slice a1 n1 c1, .slice a2 n2 c2, .int .u64 keep] w fun e w' => e = .returned (.bool true) ∧ Below w.heap.size w w' := by
  have HN := diskNew_any w 4 (by decide) (by decide)
  have e4 : (((4 : Nat) : Int)) = 4 := rfl
  rw [e4] at HN
  go_enter Try.func4, Try.ntmps4
  go_wp2_with fail
  refine HN.mono ?_
  rintro e w1 ⟨p, rfl, hD1, hb1⟩
  clear HN
  have hU : Unarmed DSt.fresh := ⟨rfl, rfl⟩
  have HF := diskFlush_any w1 _ p 4 _ hD1
  rw [hU.flush.1, hU.flush.2] at HF
  have q0 : errV 0 = .nilIface := rfl
  rw [q0] at HF
  go_wp2_with fail
  refine HF.mono ?_
  rintro e w2 ⟨rfl, hD2, hS2⟩
  clear HF
  have hU2 : Unarmed (DSt.fresh.settled 18446744073709551615) := ⟨rfl, rfl⟩
  generalize DSt.fresh.settled 18446744073709551615 = s2 at *
  have HSe := diskSectors_any w2 _ p 4 _ hD2
  rw [e4] at HSe
  go_wp2_with fail
  refine HSe.mono ?_
  rintro e w2' ⟨rfl, rfl⟩
  clear HSe
  have hb2 : Below w.heap.size w w2' := hb1.trans hS2.below
  have HL1 := lightActs_any a1 n1 c1 40 X w2' (by decide) (h1.below hb2) f1
  clear hS2 hD1 hU hb1
  go_wp2_with fail
  refine HL1.mono ?_
  rintro e w3 ⟨⟨b1, rfl, hl1⟩, hb3⟩
  clear HL1
  have hb3' := hb2.trans (hb3.mono hb2.size)
  cases b1 with
  | false =>
    clear hl1
    go_wp2
    go_ret
    exact ⟨rfl, hb3'⟩
  | true =>
  obtain ⟨hn1, hx1⟩ := hl1 rfl
  have HL2 := lightActs_any a2 n2 c2 60 Y w3 (by decide) (h2.below hb3') f2
  clear hl1 f1 f2
  go_wp2_with fail
  refine HL2.mono ?_
  rintro e w4 ⟨⟨b2, rfl, hl2⟩, hb4⟩
  clear HL2
  have hb4' := hb3'.trans (hb4.mono hb3'.size)
  cases b2 with
  | false =>
    clear hl2
    go_wp2
    go_ret
    exact ⟨rfl, hb4'⟩
  | true =>
  obtain ⟨hn2, hx2⟩ := hl2 rfl
  have hD4 : Disk w4 w.heap.size p 4 s2 := (hD2.later hb3).later hb4
  clear hl2 hb3 hb4 hb3' hb2 hD2
  go_wp2
  go_loopw [9] (fun y wr => ∃ (i : Nat) (s : DSt), i ≤ n1 ∧ y = .int .i64 i ∧ Unarmed s ∧ Disk wr w.heap.size p 4 s ∧ Below w.heap.size w wr) (fun y _ => n1 - (intOf y).toNat)
  case atStart => exact ⟨0, s2, Nat.zero_le _, rfl, hU2, hD4, hb4'⟩
  case round =>
    obtain ⟨i, s, hi, rfl, hUs, hDs, hbs⟩ := hrel
    clear hU2 hD4 hb4'
    by_cases hlt : i < n1
    · rcases h1 with h0 | ⟨bk, o, rfl, hh⟩
      · omega
      have hA := (hh i hlt).later hbs
      have x1 := hA.c1
      have x3 := hA.c3
      have HW := diskWrite_any wr.drew _ p 4 s (X i).a (X i).s (hDs.later (Below.refl _ _).drew) (by have := (hx1 i hlt).1; simp only [maxLen]; omega)
      have hU3 := hUs.wrote 4 (X i).a (X i).s
      clear hh hA hDs hUs
      generalize (X i).a = xa at *
      generalize (X i).s = xs at *
      generalize s.wrote 4 xa xs = s' at *
      generalize s.writeF 4 xa xs = ff at *
      have hi0 : (0 : Int) ≤ (i : Int) := by omega
      have hi1 : (i : Int) < (n1 : Int) := by omega
      go_wp2
      go_region_law (first
        | (go_simp; go_at_call 11; refine HW.mono ?_; rintro e w5 ⟨rfl, hD5, hS5⟩))
      all_goals
        have hb5 : Below w.heap.size w w5 := (hbs.trans ((Below.refl _ _).drew)).trans hS5.below
        clear HW
        go_wp2
        go_roundw
        case rel => exact ⟨i + 1, s', by omega, by go_num, hU3, hD5, hb5⟩
        case measure => simp [intOf]; omega
    · have HF := diskFlush_any wr _ p 4 _ hDs
      rw [hUs.flush.1, hUs.flush.2, q0] at HF
      have hG := hUs.going 18446744073709551615
      clear hDs hUs h1
      go_wp2_with fail
      refine HF.mono ?_
      rintro e w5 ⟨rfl, hD5, hS5⟩
      clear HF
      have hnil : ∀ j, ((s.settled 18446744073709551615).K j).late = [] := fun j => rfl
      generalize s.settled 18446744073709551615 = s5 at *
      have hb5 := hbs.trans hS5.below
      clear hS5 hbs
      have hF0 : FourAt (w5.alloc (.cells #[.string ⟨#[]⟩, .string ⟨#[]⟩, .string ⟨#[]⟩, .string ⟨#[]⟩] 56)) w5.heap.size (fun _ => []) := ⟨⟨_, heap_alloc_new _ _⟩, fun j hj => by
        rw [World.cell?_alloc_mark]
        match j, hj with
        | 0, _ => rfl
        | 1, _ => rfl
        | 2, _ => rfl
        | 3, _ => rfl⟩
      have hbA : Below w5.heap.size w5 (w5.alloc (.cells #[.string ⟨#[]⟩, .string ⟨#[]⟩, .string ⟨#[]⟩, .string ⟨#[]⟩] 56)) := (Below.refl _ _).alloc (Nat.le_refl _) _
      have hD6 := hD5.later hbA
      have hb6 := hb5.trans (hbA.mono hb5.size)
      have hbw : w.heap.size ≤ w5.heap.size := hb5.size
      clear hD5 hb5
      go_wp2
      generalize w5.alloc (.cells #[.string ⟨#[]⟩, .string ⟨#[]⟩, .string ⟨#[]⟩, .string ⟨#[]⟩] 56) = w6 at *
      generalize w5.heap.size = bw at *
      clear hbA
      go_loopw [11] (fun y wr => ∃ k : Nat, k ≤ 4 ∧ y = .int .i64 k ∧ Disk wr w.heap.size p 4 s5 ∧ FourAt wr bw (fun j => if j < k then (s5.K j).kept else []) ∧ Below w.heap.size w wr) (fun y _ => 4 - (intOf y).toNat)
      case atStart => exact ⟨0, by decide, rfl, hD6, by simpa using hF0, hb6⟩
      case round =>
        obtain ⟨k, hk, rfl, hDr, hFr, hbr⟩ := hrel
        clear hD6 hF0 hb6
        by_cases hlt : k < 4
        · have HR := diskRead_any wr _ p 4 _ (k : Int) hDr
          rw [(hG.read hlt).1, (hG.read hlt).2, q0] at HR
          have hnow : (s5.K k).now = (s5.K k).kept := by unfold Sec.now; rw [hnil k]; rfl
          rw [hnow] at HR
          go_wp2_with fail
          refine HR.mono ?_
          rintro e w7 ⟨rfl, hb7⟩
          clear HR hnow
          have hF7 := hFr.below hb7
          have hD7 := (hDr.later hb7).four hF7 (i := k) (.string ⟨(s5.K k).kept.toArray⟩)
          have hF8 := hF7.set hlt (s5.K k).kept
          have e8 : (fun j => if j = k then (s5.K k).kept else if j < k then (s5.K j).kept else []) = (fun j => if j < k + 1 then (s5.K j).kept else []) := by
            funext j
            by_cases e : j = k
            · subst e; simp
            · by_cases e2 : j < k
              · simp [e, e2, Nat.lt_succ_of_lt e2]
              · simp [e, e2, show ¬ j < k + 1 by omega]
          rw [e8] at hF8
          have c7 := hF7.at_ k hlt
          have fz : w7.frozen? ⟨bw, k, none⟩ = false := by
            obtain ⟨cc, hcc⟩ := hF7.blk
            simp [World.frozen?, hcc]
          have hb8 : Below w.heap.size w (w7.setCell ⟨bw, k, none⟩ (.string ⟨(s5.K k).kept.toArray⟩)) := (hbr.trans (hb7.mono hbr.size)).setCell hbw _
          have hi0 : (0 : Int) ≤ (k : Int) := by omega
          have hi1 : (k : Int) < 4 := by omega
          clear hF7 hFr hDr e8 hnil hG
          generalize (s5.K k).kept = kk at *
          go_wp2
          go_roundw
          case rel => exact ⟨k + 1, by omega, by go_num, hD7, hF8, hb8⟩
          case measure => simp [intOf]; omega
        · have ek : k = 4 := by omega
          have hI0 : Hid (∀ j, j < 4 → (fun j => if j < k then (s5.K j).kept else []) j = keepTo keep (s5.K j).kept (s5.K j).late) := fun j hj => by
            show (if j < k then (s5.K j).kept else []) = _
            rw [if_pos (by omega), hnil j]
            rfl
          clear hnil
          generalize (fun j => if j < k then (s5.K j).kept else []) = W5 at *
          clear ek
          go_wp2
          go_loopw [14, 15] (fun y z wr => ∃ (m i : Nat) (s : DSt) (W : Nat → List UInt8), i ≤ n2 ∧ m ≤ i ∧ y = .int .i64 m ∧ z = .int .i64 i ∧ Going s m ∧ Disk wr w.heap.size p 4 s ∧ FourAt wr bw W ∧ Hid (∀ j, j < 4 → W j = keepTo keep (s.K j).kept (s.K j).late) ∧ Below w.heap.size w wr) (fun _ z _ => n2 - (intOf z).toNat)
          case atStart => exact ⟨0, 0, s5, W5, Nat.zero_le _, Nat.le_refl _, rfl, rfl, hG, hDr, hFr, hI0, hbr⟩
          case round =>
            obtain ⟨m, i, s, W, hi, hmi, rfl, rfl, hGs, hDs, hFs, hIs, hbs⟩ := hrel
            clear hG hDr hFr hI0 hbr
            by_cases hlt : i < n2
            · rcases h2 with h0 | ⟨bk, o, rfl, hh⟩
              · omega
              have hA := (hh i hlt).later hbs
              have x1 := hA.c1
              have x3 := hA.c3
              have HW := diskWrite_any wr.drew _ p 4 s (Y i).a (Y i).s (hDs.later (Below.refl _ _).drew) (by have := (hx2 i hlt).1; simp only [maxLen]; omega)
              have hcase := hGs.write (Y i).a (Y i).s
              have hi0 : (0 : Int) ≤ (i : Int) := by omega
              have hi1 : (i : Int) < (n2 : Int) := by omega
              clear hA
              rcases hcase with ⟨_, hw1, hw2⟩ | ⟨⟨hq0, hq4, hsz⟩, hw1, hw2⟩
              · rw [hw1, hw2] at HW
                have q1 : errV 1 = .iface 59 (.int .i64 1) := rfl
                rw [q1] at HW
                clear hw1 hw2 hDs hh
                generalize (Y i).a = xa at *
                generalize (Y i).s = xs at *
                go_wp2
                go_region_law (first
                  | (go_simp; go_at_call 11; refine HW.mono ?_; rintro e w5 ⟨rfl, hD5, hS5⟩))
                all_goals
                  have hb5 : Below w.heap.size w w5 := (hbs.trans ((Below.refl _ _).drew)).trans hS5.below
                  have hF5 : FourAt w5 bw W := (hFs.below ((Below.refl _ _).drew)).spun hS5
                  clear HW
                  go_wp2
                  go_roundw
                  case rel => exact ⟨m, i + 1, s, W, by omega, by omega, rfl, by go_num, hGs, hD5, hF5, hIs, hb5⟩
                  case measure => simp [intOf]; omega
              · obtain ⟨q, hq⟩ := Int.eq_ofNat_of_zero_le hq0
                have hq44 : q < 4 := by omega
                rw [hw1, hw2, q0, hq, Int.toNat_natCast] at HW
                have hpt := hGs.put hq44 (show m < 63 by omega) (padB (Y i).s.data.toList)
                obtain ⟨hG5, hk5, hl5, ho5⟩ := hpt
                have hKS := keepTo_snoc keep (s.K q).kept (s.K q).late (m, padB (Y i).s.data.toList)
                have hnow : ((s.put q (padB (Y i).s.data.toList)).K q).now = padB (Y i).s.data.toList := by unfold Sec.now; rw [hl5]; simp
                have x3' : wr.cell? ⟨bk, o + i * 8 + 3, none⟩ = some (.int .i64 (q : Int)) := by rw [← hq]; exact x3
                have HX3 : ∀ W', Below w.heap.size w W' → W'.cell? ⟨bk, o + i * 8 + 3, none⟩ = some (.int .i64 (q : Int)) := fun W' hW' => by rw [← hq]; exact ((hh i hlt).later hW').c3
                have hm0 : (0 : Int) ≤ (m : Int) := by omega
                have hmn : ((m : Int)).toNat = m := Int.toNat_natCast m
                clear x3 hw1 hw2 hDs hh hq hq0 hq4 hsz hGs
                generalize (Y i).a = xa at *
                generalize (Y i).s = xs at *
                generalize padB xs.data.toList = pd at *
                generalize s.put q pd = s' at *
                go_wp2
                go_region_law (first
                  | (go_simp; go_at_call 11; refine HW.mono ?_; rintro e w5 ⟨rfl, hD5, hS5⟩))
                all_goals
                  have hb5 : Below w.heap.size w w5 := (hbs.trans ((Below.refl _ _).drew)).trans hS5.below
                  have hF5 : FourAt w5 bw W := (hFs.below ((Below.refl _ _).drew)).spun hS5
                  have x35 : w5.cell? ⟨bk, o + i * 8 + 3, none⟩ = some (.int .i64 (q : Int)) := HX3 w5 hb5
                  clear HW
                  cases hbit : bitOf keep m with
                  | false =>
                    have hbt : (bits BinOp.and IntKind.u64 (keep / 2 ^ m) 1 == 1) = false := by
                      have := hbit
                      unfold bitOf at this
                      rwa [Nat.min_eq_left (by omega)] at this
                    rw [hbit, if_neg (by simp)] at hKS
                    have hI5 : Hid (∀ j, j < 4 → W j = keepTo keep (s'.K j).kept (s'.K j).late) := fun j hj => by
                      by_cases e : j = q
                      · subst e; rw [hk5, hl5, hKS]; exact hIs.out j hj
                      · rw [ho5 j e]; exact hIs.out j hj
                    clear hbit hKS hIs hk5 hl5 ho5 hnow hFs hbs
                    go_wp2
                    go_roundw
                    case rel => exact ⟨m + 1, i + 1, s', W, by omega, by omega, by go_num, by go_num, hG5, hD5, hF5, hI5, hb5⟩
                    case measure => simp [intOf]; omega
                  | true =>
                    have hbt : (bits BinOp.and IntKind.u64 (keep / 2 ^ m) 1 == 1) = true := by
                      have := hbit
                      unfold bitOf at this
                      rwa [Nat.min_eq_left (by omega)] at this
                    rw [hbit, if_pos rfl] at hKS
                    have hI5 : Hid (∀ j, j < 4 → (fun j => if j = q then pd else W j) j = keepTo keep (s'.K j).kept (s'.K j).late) := fun j hj => by
                      show (if j = q then pd else W j) = _
                      by_cases e : j = q
                      · subst e; rw [if_pos rfl, hk5, hl5, hKS]
                      · rw [if_neg e, ho5 j e]; exact hIs.out j hj
                    have HR := diskRead_any w5 _ p 4 _ (q : Int) hD5
                    rw [(hG5.read hq44).1, (hG5.read hq44).2, q0, hnow] at HR
                    clear hbit hKS hIs hk5 hl5 ho5 hnow hFs hbs
                    go_wp2_with fail
                    refine HR.mono ?_
                    rintro e w7 ⟨rfl, hb7⟩
                    clear HR
                    have hF7 := hF5.below hb7
                    have hD7 := (hD5.later hb7).four hF7 (i := q) (.string ⟨pd.toArray⟩)
                    have hF8 := hF7.set hq44 pd
                    have c7 := hF7.at_ q hq44
                    have fz : w7.frozen? ⟨bw, q, none⟩ = false := by
                      obtain ⟨cc, hcc⟩ := hF7.blk
                      simp [World.frozen?, hcc]
                    have hb78 := hb5.trans (hb7.mono hb5.size)
                    have hb8 : Below w.heap.size w (w7.setCell ⟨bw, q, none⟩ (.string ⟨pd.toArray⟩)) := hb78.setCell hbw _
                    have x37 := HX3 w7 hb78
                    have hz0 : (0 : Int) ≤ (q : Int) := by omega
                    have hz1 : (q : Int) < 4 := by omega
                    clear hF7 hF5 hD5 x35 hb5 hb7 hb78
                    go_wp2
                    go_roundw
                    case rel => exact ⟨m + 1, i + 1, s', _, by omega, by omega, by go_num, by go_num, hG5, hD7, hF8, hI5, hb8⟩
                    case measure => simp [intOf]; omega
            · have HRs := diskRestart_any wr _ p 4 s keep hDs
              have hGa : Going (s.again keep) 0 := ⟨rfl, rfl, rfl, fun j _ x hx => by simp [DSt.again, DSt.settled] at hx⟩
              have hKa : Hid (∀ j, j < 4 → ((s.again keep).K j).now = W j) := fun j hj => (hIs.out j hj).symm
              clear hGs hDs hIs h2
              generalize s.again keep = sa at *
              go_wp2_with fail
              refine HRs.mono ?_
              rintro e w9 ⟨rfl, hD9, hS9⟩
              clear HRs
              have hF9 := hFs.spun hS9
              have hb9 := hbs.trans hS9.below
              clear hS9 hFs hbs
              go_wp2
              go_loopw [18] (fun y wr => ∃ k : Nat, k ≤ 4 ∧ y = .int .i64 k ∧ Disk wr w.heap.size p 4 sa ∧ FourAt wr bw W ∧ Below w.heap.size w wr) (fun y _ => 4 - (intOf y).toNat)
              case atStart => exact ⟨0, by decide, rfl, hD9, hF9, hb9⟩
              case round =>
                obtain ⟨k, hk, rfl, hDr, hFr, hbr⟩ := hrel
                clear hD9 hF9 hb9
                by_cases hlt : k < 4
                · have HR := diskRead_any wr _ p 4 _ (k : Int) hDr
                  rw [(hGa.read hlt).1, (hGa.read hlt).2, q0, hKa.out k hlt] at HR
                  go_wp2_with fail
                  refine HR.mono ?_
                  rintro e w7 ⟨rfl, hb7⟩
                  clear HR
                  have hF7 := hFr.below hb7
                  have hD7 := hDr.later hb7
                  have c7 := hF7.at_ k hlt
                  have hb8 := hbr.trans (hb7.mono hbr.size)
                  have hi0 : (0 : Int) ≤ (k : Int) := by omega
                  have hi1 : (k : Int) < 4 := by omega
                  clear hFr hDr hbr hb7
                  generalize hWk : W k = wk at c7
                  have hse : ((⟨wk.toArray⟩ : ByteArray).toList != (⟨wk.toArray⟩ : ByteArray).toList) = false := by simp
                  generalize (⟨wk.toArray⟩ : ByteArray) = bk9 at *
                  clear hWk
                  go_wp2
                  go_roundw
                  case rel => exact ⟨k + 1, by omega, by go_num, hD7, hF7, hb8⟩
                  case measure => simp [intOf]; omega
                · clear hDr hFr
                  go_wp2
                  go_ret
                  exact ⟨rfl, hbr⟩
end Go.Proofs.Ytlljpedanlnjaaa
