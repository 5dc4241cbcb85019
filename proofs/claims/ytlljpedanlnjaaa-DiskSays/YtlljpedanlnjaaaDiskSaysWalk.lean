/-
  The law DiskSays returns true, for every number of sectors and every row of acts; memory that was there stays as it was.
-/
import Derived.Test.YtlljpedanlnjaaaDiskTwin
import Derived.Test.YtlljpedanlnjaaaActsAt
import Derived.Deep.QuietTactic
import Derived.BigQuiet
import Derived.Deep.RegionLaw
import Derived.Deep.CutBlock
namespace Go.Proofs.Ytlljpedanlnjaaa
open Go.RowKit

abbrev xyB : ByteArray := ⟨#[120, 121]⟩
theorem spin_write : DSt.fresh.writeF 3 1 xyB = 0 := by decide +kernel
theorem spin_flush : (DSt.fresh.wrote 3 1 xyB).flushF = 0 := by decide +kernel
theorem spin_readF : ((DSt.fresh.wrote 3 1 xyB).flushed.again 0).readF 3 1 = 0 := by decide +kernel
theorem spin_readT : ((DSt.fresh.wrote 3 1 xyB).flushed.again 0).readT 3 1 = ⟨(padB [120, 121]).toArray⟩ := by decide +kernel

set_option maxRecDepth 100000 in
set_option maxHeartbeats 1000000 in
theorem spins_any (w : World) : Calls Try.prog 5 #[] w fun e w' => e = .returned (.bool true) ∧ Below w.heap.size w w' := by
  have HN := diskNew_any w 3 (by decide) (by decide)
  have e3 : (((3 : Nat) : Int)) = 3 := rfl
  rw [e3] at HN
  go_enter Try.func5, Try.ntmps5
  go_wp2_with fail
  refine HN.mono ?_
  rintro e w1 ⟨p, rfl, hD1, hb1⟩
  have q0 : errV 0 = .nilIface := rfl
  have HW := diskWrite_any w1 _ p 3 _ 1 xyB hD1 (by decide)
  rw [spin_write, q0] at HW
  clear HN hD1
  go_wp2_with fail
  refine HW.mono ?_
  rintro e w2 ⟨rfl, hD2, hS2⟩
  have HF := diskFlush_any w2 _ p 3 _ hD2
  rw [spin_flush, q0] at HF
  clear HW hD2
  go_wp2_with fail
  refine HF.mono ?_
  rintro e w3 ⟨rfl, hD3, hS3⟩
  have HR := diskRestart_any w3 _ p 3 _ 0 hD3
  clear HF hD3
  go_wp2_with fail
  refine HR.mono ?_
  rintro e w4 ⟨rfl, hD4, hS4⟩
  have HRd := diskRead_any w4 _ p 3 _ 1 hD4
  rw [spin_readF, spin_readT, q0] at HRd
  clear HR
  go_wp2_with fail
  refine HRd.mono ?_
  rintro e w5 ⟨rfl, hb5⟩
  have hb6 := (((hb1.trans hS2.below).trans hS3.below).trans hS4.below)
  have hb7 := hb6.trans (hb5.mono hb6.size)
  have HS := fun W => same_nil 0 W
  have HSe := diskSectors_any w5 _ p 3 _ (hD4.later hb5)
  rw [e3] at HSe
  clear HRd hD4
  generalize hbk : (⟨(padB [120, 121]).toArray⟩ : ByteArray) = bk
  have hsz : bk.size = 64 := by rw [← hbk]; decide
  have hsz' : (bk.size : Int) = 64 := by omega
  have hex : (bk.extract 0 2).toList = [120, 121] := by rw [← hbk]; decide +kernel
  clear hbk
  go_wp2_with (first
    | (go_at_call 9; refine (HS _).mono ?_; rintro e w' ⟨rfl, rfl⟩)
    | (go_at_call 10; refine HSe.mono ?_; rintro e w' ⟨rfl, rfl⟩))
  go_ret
  exact ⟨rfl, hb7⟩

theorem own_lower {w : World} {B B' : Nat} {e : TypeId} {s n : Nat} {v : Value} {xs : List Value} (h : w.ownsRow B e s v n xs) (hB : B' ≤ B) : w.ownsRow B' e s v n xs := ⟨h.1, h.2.imp id (fun ⟨g, cap, cur, h1, h2, h3⟩ => ⟨g, cap, cur, h1, Nat.le_trans hB h2, h3⟩)⟩
theorem Disk.lower {w : World} {B B' p n : Nat} {s : DSt} (h : Disk w B p n s) (hB : B' ≤ B) : Disk w B' p n s := by
  obtain ⟨⟨bs, v, h⟩, hl⟩ := h
  exact ⟨⟨bs, v, h.blk, h.sec, h.cells, h.ok, fun i hi => own_lower (h.rows i hi) hB, h.apart, Nat.le_trans hB h.bp, Nat.le_trans hB h.bb, h.nx, h.lo, h.few⟩, hl⟩
theorem Ref.lower {w : World} {B B' q n : Nat} {r : RSt} (h : Ref w B q n r) (hB : B' ≤ B) : Ref w B' q n r := by
  obtain ⟨x, y, z, h⟩ := h
  exact ⟨x, y, z, h.blk, own_lower h.kept hB, own_lower h.now hB, own_lower h.wait hB, h.apart, Nat.le_trans hB h.bq⟩
theorem Ref.arm {w : World} {B q n : Nat} {r : RSt} (h : Ref w B q n r) : ∃ o, w.cell? ⟨q, 3, none⟩ = some (.int .i64 o) ∧ w.frozen? ⟨q, 3, none⟩ = false ∧ ∀ a : Int, Ref (w.setCell ⟨q, 3, none⟩ (.int .i64 a)) B q n { r with fuse := a } ∧ RSpun B w (w.setCell ⟨q, 3, none⟩ (.int .i64 a)) := by
  obtain ⟨x, y, z, h⟩ := h
  exact ⟨r.fuse, h.c3, h.fz 3, fun a => ⟨⟨x, y, z, h.put (fun k hk => Below.heap_setCell _ _ _ _ hk) (heap_set0 _ h.blk) rfl rfl rfl⟩, RSpun.set h.blk h.bq (.inl rfl) _⟩⟩
theorem Ref.c4 {w : World} {B q n : Nat} {r : RSt} (h : Ref w B q n r) : w.cell? ⟨q, 4, none⟩ = some (.bool r.down) := by
  obtain ⟨x, y, z, h⟩ := h
  exact h.c4
/-- a copy of an act. -/
abbrev actCs (x : ActF) : Array Value := #[.string x.kind, .string x.s, .string x.t, .int .i64 x.a, .int .u64 x.k, .string x.root, .slice x.pa x.pn x.pc, .slice x.qa x.qn x.qc]
structure ActCopy (w : World) (b : Nat) (x : ActF) : Prop where
  blk : w.heap[b]? = some (.cells (actCs x) 41 (0, 0))
theorem ActCopy.c0 {w : World} {b : Nat} {x : ActF} (h : ActCopy w b x) : w.cell? ⟨b, 0, none⟩ = some (.string x.kind) := by simp [World.cell?, h.blk]
theorem ActCopy.c1 {w : World} {b : Nat} {x : ActF} (h : ActCopy w b x) : w.cell? ⟨b, 1, none⟩ = some (.string x.s) := by simp [World.cell?, h.blk]
theorem ActCopy.c3 {w : World} {b : Nat} {x : ActF} (h : ActCopy w b x) : w.cell? ⟨b, 3, none⟩ = some (.int .i64 x.a) := by simp [World.cell?, h.blk]
theorem ActCopy.c4 {w : World} {b : Nat} {x : ActF} (h : ActCopy w b x) : w.cell? ⟨b, 4, none⟩ = some (.int .u64 x.k) := by simp [World.cell?, h.blk]
theorem act_not_disk (x : ActF) : ¬ DiskTy (.cells (actCs x) 41 (0, 0)) := by
  rintro ⟨c', t, f, h, ht⟩
  injection h with _ h _
  subst h
  revert ht
  decide
theorem act_not_ref (x : ActF) : ¬ RefTy (.cells (actCs x) 41 (0, 0)) := by
  rintro ⟨c', t, f, h, ht⟩
  injection h with _ h _
  subst h
  revert ht
  decide
theorem ActCopy.spun {w w' : World} {B b : Nat} {x : ActF} (h : ActCopy w b x) (hs : Spun B w w') : ActCopy w' b x := ⟨hs.block _ _ h.blk (act_not_disk x)⟩
theorem ActCopy.ref {w w' : World} {B b : Nat} {x : ActF} (h : ActCopy w b x) (hs : RSpun B w w') : ActCopy w' b x := ⟨hs.block _ _ h.blk (act_not_ref x)⟩
theorem ActCopy.later {w w' : World} {b : Nat} {x : ActF} (h : ActCopy w b x) (hb : Below w.heap.size w w') : ActCopy w' b x := ⟨(hb.block b (Array.getElem?_eq_some_iff.1 h.blk).1).trans h.blk⟩
theorem same_self2 (a b : Nat) (h : a = b) (w : World) : Calls Try.prog 9 #[errV a, .int .i64 (b : Int)] w fun e w' => e = .returned (.bool true) ∧ w' = w := by
  subst h
  exact (same_errV a a w).mono fun e w' ⟨he, hw⟩ => ⟨by rw [he]; simp, hw.symm⟩
abbrev kWr : ByteArray := ⟨#[119, 114, 105, 116, 101]⟩
abbrev kRd : ByteArray := ⟨#[114, 101, 97, 100]⟩
abbrev kFl : ByteArray := ⟨#[102, 108, 117, 115, 104]⟩
abbrev kAr : ByteArray := ⟨#[97, 114, 109]⟩
theorem kind_no {a b : ByteArray} (h : a ≠ b) : (a.toList == b.toList) = false := by
  rw [beq_eq_false_iff_ne]
  intro z
  apply h
  rw [ByteArray.toList_eq, ByteArray.toList_eq] at z
  exact WideShapes.bytes_inj z

set_option maxRecDepth 100000 in
set_option maxHeartbeats 16000000 in
theorem diskSays_walk (sectors : Int) (a : Option Addr) (n c : Nat) (X : Nat → ActF) (w : World) (hr : ActsRow w a n X) (hf : ∀ i, i < n → ActFit (X i)) (ha : ∀ i, i < n → (X i).a ≤ 9223372036854775807) :
    Calls Try.prog 3 #[.int .i64 sectors, .slice a n c] w fun e w' => e = .returned (.bool true) ∧ Below w.heap.size w w' := by
  have HSp := spins_any w
  go_enter Try.func3, Try.ntmps3
  go_wp2_with fail
  refine HSp.mono ?_
  rintro e w1 ⟨rfl, hb1⟩
  clear HSp
  have HL := lightActs_any a n c 80 X w1 (by decide) (hr.later hb1) hf
  go_wp2_with fail
  refine HL.mono ?_
  rintro e w2 ⟨⟨b, rfl, hl⟩, hb2'⟩
  have hb2 := hb1.trans (hb2'.mono hb1.size)
  clear HL hb2' hb1 hf
  cases b with
  | false =>
    clear hl hr
    go_wp2
    go_ret
    exact ⟨rfl, hb2⟩
  | true =>
  obtain ⟨h80, hsz⟩ := hl rfl
  clear hl
  by_cases hs : sectors < 1 ∨ 120 < sectors
  · have HN := newDisk_bad w2 sectors hs
    have HR := refNew_bad w2 sectors hs
    have q1 : errV 1 = .iface 59 (.int .i64 1) := rfl
    have HSm := same_self2 1 1 rfl w2
    rw [q1] at HN HSm
    have e1 : (((1 : Nat) : Int)) = 1 := rfl
    rw [e1] at HSm
    clear hr hs hsz ha
    go_wp2_with fail
    refine HN.mono ?_
    rintro e w3 ⟨rfl, rfl⟩
    clear HN
    go_wp2_with fail
    refine HR.mono ?_
    rintro e w4 ⟨rfl, rfl⟩
    clear HR
    go_wp2_with fail
    refine HSm.mono ?_
    rintro e w5 ⟨rfl, rfl⟩
    clear HSm
    go_wp2
    go_ret
    exact ⟨rfl, hb2⟩
  · obtain ⟨m, rfl⟩ := Int.eq_ofNat_of_zero_le (show 0 ≤ sectors by omega)
    have hm1 : 1 ≤ m := by omega
    have hm2 : m ≤ 120 := by omega
    have HN := diskNew_any w2 m hm1 hm2
    clear hs
    go_wp2_with fail
    refine HN.mono ?_
    rintro e w3 ⟨p, rfl, hD3, hb3⟩
    clear HN
    have HR := refNew_ok w3 m hm1 hm2
    go_wp2_with fail
    refine HR.mono ?_
    rintro e w4 ⟨q, rfl, hR4, hb4⟩
    clear HR
    have hD4 : Disk w4 w2.heap.size p m DSt.fresh := hD3.later hb4
    have hB4 : Both2 w4 w.heap.size p q m DSt.fresh RSt.fresh := ⟨hD4.lower hb2.size, hR4.lower (Nat.le_trans hb2.size hb3.size), Twin.fresh m⟩
    have hbw3 := hb2.trans (hb3.mono hb2.size)
    have hbw : Below w.heap.size w w4 := hbw3.trans (hb4.mono hbw3.size)
    have HSe := diskSectors_any w4 _ p m _ hD4
    have hmm : ((m : Int) != (m : Int)) = false := by simp
    clear hD3 hb3 hb4 hR4 hD4 hb2 hbw3
    go_wp2_with fail
    refine HSe.mono ?_
    rintro e w5 ⟨rfl, rfl⟩
    clear HSe
    go_wp2
    go_loopw [10] (fun y wr => ∃ (i : Nat) (s : DSt) (r : RSt), i ≤ n ∧ y = .int .i64 i ∧ r.wait.length ≤ i ∧ Both2 wr w.heap.size p q m s r ∧ Below w.heap.size w wr) (fun y _ => n - (intOf y).toNat)
    case atStart => exact ⟨0, _, _, Nat.zero_le _, rfl, Nat.le_refl _, hB4, hbw⟩
    case round =>
      obtain ⟨i, s, r, hi, rfl, hwl, hBo, hB⟩ := hrel
      clear hB4 hbw
      by_cases hlt : i < n
      · rcases hr with h0 | ⟨bk, o, rfl, hc⟩
        · omega
        have H := (hc i hlt).later hB
        have d0 := H.c0
        have d1 := H.c1
        have d2 := H.c2
        have d3 := H.c3
        have d4 := H.c4
        have d5 := H.c5
        have d6 := H.c6
        have d7 := H.c7
        obtain ⟨hs1, _⟩ := hsz i hlt
        have hax := ha i hlt
        have hml : (X i).s.size ≤ maxLen := by simp only [maxLen]; omega
        generalize X i = x at *
        have hbA : Below wr.heap.size wr (wr.alloc (.cells (actCs x) 41)) := (Below.refl _ _).alloc (Nat.le_refl _) _
        have hCp : ActCopy (wr.alloc (.cells (actCs x) 41)) wr.heap.size x := ⟨heap_alloc_new _ _⟩
        have cK := hCp.c0
        have hBo1 : Both2 (wr.alloc (.cells (actCs x) 41)) w.heap.size p q m s r := ⟨hBo.d.later hbA, hBo.f.later hbA, hBo.t⟩
        have hB2 := hB.trans (hbA.mono hB.size)
        clear H hBo hbA hB
        go_upto_block 2 with fail
        clear d0 d1 d2 d3 d4 d5 d6 d7 cK
        generalize wr.alloc (.cells (actCs x) 41) = A1 at *
        generalize wr.heap.size = b8 at *
        go_cut [12] from 72 to 139 (fun v wc => v = .bool true ∧ (∃ s' r', r'.wait.length ≤ i + 1 ∧ Both2 wc w.heap.size p q m s' r') ∧ Below w.heap.size w wc)
        case first =>
          have c0 := hCp.c0
          by_cases hk1 : x.kind = kWr
          · have e1 : (x.kind.toList == [119, 114, 105, 116, 101]) = true := by rw [hk1, ByteArray.toList_eq]; rfl
            have HT := hBo1.t.write x.a x.s
            have HW := fun W (hW : Disk W w.heap.size p m s) => diskWrite_any W _ p m s x.a x.s hW hml
            have HWR := fun W (hW : Ref W w.heap.size q m r) => refWrite_any W _ q m r x.a x.s hW hBo1.t.lo hBo1.t.hi (by omega) hml
            have HS := fun W => same_self2 (s.writeF m x.a x.s) (r.writeF m x.a x.s) HT.1 W
            have hD1 := hBo1.d
            have hR1 := hBo1.f
            have c3 := hCp.c3
            have c1 := hCp.c1
            have hT2 := HT.2.1
            have hwl3 : (r.wrote m x.a x.s).wait.length ≤ i + 1 := by have := HT.2.2; omega
            clear hBo1 hk1 HT
            generalize s.wrote m x.a x.s = s' at *
            generalize r.wrote m x.a x.s = r' at *
            generalize s.writeF m x.a x.s = F1 at *
            generalize r.writeF m x.a x.s = F2 at *
            go_upto_region 19 with fail
            go_region_law
              (go_simp
               first
                 | (go_at_call 11
                    refine (HW _ ?hw).mono ?_
                    case hw => exact hD1.later (Below.refl _ _).drew
                    rintro e w6 ⟨rfl, hD6, hS6⟩
                    have hCp6 := (hCp.later (Below.refl _ _).drew).spun hS6
                    have hR6 := (hR1.later (Below.refl _ _).drew).spun hS6
                    replace c3 := hCp6.c3
                    replace c1 := hCp6.c1
                    replace hB2 := (hB2.trans (Below.refl _ _).drew).trans hS6.below
                    clear hS6)
                 | (go_at_call 12
                    refine (HWR _ ?hw).mono ?_
                    case hw => exact hR6
                    rintro e w7 ⟨rfl, hR7, hS7⟩
                    have hD7 := hD6.ref hS7
                    replace hB2 := hB2.trans hS7.below
                    clear hS7)
                 | (go_at_call 9
                    refine (HS _).mono ?_
                    rintro e w5 ⟨rfl, rfl⟩))
            all_goals
              go_wp2
              go_meet
              exact ⟨rfl, ⟨s', r', hwl3, hD7, hR7, hT2⟩, hB2⟩
          have e1 : (x.kind.toList == [119, 114, 105, 116, 101]) = false := by have := kind_no hk1; rwa [show kWr.toList = [119, 114, 105, 116, 101] by rw [ByteArray.toList_eq]] at this
          by_cases hk2 : x.kind = kRd
          · have e2 : (x.kind.toList == [114, 101, 97, 100]) = true := by rw [hk2, ByteArray.toList_eq]; rfl
            have HR := diskRead_any A1 _ p m s x.a hBo1.d
            obtain ⟨hF, hTx⟩ := hBo1.t.read x.a
            have c3 := hCp.c3
            clear hk1 hk2
            go_wp2_with fail
            refine HR.mono ?_
            rintro e w6 ⟨rfl, hb6⟩
            clear HR
            have hCp6 := hCp.later hb6
            have c36 := hCp6.c3
            have HR2 := refRead_any w6 _ q m r x.a (hBo1.f.later hb6)
            have hB6 := hB2.trans (hb6.mono hB2.size)
            have hBo6 : Both2 w6 w.heap.size p q m s r := ⟨hBo1.d.later hb6, hBo1.f.later hb6, hBo1.t⟩
            have HS := fun W => same_self2 (s.readF m x.a) (r.readF m x.a) hF W
            rw [← hTx] at HR2
            clear hBo1 hB2 hTx hF hb6
            generalize s.readF m x.a = F1 at *
            generalize r.readF m x.a = F2 at *
            generalize s.readT m x.a = T1 at *
            have hse : (T1.toList == T1.toList) = true := by simp
            go_wp2_with fail
            refine HR2.mono ?_
            rintro e w7 ⟨rfl, rfl⟩
            clear HR2
            go_wp2_with fail
            refine (HS _).mono ?_
            rintro e w8 ⟨rfl, rfl⟩
            go_wp2
            go_meet
            exact ⟨rfl, ⟨s, r, by omega, hBo6⟩, hB6⟩
          have e2 : (x.kind.toList == [114, 101, 97, 100]) = false := by have := kind_no hk2; rwa [show kRd.toList = [114, 101, 97, 100] by rw [ByteArray.toList_eq]] at this
          by_cases hk3 : x.kind = kFl
          · have e3 : (x.kind.toList == [102, 108, 117, 115, 104]) = true := by rw [hk3, ByteArray.toList_eq]; rfl
            have HF := diskFlush_any A1 _ p m s hBo1.d
            obtain ⟨hF, hT2, hwl2⟩ := hBo1.t.flushes (fun j hj => hBo1.d.ok hj)
            have HS := fun W => same_self2 s.flushF r.stepF hF W
            clear hk1 hk2 hk3
            go_wp2_with fail
            refine HF.mono ?_
            rintro e w6 ⟨rfl, hD6, hS6⟩
            clear HF
            have hR6 := hBo1.f.spun hS6
            have HF2 := refFlush_any w6 _ q m r hR6 hBo1.t.lo hBo1.t.hi hm2 hm1
            have hB6 := hB2.trans hS6.below
            clear hBo1 hB2 hS6 hR6 hF
            generalize s.flushF = F1 at *
            generalize r.stepF = F2 at *
            go_wp2_with fail
            refine HF2.mono ?_
            rintro e w7 ⟨rfl, hR7, hS7⟩
            clear HF2
            have hD7 := hD6.ref hS7
            have hB7 := hB6.trans hS7.below
            go_wp2_with fail
            refine (HS _).mono ?_
            rintro e w8 ⟨rfl, rfl⟩
            go_wp2
            go_meet
            exact ⟨rfl, ⟨_, _, by omega, hD7, hR7, hT2⟩, hB7⟩
          have e3 : (x.kind.toList == [102, 108, 117, 115, 104]) = false := by have := kind_no hk3; rwa [show kFl.toList = [102, 108, 117, 115, 104] by rw [ByteArray.toList_eq]] at this
          by_cases hk4 : x.kind = kAr
          · have e4 : (x.kind.toList == [97, 114, 109]) = true := by rw [hk4, ByteArray.toList_eq]; rfl
            have HA := diskArm_any A1 _ p m s x.a hBo1.d hax
            have c3 := hCp.c3
            clear hk1 hk2 hk3 hk4
            go_wp2_with fail
            refine HA.mono ?_
            rintro e w6 ⟨rfl, hD6, hS6⟩
            clear HA
            have hR6 := hBo1.f.spun hS6
            have hCp6 := hCp.spun hS6
            have c36 := hCp6.c3
            obtain ⟨o3, z3, f3, hall⟩ := hR6.arm
            have hB6 := hB2.trans hS6.below
            have hT2 := hBo1.t.arm x.a hax
            have hfin : ∀ u : Int, u = max x.a (-1) → Both2 (w6.setCell ⟨q, 3, none⟩ (.int .i64 u)) w.heap.size p q m { s with left := max x.a (-1) } { r with fuse := max x.a (-1) } ∧ Below w.heap.size w (w6.setCell ⟨q, 3, none⟩ (.int .i64 u)) := fun u hu => by
              rw [hu]
              exact ⟨⟨hD6.ref (hall _).2, (hall _).1, hT2⟩, hB6.trans (hall _).2.below⟩
            clear hBo1 hB2 hS6 hR6 hall c3
            go_wp2
            all_goals
              go_meet
              refine ⟨rfl, ⟨_, _, ?_, (hfin _ (by omega)).1⟩, (hfin _ (by omega)).2⟩
              show r.wait.length ≤ i + 1
              omega
          have e4 : (x.kind.toList == [97, 114, 109]) = false := by have := kind_no hk4; rwa [show kAr.toList = [97, 114, 109] by rw [ByteArray.toList_eq]] at this
          have HR := diskRestart_any A1 _ p m s x.k hBo1.d
          have c4 := hCp.c4
          clear hk1 hk2 hk3 hk4
          go_wp2_with fail
          refine HR.mono ?_
          rintro e w6 ⟨rfl, hD6, hS6⟩
          clear HR
          have hR6 := hBo1.f.spun hS6
          have hCp6 := hCp.spun hS6
          have c46 := hCp6.c4
          have HR2 := refRestart_any w6 _ q m r x.k hR6 hm2 hm1 (by omega) hBo1.t.wn
          have hB6 := hB2.trans hS6.below
          have hT2 := hBo1.t.again x.k
          clear hBo1 hB2 hS6 hR6 c4
          go_wp2_with fail
          refine HR2.mono ?_
          rintro e w7 ⟨rfl, hR7, hS7⟩
          clear HR2
          have hD7 := hD6.ref hS7
          have hB7 := hB6.trans hS7.below
          go_wp2
          go_meet
          exact ⟨rfl, ⟨_, _, by show 0 ≤ i + 1; omega, hD7, hR7, hT2⟩, hB7⟩
        case rest =>
          obtain ⟨rfl, ⟨s', r', hwl2, hBo2⟩, hB3⟩ := hcut
          have c4 := hBo2.f.c4
          rw [← hBo2.t.down] at c4
          have hne : (s'.down != s'.down) = false := by simp
          have HD := fun k => diskDown_any (wc.drewN k) w.heap.size p m s' (hBo2.d.later (below_drewN (Below.refl _ _) k))
          clear hBo1 hB2 hCp
          generalize s'.down = dn at *
          go_upto_region 29 with fail
          go_quiet ((go_at_call 20; exact Calls.quiet_of_same (HD _)))
          have hBo3 : Both2 (wc.drewN nq) w.heap.size p q m s' r' := ⟨hBo2.d.later (below_drewN (Below.refl _ _) nq), hBo2.f.later (below_drewN (Below.refl _ _) nq), hBo2.t⟩
          have hB4 : Below w.heap.size w (wc.drewN nq) := below_drewN hB3 nq
          clear hBo2 hB3 HD c4
          go_wp2
          go_roundw
          case rel => exact ⟨i + 1, s', r', by omega, by go_num, hwl2, hBo3, hB4⟩
          case measure => simp [intOf]; omega
      · clear hr ha hsz
        go_wp2
        go_loopw [17] (fun y wr => ∃ k : Nat, k ≤ m + 2 ∧ y = .int .i64 ((k : Int) - 1) ∧ Both2 wr w.heap.size p q m s r ∧ Below w.heap.size w wr) (fun y _ => m + 2 - (intOf y + 1).toNat)
        case atStart => exact ⟨0, by omega, rfl, hBo, hB⟩
        case round =>
          obtain ⟨k, hk, rfl, hBo1, hB1⟩ := hrel
          clear hBo hB
          by_cases hle : (k : Int) - 1 ≤ (m : Int)
          · have HR := diskRead_any wr _ p m s ((k : Int) - 1) hBo1.d
            obtain ⟨hF, hTx⟩ := hBo1.t.read ((k : Int) - 1)
            go_wp2_with fail
            refine HR.mono ?_
            rintro e w6 ⟨rfl, hb6⟩
            clear HR
            have HR2 := refRead_any w6 _ q m r ((k : Int) - 1) (hBo1.f.later hb6)
            have hB6 := hB1.trans (hb6.mono hB1.size)
            have hBo6 : Both2 w6 w.heap.size p q m s r := ⟨hBo1.d.later hb6, hBo1.f.later hb6, hBo1.t⟩
            have HS := fun W => same_self2 (s.readF m ((k : Int) - 1)) (r.readF m ((k : Int) - 1)) hF W
            rw [← hTx] at HR2
            clear hBo1 hB1 hTx hF hb6
            generalize s.readF m ((k : Int) - 1) = F1 at *
            generalize r.readF m ((k : Int) - 1) = F2 at *
            generalize s.readT m ((k : Int) - 1) = T1 at *
            have hse : (T1.toList != T1.toList) = false := by simp
            go_wp2_with fail
            refine HR2.mono ?_
            rintro e w7 ⟨rfl, rfl⟩
            clear HR2
            go_wp2_with fail
            refine (HS _).mono ?_
            rintro e w8 ⟨rfl, rfl⟩
            go_wp2
            go_roundw
            case rel => exact ⟨k + 1, by omega, by go_num, hBo6, hB6⟩
            case measure => simp [intOf]; omega
          · clear hBo1
            go_wp2
            go_ret
            exact ⟨rfl, hB1⟩
end Go.Proofs.Ytlljpedanlnjaaa
