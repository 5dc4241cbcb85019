/-
  What SameParts returns, of two lists of parts that are alike: true; memory stays as it was.
  What number returns of an error of package api: its number; memory stays as it was.
  What is kept is as good as new: what TopKept returns, for every row of acts and every root: true; memory that was there stays as it was.
  Behind a fall each root is loaded as what is reckoned anew: what TopFall returns, for every row of acts, every fuse, whatever is kept, every root: true; memory that was there stays as it was.
-/
import Derived.Test.YtidabcoodolddaaGreatDoorImageSmall
import Derived.Test.YtidabcoodolddaaGreatDoorReadyOne
import Derived.Deep.QuietTactic
import Derived.BigQuiet
import Derived.Test.YtidabcoodolddaaGreatDoorErr
import Derived.Test.YtidabcoodolddaaGreatDoorReadyTwo
import Derived.Deep.CutBlock
namespace Go.Proofs.YtidabcoodolddaaGreatDoor
open Go.RowKit

theorem eqTo_self (f : Nat → Int) : ∀ n, eqTo f f n = true
  | 0 => rfl
  | n + 1 => eqTo_succ (eqTo_self f n) rfl
theorem sameParts_none (a a' : Option Addr) (c c' : Nat) (w : World) :
    Calls Tryz.prog 14 #[.slice a 0 c, .slice a' 0 c'] w fun e w' => e = .returned (.bool true) ∧ ∃ k, w' = w.drewN k := by
  go_enter Tryz.func14, Tryz.ntmps14
  go_wp2
  refine wp_loop_rounds 1 ?_
  rw [rounds_succ]
  go_wp2
  go_ret
  exact ⟨rfl, 0, rfl⟩

set_option maxRecDepth 100000 in
set_option maxHeartbeats 2000000 in
theorem sameParts_true (n : Nat) (nm : Nat → ByteArray) (B : Nat → Int) (M : Nat → Nat) (X : Nat → Nat → Int) (a a' : Option Addr) (c c' : Nat) (A A' : Nat → Option Addr) (C C' : Nat → Nat) (w : World) (hn : n ≤ 1000) (hM : ∀ i, i < n → M i ≤ 1000)
    (hx : PartRow w a n nm B A M C X) (hy : PartRow w a' n nm B A' M C' X) :
    Calls Tryz.prog 14 #[.slice a n c, .slice a' n c'] w fun e w' => e = .returned (.bool true) ∧ ∃ k, w' = w.drewN k := by
  rcases hx with h0 | ⟨bx, ox, rfl, hx⟩
  · subst h0
    exact sameParts_none a a' c c' w
  rcases hy with h0 | ⟨bY, oY, rfl, hy⟩
  · subst h0
    exact sameParts_none _ a' c c' w
  have hnn : ((n : Int) != (n : Int)) = false := by simp
  go_enter Tryz.func14, Tryz.ntmps14
  go_wp2
  clear hnn
  go_loopw [5] (fun i wr => ∃ k j : Nat, k ≤ n ∧ i = .int .i64 k ∧ wr = w.drewN j) (fun i _ => n - (intOf i).toNat)
  case atStart => exact ⟨0, 0, Nat.zero_le _, rfl, rfl⟩
  case round =>
    obtain ⟨k, j, hk, rfl, hwr⟩ := hrel
    by_cases hlt : k < n
    · have hbw : Below w.heap.size w wr := by rw [hwr]; exact below_drewN (Below.refl _ _) j
      have x0 := cell_later hbw (hx k hlt).1
      have x1 := cell_later hbw (hx k hlt).2.1
      have x2 := cell_later hbw (hx k hlt).2.2.1
      have xr := (hx k hlt).2.2.2.later hbw
      have y0 := cell_later hbw (hy k hlt).1
      have y1 := cell_later hbw (hy k hlt).2.1
      have y2 := cell_later hbw (hy k hlt).2.2.1
      have yr := (hy k hlt).2.2.2.later hbw
      have hMk := hM k hlt
      have Hwr : Hid (wr = w.drewN j) := hwr
      clear hx hy hbw hwr
      have HS : ∀ q : Nat, Calls Tryz.prog 36 #[.slice (A k) (M k) (C k), .slice (A' k) (M k) (C' k)] (wr.drewN q) fun e w' => e = .returned (.bool true) ∧ ∃ m, w' = (wr.drewN q).drewN m := fun q => by
        have := sameNumbers_any (X k) (X k) (M k) (M k) (A k) (A' k) (C k) (C' k) (wr.drewN q) (by omega) (xr.drewN q) (yr.drewN q)
        rwa [show (decide (M k = M k) && eqTo (X k) (X k) (M k)) = true by rw [decide_eq_true rfl, Bool.true_and]; exact eqTo_self (X k) (M k)] at this
      have hsn : ((nm k).toList != (nm k).toList) = false := by simp
      have hsb : (B k != B k) = false := by simp
      clear xr yr
      go_wp2
      go_quiet (exact Calls.quiet_of (HS _))
      clear HS
      go_wp2
      go_quiet (fail)
      go_wp2
      go_roundw
      case rel =>
        rw [Hwr.out]
        simp only [World.drewN_drewN]
        exact ⟨k + 1, _, by omega, by go_num, rfl⟩
      case measure => simp [intOf]; omega
    · clear hx hy
      go_wp2
      go_ret
      exact ⟨rfl, j, rfl⟩
end Go.Proofs.YtidabcoodolddaaGreatDoor

namespace Go.Proofs.YtidabcoodolddaaGreatDoor
open Go.RowKit

theorem assertN_errno (n : Int) (w : World) : (Instr.typeAssert (.iface 82 (.int .i64 n)) 32 82 true).run Tryz.prog w = .ok (.tuple #[.int .i64 n, .bool true]) w := by kernel_rfl
theorem number_nil (w : World) : Calls Tryz.prog 13 #[.nilIface] w fun e w' => e = .returned (.int .i64 0) ∧ w = w' := by
  go_enter Tryz.func13, Tryz.ntmps13
  go_wp2
  go_ret
  exact ⟨rfl, rfl⟩
theorem number_errno (n : Int) (w : World) : Calls Tryz.prog 13 #[.iface 82 (.int .i64 n)] w fun e w' => e = .returned (.int .i64 n) ∧ w = w' := by
  have ha := assertN_errno n
  go_enter Tryz.func13, Tryz.ntmps13
  go_wp2
  go_ret
  exact ⟨rfl, rfl⟩
end Go.Proofs.YtidabcoodolddaaGreatDoor

namespace Go.Proofs.YtidabcoodolddaaGreatDoor
open Go.RowKit Go.Maps

theorem getE_is {E : Nat → EntF} {k : Nat} {root : ByteArray} (hg : (getE E k root).1 = true) : ∃ j, j < k ∧ (E j).root = root ∧ (getE E k root).2 = E j := by
  unfold getE at hg ⊢
  split at hg
  · cases hg
  · rename_i hn
    obtain ⟨j, _, hj, hr, hfj⟩ := findF_some _ 0 rfl (show 0 ≤ findF E root k 0 by omega)
    rw [if_neg hn, hfj]
    exact ⟨j, hj, hr, rfl⟩
/-- what Load of a loader answers, by what is kept or not, is what Load of package image answers. -/
theorem loads_alike {w : World} {B0 : Nat} {D : DataW Unit} {kf : Nat} {T : ByteArray → ByteArray} {S : ByteArray → Int} {E : Nat → EntF} {k : Nat} {root : ByteArray} {e : Ending} (h : LoadsEnd w B0 D S (rdD D T) root (getE E k root) e) (hI : Inv D kf) (hT : Texts D T) (hS : Stamps D S) (hH : ∀ i, i < k → Held D kf (E i)) :
    ∃ (u : Value) (F : Nat) (kept : Bool) (w1 : World) (B1 : Nat), e = .returned (.tuple #[u, .bool kept, errV F]) ∧ (F ≠ 0 → kept = false) ∧ B0 ≤ B1 ∧ Below w1.heap.size w1 w ∧ LoadEnd w1 B1 (rdD D T) root (.returned (.tuple #[u, errV F])) := by
  cases h with
  | kept en u F w1 B1 hB hw hr hs hf hu =>
    obtain ⟨j, hj, hjr, hje⟩ := getE_is hr
    rw [hje] at hs
    obtain ⟨h1, h2⟩ := kept_load hI hT hS (hH j hj) hjr hs hf hu
    subst hw
    exact ⟨u, F, _, w1, B1, rfl, fun h => absurd h2 h, hB, (Below.refl _ w1).drew, h1⟩
  | new u F B1 hB hr hl => exact ⟨u, F, false, w, B1, rfl, fun _ => rfl, hB, Below.refl _ _, hl⟩
end Go.Proofs.YtidabcoodolddaaGreatDoor

namespace Go.Proofs.YtidabcoodolddaaGreatDoor
open Go.RowKit Go.Maps

/-- files, and a disk that, started again, is a shelf of entries that were made of files as they were. -/
structure AfterAt (w wc : World) (B p pf bm : Nat) (s : DSt) (D : DataW Unit) (kf : Nat) : Prop where
  disk : Disk wc B p 112 s
  two : ∀ keep, ∃ E k, Stands (s.again keep) 112 E k ∧ ∀ i, i < k → Held D kf (E i)
  files : FilesAt wc pf bm D kf
  inv : Inv D kf
  below : Below w.heap.size w wc
set_option maxRecDepth 100000 in
set_option maxHeartbeats 16000000 in
theorem topFall_walk (a : Option Addr) (n c : Nat) (X : Nat → ActF) (fuse keep : Int) (root : ByteArray) (w : World) (hE : Env w) (hr : ActsRow w a n X) (hf : ∀ i, i < n → ActFit (X i)) (hc : n ≤ c) :
    Calls Tryz.prog 7 #[.slice a n c, .int .i64 fuse, .int .u64 keep, .string root] w fun e w' => e = .returned (.bool true) ∧ Below w.heap.size w w' := by
  have HRD := ready_any w hE
  go_enter Tryz.func7, Tryz.ntmps7
  go_wp2_with fail
  refine (show Calls _ _ _ _ _ from HRD).mono ?_
  rintro e w1 ⟨B, p, pf, bm, l, g, s, D0, rfl, hK1, hl1, hBw, hpf, hbm⟩
  clear HRD
  have HL := lightActs_any a n c 40 X w1 (by decide) (hr.later hK1.below) hf
  clear hf
  go_wp2_with fail
  refine (show Calls _ _ _ _ _ from HL).mono ?_
  rintro e w2 ⟨⟨b, rfl, hlb⟩, hb2⟩
  clear HL
  have hK2 := hK1.later hb2
  clear hK1 hb2
  cases b with
  | false =>
    clear hlb
    go_wp2
    go_ret
    exact ⟨rfl, hK2.below⟩
  | true =>
  obtain ⟨h40, hsz⟩ := hlb rfl
  clear hlb
  by_cases hs : (20 : Int) < (root.size : Int)
  · go_wp2
    go_ret
    exact ⟨rfl, hK2.below⟩
  have hroot : root.size ≤ maxLen := by simp only [maxLen]; omega
  obtain ⟨A, hA⟩ : ∃ A : Int, min (max fuse (-1)) 1000 = A := ⟨_, rfl⟩
  have hA1 : A ≤ 9223372036854775807 := by omega
  have HAr := diskArm_any w2 B p 112 s A hK2.disk hA1
  go_wp2_with fail
  refine (show Calls _ _ _ _ _ from HAr).mono ?_
  rintro e w3 ⟨rfl, hD3, hS3⟩
  clear HAr
  have hK3 : KeptAt w w3 B p pf bm l g { s with left := max A (-1) } (fun _ => emptyE) 0 D0 1 := { hK2 with disk := hD3, stands := hK2.stands.armed _, files := hK2.files.spun hS3, loader := hK2.loader.spun hS3, shelf := hK2.shelf.spun hS3, below := hK2.below.trans (hS3.below.mono hBw) }
  generalize ({ s with left := max A (-1) } : DSt) = s3 at *
  clear hA hA1 hK2 hD3 hS3 hl1
  go_upto_block 0 with fail
  go_cut [13] from 42 to 65 (fun _ wc => ∃ s D kf, AfterAt w wc B p pf bm s D kf)
  case first =>
    go_wp2
    go_loopw [13] (fun y wr => ∃ (i : Nat) (s : DSt) (E : Nat → EntF) (k : Nat) (D : DataW Unit) (kf : Nat), i ≤ n ∧ y = .int .i64 i ∧ kf ≤ 1 + i ∧ KeptAt w wr B p pf bm l g s E k D kf) (fun y _ => n - (intOf y).toNat)
    case atStart => exact ⟨0, s3, _, 0, D0, 1, Nat.zero_le _, rfl, by omega, hK3⟩
    case round =>
      clear hK3
      obtain ⟨i, s, E, k, D, kf, hi, rfl, hkf, hK⟩ := hrel
      by_cases hlt : i < n
      · have hb := hK.below
        have hr2 := hr.later hb
        rcases hr2 with h0 | ⟨bk, o, hao, hcc⟩
        · omega
        have H := hcc i hlt
        have d0 := H.c0
        have hi0 : (0 : Int) ≤ (i : Int) := by omega
        have hi1 : (i : Int) < (n : Int) := by omega
        have hci : (i : Int) + 1 ≤ (c : Int) := by omega
        have hrow : ActsRow w (some ⟨bk, o + i * 8, none⟩) 1 (fun j => X (i + j)) := .inr ⟨bk, o + i * 8, rfl, fun j hj => by
          obtain rfl : j = 0 := by omega
          rcases hr with h0 | ⟨bk', o', ha', hc'⟩
          · omega
          · rw [ha'] at hao
            injection hao with hao
            injection hao with q1 q2 _
            subst q1
            subst q2
            have := hc' i hlt
            simpa using this⟩
        subst hao
        by_cases hk3 : (X i).kind = kOpen
        · have e3 : ((X i).kind.toList == [111, 112, 101, 110]) = true := by rw [hk3, ByteArray.toList_eq]; rfl
          clear hk3 hcc hr H hsz hrow
          generalize X i = x at *
          go_wp2
          go_roundw
          case rel => exact ⟨i + 1, s, E, k, D, kf, by omega, by go_num, by omega, hK⟩
          case measure => simp [intOf]; omega
        · have e3 : ((X i).kind.toList == [111, 112, 101, 110]) = false := by have := bytes_ne hk3; rwa [show kOpen.toList = [111, 112, 101, 110] by rw [ByteArray.toList_eq]] at this
          have HP := play_any w wr B p pf bm l g s E k D kf (some ⟨bk, o + i * 8, none⟩) 1 (c - i) (fun j => X (i + j)) hE hK hBw hpf hbm hrow (fun j hj => hsz (i + j) (by omega)) (by decide) (by omega) (by omega) (.inr (Nat.le_refl _))
          have hno : ∀ j, j < 1 → ((fun j => X (i + j)) j).kind ≠ kOpen := fun j hj => by
            obtain rfl : j = 0 := by omega
            exact hk3
          have HNO : Hid (∀ j, j < 1 → ((fun j => X (i + j)) j).kind ≠ kOpen) := hno
          clear hno hk3 hcc hr H hsz hrow hK
          generalize X i = x at *
          go_wp2_with fail
          refine (show Calls _ _ _ _ _ from HP).mono ?_
          rintro e w4 ⟨l', g', s', D', kf', rfl, hST, hkf', hlg⟩
          clear HP
          obtain ⟨rfl, rfl⟩ := hlg HNO.out
          clear hlg HNO
          rcases hST with ⟨_, E', k', hK'⟩ | ⟨_, E1, k1, E2, k2, hF⟩
          · have HDn := diskDown_any w4 B p 112 s' hK'.disk
            rw [hK'.stands.up] at HDn
            go_wp2_with fail
            refine (show Calls _ _ _ _ _ from HDn).mono ?_
            rintro e w5 ⟨rfl, rfl⟩
            clear HDn
            go_wp2
            go_roundw
            case rel => exact ⟨i + 1, s', E', k', D', kf', by omega, by go_num, by omega, hK'⟩
            case measure => simp [intOf]; omega
          · have HDn := diskDown_any w4 B p 112 s' hF.disk
            rw [hF.split.1] at HDn
            go_wp2_with fail
            refine (show Calls _ _ _ _ _ from HDn).mono ?_
            rintro e w5 ⟨rfl, rfl⟩
            clear HDn
            have hAf : AfterAt w w5 B p pf bm s' D' kf' := ⟨hF.disk, fun q => (hF.split.2 q).elim (fun h => ⟨E1, k1, h, hF.held⟩) (fun h => ⟨E2, k2, h, hF.held'⟩), hF.files, hF.inv, hF.below⟩
            clear hF
            go_wp2
            go_meet
            exact ⟨s', D', kf', hAf⟩
      · have hAf : AfterAt w wr B p pf bm s D kf := ⟨hK.disk, fun q => ⟨E, k, hK.stands.again q, hK.held⟩, hK.files, hK.inv, hK.below⟩
        clear hK
        go_wp2
        go_meet
        exact ⟨s, D, kf, hAf⟩
  case rest =>
    obtain ⟨s4, D, kf, hAf⟩ := hcut
    clear hK3 hr hsz
    have HRS := diskRestart_any wc B p 112 s4 keep hAf.disk
    go_wp2_with fail
    refine (show Calls _ _ _ _ _ from HRS).mono ?_
    rintro e w5 ⟨rfl, hD5, hS5⟩
    clear HRS
    obtain ⟨E, k, hSt, hH⟩ := hAf.two keep
    have hb5 := hAf.below.trans (hS5.below.mono hBw)
    have hF5 := hAf.files.spun hS5
    have HNw := loaderNew_any w5 B p 112 pf (s4.again keep) E k hD5 hSt (hE.later hb5)
    go_wp2_with fail
    refine (show Calls _ _ _ _ _ from HNw).mono ?_
    rintro e w7 ⟨l7, g7, rfl, _, hl7, hg7, hb7⟩
    clear HNw
    have hb7' := hb5.trans (hb7.mono hb5.size)
    obtain ⟨T, hT⟩ := texts_some D
    obtain ⟨S, hS⟩ := stamps_some D
    have hI := hAf.inv
    have hF7 := hF5.later hb7
    have HLd := loaderLoad_any w7 B p 112 l7 g7 pf bm (s4.again keep) E k D kf T S root (hD5.later hb7) hSt hl7 hg7 (hE.later hb7') hF7 hI hT hS hroot
    clear hAf hD5 hS5 hF5
    go_wp2_with fail
    refine (show Calls _ _ _ _ _ from HLd).mono ?_
    rintro e w4 ⟨hLE, hb4⟩
    clear HLd
    obtain ⟨u, F, kept, w5', B5, rfl, _, hB5, hb5', hLd⟩ := loads_alike hLE hI hT hS hH
    have hb4' := hb7'.trans (hb4.mono hb7'.size)
    have HLi := load_any w4 pf bm D kf T root (hF7.later hb4) hI hT (hE.later hb4') hroot
    have hfew := rd_few (T := T) hI
    clear hLE hS hb4 hF7 hH hSt hl7 hg7
    have hok : ∀ m, OfIs (rdD D T) root 0 m → m ≤ 6 ∧ ∀ j, j < m → (obAt (rdD D T) root j).nW ≤ 1000 := fun m hO => by
      obtain ⟨hSc, _, _⟩ := scope_of hO hfew
      exact ⟨hSc.few, fun j hj => by
        have h7 := (rd_ok (D := D) (T := T) (s := nmAt (rdD D T) root j) (by rw [hSc.read j hj])).nW
        show (rdD D T (nmAt (rdD D T) root j)).2.nW ≤ 1000
        omega⟩
    clear hfew
    generalize rdD D T = rd at *
    obtain ⟨ev, hev⟩ : ∃ ev, errV F = ev := ⟨_, rfl⟩
    rw [hev]
    go_wp2_with fail
    refine (show Calls _ _ _ _ _ from HLi).mono ?_
    rintro e w6 ⟨hLE, hb6⟩
    clear HLi
    obtain ⟨u2, F2, rfl⟩ := hLE.form
    have hb6' := hb4'.trans (hb6.mono hb4'.size)
    rcases hLd.which with ⟨hF, rfl, hRk⟩ | ⟨rfl, m, Bs, P, Q, g1, A, C, G, hRk, hPI⟩
    · rcases hLE.which with ⟨hF2, rfl, hRk2⟩ | ⟨_, m2, B2, P2, Q2, _, _, _, _, hRk2, _⟩
      · obtain rfl := hRk.unique hRk2
        obtain ⟨z, hz⟩ := errV_num hF
        rw [hz] at hev
        subst hev
        rw [hz]
        have HNu := number_errno z
        have HSP := fun W => sameParts_true 0 (fun _ => root) (fun _ => 0) (fun _ => 0) (fun _ _ => 0) none none 0 0 (fun _ => none) (fun _ => none) (fun _ => 0) (fun _ => 0) W (by decide) (fun i hi => absurd hi (Nat.not_lt_zero _)) (.inl rfl) (.inl rfl)
        clear hLd hLE hRk hRk2 hok hz hF hb6 hb5' hT
        go_wp2_with fail
        refine (HNu _).mono ?_
        rintro e w7 ⟨rfl, rfl⟩
        go_wp2_with fail
        refine (HNu _).mono ?_
        rintro e w7 ⟨rfl, rfl⟩
        go_wp2_with fail
        refine (show Calls _ _ _ _ _ from HSP _).mono ?_
        rintro e w8 ⟨rfl, kk, rfl⟩
        go_wp2
        go_ret
        exact ⟨rfl, below_drewN hb6' _⟩
      · exact (hRk.not hRk2).elim
    · obtain ⟨rfl, g2, A2, C2, G2, hPI2⟩ := hLE.good hRk
      obtain ⟨hm6, hnw⟩ := hok m hRk.of
      obtain ⟨au, cu, rfl, _, hrow⟩ := parts_row hPI
      obtain ⟨au2, cu2, rfl, _, hrow2⟩ := parts_row hPI2
      have hrow6 := (hrow.later hb5').later hb6
      have HSP := fun (W : World) (hW : Below w6.heap.size w6 W) => sameParts_true m (nmAt rd root) Bs _ _ au au2 cu cu2 A A2 C C2 W (by omega) (fun i hi => hnw i hi) (hrow6.later hW) (hrow2.later hW)
      obtain rfl : ev = .nilIface := hev.symm
      rw [show errV 0 = .nilIface from rfl]
      have HNu := number_nil
      clear hLd hLE hRk hok hb6 hb5' hT hPI hPI2 hrow hrow2 hrow6 hnw hev
      go_wp2_with fail
      refine (HNu _).mono ?_
      rintro e w7 ⟨rfl, rfl⟩
      go_wp2_with fail
      refine (HNu _).mono ?_
      rintro e w7 ⟨rfl, rfl⟩
      go_wp2_with fail
      refine (show Calls _ _ _ _ _ from HSP _ (Below.refl _ _)).mono ?_
      rintro e w8 ⟨rfl, kk, rfl⟩
      go_wp2
      go_ret
      exact ⟨rfl, below_drewN hb6' _⟩
end Go.Proofs.YtidabcoodolddaaGreatDoor
