/-
  What SameParts returns, of two lists of parts that are alike: true; memory stays as it was.
  What SamePatches returns, of two lists of patches that are alike; memory stays as it was.
  What is said of chapter 8: the law ImageSays returns true, for all acts, every root and every place; memory that was there stays as it was.
-/
import Derived.Test.YtbbhjpbacobmjaaGreatDoorLayOne
import Derived.Test.YtbbhjpbacobmjaaGreatDoorStmOne
import Derived.Deep.QuietTactic
import Derived.BigQuiet
import Derived.Test.YtbbhjpbacobmjaaGreatDoorRows
import Derived.Test.YtbbhjpbacobmjaaGreatDoorAtAll
import Derived.Test.YtbbhjpbacobmjaaGreatDoorMadeOne
namespace Go.Proofs.YtbbhjpbacobmjaaGreatDoor
open Go.RowKit

theorem eqTo_self (f : Nat → Int) : ∀ n, eqTo f f n = true
  | 0 => rfl
  | n + 1 => eqTo_succ (eqTo_self f n) rfl
theorem sameParts_none (a a' : Option Addr) (c c' : Nat) (w : World) :
    Calls Tryz.prog 21 #[.slice a 0 c, .slice a' 0 c'] w fun e w' => e = .returned (.bool true) ∧ ∃ k, w' = w.drewN k := by
  go_enter Tryz.func21, Tryz.ntmps21
  go_wp2
  refine wp_loop_rounds 1 ?_
  rw [rounds_succ]
  go_wp2
  go_ret
  exact ⟨rfl, 0, rfl⟩

set_option maxRecDepth 100000 in
set_option maxHeartbeats 2000000 in
theorem sameParts_true (n : Nat) (nm : Nat → ByteArray) (B : Nat → Int) (M : Nat → Nat) (X : Nat → Nat → Int) (a a' : Option Addr) (c c' : Nat) (A A' : Nat → Option Addr) (C C' : Nat → Nat) (w : World) (hn : n ≤ 1000) (hM : ∀ i, i < n → M i ≤ 1000)
    (hx : PartRow w a n nm B A M C X) (hy : PartRow w a' n nm B A' M C' X) :
    Calls Tryz.prog 21 #[.slice a n c, .slice a' n c'] w fun e w' => e = .returned (.bool true) ∧ ∃ k, w' = w.drewN k := by
  rcases hx with h0 | ⟨bx, ox, rfl, hx⟩
  · subst h0
    exact sameParts_none a a' c c' w
  rcases hy with h0 | ⟨bY, oY, rfl, hy⟩
  · subst h0
    exact sameParts_none _ a' c c' w
  have hnn : ((n : Int) != (n : Int)) = false := by simp
  go_enter Tryz.func21, Tryz.ntmps21
  go_wp2
  clear hnn
  go_loopw [5] (fun i wr => ∃ k j : Nat, k ≤ n ∧ i = .int .i64 k ∧ wr = w.drewN j) (fun i _ => n - (intOf i).toNat)
  case atStart => exact ⟨0, 0, Nat.zero_le _, rfl, rfl⟩
  case round =>
    obtain ⟨k, j, hk, rfl, hwr⟩ := hrel
    by_cases hlt : k < n
    · have hbw : Below w.heap.size w wr := by rw [hwr]; exact below_drewN (Below.refl _ _) j
      have x0 := cell_later hbw (hx k hlt).1
      have x1 := cell_later hbw (hx k hlt).2.1
      have x2 := cell_later hbw (hx k hlt).2.2.1
      have xr := (hx k hlt).2.2.2.later hbw
      have y0 := cell_later hbw (hy k hlt).1
      have y1 := cell_later hbw (hy k hlt).2.1
      have y2 := cell_later hbw (hy k hlt).2.2.1
      have yr := (hy k hlt).2.2.2.later hbw
      have hMk := hM k hlt
      have Hwr : Hid (wr = w.drewN j) := hwr
      clear hx hy hbw hwr
      have HS : ∀ q : Nat, Calls Tryz.prog 68 #[.slice (A k) (M k) (C k), .slice (A' k) (M k) (C' k)] (wr.drewN q) fun e w' => e = .returned (.bool true) ∧ ∃ m, w' = (wr.drewN q).drewN m := fun q => by
        have := sameNumbers_any (X k) (X k) (M k) (M k) (A k) (A' k) (C k) (C' k) (wr.drewN q) (by omega) (xr.drewN q) (yr.drewN q)
        rwa [show (decide (M k = M k) && eqTo (X k) (X k) (M k)) = true by rw [decide_eq_true rfl, Bool.true_and]; exact eqTo_self (X k) (M k)] at this
      have hsn : ((nm k).toList != (nm k).toList) = false := by simp
      have hsb : (B k != B k) = false := by simp
      clear xr yr
      go_wp2
      go_quiet (exact Calls.quiet_of (HS _))
      clear HS
      go_wp2
      go_quiet (fail)
      go_wp2
      go_roundw
      case rel =>
        rw [Hwr.out]
        simp only [World.drewN_drewN]
        exact ⟨k + 1, _, by omega, by go_num, rfl⟩
      case measure => simp [intOf]; omega
    · clear hx hy
      go_wp2
      go_ret
      exact ⟨rfl, j, rfl⟩
end Go.Proofs.YtbbhjpbacobmjaaGreatDoor

namespace Go.Proofs.YtbbhjpbacobmjaaGreatDoor
open Go.RowKit

theorem samePats_zero (a c : Option Addr) (ca cb : Nat) (w : World) :
    Calls Tryz.prog 23 #[.slice a 0 ca, .slice c 0 cb] w fun e w' => e = .returned (.bool true) ∧ ∃ k, w' = w.drewN k := by
  go_enter Tryz.func23, Tryz.ntmps23
  go_wp2
  refine wp_loop_rounds 1 ?_
  rw [rounds_succ]
  go_wp2
  go_ret
  exact ⟨rfl, 0, rfl⟩

set_option maxHeartbeats 1000000 in
theorem samePats_true (p t v : Nat → Int) (n : Nat) (a c : Option Addr) (ca cb : Nat) (w : World) (hm : n ≤ 1000000) (hx : PatRow w a n p t v) (hy : PatRow w c n p t v) :
    Calls Tryz.prog 23 #[.slice a n ca, .slice c n cb] w fun e w' => e = .returned (.bool true) ∧ ∃ k, w' = w.drewN k := by
  rcases hx with h0 | ⟨bx, ox, rfl, hx⟩
  · subst h0
    exact samePats_zero a c ca cb w
  rcases hy with h0 | ⟨bY, oY, rfl, hy⟩
  · subst h0
    exact samePats_zero _ c ca cb w
  go_enter Tryz.func23, Tryz.ntmps23
  go_wp2
  go_loopw [5] (fun i wr => ∃ k j : Nat, k ≤ n ∧ i = .int .i64 k ∧ wr = w.drewN j) (fun i _ => n - (intOf i).toNat)
  case atStart => exact ⟨0, 0, Nat.zero_le _, rfl, rfl⟩
  case round =>
    obtain ⟨k, j, hk, rfl, rfl⟩ := hrel
    by_cases hlt : k < n
    · obtain ⟨x0, x1, x2⟩ := hx k hlt
      obtain ⟨y0, y1, y2⟩ := hy k hlt
      clear hx hy
      generalize p k = z0 at *
      generalize t k = z1 at *
      generalize v k = z2 at *
      go_wp2
      go_quiet (fail)
      go_wp2
      go_roundw
      case rel => exact ⟨k + 1, j + nq, by omega, by go_num, rfl⟩
      case measure => simp [intOf]; omega
    · clear hx hy
      go_wp2
      go_ret
      exact ⟨rfl, j, rfl⟩
end Go.Proofs.YtbbhjpbacobmjaaGreatDoor

namespace Go.Proofs.YtbbhjpbacobmjaaGreatDoor
open Go.RowKit Go.Maps

theorem atEnd_form {n : Nat} {B : Nat → Int} {M : Nat → Nat} {X : Nat → Nat → Int} {at' : Int} {e : Ending} (h : AtEnd n B M X at' e) : ∃ (x : Int) (is : Bool), e = .returned (.tuple #[.int .i64 x, .bool is]) ∧ (∀ i, i < n → hasB B M at' i = true → (∀ j, j < i → hasB B M at' j = false) → is = true ∧ x = X i (at' - B i).toNat) ∧ ((∀ j, j < n → hasB B M at' j = false) → is = false ∧ x = 0) := by
  cases h with
  | yes r hr h hf =>
    refine ⟨_, _, rfl, fun i hi h1 h2 => ?_, fun hn => ?_⟩
    · have : i = r := by
        rcases Nat.lt_trichotomy i r with e | e | e
        · rw [hf i e] at h1; cases h1
        · exact e
        · rw [h2 r e] at h; cases h
      subst this
      exact ⟨rfl, rfl⟩
    · rw [hn r hr] at h; cases h
  | no h => exact ⟨_, _, rfl, (fun i hi h1 _ => by rw [h i hi] at h1; cases h1), fun _ => ⟨rfl, rfl⟩⟩
set_option maxRecDepth 100000 in
set_option maxHeartbeats 8000000 in
theorem images_any (w : World) (hE : Env w) : Calls Tryz.prog 18 #[] w fun e w' => e = .returned (.bool true) ∧ Below w.heap.size w w' := by
  have HN := new_any w
  have q0 : errV 0 = .nilIface := rfl
  go_enter Tryz.func18, Tryz.ntmps18
  go_wp2_with fail
  refine HN.mono ?_
  rintro e w1 ⟨p1, bm1, rfl, hp1, hbm1, hF1, hb⟩
  clear HN
  have HW := write_any w1 p1 bm1 (.map []) 0 bnA zzT hF1 (by decide) (by decide)
  rw [write_ia] at HW
  go_wp2_with fail
  refine HW.mono ?_
  intro e w2 hEnd
  have he := hEnd.e
  rw [q0] at he
  subst he
  have hF2 := hEnd.yes rfl
  have hb2 := hb.trans (hEnd.turned.below hb.size hp1 hbm1)
  obtain ⟨T, hT⟩ := texts_some fia
  have HL := load_any w2 p1 bm1 fia 1 T bnA hF2 inv_ia hT (hE.later hb2) (by decide)
  obtain ⟨P, Q, hR, hbd, hnW, _⟩ := reck_one (rd_ia hT)
  clear HW hEnd hF1 hb hF2
  go_wp2_with fail
  refine HL.mono ?_
  rintro e w4 ⟨he, hb4⟩
  have hb5 := hb2.trans (hb4.mono hb2.size)
  clear HL hb2 hb4
  cases he with
  | bad F h hf => exact (h.not hR).elim
  | ok m B P' Q' u g A C G h hu =>
    obtain ⟨rfl, rfl, rfl, rfl⟩ := h.unique hR
    obtain ⟨au, cu, rfl, _, hrow⟩ := parts_row hu
    have HAt := at_any au 1 cu _ (fun _ => 0) A _ C _ 0 w4 (by decide) (fun _ _ => by decide) (fun i hi => by
      obtain rfl : i = 0 := by omega
      show (obAt (rdD fia T) bnA 0).nW ≤ 1000
      rw [hnW]; decide) (by decide) hrow
    clear hu hrow hR h
    go_wp2_with fail
    refine (show Calls _ _ _ _ _ from HAt).mono ?_
    rintro e w6 ⟨hAE, hb6⟩
    obtain ⟨x, is, rfl, hyes, _⟩ := atEnd_form hAE
    obtain ⟨rfl, rfl⟩ := hyes 0 (by decide) (by unfold hasB; rw [decide_eq_true (by decide), decide_eq_true (by show (0 : Int) < 0 + ((obAt (rdD fia T) bnA 0).nW : Int); rw [hnW]; decide)]; rfl) (fun j hj => by omega)
    rw [show ((0 : Int) - 0).toNat = 0 from rfl, hbd]
    have HS0 := fun W => same_nil 0 W
    have hb7 := hb5.trans (hb6.mono hb5.size)
    clear hAE hyes HAt hbd hnW hT
    go_wp2_with fail
    refine (show Calls _ _ _ _ _ from HS0 _).mono ?_
    rintro e w8 ⟨rfl, rfl⟩
    go_wp2
    go_ret
    exact ⟨rfl, hb7⟩
set_option maxRecDepth 100000 in
set_option maxHeartbeats 16000000 in
theorem imageSays_walk (a : Option Addr) (n c : Nat) (X : Nat → ActF) (root : ByteArray) (at' : Int) (w : World) (hat : at' ≤ 9223372036854775807) (hat' : -9223372036854775808 ≤ at') (hE : Env w) (hr : ActsRow w a n X) (hf : ∀ i, i < n → ActFit (X i)) :
    Calls Tryz.prog 4 #[.slice a n c, .string root, .int .i64 at'] w fun e w' => e = .returned (.bool true) ∧ Below w.heap.size w w' := by
  have HC := images_any w hE
  go_enter Tryz.func4, Tryz.ntmps4
  go_wp2_with fail
  refine (show Calls _ _ _ _ _ from HC).mono ?_
  rintro e w1 ⟨rfl, hb1⟩
  clear HC
  have HL := lightActs_any a n c 30 X w1 (by decide) (hr.later hb1) hf
  clear hf
  go_wp2_with fail
  refine (show Calls _ _ _ _ _ from HL).mono ?_
  rintro e w2 ⟨⟨b, rfl, hlb⟩, hb2⟩
  clear HL
  have hb2' := hb1.trans (hb2.mono hb1.size)
  clear hb1 hb2
  cases b with
  | false =>
    clear hlb
    go_wp2
    go_ret
    exact ⟨rfl, hb2'⟩
  | true =>
  obtain ⟨h30, hsz⟩ := hlb rfl
  clear hlb
  by_cases hs : (50 : Int) < (root.size : Int)
  · go_wp2
    go_ret
    exact ⟨rfl, hb2'⟩
  have hroot : root.size ≤ maxLen := by simp only [maxLen]; omega
  have HFi := filed_any a n c X w2 (hr.later hb2') (by omega) hsz
  clear hr hsz
  go_wp2_with fail
  refine (show Calls _ _ _ _ _ from HFi).mono ?_
  rintro e w4 ⟨⟨p, bm, q, D, L, k, rfl, hBo, hp, hbm⟩, hb4⟩
  clear HFi
  have hb4' := hb2'.trans (hb4.mono hb2'.size)
  obtain ⟨T, hT⟩ := texts_some D
  have HLd := load_any w4 p bm D k T root hBo.f hBo.inv hT (hE.later hb4') hroot
  have hL6 := hBo.len
  have hfew := rd_few (T := T) hBo.inv
  go_wp2_with fail
  refine (show Calls _ _ _ _ _ from HLd).mono ?_
  rintro e w5 ⟨hLE, hb5⟩
  clear HLd
  have hb5' := hb4'.trans (hb5.mono hb4'.size)
  have HR := refLoaded_any w2.heap.size w5 q L k D T root (hBo.later hb5).r (by omega) hBo.agree hBo.inv hT
  have HRk := fun (W : World) (hW : Below w5.heap.size w5 W) => reckon_any W p bm D k T root ((hBo.f.later hb5).later hW) hBo.inv hT (hE.later (hb5'.trans (hW.mono hb5'.size))) hroot
  have hlim : ∀ m Bs P Q, Reckoned (rdD D T) root m Bs P Q → m ≤ 6 ∧ (∀ i, i < m → (obAt (rdD D T) root i).nW ≤ 40) ∧ (∀ i, i < m → 0 ≤ Bs i ∧ Bs i ≤ 256) ∧ (patsAt (rdD D T) root m Bs P Q).length ≤ 36 := fun m Bs P Q hR => by
    have hSc := (scope_of hR.of hfew).1
    have hok : ∀ j, j < m → ObjOk (obAt (rdD D T) root j) := fun j hj => rd_ok (D := D) (T := T) (s := nmAt (rdD D T) root j) (by rw [hSc.read j hj])
    have h6 := hSc.few
    refine ⟨h6, fun i hi => (hok i hi).nW, fun i hi => ?_, ?_⟩
    · have := base_ok hR.bases hi (by show (1 : Int) ≤ ((obAt (rdD D T) root i).nW : Int); have := (hok i hi).nW0; omega) (by show ((obAt (rdD D T) root i).nW : Int) ≤ 40; have := (hok i hi).nW; omega)
      omega
    · have : (patsAt (rdD D T) root m Bs P Q).length ≤ 6 * m := patsTo_le (O := obAt (rdD D T) root) P Q Bs (i := m) fun j hj => (hok j hj).nT
      omega
  clear hBo hT hfew
  generalize rdD D T = rd at *
  cases hLE with
  | bad F hRk hF =>
    obtain ⟨z, hz⟩ := errV_pos hF
    have HSm := fun W => same_self F W
    have hpos : (0 : Int) < (F : Int) := by omega
    rw [hz] at HSm
    rw [hz]
    go_wp2_with fail
    refine (show Calls _ _ _ _ _ from HR).mono ?_
    rintro e w6 ⟨hRE, hb6⟩
    clear HR
    have hb6' := hb5'.trans (hb6.mono hb5'.size)
    cases hRE with
    | ok m Bs P Q u v A C h hu hv => exact (hRk.not h).elim
    | bad F' h' hF' =>
      obtain rfl := hRk.unique h'
      go_wp2_with fail
      refine (show Calls _ _ _ _ _ from HSm _).mono ?_
      rintro e w7 ⟨rfl, rfl⟩
      have HSP := fun W => sameParts_none none none 0 0 W
      go_wp2_with fail
      refine (show Calls _ _ _ _ _ from HSP _).mono ?_
      rintro e w7 ⟨rfl, kk, rfl⟩
      have hbk := below_drewN hb6 kk
      have HRK := HRk _ hbk
      have hbk' := below_drewN hb6' kk
      clear HRk
      go_wp2_with fail
      refine (show Calls _ _ _ _ _ from HRK).mono ?_
      rintro e w8 ⟨hKE, hb8⟩
      have hb8' := hbk'.trans (hb8.mono hbk'.size)
      cases hKE with
      | ok m Bs P Q u x b pp V h hu hx hb hp => exact (hRk.not h).elim
      | bad F2 h2 hF2 =>
        obtain rfl := hRk.unique h2
        rw [hz]
        clear HRK hRk h' h2
        go_wp2_with fail
        refine (show Calls _ _ _ _ _ from HSm _).mono ?_
        rintro e w9 ⟨rfl, rfl⟩
        go_wp2
        go_ret
        exact ⟨rfl, hb8'⟩
  | ok m Bs P Q u g A C G hRk hu =>
    obtain ⟨hm6, hnw, hbs, hpl⟩ := hlim m Bs P Q hRk
    obtain ⟨au, cu, rfl, _, hrow⟩ := parts_row hu
    clear hu hlim
    go_wp2_with fail
    refine (show Calls _ _ _ _ _ from HR).mono ?_
    rintro e w6 ⟨hRE, hb6⟩
    clear HR
    have hb6' := hb5'.trans (hb6.mono hb5'.size)
    cases hRE with
    | bad F' h' hF' => exact (h'.not hRk).elim
    | ok m' Bs' P' Q' u' v' A' C' h' hu' hv' =>
      obtain ⟨rfl, rfl, rfl, rfl⟩ := hRk.unique h'
      obtain ⟨au', cu', rfl, hcu', hrow'⟩ := hu'.rows
      obtain ⟨aq, cq, rfl, _, hq⟩ := rows_pat hv'
      have HSm := fun W => same_nil 0 W
      have HSP := fun (W : World) (hW : Below w6.heap.size w6 W) => sameParts_true m (nmAt rd root) Bs _ _ au au' cu cu' A A' C C' W (by omega) (fun i hi => by have := hnw i hi; omega) ((hrow.later hb6).later hW) (hrow'.later hW)
      clear hu' hv' h'
      go_wp2_with fail
      refine (show Calls _ _ _ _ _ from HSm _).mono ?_
      rintro e w7 ⟨rfl, rfl⟩
      go_wp2_with fail
      refine (show Calls _ _ _ _ _ from HSP _ (Below.refl _ _)).mono ?_
      rintro e w7 ⟨rfl, kk, rfl⟩
      clear HSP
      have hbk := below_drewN (Below.refl w6.heap.size w6) kk
      have hb5k := hb6.trans (hbk.mono hb6.size)
      have HRK := HRk _ hb5k
      have hbk' := below_drewN hb6' kk
      have hrowk := hrow.later hb5k
      have hrowk' := hrow'.later hbk
      have hqk := hq.later hbk
      clear HRk hrow hrow' hq
      go_wp2_with fail
      refine (show Calls _ _ _ _ _ from HRK).mono ?_
      rintro e w8 ⟨hKE, hb8⟩
      clear HRK
      have hb8' := hbk'.trans (hb8.mono hbk'.size)
      cases hKE with
      | bad F2 h2 hF2 => exact (h2.not hRk).elim
      | ok m2 B2 P2 Q2 un xo bo po V h2 hun hxo hbo hpo =>
        obtain ⟨rfl, rfl, rfl, rfl⟩ := hRk.unique h2
        obtain ⟨hnl, hng⟩ : (namesAt rd root m).length = m ∧ ∀ i, i < m → (namesAt rd root m).getD i ⟨#[]⟩ = nmAt rd root i := by
          have hO := hRk.of
          generalize hF : (0 : Nat) = F at hO
          cases hO with
          | bad _ _ _ hf => exact absurd hF.symm hf
          | ok _ h hi =>
            refine ⟨hi, fun i hlt => ?_⟩
            rw [List.getD_eq_getElem?_getD, names_get (Nat.le_of_lt hlt) (h i hlt).1]
            rfl
        obtain ⟨an, cn, rfl, _, hrn⟩ := ownTx_row hun
        rw [hnl] at hrn
        rw [hnl]
        obtain ⟨ab, cb, rfl, _, hrb⟩ := rows_int hbo
        obtain ⟨ap, cp, rfl, _, hrp⟩ := rows_pat hpo
        obtain ⟨ax, cx, rfl, _, hrx⟩ := hxo.own.row hxo.at'
        have hqk8 := hqk.later hb8
        have hrow8 := hrowk.later hb8
        have hrow8' := hrowk'.later hb8
        have HPT := samePats_true (pP (patsAt rd root m Bs P Q)) (pT (patsAt rd root m Bs P Q)) (pV (patsAt rd root m Bs P Q)) (patsAt rd root m Bs P Q).length aq ap cq cp w8 (by omega) hqk8 hrp
        clear h2 hun hbo hpo hxo hqk hrowk hrowk' hb8
        generalize patsAt rd root m Bs P Q = pl at *
        go_wp2_with fail
        refine (show Calls _ _ _ _ _ from HPT).mono ?_
        rintro e w9 ⟨rfl, kq, rfl⟩
        clear HPT hqk8 hrp
        have hb9 := below_drewN (Below.refl w8.heap.size w8) kq
        have hb9' := below_drewN hb8' kq
        have HAt := at_any au m cu _ Bs A _ C _ at' (w8.drewN kq) (by omega) hbs (fun i hi => by have := hnw i hi; omega) hat (hrow8.later hb9)
        go_wp2_with fail
        refine (show Calls _ _ _ _ _ from HAt).mono ?_
        rintro e w10 ⟨hAE, hb10⟩
        clear HAt hrow8
        obtain ⟨x, is, rfl, hyes, hno⟩ := atEnd_form hAE
        have hb11 := hb9.trans (hb10.mono hb9.size)
        have hb12 := hb9'.trans (hb10.mono hb9'.size)
        have hR9 := hrow8'.later hb11
        have hN9 := hrn.later hb11
        have hB9 := hrb.later hb11
        have hX9 := hrx.later hb11
        clear hAE hrow8' hrn hrb hrx hb10 hb9 hb11 hb9'
        have HYES : Hid (∀ i, i < m → hasB Bs (fun i => (obAt rd root i).nW) at' i = true → (∀ j, j < i → hasB Bs (fun i => (obAt rd root i).nW) at' j = false) → is = true ∧ x = boundW rd root m Bs P Q i (at' - Bs i).toNat) := hyes
        have HNO : Hid ((∀ j, j < m → hasB Bs (fun i => (obAt rd root i).nW) at' j = false) → is = false ∧ x = 0) := hno
        clear hyes hno hRk
        go_wp2
        go_loopw [21] (fun y wr => ∃ i d : Nat, i ≤ m ∧ y = .int .i64 i ∧ Hid (∀ j, j < i → hasB Bs (fun i => (obAt rd root i).nW) at' j = false) ∧ wr = w10.drewN d) (fun y _ => m - (intOf y).toNat)
        case atStart => exact ⟨0, 0, Nat.zero_le _, rfl, fun j hj => by omega, rfl⟩
        case round =>
          obtain ⟨i, d, hi, rfl, HK, rfl⟩ := hrel
          by_cases hlt : i < m
          · rcases hR9 with h0 | ⟨bR, oR, rfl, hcR⟩
            · omega
            rcases hN9 with h0 | ⟨bN, oN, rfl, hcN⟩
            · omega
            rcases hB9 with h0 | ⟨bB, oB, rfl, hcB⟩
            · omega
            rcases hX9 with h0 | ⟨bX, oX, rfl, hcX⟩
            · omega
            obtain ⟨r0, r1, r2, hrw⟩ := hcR i hlt
            have n0 : w10.cell? ⟨bN, oN + i, none⟩ = some (.string (nmAt rd root i)) := by rw [hcN i hlt]; show some (Value.string _) = some (Value.string _); rw [hng i hlt]
            have b0 : w10.cell? ⟨bB, oB + i, none⟩ = some (.int .i64 (Bs i)) := hcB i hlt
            have x1 := (hcX i hlt).c1
            have hbi := hbs i hlt
            have hwi := hnw i hlt
            have hi0 : (0 : Int) ≤ (i : Int) := by omega
            have hi1 : (i : Int) < (m : Int) := by omega
            have hee : ((nmAt rd root i).toList == (nmAt rd root i).toList) = true := by simp
            have hbb : (Bs i != Bs i) = false := by simp
            have hmm : ((((obAt rd root i).nW : Nat) : Int) != (((obAt rd root i).nW : Nat) : Int)) = false := by simp
            have hwf : RowAt w10 (A' i) (obAt rd root i).nW fun j => .int .i64 (boundW rd root m Bs P Q i j) := hrw
            clear hcR hcN hcB hcX hrw hng
            dsimp only at r2
            generalize hnm : nmAt rd root i = nm at *
            generalize hOi : (obAt rd root i).nW = M at *
            generalize hBi : Bs i = bi at *
            have HM : Hid ((obAt rd root i).nW = M) := hOi
            have HBI : Hid (Bs i = bi) := hBi
            clear hnm hOi hBi
            by_cases h1 : at' < bi
            · have g1 : decide (bi ≤ at') = false := decide_eq_false (by omega)
              have HE : Hid (∀ j, j < i + 1 → hasB Bs (fun i => (obAt rd root i).nW) at' j = false) := fun j hj => by
                by_cases e : j = i
                · subst e; unfold hasB; rw [HBI.out, decide_eq_false (by omega), Bool.false_and]
                · exact HK.out j (by omega)
              clear HK hwf
              go_wp2
              go_quiet (fail)
              go_wp2
              go_quiet (fail)
              go_wp2
              go_roundw
              case rel => exact ⟨i + 1, _, by omega, by go_num, HE, rfl⟩
              case measure => simp [intOf]; omega
            · obtain ⟨y, hy⟩ : ∃ y : Nat, at' = bi + y := ⟨(at' - bi).toNat, by omega⟩
              have g1 : decide (bi ≤ at') = true := decide_eq_true (by omega)
              by_cases h2 : y < M
              · have g2 : decide (at' < bi + (M : Int)) = true := decide_eq_true (by omega)
                obtain ⟨hi1', hi2'⟩ := HYES.out i hlt (by show (decide (Bs i ≤ at') && decide (at' < Bs i + ((obAt rd root i).nW : Int))) = true; rw [HBI.out, HM.out, decide_eq_true (by omega), decide_eq_true (by omega)]; rfl) HK.out
                rw [HBI.out, show (at' - bi).toNat = y by omega] at hi2'
                subst hi1'
                rcases hwf with h0 | ⟨bw, ow, ha, hcw⟩
                · omega
                rw [ha] at r2
                have hcy : w10.cell? ⟨bw, ow + y, none⟩ = some (.int .i64 (boundW rd root m Bs P Q i y)) := hcw y h2
                rw [← hi2'] at hcy
                have hsub : at' - bi = (y : Int) := by omega
                have hy0 : (0 : Int) ≤ (y : Int) := by omega
                have hy1 : (y : Int) < (M : Int) := by omega
                have hxx : (x == x) = true := by simp
                clear hcw hi2' HYES HNO hy
                go_wp2
                go_quiet (fail)
                go_wp2
                go_quiet (fail)
                go_wp2
                go_quiet (fail)
                go_wp2
                go_ret
                exact ⟨rfl, below_drewN (below_drewN (below_drewN (below_drewN hb12 _) _) _) _⟩
              · have g2 : decide (at' < bi + (M : Int)) = false := decide_eq_false (by omega)
                have HE : Hid (∀ j, j < i + 1 → hasB Bs (fun i => (obAt rd root i).nW) at' j = false) := fun j hj => by
                  by_cases e : j = i
                  · subst e; show (decide (Bs j ≤ at') && decide (at' < Bs j + ((obAt rd root j).nW : Int))) = false; rw [HBI.out, HM.out, decide_eq_false (p := at' < bi + (M : Int)) (by omega), Bool.and_false]
                  · exact HK.out j (by omega)
                clear HK hwf hy
                go_wp2
                go_quiet (fail)
                go_wp2
                go_quiet (fail)
                go_wp2
                go_roundw
                case rel => exact ⟨i + 1, _, by omega, by go_num, HE, rfl⟩
                case measure => simp [intOf]; omega
          · obtain rfl : i = m := by omega
            obtain ⟨hq1, hq2⟩ := HNO.out HK.out
            subst hq1
            subst hq2
            clear HYES HNO HK
            go_wp2
            go_ret
            exact ⟨rfl, below_drewN hb12 _⟩
end Go.Proofs.YtbbhjpbacobmjaaGreatDoor
