/-
  What SameParts returns, of two lists of parts that are alike: true; memory stays as it was.
  What number returns of an error of package api: its number; memory stays as it was.
  What is kept is as good as new: what TopKept returns, for every row of acts and every root: true; memory that was there stays as it was.
  What Load of a loader answers, with the word on how: by what is kept just where there is an entry of that root whose stamps are those of now.
  What Get answers behind a Drop, in plain words: nothing of what was dropped; of all others what it answered ahead of it.
  What there is behind a Put, and that what was just made is fresh, in plain words.
  What is dropped is kept no more; what others have stays kept: what TopDrop returns, for every row of acts and every two roots: true; memory that was there stays as it was.
-/
import Derived.Test.YtidabcoodolddaaGreatDoorImageSmall
import Derived.Test.YtidabcoodolddaaGreatDoorReadyOne
import Derived.Deep.QuietTactic
import Derived.BigQuiet
import Derived.Test.YtidabcoodolddaaGreatDoorErr
import Derived.Test.YtidabcoodolddaaGreatDoorReadyTwo
import Derived.Test.YtidabcoodolddaaGreatDoorShelfTop
namespace Go.Proofs.YtidabcoodolddaaGreatDoor
open Go.RowKit

end Go.Proofs.YtidabcoodolddaaGreatDoor

namespace Go.Proofs.YtidabcoodolddaaGreatDoor
open Go.RowKit

theorem assertN_errno (n : Int) (w : World) : (Instr.typeAssert (.iface 82 (.int .i64 n)) 32 82 true).run Tryz.prog w = .ok (.tuple #[.int .i64 n, .bool true]) w := by kernel_rfl
theorem number_nil (w : World) : Calls Tryz.prog 13 #[.nilIface] w fun e w' => e = .returned (.int .i64 0) ∧ w = w' := by
  go_enter Tryz.func13, Tryz.ntmps13
  go_wp2
  go_ret
  exact ⟨rfl, rfl⟩
theorem number_errno (n : Int) (w : World) : Calls Tryz.prog 13 #[.iface 82 (.int .i64 n)] w fun e w' => e = .returned (.int .i64 n) ∧ w = w' := by
  have ha := assertN_errno n
  go_enter Tryz.func13, Tryz.ntmps13
  go_wp2
  go_ret
  exact ⟨rfl, rfl⟩
theorem numberErr_any (f : Nat) (w : World) : Calls Tryz.prog 13 #[errV f] w fun e w' => e = .returned (.int .i64 (f : Int)) ∧ w = w' := by
  cases f with
  | zero => exact number_nil w
  | succ f => exact number_errno _ w
end Go.Proofs.YtidabcoodolddaaGreatDoor

namespace Go.Proofs.YtidabcoodolddaaGreatDoor
open Go.RowKit Go.Maps

theorem getE_is {E : Nat → EntF} {k : Nat} {root : ByteArray} (hg : (getE E k root).1 = true) : ∃ j, j < k ∧ (E j).root = root ∧ (getE E k root).2 = E j := by
  unfold getE at hg ⊢
  split at hg
  · cases hg
  · rename_i hn
    obtain ⟨j, _, hj, hr, hfj⟩ := findF_some _ 0 rfl (show 0 ≤ findF E root k 0 by omega)
    rw [if_neg hn, hfj]
    exact ⟨j, hj, hr, rfl⟩
end Go.Proofs.YtidabcoodolddaaGreatDoor

namespace Go.Proofs.YtidabcoodolddaaGreatDoor
open Go.RowKit Go.Maps

def freshE (D : DataW Unit) (S : ByteArray → Int) (e : EntF) : Bool := !staleTo D S e.pName e.pStamp e.nP && decide (0 < e.nP)
theorem freshE_same {D : DataW Unit} {S : ByteArray → Int} {a b : EntF} (h : SameE a b) : freshE D S a = freshE D S b := by
  have e : staleTo D S a.pName a.pStamp b.nP = staleTo D S b.pName b.pStamp b.nP := anyTo_congr fun i hi => by rw [(h.parts i hi).1, (h.parts i hi).2.1]
  unfold freshE
  rw [h.nP, e]
theorem loads_flag {w : World} {B0 : Nat} {D : DataW Unit} {kf : Nat} {T : ByteArray → ByteArray} {S : ByteArray → Int} {E : Nat → EntF} {k : Nat} {root : ByteArray} {e : Ending} (h : LoadsEnd w B0 D S (rdD D T) root (getE E k root) e) (hI : Inv D kf) (hT : Texts D T) (hS : Stamps D S) (hH : ∀ i, i < k → Held D kf (E i)) :
    ∃ (u : Value) (F : Nat) (w1 : World) (B1 : Nat), e = .returned (.tuple #[u, .bool ((getE E k root).1 && freshE D S (getE E k root).2), errV F]) ∧ (F ≠ 0 → ((getE E k root).1 && freshE D S (getE E k root).2) = false) ∧ B0 ≤ B1 ∧ Below w1.heap.size w1 w ∧ LoadEnd w1 B1 (rdD D T) root (.returned (.tuple #[u, errV F])) := by
  cases h with
  | kept en u F w1 B1 hB hw hr hs hf hu =>
    have hfl : ((getE E k root).1 && freshE D S (getE E k root).2) = true := by rw [hr, ← freshE_same hs]; exact hf
    obtain ⟨j, hj, hjr, hje⟩ := getE_is hr
    have hs' := hs
    rw [hje] at hs'
    obtain ⟨h1, h2⟩ := kept_load hI hT hS (hH j hj) hjr hs' hf hu
    subst hw
    rw [hfl]
    exact ⟨u, F, w1, B1, by rw [decide_eq_true h2], fun h => absurd h2 h, hB, (Below.refl _ w1).drew, h1⟩
  | new u F B1 hB hr hl =>
    have hfl : ((getE E k root).1 && freshE D S (getE E k root).2) = false := by
      rcases hr with hr | ⟨en, hs, hf⟩
      · rw [hr]; rfl
      · rw [← freshE_same hs]
        have : freshE D S en = false := hf
        rw [this, Bool.and_false]
    rw [hfl]
    exact ⟨u, F, w, B1, rfl, fun _ => rfl, hB, Below.refl _ _, hl⟩
end Go.Proofs.YtidabcoodolddaaGreatDoor

namespace Go.Proofs.YtidabcoodolddaaGreatDoor
open Go.RowKit

theorem find_none {E : Nat → EntF} {root : ByteArray} {k : Nat} (h : ∀ i, i < k → (E i).root ≠ root) : findF E root k 0 < 0 := by
  by_cases h0 : findF E root k 0 < 0
  · exact h0
  · obtain ⟨j, _, hj, hr, _⟩ := findF_some _ 0 rfl (show 0 ≤ findF E root k 0 by omega)
    exact absurd hr (h j hj)
theorem getE_none {E : Nat → EntF} {root : ByteArray} {k : Nat} (h : ∀ i, i < k → (E i).root ≠ root) : getE E k root = (false, emptyE) := if_pos (find_none h)
theorem getE_some {E : Nat → EntF} {root : ByteArray} {k j : Nat} (ho : ∀ i j, i < k → j < k → (E i).root = (E j).root → i = j) (hj : j < k) (hr : (E j).root = root) : getE E k root = (true, E j) := by
  have h0 : ¬ findF E root k 0 < 0 := fun h => by
    have := findF_none _ 0 rfl h
    exact this j (Nat.zero_le _) hj hr
  obtain ⟨i, _, hi, hir, hf⟩ := findF_some _ 0 rfl (show 0 ≤ findF E root k 0 by omega)
  obtain rfl := ho i j hi hj (hir.trans hr.symm)
  unfold getE
  rw [if_neg h0, hf]
  rfl
theorem cut_once {E : Nat → EntF} {k j : Nat} (ho : ∀ i j, i < k → j < k → (E i).root = (E j).root → i = j) (hj : j < k) : ∀ p q, p < k - 1 → q < k - 1 → (cutV E j p).root = (cutV E j q).root → p = q := fun p q hp hq hpq => by
  unfold cutV at hpq
  split at hpq
  · split at hpq
    · exact ho p q (by omega) (by omega) hpq
    · have := ho p (q + 1) (by omega) (by omega) hpq; omega
  · split at hpq
    · have := ho (p + 1) q (by omega) (by omega) hpq; omega
    · have := ho (p + 1) (q + 1) (by omega) (by omega) hpq; omega
/-- what was dropped is there no more. -/
theorem getE_dropped {E : Nat → EntF} {k : Nat} {root : ByteArray} (ho : ∀ i j, i < k → j < k → (E i).root = (E j).root → i = j) : getE (dropE E k root).2.1 (dropE E k root).2.2 root = (false, emptyE) := by
  by_cases h : findF E root k 0 < 0
  · rw [dropE_none h]; exact if_pos h
  · obtain ⟨j, _, hj, hr, hf⟩ := findF_some _ 0 rfl (show 0 ≤ findF E root k 0 by omega)
    rw [dropE_cut hf]
    refine getE_none fun i hi he => ?_
    have hi' : i < k - 1 := hi
    have he' : (cutV E j i).root = root := he
    unfold cutV at he'
    split at he'
    · have := ho i j (by omega) hj (he'.trans hr.symm); omega
    · have := ho (i + 1) j (by omega) hj (he'.trans hr.symm); omega
/-- of all others it answers what it answered. -/
theorem getE_other {E : Nat → EntF} {k : Nat} {root other : ByteArray} (ho : ∀ i j, i < k → j < k → (E i).root = (E j).root → i = j) (hne : root ≠ other) : getE (dropE E k root).2.1 (dropE E k root).2.2 other = getE E k other := by
  by_cases h : findF E root k 0 < 0
  · rw [dropE_none h]
  · obtain ⟨j, _, hj, hr, hf⟩ := findF_some _ 0 rfl (show 0 ≤ findF E root k 0 by omega)
    rw [dropE_cut hf]
    show getE (cutV E j) (k - 1) other = getE E k other
    by_cases h2 : ∃ i, i < k ∧ (E i).root = other
    · obtain ⟨i, hi, hir⟩ := h2
      have hij : i ≠ j := fun e => hne (by rw [← hr, ← hir, e])
      rw [getE_some ho hi hir]
      by_cases hlt : i < j
      · rw [getE_some (j := i) (cut_once ho hj) (by omega) (by unfold cutV; rw [if_pos hlt]; exact hir)]
        unfold cutV
        rw [if_pos hlt]
      · have e1 : i - 1 + 1 = i := by omega
        rw [getE_some (j := i - 1) (cut_once ho hj) (by omega) (by unfold cutV; rw [if_neg (by omega), e1]; exact hir)]
        unfold cutV
        rw [if_neg (by omega), e1]
    · rw [getE_none (E := E) fun i hi e => h2 ⟨i, hi, e⟩]
      refine getE_none fun i hi e => ?_
      unfold cutV at e
      split at e
      · exact h2 ⟨i, by omega, e⟩
      · exact h2 ⟨i + 1, by omega, e⟩
end Go.Proofs.YtidabcoodolddaaGreatDoor

namespace Go.Proofs.YtidabcoodolddaaGreatDoor
open Go.RowKit Go.Maps

theorem LoadEnd.same_err {w w' : World} {B0 B1 : Nat} {rd : ByteArray → Nat × ObjF} {root : ByteArray} {u u' : Value} {F F' : Nat} (h : LoadEnd w B0 rd root (.returned (.tuple #[u, errV F]))) (h' : LoadEnd w' B1 rd root (.returned (.tuple #[u', errV F']))) : F = F' := by
  rcases h.which with ⟨_, _, h1⟩ | ⟨h0, m, B, P, Q, _, _, _, _, h1, _⟩
  · rcases h'.which with ⟨_, _, h2⟩ | ⟨_, m, B, P, Q, _, _, _, _, h2, _⟩
    · exact h1.unique h2
    · exact (h1.not h2).elim
  · rcases h'.which with ⟨_, _, h2⟩ | ⟨h3, _⟩
    · exact (h2.not h1).elim
    · rw [h0, h3]
theorem ShPut.calm {s : DSt} {n : Nat} {E : Nat → EntF} {k : Nat} {r : Nat × (Nat → EntF) × Nat} {s' : DSt} {e : Ending} (h : ShPut s n E k r s' e) (hS : Stands s n E k) (hl : s.left = -1) (hk : r.1 ≠ 0 → r.2 = (E, k)) : e = .returned (errV r.1) ∧ s'.left = -1 ∧ Stands s' n r.2.1 r.2.2 := by
  cases h with
  | bad h hs => subst hs; rw [hk h]; exact ⟨rfl, hl, hS⟩
  | keep _ h hk' =>
    cases hk' with
    | fell hl' _ => exact absurd hl hl'
    | ok hSt hl2 => exact ⟨by rw [h]; rfl, hl2 hl, hSt⟩
end Go.Proofs.YtidabcoodolddaaGreatDoor

namespace Go.Proofs.YtidabcoodolddaaGreatDoor
open Go.RowKit Go.Maps

/-- how many there are behind a Drop. -/
theorem dropE_many {E : Nat → EntF} {k : Nat} {root : ByteArray} : ((dropE E k root).1 = 5 ∧ (dropE E k root).2.2 = k) ∨ ((dropE E k root).1 = 0 ∧ (dropE E k root).2.2 + 1 = k) := by
  by_cases h : findF E root k 0 < 0
  · rw [dropE_none h]; exact .inl ⟨rfl, rfl⟩
  · obtain ⟨j, _, hj, hr, hf⟩ := findF_some _ 0 rfl (show 0 ≤ findF E root k 0 by omega)
    rw [dropE_cut hf]
    exact .inr ⟨rfl, show k - 1 + 1 = k by omega⟩
set_option maxRecDepth 100000 in
set_option maxHeartbeats 16000000 in
theorem topDrop_walk (a : Option Addr) (n c : Nat) (X : Nat → ActF) (root other : ByteArray) (w : World) (hE : Env w) (hr : ActsRow w a n X) (hf : ∀ i, i < n → ActFit (X i)) (hc : n ≤ c) :
    Calls Tryz.prog 5 #[.slice a n c, .string root, .string other] w fun e w' => e = .returned (.bool true) ∧ Below w.heap.size w w' := by
  have HRD := ready_any w hE
  go_enter Tryz.func5, Tryz.ntmps5
  go_wp2_with fail
  refine (show Calls _ _ _ _ _ from HRD).mono ?_
  rintro e w1 ⟨B, p, pf, bm, l, g, s, D0, rfl, hK1, hl1, hBw, hpf, hbm⟩
  clear HRD
  have HL := lightActs_any a n c 40 X w1 (by decide) (hr.later hK1.below) hf
  clear hf
  go_wp2_with fail
  refine (show Calls _ _ _ _ _ from HL).mono ?_
  rintro e w2 ⟨⟨b, rfl, hlb⟩, hb2⟩
  clear HL
  have hK2 := hK1.later hb2
  clear hK1 hb2
  cases b with
  | false =>
    clear hlb
    go_wp2
    go_ret
    exact ⟨rfl, hK2.below⟩
  | true =>
  obtain ⟨h40, hsz⟩ := hlb rfl
  clear hlb
  by_cases hs : (20 : Int) < (root.size : Int)
  · go_wp2
    go_ret
    exact ⟨rfl, hK2.below⟩
  by_cases hs2 : (20 : Int) < (other.size : Int)
  · go_wp2
    go_ret
    exact ⟨rfl, hK2.below⟩
  have hroot : root.size ≤ maxLen := by simp only [maxLen]; omega
  have hother : other.size ≤ maxLen := by simp only [maxLen]; omega
  have HP := play_any w w2 B p pf bm l g s (fun _ => emptyE) 0 D0 1 a n c X hE hK2 hBw hpf hbm hr hsz (by omega) (by decide) hc (.inl hl1)
  clear hK2 hr hsz
  go_wp2_with fail
  refine (show Calls _ _ _ _ _ from HP).mono ?_
  rintro e w3 ⟨l3, g3, s3, D, kf, rfl, hST, _⟩
  clear HP
  rcases hST with ⟨hcalm, E, k, hK⟩ | ⟨h1, _⟩
  · have hl3 := hcalm hl1
    obtain ⟨T, hT⟩ := texts_some D
    obtain ⟨S, hS⟩ := stamps_some D
    have HL1 := loaderLoad_any w3 B p 112 l3 g3 pf bm s3 E k D kf T S other hK.disk hK.stands hK.loader hK.shelf (hE.later hK.below) hK.files hK.inv hT hS hother
    go_wp2_with fail
    refine (show Calls _ _ _ _ _ from HL1).mono ?_
    rintro e w4 ⟨hLE, hb4⟩
    clear HL1
    obtain ⟨u1, F1, _, _, rfl, _, _, _, hLd1⟩ := loads_flag hLE hK.inv hT hS hK.held
    have hK4 := hK.later hb4
    clear hLE hK hb4
    have HR1 := loaderRoots_any w4 B p 112 l3 pf g3 s3 E k hK4.disk hK4.stands hK4.loader hK4.shelf (hE.later hK4.below)
    obtain ⟨q1, hq1⟩ : ∃ q1, ((getE E k other).1 && freshE D S (getE E k other).2) = q1 := ⟨_, rfl⟩
    rw [hq1]
    go_wp2_with fail
    refine (show Calls _ _ _ _ _ from HR1).mono ?_
    rintro e w5 ⟨vr, rfl, hOw1, hb5⟩
    clear HR1
    obtain ⟨ar, cr, rfl, _⟩ := rowsR hOw1
    have hK5 := hK4.later hb5
    clear hK4 hOw1 hb5
    have HDr := loaderDrop_any w5 B p 112 l3 pf g3 s3 E k root hK5.disk hK5.stands hK5.loader hK5.shelf (hE.later hK5.below)
    have hkf := hK5.stands.good.few
    have hd1 := getE_dropped (root := root) hK5.stands.good.once
    have hd2 : root ≠ other → getE (dropE E k root).2.1 (dropE E k root).2.2 other = getE E k other := fun hne => getE_other hK5.stands.good.once hne
    have hd3 := dropE_many (E := E) (k := k) (root := root)
    have hd4 : (dropE E k root).1 ≠ 0 → (dropE E k root).2 = (E, k) := dropE_kept
    have hd5 := held_dropE (root := root) hK5.held
    generalize dropE E k root = r at *
    go_wp2_with fail
    refine (show Calls _ _ _ _ _ from HDr).mono ?_
    rintro e w6 ⟨s6, hPE, hD6, hS6⟩
    clear HDr
    obtain ⟨he, hl6, hSt6⟩ := hPE.calm hK5.stands hl3 hd4
    subst he
    have hb6 := hK5.below.trans (hS6.below.mono hBw)
    have hK6 : KeptAt w w6 B p pf bm l3 g3 s6 r.2.1 r.2.2 D kf := { hK5 with disk := hD6, stands := hSt6, held := hd5, files := hK5.files.spun hS6, loader := hK5.loader.spun hS6, shelf := hK5.shelf.spun hS6, below := hb6 }
    clear hPE hK5 hD6 hS6 hSt6 hd4 hd5 hb6
    obtain ⟨rn, rE, rk⟩ := r
    dsimp only at *
    have HL2 := loaderLoad_any w6 B p 112 l3 g3 pf bm s6 rE rk D kf T S root hK6.disk hK6.stands hK6.loader hK6.shelf (hE.later hK6.below) hK6.files hK6.inv hT hS hroot
    go_wp2_with fail
    refine (show Calls _ _ _ _ _ from HL2).mono ?_
    rintro e w7 ⟨hLE, hb7⟩
    clear HL2
    obtain ⟨u2, F2, _, _, rfl, _, _, _, _⟩ := loads_flag hLE hK6.inv hT hS hK6.held
    have hK7 := hK6.later hb7
    clear hLE hK6 hb7
    have HL3 := loaderLoad_any w7 B p 112 l3 g3 pf bm s6 rE rk D kf T S other hK7.disk hK7.stands hK7.loader hK7.shelf (hE.later hK7.below) hK7.files hK7.inv hT hS hother
    rw [hd1]
    dsimp only [Bool.false_and]
    go_wp2_with fail
    refine (show Calls _ _ _ _ _ from HL3).mono ?_
    rintro e w8 ⟨hLE, hb8⟩
    clear HL3
    obtain ⟨u3, F3, _, _, rfl, _, _, _, hLd3⟩ := loads_flag hLE hK7.inv hT hS hK7.held
    have hF : F1 = F3 := hLd1.same_err hLd3
    subst hF
    have hK8 := hK7.later hb8
    clear hLE hK7 hb8 hLd1 hLd3
    have HR2 := loaderRoots_any w8 B p 112 l3 pf g3 s6 rE rk hK8.disk hK8.stands hK8.loader hK8.shelf (hE.later hK8.below)
    have hb8 := hK8.below
    clear hK8
    obtain ⟨q3, hq3⟩ : ∃ q3, ((getE rE rk other).1 && freshE D S (getE rE rk other).2) = q3 := ⟨_, rfl⟩
    have hqq : root ≠ other → q1 = q3 := fun hne => by rw [← hq1, ← hq3, hd2 hne]
    rw [hq3]
    clear hq1 hq3 hd1 hd2 hT hS
    rcases hd3 with ⟨rfl, hrk⟩ | ⟨rfl, hrk⟩
    · rw [show errV 5 = .iface 82 (.int .i64 5) from rfl]
      have HN5 := number_errno 5
      subst hrk
      go_wp2_with fail
      refine (HN5 _).mono ?_
      rintro e w9 ⟨rfl, rfl⟩
      go_wp2_with fail
      refine (show Calls _ _ _ _ _ from HR2).mono ?_
      rintro e w10 ⟨vs, rfl, hOw2, hb10⟩
      clear HR2
      obtain ⟨az, cz, rfl, _⟩ := rowsR hOw2
      go_wp2
      go_ret
      exact ⟨rfl, hb8.trans (hb10.mono hb8.size)⟩
    · rw [show errV 0 = .nilIface from rfl]
      have HNu := fun W => numberErr_any F1 W
      have hsub : (((rk : Nat) : Int) == ((k : Nat) : Int) - 1) = true := by rw [beq_iff_eq]; omega
      have hk1 : (1 : Int) ≤ ((k : Nat) : Int) := by omega
      have hk2 : ((k : Nat) : Int) ≤ 3 := by omega
      clear hrk
      go_wp2_with fail
      refine (show Calls _ _ _ _ _ from HR2).mono ?_
      rintro e w10 ⟨vs, rfl, hOw2, hb10⟩
      clear HR2
      obtain ⟨az, cz, rfl, _⟩ := rowsR hOw2
      have hb11 := hb8.trans (hb10.mono hb8.size)
      clear hOw2 hb10 hb8
      go_wp2_with fail
      refine (show Calls _ _ _ _ _ from HNu _).mono ?_
      rintro e w11 ⟨rfl, rfl⟩
      go_wp2_with fail
      refine (show Calls _ _ _ _ _ from HNu _).mono ?_
      rintro e w11 ⟨rfl, rfl⟩
      by_cases hro : root = other
      · have hb' : (root.toList == other.toList) = true := by rw [hro]; simp
        clear hqq
        go_wp2
        go_ret
        exact ⟨rfl, hb11⟩
      · have hb' : (root.toList == other.toList) = false := by rw [toList_beq]; exact decide_eq_false hro
        obtain rfl := hqq hro
        have hbb : (q1 == q1) = true := by simp
        go_wp2
        go_ret
        exact ⟨rfl, hb11⟩
  · exact absurd hl1 h1
end Go.Proofs.YtidabcoodolddaaGreatDoor
