/-
  What SameParts returns, of two lists of parts that are alike: true; memory stays as it was.
  What number returns of an error of package api: its number; memory stays as it was.
  What is kept is as good as new: what TopKept returns, for every row of acts and every root: true; memory that was there stays as it was.
  What Load of a loader answers, with the word on how: by what is kept just where there is an entry of that root whose stamps are those of now.
  What Get answers behind a Drop, in plain words: nothing of what was dropped; of all others what it answered ahead of it.
  What there is behind a Put, and that what was just made is fresh, in plain words.
  What SameTexts returns, of two lists that are alike: true; memory stays as it was.
  Who opens the disk anew keeps the same: what TopAgain returns, for every row of acts, every root, whatever is kept: true; memory that was there stays as it was.
-/
import Derived.Test.YtidabcoodolddaaGreatDoorImageSmall
import Derived.Test.YtidabcoodolddaaGreatDoorReadyOne
import Derived.Deep.QuietTactic
import Derived.BigQuiet
import Derived.Test.YtidabcoodolddaaGreatDoorErr
import Derived.Test.YtidabcoodolddaaGreatDoorReadyTwo
import Derived.Test.YtidabcoodolddaaGreatDoorShelfTop
import Derived.Test.YtidabcoodolddaaGreatDoorRows
import Derived.Test.YtidabcoodolddaaGreatDoorAtAll
namespace Go.Proofs.YtidabcoodolddaaGreatDoor
open Go.RowKit

theorem eqTo_self (f : Nat → Int) : ∀ n, eqTo f f n = true
  | 0 => rfl
  | n + 1 => eqTo_succ (eqTo_self f n) rfl
theorem sameParts_none (a a' : Option Addr) (c c' : Nat) (w : World) :
    Calls Tryz.prog 14 #[.slice a 0 c, .slice a' 0 c'] w fun e w' => e = .returned (.bool true) ∧ ∃ k, w' = w.drewN k := by
  go_enter Tryz.func14, Tryz.ntmps14
  go_wp2
  refine wp_loop_rounds 1 ?_
  rw [rounds_succ]
  go_wp2
  go_ret
  exact ⟨rfl, 0, rfl⟩

set_option maxRecDepth 100000 in
set_option maxHeartbeats 2000000 in
theorem sameParts_true (n : Nat) (nm : Nat → ByteArray) (B : Nat → Int) (M : Nat → Nat) (X : Nat → Nat → Int) (a a' : Option Addr) (c c' : Nat) (A A' : Nat → Option Addr) (C C' : Nat → Nat) (w : World) (hn : n ≤ 1000) (hM : ∀ i, i < n → M i ≤ 1000)
    (hx : PartRow w a n nm B A M C X) (hy : PartRow w a' n nm B A' M C' X) :
    Calls Tryz.prog 14 #[.slice a n c, .slice a' n c'] w fun e w' => e = .returned (.bool true) ∧ ∃ k, w' = w.drewN k := by
  rcases hx with h0 | ⟨bx, ox, rfl, hx⟩
  · subst h0
    exact sameParts_none a a' c c' w
  rcases hy with h0 | ⟨bY, oY, rfl, hy⟩
  · subst h0
    exact sameParts_none _ a' c c' w
  have hnn : ((n : Int) != (n : Int)) = false := by simp
  go_enter Tryz.func14, Tryz.ntmps14
  go_wp2
  clear hnn
  go_loopw [5] (fun i wr => ∃ k j : Nat, k ≤ n ∧ i = .int .i64 k ∧ wr = w.drewN j) (fun i _ => n - (intOf i).toNat)
  case atStart => exact ⟨0, 0, Nat.zero_le _, rfl, rfl⟩
  case round =>
    obtain ⟨k, j, hk, rfl, hwr⟩ := hrel
    by_cases hlt : k < n
    · have hbw : Below w.heap.size w wr := by rw [hwr]; exact below_drewN (Below.refl _ _) j
      have x0 := cell_later hbw (hx k hlt).1
      have x1 := cell_later hbw (hx k hlt).2.1
      have x2 := cell_later hbw (hx k hlt).2.2.1
      have xr := (hx k hlt).2.2.2.later hbw
      have y0 := cell_later hbw (hy k hlt).1
      have y1 := cell_later hbw (hy k hlt).2.1
      have y2 := cell_later hbw (hy k hlt).2.2.1
      have yr := (hy k hlt).2.2.2.later hbw
      have hMk := hM k hlt
      have Hwr : Hid (wr = w.drewN j) := hwr
      clear hx hy hbw hwr
      have HS : ∀ q : Nat, Calls Tryz.prog 36 #[.slice (A k) (M k) (C k), .slice (A' k) (M k) (C' k)] (wr.drewN q) fun e w' => e = .returned (.bool true) ∧ ∃ m, w' = (wr.drewN q).drewN m := fun q => by
        have := sameNumbers_any (X k) (X k) (M k) (M k) (A k) (A' k) (C k) (C' k) (wr.drewN q) (by omega) (xr.drewN q) (yr.drewN q)
        rwa [show (decide (M k = M k) && eqTo (X k) (X k) (M k)) = true by rw [decide_eq_true rfl, Bool.true_and]; exact eqTo_self (X k) (M k)] at this
      have hsn : ((nm k).toList != (nm k).toList) = false := by simp
      have hsb : (B k != B k) = false := by simp
      clear xr yr
      go_wp2
      go_quiet (exact Calls.quiet_of (HS _))
      clear HS
      go_wp2
      go_quiet (fail)
      go_wp2
      go_roundw
      case rel =>
        rw [Hwr.out]
        simp only [World.drewN_drewN]
        exact ⟨k + 1, _, by omega, by go_num, rfl⟩
      case measure => simp [intOf]; omega
    · clear hx hy
      go_wp2
      go_ret
      exact ⟨rfl, j, rfl⟩
end Go.Proofs.YtidabcoodolddaaGreatDoor

namespace Go.Proofs.YtidabcoodolddaaGreatDoor
open Go.RowKit

theorem assertN_errno (n : Int) (w : World) : (Instr.typeAssert (.iface 82 (.int .i64 n)) 32 82 true).run Tryz.prog w = .ok (.tuple #[.int .i64 n, .bool true]) w := by kernel_rfl
theorem number_nil (w : World) : Calls Tryz.prog 13 #[.nilIface] w fun e w' => e = .returned (.int .i64 0) ∧ w = w' := by
  go_enter Tryz.func13, Tryz.ntmps13
  go_wp2
  go_ret
  exact ⟨rfl, rfl⟩
theorem number_errno (n : Int) (w : World) : Calls Tryz.prog 13 #[.iface 82 (.int .i64 n)] w fun e w' => e = .returned (.int .i64 n) ∧ w = w' := by
  have ha := assertN_errno n
  go_enter Tryz.func13, Tryz.ntmps13
  go_wp2
  go_ret
  exact ⟨rfl, rfl⟩
end Go.Proofs.YtidabcoodolddaaGreatDoor

namespace Go.Proofs.YtidabcoodolddaaGreatDoor
open Go.RowKit Go.Maps

theorem getE_is {E : Nat → EntF} {k : Nat} {root : ByteArray} (hg : (getE E k root).1 = true) : ∃ j, j < k ∧ (E j).root = root ∧ (getE E k root).2 = E j := by
  unfold getE at hg ⊢
  split at hg
  · cases hg
  · rename_i hn
    obtain ⟨j, _, hj, hr, hfj⟩ := findF_some _ 0 rfl (show 0 ≤ findF E root k 0 by omega)
    rw [if_neg hn, hfj]
    exact ⟨j, hj, hr, rfl⟩
end Go.Proofs.YtidabcoodolddaaGreatDoor

namespace Go.Proofs.YtidabcoodolddaaGreatDoor
open Go.RowKit Go.Maps

def freshE (D : DataW Unit) (S : ByteArray → Int) (e : EntF) : Bool := !staleTo D S e.pName e.pStamp e.nP && decide (0 < e.nP)
theorem freshE_same {D : DataW Unit} {S : ByteArray → Int} {a b : EntF} (h : SameE a b) : freshE D S a = freshE D S b := by
  have e : staleTo D S a.pName a.pStamp b.nP = staleTo D S b.pName b.pStamp b.nP := anyTo_congr fun i hi => by rw [(h.parts i hi).1, (h.parts i hi).2.1]
  unfold freshE
  rw [h.nP, e]
theorem loads_flag {w : World} {B0 : Nat} {D : DataW Unit} {kf : Nat} {T : ByteArray → ByteArray} {S : ByteArray → Int} {E : Nat → EntF} {k : Nat} {root : ByteArray} {e : Ending} (h : LoadsEnd w B0 D S (rdD D T) root (getE E k root) e) (hI : Inv D kf) (hT : Texts D T) (hS : Stamps D S) (hH : ∀ i, i < k → Held D kf (E i)) :
    ∃ (u : Value) (F : Nat) (w1 : World) (B1 : Nat), e = .returned (.tuple #[u, .bool ((getE E k root).1 && freshE D S (getE E k root).2), errV F]) ∧ (F ≠ 0 → ((getE E k root).1 && freshE D S (getE E k root).2) = false) ∧ B0 ≤ B1 ∧ Below w1.heap.size w1 w ∧ LoadEnd w1 B1 (rdD D T) root (.returned (.tuple #[u, errV F])) := by
  cases h with
  | kept en u F w1 B1 hB hw hr hs hf hu =>
    have hfl : ((getE E k root).1 && freshE D S (getE E k root).2) = true := by rw [hr, ← freshE_same hs]; exact hf
    obtain ⟨j, hj, hjr, hje⟩ := getE_is hr
    have hs' := hs
    rw [hje] at hs'
    obtain ⟨h1, h2⟩ := kept_load hI hT hS (hH j hj) hjr hs' hf hu
    subst hw
    rw [hfl]
    exact ⟨u, F, w1, B1, by rw [decide_eq_true h2], fun h => absurd h2 h, hB, (Below.refl _ w1).drew, h1⟩
  | new u F B1 hB hr hl =>
    have hfl : ((getE E k root).1 && freshE D S (getE E k root).2) = false := by
      rcases hr with hr | ⟨en, hs, hf⟩
      · rw [hr]; rfl
      · rw [← freshE_same hs]
        have : freshE D S en = false := hf
        rw [this, Bool.and_false]
    rw [hfl]
    exact ⟨u, F, w, B1, rfl, fun _ => rfl, hB, Below.refl _ _, hl⟩
end Go.Proofs.YtidabcoodolddaaGreatDoor

namespace Go.Proofs.YtidabcoodolddaaGreatDoor
open Go.RowKit

end Go.Proofs.YtidabcoodolddaaGreatDoor

namespace Go.Proofs.YtidabcoodolddaaGreatDoor
open Go.RowKit Go.Maps

theorem LoadEnd.same_err {w w' : World} {B0 B1 : Nat} {rd : ByteArray → Nat × ObjF} {root : ByteArray} {u u' : Value} {F F' : Nat} (h : LoadEnd w B0 rd root (.returned (.tuple #[u, errV F]))) (h' : LoadEnd w' B1 rd root (.returned (.tuple #[u', errV F']))) : F = F' := by
  rcases h.which with ⟨_, _, h1⟩ | ⟨h0, m, B, P, Q, _, _, _, _, h1, _⟩
  · rcases h'.which with ⟨_, _, h2⟩ | ⟨_, m, B, P, Q, _, _, _, _, h2, _⟩
    · exact h1.unique h2
    · exact (h1.not h2).elim
  · rcases h'.which with ⟨_, _, h2⟩ | ⟨h3, _⟩
    · exact (h2.not h1).elim
    · rw [h0, h3]
theorem ShPut.calm {s : DSt} {n : Nat} {E : Nat → EntF} {k : Nat} {r : Nat × (Nat → EntF) × Nat} {s' : DSt} {e : Ending} (h : ShPut s n E k r s' e) (hS : Stands s n E k) (hl : s.left = -1) (hk : r.1 ≠ 0 → r.2 = (E, k)) : e = .returned (errV r.1) ∧ s'.left = -1 ∧ Stands s' n r.2.1 r.2.2 := by
  cases h with
  | bad h hs => subst hs; rw [hk h]; exact ⟨rfl, hl, hS⟩
  | keep _ h hk' =>
    cases hk' with
    | fell hl' _ => exact absurd hl hl'
    | ok hSt hl2 => exact ⟨by rw [h]; rfl, hl2 hl, hSt⟩
end Go.Proofs.YtidabcoodolddaaGreatDoor

namespace Go.Proofs.YtidabcoodolddaaGreatDoor
open Go.RowKit

theorem sameTexts_zero (a c : Option Addr) (ca cb : Nat) (w : World) :
    Calls Tryz.prog 23 #[.slice a 0 ca, .slice c 0 cb] w fun e w' => e = .returned (.bool true) ∧ ∃ k, w' = w.drewN k := by
  go_enter Tryz.func23, Tryz.ntmps23
  go_wp2
  refine wp_loop_rounds 1 ?_
  rw [rounds_succ]
  go_wp2
  go_ret
  exact ⟨rfl, 0, rfl⟩

set_option maxHeartbeats 400000 in
theorem sameTexts_some (f : Nat → ByteArray) (n : Nat) (bx ox cx bY oY cy : Nat) (w : World) (hm : n ≤ 1000000000)
    (hx : ∀ i, i < n → w.cell? ⟨bx, ox + i, none⟩ = some (.string (f i)))
    (hy : ∀ i, i < n → w.cell? ⟨bY, oY + i, none⟩ = some (.string (f i))) :
    Calls Tryz.prog 23 #[.slice (some ⟨bx, ox, none⟩) n cx, .slice (some ⟨bY, oY, none⟩) n cy] w fun e w' => e = .returned (.bool true) ∧ ∃ k, w' = w.drewN k := by
  go_enter Tryz.func23, Tryz.ntmps23
  go_wp2
  go_loopw [5] (fun i wr => ∃ k j : Nat, k ≤ n ∧ i = .int .i64 k ∧ wr = w.drewN j) (fun i _ => n - (intOf i).toNat)
  case atStart => exact ⟨0, 0, Nat.zero_le _, rfl, rfl⟩
  case round =>
    obtain ⟨k, j, hk, rfl, rfl⟩ := hrel
    by_cases hlt : k < n
    · have hxk := hx k hlt
      have hyk := hy k hlt
      clear hx hy
      generalize f k = z at *
      go_wp2
      go_quiet (fail)
      go_wp2
      go_roundw
      case rel => exact ⟨k + 1, j + nq, by omega, by go_num, rfl⟩
      case measure => simp [intOf]; omega
    · have hkn : k = n := by omega
      subst hkn
      clear hx hy
      go_wp2
      go_ret
      exact ⟨rfl, j, rfl⟩

theorem sameTexts_true (f g : Nat → ByteArray) (n : Nat) (a c : Option Addr) (ca cb : Nat) (w : World) (hm : n ≤ 1000000000)
    (hx : RowAt w a n fun i => .string (f i)) (hy : RowAt w c n fun i => .string (g i)) (he : ∀ i, i < n → f i = g i) :
    Calls Tryz.prog 23 #[.slice a n ca, .slice c n cb] w fun e w' => e = .returned (.bool true) ∧ ∃ k, w' = w.drewN k := by
  rcases hx with h0 | ⟨b, o, rfl, hx⟩
  · subst h0
    exact sameTexts_zero a c ca cb w
  · rcases hy with h0 | ⟨b', o', rfl, hy⟩
    · subst h0
      exact sameTexts_zero _ c ca cb w
    · exact sameTexts_some f n b o ca b' o' cb w hm hx (fun i hi => by rw [hy i hi, he i hi])
end Go.Proofs.YtidabcoodolddaaGreatDoor

namespace Go.Proofs.YtidabcoodolddaaGreatDoor
open Go.RowKit Go.Maps

theorem heap_cell {w w' : World} {b : Nat} (h : w'.heap[b]? = w.heap[b]?) (i : Nat) : w'.cell? ⟨b, i, none⟩ = w.cell? ⟨b, i, none⟩ := by simp [World.cell?, h]
theorem heap_frozen {w w' : World} {b : Nat} (h : w'.heap[b]? = w.heap[b]?) (i : Nat) : w'.frozen? ⟨b, i, none⟩ = w.frozen? ⟨b, i, none⟩ := by simp [World.frozen?, h]
theorem PartsIn.later {w w' : World} {B0 : Nat} {v : Value} {n : Nat} {nm : Nat → ByteArray} {B : Nat → Int} {M : Nat → Nat} {X : Nat → Nat → Int} {g : Nat} {A : Nat → Option Addr} {C G : Nat → Nat} (h : PartsIn w B0 v n nm B M X g A C G) (hb : Below w.heap.size w w') : PartsIn w' B0 v n nm B M X g A C G := ⟨h.out.later hb, owns_below h.own hb⟩
/-- parts stay where all that was made from a time on stays. -/
theorem PartsIn.still {w w' : World} {B0 : Nat} {v : Value} {n : Nat} {nm : Nat → ByteArray} {B : Nat → Int} {M : Nat → Nat} {X : Nat → Nat → Int} {g : Nat} {A : Nat → Option Addr} {C G : Nat → Nat} (h : PartsIn w B0 v n nm B M X g A C G) (hs : ∀ k, B0 ≤ k → k < w.heap.size → w'.heap[k]? = w.heap[k]?) (hsz : w.heap.size ≤ w'.heap.size) : PartsIn w' B0 v n nm B M X g A C G := by
  have hg := hs g h.out.hB h.out.lt
  have hG : ∀ i, i < n → 0 < M i → w'.heap[G i]? = w.heap[G i]? := fun i hi h0 => hs _ (h.out.own i hi h0) (World.block_lt_of_cell? _ _ (h.out.row i hi 0 h0))
  refine ⟨⟨h.out.hB, Nat.lt_of_lt_of_le h.out.lt hsz, fun i hi => (heap_cell hg i).trans (h.out.top i hi), fun i => (heap_frozen hg i).trans (h.out.free i), h.out.adr, h.out.own, h.out.ne, fun i hi j hj => (heap_cell (hG i hi (by omega)) j).trans (h.out.row i hi j hj), fun i hi h0 j => (heap_frozen (hG i hi h0) j).trans (h.out.rfree i hi h0 j), h.out.apart⟩, ?_⟩
  exact own_kept h.own fun k hk => hs k (h.own.lt k hk).1 (h.own.lt k hk).2
theorem rowsT {w : World} {a : Option Addr} {k : Nat} {E : Nat → EntF} (h : k = 0 ∨ ∃ bk, a = some ⟨bk, 0, none⟩ ∧ ∀ i, i < k → w.cell? ⟨bk, i, none⟩ = some (.string (E i).root)) : RowAt w a k fun i => .string (E i).root :=
  h.imp id fun ⟨bk, ha, hc⟩ => ⟨bk, 0, ha, fun i hi => by rw [Nat.zero_add]; exact hc i hi⟩
set_option maxRecDepth 100000 in
set_option maxHeartbeats 16000000 in
theorem topAgain_walk (a : Option Addr) (n c : Nat) (X : Nat → ActF) (root : ByteArray) (keep : Int) (w : World) (hE : Env w) (hr : ActsRow w a n X) (hf : ∀ i, i < n → ActFit (X i)) (hc : n ≤ c) :
    Calls Tryz.prog 6 #[.slice a n c, .string root, .int .u64 keep] w fun e w' => e = .returned (.bool true) ∧ Below w.heap.size w w' := by
  have HRD := ready_any w hE
  go_enter Tryz.func6, Tryz.ntmps6
  go_wp2_with fail
  refine (show Calls _ _ _ _ _ from HRD).mono ?_
  rintro e w1 ⟨B, p, pf, bm, l, g, s, D0, rfl, hK1, hl1, hBw, hpf, hbm⟩
  clear HRD
  have HL := lightActs_any a n c 40 X w1 (by decide) (hr.later hK1.below) hf
  clear hf
  go_wp2_with fail
  refine (show Calls _ _ _ _ _ from HL).mono ?_
  rintro e w2 ⟨⟨b, rfl, hlb⟩, hb2⟩
  clear HL
  have hK2 := hK1.later hb2
  clear hK1 hb2
  cases b with
  | false =>
    clear hlb
    go_wp2
    go_ret
    exact ⟨rfl, hK2.below⟩
  | true =>
  obtain ⟨h40, hsz⟩ := hlb rfl
  clear hlb
  by_cases hs : (20 : Int) < (root.size : Int)
  · go_wp2
    go_ret
    exact ⟨rfl, hK2.below⟩
  have hroot : root.size ≤ maxLen := by simp only [maxLen]; omega
  have HP := play_any w w2 B p pf bm l g s (fun _ => emptyE) 0 D0 1 a n c X hE hK2 hBw hpf hbm hr hsz (by omega) (by decide) hc (.inl hl1)
  clear hK2 hr hsz
  go_wp2_with fail
  refine (show Calls _ _ _ _ _ from HP).mono ?_
  rintro e w3 ⟨l3, g3, s3, D, kf, rfl, hST, _⟩
  clear HP
  rcases hST with ⟨_, E, k, hK⟩ | ⟨h1, _⟩
  · obtain ⟨T, hT⟩ := texts_some D
    obtain ⟨S, hS⟩ := stamps_some D
    have HLd := loaderLoad_any w3 B p 112 l3 g3 pf bm s3 E k D kf T S root hK.disk hK.stands hK.loader hK.shelf (hE.later hK.below) hK.files hK.inv hT hS hroot
    go_wp2_with fail
    refine (show Calls _ _ _ _ _ from HLd).mono ?_
    rintro e w4 ⟨hLE, hb4⟩
    clear HLd
    obtain ⟨u, F, w1', B1, rfl, hkept, hB1, hb1', hLd⟩ := loads_flag hLE hK.inv hT hS hK.held
    have hK4 := hK.later hb4
    have HR1 := loaderRoots_any w4 B p 112 l3 pf g3 s3 E k hK4.disk hK4.stands hK4.loader hK4.shelf (hE.later hK4.below)
    clear hLE
    obtain ⟨q1, hq1⟩ : ∃ q1, ((getE E k root).1 && freshE D S (getE E k root).2) = q1 := ⟨_, rfl⟩
    rw [hq1] at hkept
    rw [hq1]
    obtain ⟨ev, hev⟩ : ∃ ev, errV F = ev := ⟨_, rfl⟩
    rw [hev]
    go_wp2_with fail
    refine (show Calls _ _ _ _ _ from HR1).mono ?_
    rintro e w5 ⟨vr, rfl, hOw1, hb5⟩
    clear HR1
    have hK5 := hK4.later hb5
    have hb35 := hb4.trans (hb5.mono hb4.size)
    have HRS := diskRestart_still w3 w5 B p 112 s3 keep hK.disk hb35
    have hsz34 := hb4.size
    clear hK4
    go_wp2_with fail
    refine (show Calls _ _ _ _ _ from HRS).mono ?_
    rintro e w6 ⟨rfl, hD6, hS6, hStill⟩
    clear HRS
    have hSt6 := hK5.stands.again keep
    have hb6 := hK5.below.trans (hS6.below.mono hBw)
    have hF6 := hK5.files.spun hS6
    have hOw6 : w6.ownsRow w4.heap.size 9 1 vr k (joinC (rootC E) k) := own_kept hOw1 fun q hq => hStill q (by have := (hOw1.lt q hq).1; omega) (hOw1.lt q hq).2
    have hPI6 : ∀ m Bs P Q g A C G, PartsIn w1' B1 u m (nmAt (rdD D T) root) Bs (fun i => (obAt (rdD D T) root i).nW) (boundW (rdD D T) root m Bs P Q) g A C G → PartsIn w6 B1 u m (nmAt (rdD D T) root) Bs (fun i => (obAt (rdD D T) root i).nW) (boundW (rdD D T) root m Bs P Q) g A C G := fun m Bs P Q g A C G h =>
      ((h.later hb1').later hb5).still (fun q hq hlt => hStill q (by omega) hlt) hS6.size
    have HNw := loaderNew_any w6 B p 112 pf (s3.again keep) E k hD6 hSt6 (hE.later hb6)
    clear hOw1 hb5 hb35 hStill hK hb1' hsz34 hB1
    go_wp2_with fail
    refine (show Calls _ _ _ _ _ from HNw).mono ?_
    rintro e w7 ⟨l7, g7, rfl, _, hl7, hg7, hb7⟩
    clear HNw
    have hb7' := hb6.trans (hb7.mono hb6.size)
    have hD7 := hD6.later hb7
    have hF7 := hF6.later hb7
    have HLx := loaderLoad_any w7 B p 112 l7 g7 pf bm (s3.again keep) E k D kf T S root hD7 hSt6 hl7 hg7 (hE.later hb7') hF7 hK5.inv hT hS hroot
    clear hD6 hF6 hS6
    go_wp2_with fail
    refine (show Calls _ _ _ _ _ from HLx).mono ?_
    rintro e w8 ⟨hLE, hb8⟩
    clear HLx
    obtain ⟨u2, F2, w2', B2, rfl, _, _, hb2', hLd2⟩ := loads_flag hLE hK5.inv hT hS hK5.held
    obtain rfl : F = F2 := hLd.same_err hLd2
    have hb8' := hb7'.trans (hb8.mono hb7'.size)
    have HR2 := fun (W : World) (hW : Below w8.heap.size w8 W) => loaderRoots_any W B p 112 l7 pf g7 (s3.again keep) E k ((hD7.later hb8).later hW) hSt6 ((hl7.later hb8).later hW) ((hg7.later hb8).later hW) (hE.later (hb8'.trans (hW.mono hb8'.size)))
    obtain ⟨ar, cr, rfl, hrr⟩ := rowsR (owns_below (owns_below hOw6 hb7) hb8)
    have hrw8 := rowsT hrr
    clear hrr
    have hkf := hSt6.good.few
    have hfew := rd_few (T := T) hK5.inv
    have hok : ∀ m, OfIs (rdD D T) root 0 m → m ≤ 6 ∧ ∀ j, j < m → (obAt (rdD D T) root j).nW ≤ 1000 := fun m hO => by
      obtain ⟨hSc, _, _⟩ := scope_of hO hfew
      exact ⟨hSc.few, fun j hj => by
        have h7 := (rd_ok (D := D) (T := T) (s := nmAt (rdD D T) root j) (by rw [hSc.read j hj])).nW
        show (rdD D T (nmAt (rdD D T) root j)).2.nW ≤ 1000
        omega⟩
    have hb68 := hb7.trans (hb8.mono hb7.size)
    clear hLE hK5 hS hfew hD7 hF7 hl7 hg7 hSt6 hOw6 hb7 hb6 hT
    rw [hq1]
    have hqq : (q1 == q1) = true := by simp
    clear hq1
    generalize rdD D T = rd at *
    rw [hev]
    rcases hLd.which with ⟨hF, rfl, hRk⟩ | ⟨rfl, m, Bs, P, Q, g1, A, C, G, hRk, hPI⟩
    · rcases hLd2.which with ⟨_, rfl, _⟩ | ⟨h0, _⟩
      · obtain ⟨z, hz⟩ := errV_num hF
        rw [hz] at hev
        subst hev
        have HNu := number_errno z
        have HSP := fun W => sameParts_true 0 (fun _ => root) (fun _ => 0) (fun _ => 0) (fun _ _ => 0) none none 0 0 (fun _ => none) (fun _ => none) (fun _ => 0) (fun _ => 0) W (by decide) (fun i hi => absurd hi (Nat.not_lt_zero _)) (.inl rfl) (.inl rfl)
        clear hLd hLd2 hRk hok hz hF hPI6 hkept
        go_wp2_with fail
        refine (HNu _).mono ?_
        rintro e w9 ⟨rfl, rfl⟩
        go_wp2_with fail
        refine (HNu _).mono ?_
        rintro e w9 ⟨rfl, rfl⟩
        go_wp2_with fail
        refine (show Calls _ _ _ _ _ from HSP _).mono ?_
        rintro e w9 ⟨rfl, kk, rfl⟩
        have hbk := below_drewN (Below.refl w8.heap.size w8) kk
        have HR3 := HR2 _ hbk
        clear HR2
        go_wp2_with fail
        refine (show Calls _ _ _ _ _ from HR3).mono ?_
        rintro e w10 ⟨vs, rfl, hOw10, hb10⟩
        clear HR3
        obtain ⟨az, cz, rfl, hzz⟩ := rowsR hOw10
        have hbx := hbk.trans (hb10.mono hbk.size)
        have hb11 := hb8'.trans (hbx.mono hb8'.size)
        have HST := sameTexts_true (fun i => (E i).root) (fun i => (E i).root) k ar az cr cz w10 (by omega) (hrw8.later hbx) (rowsT hzz) (fun _ _ => rfl)
        clear hOw10 hzz hb10 hbx hbk hrw8
        go_wp2_with fail
        refine (show Calls _ _ _ _ _ from HST).mono ?_
        rintro e w12 ⟨rfl, kk2, rfl⟩
        go_wp2
        go_ret
        exact ⟨rfl, below_drewN hb11 _⟩
      · exact absurd h0 hF
    · obtain ⟨_, g2, A2, C2, G2, hPI2⟩ := hLd2.good hRk
      obtain ⟨hm6, hnw⟩ := hok m hRk.of
      obtain ⟨au, cu, rfl, _, hrow⟩ := parts_row (hPI6 m Bs P Q g1 A C G hPI)
      obtain ⟨au2, cu2, rfl, _, hrow2⟩ := parts_row hPI2
      have hrow8 := hrow.later hb68
      have hrow82 := hrow2.later hb2'
      have HSP := fun (W : World) (hW : Below w8.heap.size w8 W) => sameParts_true m (nmAt rd root) Bs _ _ au au2 cu cu2 A A2 C C2 W (by omega) (fun i hi => hnw i hi) (hrow8.later hW) (hrow82.later hW)
      obtain rfl : ev = .nilIface := hev.symm
      have HNu := number_nil
      clear hLd hLd2 hRk hok hPI hPI2 hrow hrow2 hrow8 hrow82 hnw hev hPI6 hkept
      go_wp2_with fail
      refine (HNu _).mono ?_
      rintro e w9 ⟨rfl, rfl⟩
      go_wp2_with fail
      refine (HNu _).mono ?_
      rintro e w9 ⟨rfl, rfl⟩
      go_wp2_with fail
      refine (show Calls _ _ _ _ _ from HSP _ (Below.refl _ _)).mono ?_
      rintro e w9 ⟨rfl, kk, rfl⟩
      have hbk := below_drewN (Below.refl w8.heap.size w8) kk
      have HR3 := HR2 _ hbk
      clear HR2
      go_wp2_with fail
      refine (show Calls _ _ _ _ _ from HR3).mono ?_
      rintro e w10 ⟨vs, rfl, hOw10, hb10⟩
      clear HR3
      obtain ⟨az, cz, rfl, hzz⟩ := rowsR hOw10
      have hbx := hbk.trans (hb10.mono hbk.size)
      have hb11 := hb8'.trans (hbx.mono hb8'.size)
      have HST := sameTexts_true (fun i => (E i).root) (fun i => (E i).root) k ar az cr cz w10 (by omega) (hrw8.later hbx) (rowsT hzz) (fun _ _ => rfl)
      clear hOw10 hzz hb10 hbx hbk hrw8
      go_wp2_with fail
      refine (show Calls _ _ _ _ _ from HST).mono ?_
      rintro e w12 ⟨rfl, kk2, rfl⟩
      go_wp2
      go_ret
      exact ⟨rfl, below_drewN hb11 _⟩
  · exact absurd hl1 h1
end Go.Proofs.YtidabcoodolddaaGreatDoor
