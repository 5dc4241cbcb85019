/-
  What SameParts returns, of two lists of parts that are alike: true; memory stays as it was.
  What number returns of an error of package api: its number; memory stays as it was.
  What is kept is as good as new: what TopKept returns, for every row of acts and every root: true; memory that was there stays as it was.
  What Load of a loader answers, with the word on how: by what is kept just where there is an entry of that root whose stamps are those of now.
  What Get answers behind a Drop, in plain words: nothing of what was dropped; of all others what it answered ahead of it.
  What there is behind a Put, and that what was just made is fresh, in plain words.
  What was built is used, till one of its objects is written or removed; and then not: what TopFresh returns, for every two rows of acts and every root: true; memory that was there stays as it was.
-/
import Derived.Test.YtidabcoodolddaaGreatDoorImageSmall
import Derived.Test.YtidabcoodolddaaGreatDoorReadyOne
import Derived.Deep.QuietTactic
import Derived.BigQuiet
import Derived.Test.YtidabcoodolddaaGreatDoorErr
import Derived.Test.YtidabcoodolddaaGreatDoorReadyTwo
import Derived.Test.YtidabcoodolddaaGreatDoorShelfTop
import Derived.Test.YtidabcoodolddaaGreatDoorGrowInts
namespace Go.Proofs.YtidabcoodolddaaGreatDoor
open Go.RowKit

end Go.Proofs.YtidabcoodolddaaGreatDoor

namespace Go.Proofs.YtidabcoodolddaaGreatDoor
open Go.RowKit

end Go.Proofs.YtidabcoodolddaaGreatDoor

namespace Go.Proofs.YtidabcoodolddaaGreatDoor
open Go.RowKit Go.Maps

theorem getE_is {E : Nat → EntF} {k : Nat} {root : ByteArray} (hg : (getE E k root).1 = true) : ∃ j, j < k ∧ (E j).root = root ∧ (getE E k root).2 = E j := by
  unfold getE at hg ⊢
  split at hg
  · cases hg
  · rename_i hn
    obtain ⟨j, _, hj, hr, hfj⟩ := findF_some _ 0 rfl (show 0 ≤ findF E root k 0 by omega)
    rw [if_neg hn, hfj]
    exact ⟨j, hj, hr, rfl⟩
end Go.Proofs.YtidabcoodolddaaGreatDoor

namespace Go.Proofs.YtidabcoodolddaaGreatDoor
open Go.RowKit Go.Maps

def freshE (D : DataW Unit) (S : ByteArray → Int) (e : EntF) : Bool := !staleTo D S e.pName e.pStamp e.nP && decide (0 < e.nP)
theorem freshE_same {D : DataW Unit} {S : ByteArray → Int} {a b : EntF} (h : SameE a b) : freshE D S a = freshE D S b := by
  have e : staleTo D S a.pName a.pStamp b.nP = staleTo D S b.pName b.pStamp b.nP := anyTo_congr fun i hi => by rw [(h.parts i hi).1, (h.parts i hi).2.1]
  unfold freshE
  rw [h.nP, e]
theorem loads_flag {w : World} {B0 : Nat} {D : DataW Unit} {kf : Nat} {T : ByteArray → ByteArray} {S : ByteArray → Int} {E : Nat → EntF} {k : Nat} {root : ByteArray} {e : Ending} (h : LoadsEnd w B0 D S (rdD D T) root (getE E k root) e) (hI : Inv D kf) (hT : Texts D T) (hS : Stamps D S) (hH : ∀ i, i < k → Held D kf (E i)) :
    ∃ (u : Value) (F : Nat) (w1 : World) (B1 : Nat), e = .returned (.tuple #[u, .bool ((getE E k root).1 && freshE D S (getE E k root).2), errV F]) ∧ (F ≠ 0 → ((getE E k root).1 && freshE D S (getE E k root).2) = false) ∧ B0 ≤ B1 ∧ Below w1.heap.size w1 w ∧ LoadEnd w1 B1 (rdD D T) root (.returned (.tuple #[u, errV F])) := by
  cases h with
  | kept en u F w1 B1 hB hw hr hs hf hu =>
    have hfl : ((getE E k root).1 && freshE D S (getE E k root).2) = true := by rw [hr, ← freshE_same hs]; exact hf
    obtain ⟨j, hj, hjr, hje⟩ := getE_is hr
    have hs' := hs
    rw [hje] at hs'
    obtain ⟨h1, h2⟩ := kept_load hI hT hS (hH j hj) hjr hs' hf hu
    subst hw
    rw [hfl]
    exact ⟨u, F, w1, B1, by rw [decide_eq_true h2], fun h => absurd h2 h, hB, (Below.refl _ w1).drew, h1⟩
  | new u F B1 hB hr hl =>
    have hfl : ((getE E k root).1 && freshE D S (getE E k root).2) = false := by
      rcases hr with hr | ⟨en, hs, hf⟩
      · rw [hr]; rfl
      · rw [← freshE_same hs]
        have : freshE D S en = false := hf
        rw [this, Bool.and_false]
    rw [hfl]
    exact ⟨u, F, w, B1, rfl, fun _ => rfl, hB, Below.refl _ _, hl⟩
end Go.Proofs.YtidabcoodolddaaGreatDoor

namespace Go.Proofs.YtidabcoodolddaaGreatDoor
open Go.RowKit

theorem getE_some {E : Nat → EntF} {root : ByteArray} {k j : Nat} (ho : ∀ i j, i < k → j < k → (E i).root = (E j).root → i = j) (hj : j < k) (hr : (E j).root = root) : getE E k root = (true, E j) := by
  have h0 : ¬ findF E root k 0 < 0 := fun h => by
    have := findF_none _ 0 rfl h
    exact this j (Nat.zero_le _) hj hr
  obtain ⟨i, _, hi, hir, hf⟩ := findF_some _ 0 rfl (show 0 ≤ findF E root k 0 by omega)
  obtain rfl := ho i j hi hj (hir.trans hr.symm)
  unfold getE
  rw [if_neg h0, hf]
  rfl
end Go.Proofs.YtidabcoodolddaaGreatDoor

namespace Go.Proofs.YtidabcoodolddaaGreatDoor
open Go.RowKit Go.Maps

theorem ShPut.calm {s : DSt} {n : Nat} {E : Nat → EntF} {k : Nat} {r : Nat × (Nat → EntF) × Nat} {s' : DSt} {e : Ending} (h : ShPut s n E k r s' e) (hS : Stands s n E k) (hl : s.left = -1) (hk : r.1 ≠ 0 → r.2 = (E, k)) : e = .returned (errV r.1) ∧ s'.left = -1 ∧ Stands s' n r.2.1 r.2.2 := by
  cases h with
  | bad h hs => subst hs; rw [hk h]; exact ⟨rfl, hl, hS⟩
  | keep _ h hk' =>
    cases hk' with
    | fell hl' _ => exact absurd hl hl'
    | ok hSt hl2 => exact ⟨by rw [h]; rfl, hl2 hl, hSt⟩
theorem putE_in {E : Nat → EntF} {k : Nat} {en : EntF} (h : (putE E k en).1 = 0) : ∃ j, j < (putE E k en).2.2 ∧ (putE E k en).2.1 j = en := by
  have hs : ∀ j : Nat, addV E j en j = en := fun j => if_pos rfl
  unfold putE at h ⊢
  split at h
  · rename_i h1; exact absurd h h1
  · rename_i h1
    rw [if_neg h1]
    split at h
    · rename_i h2
      rw [if_pos h2]
      obtain ⟨j, _, hj, _, hf⟩ := findF_some _ 0 rfl h2
      rw [hf]
      exact ⟨j, hj, hs j⟩
    · rename_i h2
      rw [if_neg h2]
      split at h
      · cases h
      · rename_i h3
        rw [if_neg h3]
        exact ⟨k, Nat.lt_succ_self k, hs k⟩
/-- what was put is what is got. -/
theorem getE_put {E : Nat → EntF} {k : Nat} {en : EntF} {r : Nat × (Nat → EntF) × Nat} (hr : putE E k en = r) (h : r.1 = 0) (ho : ∀ i j, i < r.2.2 → j < r.2.2 → (r.2.1 i).root = (r.2.1 j).root → i = j) : getE r.2.1 r.2.2 en.root = (true, en) := by
  subst hr
  obtain ⟨j, hj, he⟩ := putE_in h
  rw [getE_some ho hj (by rw [he]), he]
theorem any_none {f : Nat → Bool} {n : Nat} (h : ∀ i, i < n → f i = false) : anyTo f n = false := by
  induction n with
  | zero => rfl
  | succ n ih => simp only [anyTo, ih fun i hi => h i (by omega), h n (by omega), Bool.or_false]
theorem made_fresh {D : DataW Unit} {k : Nat} {T : ByteArray → ByteArray} {S : ByteArray → Int} {root : ByteArray} {m : Nat} {B : Nat → Int} {P Q : ByteArray → Int} (hI : Inv D k) (h : Reckoned (rdD D T) root m B P Q) : freshE D S (madeE (rdD D T) S root m B (patsAt (rdD D T) root m B P Q)) = true := by
  obtain ⟨hSc, _, _⟩ := scope_of h.of (rd_few (T := T) hI)
  have hhas := made_has hI h.of
  have e : staleTo D S (nmAt (rdD D T) root) (fun j => S (nmAt (rdD D T) root j)) m = false := any_none fun i hi => by
    rw [hhas i hi]
    simp
  show (!staleTo D S (nmAt (rdD D T) root) (fun j => S (nmAt (rdD D T) root j)) m && decide (0 < m)) = true
  rw [e, decide_eq_true hSc.pos]
  rfl
end Go.Proofs.YtidabcoodolddaaGreatDoor

namespace Go.Proofs.YtidabcoodolddaaGreatDoor
open Go.RowKit Go.Maps

theorem Turned.owns {p bm B : Nat} {w w' : World} {e : TypeId} {s n : Nat} {v : Value} {xs : List Value} (ht : Turned p bm w w') (h : w.ownsRow B e s v n xs) (hp : p < B) (hb : bm < B) : w'.ownsRow B e s v n xs :=
  own_kept h fun k hk => ht.block k (h.lt k hk).2 (by have := (h.lt k hk).1; omega) (by have := (h.lt k hk).1; omega)
theorem FilesAt.lts {w : World} {p bm : Nat} {D : DataW Unit} {k : Nat} (h : FilesAt w p bm D k) : p < w.heap.size ∧ bm < w.heap.size := by
  refine ⟨(Array.getElem?_eq_some_iff.1 h.blk).1, ?_⟩
  obtain ⟨es, clock, hb, _⟩ := h.own
  exact (Array.getElem?_eq_some_iff.1 hb).1
theorem stale_succ (D : DataW Unit) (S : ByteArray → Int) (s : Nat → ByteArray) (st : Nat → Int) (i : Nat) : (!staleTo D S s st (i + 1)) = (!staleTo D S s st i && (Maps.has D (keyB (s i)) && decide (S (s i) = st i))) := by
  show (!(staleTo D S s st i || !(Maps.has D (keyB (s i)) && decide (S (s i) = st i)))) = _
  cases staleTo D S s st i <;> simp
theorem nm_fit {D : DataW Unit} {T : ByteArray → ByteArray} {root : ByteArray} {m : Nat} (hO : OfIs (rdD D T) root 0 m) (hroot : root.size ≤ maxLen) : ∀ i, i < m → (nmAt (rdD D T) root i).size ≤ maxLen := fun i hi => by
  have hr := ofIs_read hO rfl
  exact nm_size hroot (fun j hj => hr j (by omega)) (hr i hi).1
theorem names_row {rd : ByteArray → Nat × ObjF} {root : ByteArray} {m : Nat} (hO : OfIs rd root 0 m) : (namesAt rd root m).length = m ∧ ∀ i, i < m → (namesAt rd root m).getD i ⟨#[]⟩ = nmAt rd root i := by
  generalize hF : (0 : Nat) = F at hO
  cases hO with
  | bad _ _ _ hf => exact absurd hF.symm hf
  | ok _ h hi =>
    refine ⟨hi, fun i hlt => ?_⟩
    rw [List.getD_eq_getElem?_getD, names_get (Nat.le_of_lt hlt) (h i hlt).1]
    rfl
set_option maxRecDepth 100000 in
set_option maxHeartbeats 16000000 in
theorem topFresh_walk (a : Option Addr) (n c : Nat) (X : Nat → ActF) (a2 : Option Addr) (n2 c2 : Nat) (Y : Nat → ActF) (root : ByteArray) (w : World) (hE : Env w) (hr : ActsRow w a n X) (hf : ∀ i, i < n → ActFit (X i)) (hc : n ≤ c) (hr2 : ActsRow w a2 n2 Y) (hf2 : ∀ i, i < n2 → ActFit (Y i)) :
    Calls Tryz.prog 4 #[.slice a n c, .slice a2 n2 c2, .string root] w fun e w' => e = .returned (.bool true) ∧ Below w.heap.size w w' := by
  have HRD := ready_any w hE
  go_enter Tryz.func4, Tryz.ntmps4
  go_wp2_with fail
  refine (show Calls _ _ _ _ _ from HRD).mono ?_
  rintro e w1 ⟨B, p, pf, bm, l, g, s, D0, rfl, hK1, hl1, hBw, hpf, hbm⟩
  clear HRD
  have HL := lightActs_any a n c 30 X w1 (by decide) (hr.later hK1.below) hf
  clear hf
  go_wp2_with fail
  refine (show Calls _ _ _ _ _ from HL).mono ?_
  rintro e w2 ⟨⟨b, rfl, hlb⟩, hb2⟩
  clear HL
  have hK2 := hK1.later hb2
  clear hK1 hb2
  cases b with
  | false =>
    clear hlb
    go_wp2
    go_ret
    exact ⟨rfl, hK2.below⟩
  | true =>
  obtain ⟨h40, hsz⟩ := hlb rfl
  clear hlb
  have HL := lightActs_any a2 n2 c2 10 Y w2 (by decide) (hr2.later hK2.below) hf2
  clear hf2
  go_wp2_with fail
  refine (show Calls _ _ _ _ _ from HL).mono ?_
  rintro e w2' ⟨⟨b, rfl, hlb⟩, hb2⟩
  clear HL
  replace hK2 := hK2.later hb2
  clear hb2
  cases b with
  | false =>
    clear hlb
    go_wp2
    go_ret
    exact ⟨rfl, hK2.below⟩
  | true =>
  obtain ⟨h10, hsz2⟩ := hlb rfl
  clear hlb
  by_cases hs : (20 : Int) < (root.size : Int)
  · go_wp2
    go_ret
    exact ⟨rfl, hK2.below⟩
  have hroot : root.size ≤ maxLen := by simp only [maxLen]; omega
  have HP := play_any w w2' B p pf bm l g s (fun _ => emptyE) 0 D0 1 a n c X hE hK2 hBw hpf hbm hr hsz (by omega) (by decide) hc (.inl hl1)
  clear hK2 hr hsz
  go_wp2_with fail
  refine (show Calls _ _ _ _ _ from HP).mono ?_
  rintro e w3 ⟨l3, g3, s3, D, kf, rfl, hST, hkf, _⟩
  clear HP
  rcases hST with ⟨hcalm, E, k, hK⟩ | ⟨h1, _⟩
  · have hl3 := hcalm hl1
    obtain ⟨T, hT⟩ := texts_some D
    obtain ⟨S, hS⟩ := stamps_some D
    have HB := loaderBuild_any w3 B p 112 l3 g3 pf bm s3 E k D kf T S root hK.disk hK.stands hK.loader hK.shelf (hE.later hK.below) hK.files hK.inv hK.names hK.pos hT hS (by omega) hroot
    clear hcalm
    go_wp2_with fail
    refine (show Calls _ _ _ _ _ from HB).mono ?_
    rintro e w4 ⟨s4, hBE, hD4, hS4⟩
    clear HB
    have hb4 := hK.below.trans (hS4.below.mono hBw)
    cases hBE with
    | bad F h1 hf hs =>
      obtain ⟨z, hz⟩ := errV_num hf
      rw [hz]
      clear hK hD4 hS4 h1 hT hS hf hz hs
      go_wp2
      go_ret
      exact ⟨rfl, hb4⟩
    | put m Bs P Q e h1 hp =>
      obtain ⟨en, hen⟩ : ∃ en, madeE (rdD D T) S root m Bs (patsAt (rdD D T) root m Bs P Q) = en := ⟨_, rfl⟩
      rw [hen] at hp
      obtain ⟨r, hrr⟩ : ∃ r, putE E k en = r := ⟨_, rfl⟩
      have hkep : r.1 ≠ 0 → r.2 = (E, k) := by rw [← hrr]; exact putE_kept
      have hhe : ∀ i, i < r.2.2 → Held D kf (r.2.1 i) := by rw [← hrr, ← hen]; exact held_putE hK.held (Held.new hK.inv hT hS h1)
      rw [hrr] at hp
      obtain ⟨rfl, hl4, hSt4⟩ := hp.calm hK.stands hl3 hkep
      by_cases h0 : r.1 = 0
      · have hget : getE r.2.1 r.2.2 root = (true, en) := by
          have := getE_put hrr h0 hSt4.good.once
          rwa [← hen] at this ⊢
        have hfr : freshE D S en = true := by rw [← hen]; exact made_fresh hK.inv h1
        have hK4 : KeptAt w w4 B p pf bm l3 g3 s4 r.2.1 r.2.2 D kf := { hK with disk := hD4, stands := hSt4, held := hhe, files := hK.files.spun hS4, loader := hK.loader.spun hS4, shelf := hK.shelf.spun hS4, below := hb4 }
        rw [h0, show errV 0 = .nilIface from rfl]
        clear hK hp hkep hhe hD4 hS4 hSt4 hrr h0 hb4
        obtain ⟨rn, rE, rk⟩ := r
        dsimp only at *
        have HL1 := loaderLoad_any w4 B p 112 l3 g3 pf bm s4 rE rk D kf T S root hK4.disk hK4.stands hK4.loader hK4.shelf (hE.later hK4.below) hK4.files hK4.inv hT hS hroot
        go_wp2_with fail
        refine (show Calls _ _ _ _ _ from HL1).mono ?_
        rintro e w5 ⟨hLE, hb5⟩
        clear HL1
        obtain ⟨u1, F1, _, _, rfl, hF1, _, _, _⟩ := loads_flag hLE hK4.inv hT hS hK4.held
        rw [hget] at hF1
        rw [hget]
        dsimp only at hF1 ⊢
        rw [hfr] at hF1
        rw [hfr]
        obtain rfl : F1 = 0 := by
          by_cases e : F1 = 0
          · exact e
          · exact absurd (hF1 e) (by decide)
        rw [show errV 0 = .nilIface from rfl]
        rw [show (true && true) = true from rfl]
        have hK5 := hK4.later hb5
        clear hLE hK4 hb5 hF1 hfr
        have HO := of_any w5 pf bm D kf T root hK5.files hK5.inv hT (hE.later hK5.below) hroot
        have hnf := nm_fit h1.of hroot
        have hhas := made_has hK5.inv h1.of
        have hm6 := (scope_of h1.of (rd_few (T := T) hK5.inv)).1.few
        have hm0 := (scope_of h1.of (rd_few (T := T) hK5.inv)).1.pos
        go_wp2_with fail
        refine (show Calls _ _ _ _ _ from HO).mono ?_
        rintro e w6 ⟨hOE, hb6⟩
        clear HO
        cases hOE with
        | bad F i h hf => exact absurd (h.unique h1.of).1 hf
        | ok i u x V h hu hx =>
          obtain rfl : i = m := (h.unique h1.of).2
          obtain ⟨hnl, hng⟩ := names_row h
          have hK6 := hK5.later hb6
          have hlts := hK5.files.lts
          have hstm : freshE D S en = freshE D S en := rfl
          have hfe : ∀ (D' : DataW Unit) (S' : ByteArray → Int), freshE D' S' en = !staleTo D' S' (nmAt (rdD D T) root) (fun j => S (nmAt (rdD D T) root j)) i := fun D' S' => by
            rw [← hen]
            show (!staleTo D' S' (nmAt (rdD D T) root) (fun j => S (nmAt (rdD D T) root j)) i && decide (0 < i)) = _
            rw [decide_eq_true hm0, Bool.and_true]
          clear hx h hstm hen h1
          have hOwn : w6.ownsRow w5.heap.size 9 1 u i ((namesAt (rdD D T) root i).map Value.string) := by
            have := hu
            unfold OwnTx at this
            rwa [hnl] at this
          have hrowN : ∀ W : World, W.ownsRow w5.heap.size 9 1 u i ((namesAt (rdD D T) root i).map Value.string) → ∃ au cu, u = .slice au i cu ∧ RowAt W au i fun j => .string (nmAt (rdD D T) root j) := fun W hW => by
            have : OwnTx W w5.heap.size u (namesAt (rdD D T) root i) := by unfold OwnTx; rw [hnl]; exact hW
            obtain ⟨au, cu, rfl, _, hrow⟩ := ownTx_row this
            rw [hnl] at hrow
            refine ⟨au, cu, by rw [hnl], hrow.imp id fun ⟨b, o, ha, hc⟩ => ⟨b, o, ha, fun j hj => by rw [hc j hj]; show some (Value.string _) = some (Value.string _); rw [hng j hj]⟩⟩
          clear hu hng
          have hrowN' : ∀ W : World, W.ownsRow w5.heap.size 9 1 u i ((namesAt (rdD D T) root i).map Value.string) → ∃ au cu, u = .slice au i cu ∧ ∃ bu fu, au = some ⟨bu, fu, none⟩ ∧ ∀ j, j < i → W.cell? ⟨bu, fu + j, none⟩ = some (.string (nmAt (rdD D T) root j)) := fun W hW => by
            obtain ⟨au, cu, hu, hrow⟩ := hrowN W hW
            rcases hrow with h0 | ⟨bu, fu, ha, hcell⟩
            · omega
            · exact ⟨au, cu, hu, bu, fu, ha, hcell⟩
          clear hrowN
          obtain ⟨nm, hnm⟩ : ∃ nm, nmAt (rdD D T) root = nm := ⟨_, rfl⟩
          rw [hnm] at hrowN' hfe hhas hnf
          generalize (namesAt (rdD D T) root i).map Value.string = xs at *
          clear hnm hT hnl
          obtain ⟨au, cu, rfl, bu, fu, rfl, hcu⟩ := hrowN' w6 hOwn
          have hcell : ∀ W : World, W.ownsRow w5.heap.size 9 1 (.slice (some ⟨bu, fu, none⟩) i cu) i xs → ∀ j, j < i → W.cell? ⟨bu, fu + j, none⟩ = some (.string (nm j)) := fun W hW j hj => by
            obtain ⟨au', cu', e1, bu', fu', e2, hc'⟩ := hrowN' W hW
            injection e1 with e1 _ _
            rw [e2] at e1
            injection e1 with e1
            injection e1 with q1 q2 _
            subst q1
            subst q2
            exact hc' j hj
          clear hrowN' hcu
          go_wp2
          go_loopw [16, 17, 18, 19, 20] (fun y16 y17 _ _ _ wr => ∃ (q : Nat) (v : Value), q ≤ i ∧ y17 = .int .i64 q ∧ y16 = v ∧ wr.ownsRow w6.heap.size 3 1 v q (joinC (intC fun j => S (nm j)) q) ∧ Below w6.heap.size w6 wr) (fun _ y17 _ _ _ _ => i - (intOf y17).toNat)
          case atStart => exact ⟨0, .slice none 0 0, Nat.zero_le _, rfl, rfl, World.ownsRow_nil _ _ _ _, Below.refl _ _⟩
          case round =>
            obtain ⟨q, v, hq, rfl, rfl, ho, hb⟩ := hrel
            by_cases hlt : q < i
            · have hci := hcell wr (owns_below hOwn hb) q hlt
              have HRd := fileRead_any wr pf bm D kf (nm q) (hK6.files.later hb) (hnf q hlt)
              have hq0 : (0 : Int) ≤ (q : Int) := by omega
              have hq1 : (q : Int) < (i : Int) := by omega
              go_wp2_with fail
              refine (show Calls _ _ _ _ _ from HRd).mono ?_
              rintro e w7 ⟨⟨t, st, f, rfl, hRI⟩, hb7⟩
              clear HRd hci
              obtain ⟨rfl, hat⟩ := hRI.yes (hhas q hlt)
              obtain rfl := hS.is _ _ _ (hhas q hlt) hat
              clear hRI hat
              rw [show errV 0 = .nilIface from rfl]
              have hb8 := hb.trans (hb7.mono hb.size)
              obtain ⟨v1, W1, happ, hG⟩ := growInt (w := w7) (S (nm q)) hb8.size (owns_below ho hb7) (by omega)
              have ho1 := hG.own
              rw [joinInt (b' := fun j => S (nm j)) (fun _ _ => rfl) rfl] at ho1
              have hb9 : Below w6.heap.size w6 W1 := (hb8.alloc hb8.size _).trans hG.below
              clear hG ho hb hb7 hb8
              go_wp2_with (at_builtin; refine list_run rfl (.tmp 94) (.tmp 96) 45 rfl u16 (.slice (some ⟨w7.heap.size, 0, none⟩) 1 1) _ rfl rfl happ ?_)
              go_roundw
              case rel => exact ⟨q + 1, v1, by omega, by go_num, rfl, ho1, hb9⟩
              case measure => simp [intOf]; omega
            · obtain rfl : q = i := by omega
              have hOw7 := owns_below hOwn hb
              have hK7 := hK6.later hb
              obtain ⟨asx, csx, rfl, _, hrs⟩ := rows_int ho
              have HDn := done_any wr pf bm D kf a2 n2 c2 Y w.heap.size hK7.files hK7.inv hK7.below.size hpf hbm (by omega) (fun W hW => hr2.later (hK7.below.trans hW)) hsz2
              have hdi := doneD_inv (X := Y) (q := (D, kf)) hK7.inv n2
              have hdh : ∀ j, j < rk → Held (doneD (D, kf) Y n2).1 (doneD (D, kf) Y n2).2 (rE j) := fun j hj => (hK7.held j hj).step fun D0 k0 h => h.done (q := (D, kf)) hK7.inv n2
              have hlt6 : w5.heap.size ≤ w6.heap.size := hb6.size
              clear hK5 hK6 hOwn hb6 hhas
              generalize (doneD (D, kf) Y n2).1 = D' at *
              generalize (doneD (D, kf) Y n2).2 = kf' at *
              go_wp2_with fail
              refine (show Calls _ _ _ _ _ from HDn).mono ?_
              rintro e w8 ⟨rfl, hF8, hT8⟩
              clear HDn
              have hb8 := hK7.below.trans (hT8.below hK7.below.size hpf hbm)
              have hOw8 := hT8.owns hOw7 hlts.1 hlts.2
              obtain ⟨asy, csy, e8, _, hrs8⟩ := rows_int (hT8.owns ho (by omega) (by omega))
              injection e8 with e81 _ _
              subst e81
              have hD8 := hK7.disk.turned hK7.files hT8
              have hl8 := hK7.loader.turned hK7.files hT8
              have hg8 := hK7.shelf.turned hK7.files hT8
              have hSt8 := hK7.stands
              obtain ⟨T', hT'⟩ := texts_some D'
              obtain ⟨S', hS'⟩ := stamps_some D'
              rcases hrs8 with h00 | ⟨bs, fs, rfl, hcs⟩
              · omega
              clear hK7 hOw7 ho hrs hb hT8 hr2 hsz2 hS
              go_wp2
              go_loopw [21, 22, 23, 24, 25] (fun y21 y22 _ _ _ wx => ∃ (z : Nat), z ≤ q ∧ y22 = .int .i64 z ∧ y21 = .bool (!staleTo D' S' nm (fun j => S (nm j)) z) ∧ Below w8.heap.size w8 wx) (fun _ y22 _ _ _ _ => q - (intOf y22).toNat)
              case atStart => exact ⟨0, Nat.zero_le _, rfl, rfl, Below.refl _ _⟩
              case round =>
                obtain ⟨z, hz, rfl, rfl, hbz⟩ := hrel
                by_cases hltz : z < q
                · have hci := hcell wr (owns_below hOw8 hbz) z hltz
                  have hcs' := cell_later hbz (hcs z hltz)
                  have HRd := fileRead_any wr pf bm D' kf' (nm z) (hF8.later hbz) (hnf z hltz)
                  have hz0 : (0 : Int) ≤ (z : Int) := by omega
                  have hz1 : (z : Int) < (q : Int) := by omega
                  have hsu := stale_succ D' S' nm (fun j => S (nm j)) z
                  obtain ⟨b0, hb0⟩ : ∃ b0, (!staleTo D' S' nm (fun j => S (nm j)) z) = b0 := ⟨_, rfl⟩
                  obtain ⟨b1, hb1⟩ : ∃ b1, (!staleTo D' S' nm (fun j => S (nm j)) (z + 1)) = b1 := ⟨_, rfl⟩
                  rw [hb0, hb1] at hsu
                  have HB1 : Hid ((!staleTo D' S' nm (fun j => S (nm j)) (z + 1)) = b1) := hb1
                  rw [hb0]
                  clear hb0 hb1
                  go_wp2_with fail
                  refine (show Calls _ _ _ _ _ from HRd).mono ?_
                  rintro e w9 ⟨⟨t, st, f, rfl, hRI⟩, hb9⟩
                  clear HRd hci
                  have hcs9 := cell_later hb9 hcs'
                  have hbz2 := hbz.trans (hb9.mono hbz.size)
                  clear hcs' hb9
                  cases hh : Maps.has D' (keyB (nm z)) with
                  | false =>
                    obtain ⟨rfl, rfl, rfl⟩ := hRI.no hh
                    rw [hh] at hsu
                    simp only [Bool.false_and, Bool.and_false] at hsu
                    rw [show errV 5 = .iface 82 (.int .i64 5) from rfl]
                    subst hsu
                    clear hRI hh
                    cases b0 with
                    | true =>
                      go_wp2
                      go_roundw
                      case rel => exact ⟨z + 1, by omega, by go_num, by rw [HB1.out], hbz2⟩
                      case measure => simp [intOf]; omega
                    | false =>
                      go_wp2
                      go_roundw
                      case rel => exact ⟨z + 1, by omega, by go_num, by rw [HB1.out], hbz2⟩
                      case measure => simp [intOf]; omega
                  | true =>
                    obtain ⟨rfl, hat⟩ := hRI.yes hh
                    obtain rfl := hS'.is _ _ _ hh hat
                    rw [hh, Bool.true_and] at hsu
                    rw [show errV 0 = .nilIface from rfl]
                    clear hRI hat hh
                    cases b0 with
                    | false =>
                      simp only [Bool.false_and] at hsu
                      subst hsu
                      go_wp2
                      go_roundw
                      case rel => exact ⟨z + 1, by omega, by go_num, by rw [HB1.out], hbz2⟩
                      case measure => simp [intOf]; omega
                    | true =>
                      rw [Bool.true_and] at hsu
                      try dsimp only at hsu hcs9
                      by_cases hse : S' (nm z) = S (nm z)
                      · rw [decide_eq_true hse] at hsu
                        subst hsu
                        have q1 : (S' (nm z) == S (nm z)) = true := by rw [hse]; simp
                        clear hse
                        go_wp2
                        go_roundw
                        case rel => exact ⟨z + 1, by omega, by go_num, by rw [HB1.out], hbz2⟩
                        case measure => simp [intOf]; omega
                      · rw [decide_eq_false hse] at hsu
                        subst hsu
                        have q1 : (S' (nm z) == S (nm z)) = false := by simp [hse]
                        clear hse
                        go_wp2
                        go_roundw
                        case rel => exact ⟨z + 1, by omega, by go_num, by rw [HB1.out], hbz2⟩
                        case measure => simp [intOf]; omega
                · obtain rfl : z = q := by omega
                  have hb10 := hb8.trans (hbz.mono hb8.size)
                  have HL2 := loaderLoad_any wr B p 112 l3 g3 pf bm s4 rE rk D' kf' T' S' root (hD8.later hbz) hSt8 (hl8.later hbz) (hg8.later hbz) (hE.later hb10) (hF8.later hbz) hdi.1 hT' hS' hroot
                  have hfl := hfe D' S'
                  obtain ⟨b0, hb0⟩ : ∃ b0, (!staleTo D' S' nm (fun j => S (nm j)) z) = b0 := ⟨_, rfl⟩
                  rw [hb0] at hfl
                  rw [hb0]
                  clear hb0 hfe hcell hcs hOw8
                  go_wp2_with fail
                  refine (show Calls _ _ _ _ _ from HL2).mono ?_
                  rintro e w11 ⟨hLE, hb11⟩
                  clear HL2
                  obtain ⟨u2, F2, _, _, rfl, hF2, _, _, _⟩ := loads_flag hLE hdi.1 hT' hS' hdh
                  rw [hget] at hF2
                  rw [hget]
                  dsimp only at hF2 ⊢
                  rw [hfl, Bool.true_and] at hF2
                  rw [hfl, Bool.true_and]
                  have hb12 := hb10.trans (hb11.mono hb10.size)
                  clear hLE hfl hget hdh hdi hb11 hD8 hl8 hg8 hF8
                  cases b0 with
                  | true =>
                    obtain rfl : F2 = 0 := by
                      by_cases e : F2 = 0
                      · exact e
                      · exact absurd (hF2 e) (by decide)
                    rw [show errV 0 = .nilIface from rfl]
                    go_wp2
                    go_ret
                    exact ⟨rfl, hb12⟩
                  | false =>
                    clear hF2
                    generalize errV F2 = ev
                    go_wp2
                    go_ret
                    exact ⟨rfl, hb12⟩
      · obtain ⟨z, hz⟩ := errV_num h0
        rw [hz]
        clear hK hD4 hS4 h1 hT hS hz hp hkep hhe hrr h0 hSt4
        go_wp2
        go_ret
        exact ⟨rfl, hb4⟩
  · exact absurd hl1 h1
end Go.Proofs.YtidabcoodolddaaGreatDoor
