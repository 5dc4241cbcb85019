/-
  What Restart of the document's disk does; all else stays as it was.
-/
import Derived.Test.YtlljpedanlnjaaaDiskRefEnd
import Derived.BigRegion
namespace Go.Proofs.Ytlljpedanlnjaaa
open Go.RowKit

/-- what is kept in a sector is another text. -/
theorem RefAt.setKept {w : World} {B q n : Nat} {r : RSt} {vN vW : Value} {g c : Nat} (h : RefAt w B q n r (.slice (some ⟨g, 0, none⟩) n c) vN vW) {i : Nat} (hi : i < n) (d : List UInt8) :
    RefAt (w.setCell ⟨g, i, none⟩ (textV d)) B q n { r with kept := fun j => if j = i then d else r.kept j } (.slice (some ⟨g, 0, none⟩) n c) vN vW ∧ RSpun B w (w.setCell ⟨g, i, none⟩ (textV d)) := by
  obtain ⟨c', hc'⟩ := own_type h.kept (k := g) rfl
  obtain ⟨hO, hg⟩ := h.kept.stored i (textV d)
  rw [textsC_set _ hi] at hO
  have hgB := (h.kept.lt g rfl).1
  refine ⟨⟨?_, hO, ?_, ?_, h.apart, h.bq⟩, RSpun.set hc' hgB (.inr (.inl rfl)) _⟩
  · refine (Below.heap_setCell _ _ _ _ (fun e => ?_)).trans h.blk
    have e' : q = g := e
    rw [← e', h.blk] at hc'
    simp at hc'
  · refine own_kept h.now (fun k hk => Below.heap_setCell _ _ _ _ (fun e => ?_))
    have e' : k = g := e
    rcases h.apart with h0 | h0
    · cases h0
    · exact h0 (by rw [hk, e']; rfl)
  · exact own_set h.wait hc' (by decide)
/-- what is kept of the first k that wait. -/
def keptOf (keep : Int) (f : Nat → List UInt8) (l : List (Nat × List UInt8)) : Nat → (Nat → List UInt8)
  | 0 => f
  | k + 1 => match l[k]? with
    | some x => if bitOf keep (k % 64) = true then fun j => if j = x.1 then x.2 else keptOf keep f l k j else keptOf keep f l k
    | none => keptOf keep f l k
theorem keptOf_yes {keep : Int} {f : Nat → List UInt8} {l : List (Nat × List UInt8)} {k : Nat} {x : Nat × List UInt8} (hx : l[k]? = some x) (hb : bitOf keep (k % 64) = true) : keptOf keep f l (k + 1) = fun j => if j = x.1 then x.2 else keptOf keep f l k j := by
  simp [keptOf, hx, hb]
theorem keptOf_no {keep : Int} {f : Nat → List UInt8} {l : List (Nat × List UInt8)} {k : Nat} {x : Nat × List UInt8} (hx : l[k]? = some x) (hb : bitOf keep (k % 64) = false) : keptOf keep f l (k + 1) = keptOf keep f l k := by
  simp [keptOf, hx, hb]
def RSt.again (r : RSt) (keep : Int) : RSt := ⟨keptOf keep r.kept r.wait r.wait.length, keptOf keep r.kept r.wait r.wait.length, [], -1, false⟩

set_option maxRecDepth 100000 in
set_option maxHeartbeats 4000000 in
theorem refRestart_any (w : World) (B q n : Nat) (r : RSt) (keep : Int) (h : Ref w B q n r) (hn : n ≤ 120) (h1n : 1 ≤ n) (hw : r.wait.length ≤ 1000) (hwn : ∀ x ∈ r.wait, x.1 < n) :
    Calls Try.prog 19 #[.pointer (some ⟨q, 0, none⟩), .int .u64 keep] w fun e w' => e = .returned (.tuple #[]) ∧ Ref w' B q n (r.again keep) ∧ RSpun B w w' := by
  obtain ⟨vK, vN, vW, h⟩ := h
  obtain ⟨aW, cW, rfl, _⟩ := owns_shape h.wait
  obtain ⟨aK, cK, rfl, _⟩ := owns_shape h.kept
  obtain ⟨gK, rfl, _, _⟩ := owns_cell h.kept (textsC_at r.kept (show 0 < n by omega))
  have h0 : RefAt w B q n { r with kept := keptOf keep r.kept r.wait 0 } (.slice (some ⟨gK, 0, none⟩) n cK) vN (.slice aW r.wait.length cW) := h
  clear h
  go_enter Try.func19, Try.ntmps19
  go_wp2
  go_loopw [4] (fun y wr => ∃ k : Nat, k ≤ r.wait.length ∧ y = .int .i64 k ∧ RSpun B w wr ∧ RefAt wr B q n { r with kept := keptOf keep r.kept r.wait k } (.slice (some ⟨gK, 0, none⟩) n cK) vN (.slice aW r.wait.length cW)) (fun y _ => r.wait.length - (intOf y).toNat)
  case atStart => exact ⟨0, Nat.zero_le _, rfl, RSpun.refl _ _, h0⟩
  case round =>
    obtain ⟨k, hk, rfl, hS, hR⟩ := hrel
    have c0 := hR.c0
    have c2 := hR.c2
    clear h0
    by_cases hlt : k < r.wait.length
    · obtain ⟨x, hx⟩ : ∃ x, r.wait[k]? = some x := ⟨_, List.getElem?_eq_getElem hlt⟩
      have hxn := hwn x (List.mem_of_getElem? hx)
      obtain ⟨y0, y1⟩ := waitC_at hx
      obtain ⟨gW, rfl, _, z0⟩ := owns_cell hR.wait y0
      obtain ⟨gW', hgW', _, z1⟩ := owns_cell hR.wait y1
      injection hgW' with hgW'
      injection hgW' with hgW'
      subst hgW'
      have hmin : bitOf keep (k % 64) = (bits BinOp.and IntKind.u64 (keep / 2 ^ (k % 64)) 1 == 1) := by unfold bitOf; rw [Nat.min_eq_left (by omega)]
      cases hbit : bitOf keep (k % 64) with
      | true =>
        have hbt : (bits BinOp.and IntKind.u64 (keep / 2 ^ (k % 64)) 1 == 1) = true := hmin.symm.trans hbit
        obtain ⟨hR2, hS2⟩ := (hR.later ((Below.refl _ _).drew)).setKept hxn x.2
        have hS3 := (hS.trans (RSpun.of (by have := hR.bq; have := hR.lt; omega) ((Below.refl _ _).drew))).trans hS2
        rw [show ({ ({ r with kept := keptOf keep r.kept r.wait k } : RSt) with kept := fun j => if j = x.1 then x.2 else ({ r with kept := keptOf keep r.kept r.wait k } : RSt).kept j } : RSt) = { r with kept := keptOf keep r.kept r.wait (k + 1) } by rw [keptOf_yes hx hbit]] at hR2
        obtain ⟨gg, hgg, _, hcK⟩ := owns_cell hR.kept (textsC_at (keptOf keep r.kept r.wait k) hxn)
        injection hgg with hgg
        injection hgg with hgg
        subst hgg
        have fzK := hR.kept.frozenAt x.1
        have hx0 : (0 : Int) ≤ (x.1 : Int) := by omega
        have hx1 : (x.1 : Int) < (n : Int) := by omega
        have hk0 : (0 : Int) ≤ (k : Int) := by omega
        have hk1 : (k : Int) < (r.wait.length : Int) := by omega
        unfold textV at *
        have HR2 : Hid (RefAt (wr.drew.setCell ⟨gK, x.1, none⟩ (.string ⟨x.2.toArray⟩)) B q n { r with kept := keptOf keep r.kept r.wait (k + 1) } (.slice (some ⟨gK, 0, none⟩) n cK) vN (.slice (some ⟨gW, 0, none⟩) r.wait.length cW)) := hR2
        have HS3 : Hid (RSpun B w (wr.drew.setCell ⟨gK, x.1, none⟩ (.string ⟨x.2.toArray⟩))) := hS3
        clear hR hR2 hS2 hS3 hmin hbit y0 y1 hx hwn
        generalize (⟨x.2.toArray⟩ : ByteArray) = xb at *
        generalize x.1 = xi at *
        generalize (⟨(keptOf keep r.kept r.wait k xi).toArray⟩ : ByteArray) = ob at *
        generalize r.wait.length = nW at *
        go_wp2
        go_region
        all_goals
          go_wp2
          go_roundw
          case rel => exact ⟨k + 1, by omega, by go_num, HS3.out, HR2.out⟩
          case measure => simp [intOf]; omega
      | false =>
        have hbt : (bits BinOp.and IntKind.u64 (keep / 2 ^ (k % 64)) 1 == 1) = false := hmin.symm.trans hbit
        have hR2 : RefAt wr B q n { r with kept := keptOf keep r.kept r.wait (k + 1) } (.slice (some ⟨gK, 0, none⟩) n cK) vN (.slice (some ⟨gW, 0, none⟩) r.wait.length cW) := by rw [keptOf_no hx hbit]; exact hR
        clear hR hmin hbit y0 y1 hx hwn
        go_wp2
        go_roundw
        case rel => exact ⟨k + 1, by omega, by go_num, hS, hR2⟩
        case measure => simp [intOf]; omega
    · have e : k = r.wait.length := by omega
      have hR0 := hR
      rw [e] at hR0
      obtain ⟨v', W, happ, ⟨a2, m2, d2, rfl⟩, q1, q2, q3, q4⟩ := hR0.nowKept hn h1n
      have hA := (show RefAt _ _ _ _ _ _ _ _ from q3)
      obtain ⟨h5, hS5⟩ := hA.idle
      have h6 := h5.put (w' := ((((W.setCell ⟨q, 1, none⟩ (.slice a2 m2 d2)).setCell ⟨q, 2, none⟩ (.slice none 0 0)).setCell ⟨q, 4, none⟩ (.bool false)).setCell ⟨q, 3, none⟩ (.int .i64 (-1)))) (r' := r.again keep) (fun k hk => (Below.heap_setCell _ _ _ _ hk).trans (Below.heap_setCell _ _ _ _ hk)) (heap_set0 _ (heap_set0 _ h5.blk)) rfl rfl rfl
      have hS6 := (((hS.trans q4).trans hS5).trans (RSpun.set (i := 4) h5.blk h5.bq (.inl rfl) (.bool false))).trans (RSpun.set (i := 3) (heap_set0 _ h5.blk) h5.bq (.inl rfl) (.int .i64 (-1)))
      have hRe : Ref ((((W.setCell ⟨q, 1, none⟩ (.slice a2 m2 d2)).setCell ⟨q, 2, none⟩ (.slice none 0 0)).setCell ⟨q, 4, none⟩ (.bool false)).setCell ⟨q, 3, none⟩ (.int .i64 (-1))) B q n (r.again keep) := ⟨_, _, _, h6⟩
      obtain ⟨aN, cN, rfl, _⟩ := owns_shape hR.now
      have x2 := hA.c2
      have x3 := hA.c3
      have x4 := hA.c4
      have y2 := hA.fz 2
      have y3 := hA.fz 3
      have y4 := hA.fz 4
      have ek : Hid (k = r.wait.length) := e
      clear hR hR0 hA h5 h6 q3 q4 hS5 hS e hwn
      go_wp2_with (first | (refine list_run rfl (.const (.slice none 0 0)) (.tmp 46) 50 rfl (.slice none 0 0) (.slice (some ⟨gK, 0, none⟩) n cK) _ rfl rfl happ ?_))
      go_end0
      exact ⟨rfl, hRe, hS6⟩
end Go.Proofs.Ytlljpedanlnjaaa
