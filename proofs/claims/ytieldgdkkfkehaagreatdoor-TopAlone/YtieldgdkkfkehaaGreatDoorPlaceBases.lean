/-
  What Bases of package place returns, for all sizes and all that is taken: the bases that the document asks for, or the number of the error; memory that was there stays as it was.
-/
import Derived.Test.YtieldgdkkfkehaaGreatDoorPlaceFree
import Derived.Test.YtieldgdkkfkehaaGreatDoorGrowInts
namespace Go.Proofs.YtieldgdkkfkehaaGreatDoor
open Go.RowKit

/-- a call of Bases that returned. -/
inductive BasesEnd (w : World) (B ns : Nat) (sz : Nat → Int) (nt : Nat) (tf tm : Nat → Int) : Ending → Prop
  | bad (f : Nat) (b : Nat → Int) (hf : f ≠ 0) (h : BasesAre ns sz nt tf tm f b) : BasesEnd w B ns sz nt tf tm (.returned (.tuple #[.slice none 0 0, errV f]))
  | ok (b : Nat → Int) (v : Value) (h : BasesAre ns sz nt tf tm 0 b) (hv : w.ownsRow B 3 1 v ns (joinC (intC b) ns)) : BasesEnd w B ns sz nt tf tm (.returned (.tuple #[v, .nilIface]))

/-- one base more. -/
def setAt (b : Nat → Int) (k : Nat) (x : Int) : Nat → Int := fun j => if j = k then x else b j
theorem setAt_old {b : Nat → Int} {k : Nat} {x : Int} {j : Nat} (h : j < k) : b j = setAt b k x j := by unfold setAt; rw [if_neg (by omega)]
theorem setAt_new {b : Nat → Int} {k : Nat} {x : Int} : setAt b k x k = x := if_pos rfl
theorem errV_pos {f : Nat} (h : f ≠ 0) : ∃ n : Int, errV f = .iface 79 (.int .i64 n) := by
  cases f with
  | zero => exact absurd rfl h
  | succ f => exact ⟨_, rfl⟩

set_option maxRecDepth 100000 in
set_option maxHeartbeats 4000000 in
theorem bases_any (sz tf tm : Nat → Int) (a a' : Option Addr) (ns c nt c' : Nat) (w : World) (hn : ns ≤ maxLen) (hn' : nt ≤ maxLen) (hr : RowAt w a ns fun i => .int .i64 (sz i)) (ht : RngRow w a' nt tf tm) :
    Calls Tryz.prog 56 #[.slice a ns c, .slice a' nt c'] w fun e w' => BasesEnd w' w.heap.size ns sz nt tf tm e ∧ Below w.heap.size w w' := by
  have HC := placeCheck_any sz tf tm a a' ns c nt c' w hn hn' hr ht
  by_cases h0 : placeF ns sz nt tf tm = 0
  · obtain ⟨g1, g2, g3, g4⟩ := placeF_zero h0
    rw [h0] at HC
    have HP : Hid (placeF ns sz nt tf tm = 0) := h0
    clear h0 hn hn'
    go_enter Tryz.func56, Tryz.ntmps56
    go_wp2_with fail
    refine HC.mono ?_
    rintro e w1 ⟨rfl, hb⟩
    clear HC
    have HD := cloneRng_any tf tm a' nt c' w1 (by omega) (ht.later hb)
    simp only [errV]
    go_wp2_with fail
    refine HD.mono ?_
    rintro e w2 ⟨⟨vh, rfl, hown⟩, hb2⟩
    clear HD
    have hown' : w2.ownsRow w.heap.size 141 2 vh nt (joinC (rngC tf tm) nt) := ⟨hown.1, by
      rcases hown.2 with h | ⟨g, cap, cur, h1, h2, h3⟩
      · exact .inl h
      · exact .inr ⟨g, cap, cur, h1, Nat.le_trans hb.size h2, h3⟩⟩
    replace hb := hb.trans (hb2.mono hb.size)
    clear hb2 hown
    go_wp2
    go_loopw [7, 8, 23] (fun x y z wr => ∃ (k : Nat) (vh vb : Value) (b : Nat → Int), k ≤ ns ∧ z = .int .i64 k ∧ x = vh ∧ y = vb ∧ wr.ownsRow w.heap.size 141 2 vh (nt + k) (joinC (rngC (heldF tf nt b) (heldF tm nt fun j => roundF (sz j))) (nt + k)) ∧
        wr.ownsRow w.heap.size 3 1 vb k (joinC (intC b) k) ∧ (∀ j, j < k → 0 ≤ b j ∧ b j ≤ 256) ∧ Hid (∀ j, j < k → Laid tf tm nt sz b j) ∧ Below w.heap.size w wr) (fun _ _ z _ => ns - (intOf z).toNat)
    case atStart => exact ⟨0, vh, .slice none 0 0, fun _ => 0, Nat.zero_le _, rfl, rfl, rfl, by
        rw [Nat.add_zero, joinC_congr (h := rngC tf tm) (fun i hi => by simp [rngC, heldF_old hi])]; exact hown', World.ownsRow_nil _ _ _ _, fun j hj => by omega, fun j hj => by omega, hb⟩
    case round =>
      clear hb hown'
      obtain ⟨k, vh, vb, b, hk, rfl, rfl, rfl, ho, hi, hbb, HL, hb⟩ := hrel
      by_cases hlt : k < ns
      · obtain ⟨ah, ch, rfl, hch, hrow⟩ := rows_rng ho
        have hs := g3 k hlt
        have hrk := roundF_many hs.1 hs.2
        rcases hr with h0 | ⟨bk, o, rfl, hc⟩
        · omega
        have hck := cell_later hb (hc k hlt)
        have HR := fun (w : World) => round_any (sz k) w (by omega) (by omega)
        have HF := free_any (heldF tf nt b) (heldF tm nt fun j => roundF (sz j)) ah (nt + k) ch (roundF (sz k)) wr (by omega) hrow (fun j hj => by
          by_cases e : j < nt
          · rw [heldF_old e, heldF_old e]; have := g4 j e; omega
          · obtain ⟨i, rfl⟩ : ∃ i, j = nt + i := ⟨j - nt, by omega⟩
            rw [heldF_new, heldF_new]
            have h1 := hbb i (by omega); have h2 := g3 i (by omega); have h3 := roundF_many h2.1 h2.2; omega) (by omega) (by omega)
        clear hc hrow
        go_wp2_with fail
        refine (HR _).mono ?_
        rintro e w' ⟨rfl, rfl⟩
        go_wp2_with fail
        refine HF.mono ?_
        rintro e w2 ⟨hend, hb2⟩
        clear HR HF
        have ho2 := owns_below ho hb2
        have hi2 := owns_below hi hb2
        replace hb := hb.trans (hb2.mono hb.size)
        clear hb2 ho hi hck
        cases hend with
        | no hno =>
          have HE : Hid (BasesAre ns sz nt tf tm 8 b) := .full b k HP.out hlt HL.out hno
          clear hno HL HP
          go_wp2
          go_ret2
          exact ⟨.bad 8 b (by decide) HE.out, hb.alloc hb.size _⟩
        | yes q hq =>
          have hq0 := hq.inside
          have HQ : Hid (∀ j, j < k + 1 → Laid tf tm nt sz (setAt b k (16 * (q : Int))) j) := fun j hj => by
            by_cases e : j = k
            · subst e
              exact ⟨q, setAt_new, hq.congr fun x hx => ⟨heldF_congr (fun y hy => setAt_old hy) x hx, rfl⟩⟩
            · exact (HL.out j (by omega)).congr fun y hy => setAt_old (by omega)
          clear hq HL
          have hB2 := hb.size
          obtain ⟨v1, W1, happ1, hG1⟩ := growRng (w := w2.alloc (.cells #[.int .i64 (16 * (q : Int)), .int .i64 (roundF (sz k))] 141)) (16 * (q : Int)) (roundF (sz k)) (by simp; omega) (ho2.alloc _) (by omega)
          have e1 : (w2.alloc (.cells #[.int .i64 (16 * (q : Int)), .int .i64 (roundF (sz k))] 141)).heap.size = w2.heap.size + 1 := by simp
          rw [e1] at happ1
          clear e1
          have hi3 := ((hi2.alloc (.cells #[.int .i64 (16 * (q : Int)), .int .i64 (roundF (sz k))] 141)).alloc (.cells #[.int .i64 (16 * (q : Int)), .int .i64 (roundF (sz k))] 141)).kept hG1.grown (owns_apart hi2 ho2 (by decide))
          have hne : some w2.heap.size ≠ (Value.slice ah (nt + k) ch).ownBlock := fun e => by have := (ho2.lt _ e.symm).2; omega
          have c0 : W1.cell? ⟨w2.heap.size, 0, none⟩ = some (.int .i64 (16 * (q : Int))) := hG1.grown.cell (by simp [go_sem]) hne
          have c1 : W1.cell? ⟨w2.heap.size, 1, none⟩ = some (.int .i64 (roundF (sz k))) := hG1.grown.cell (by simp [go_sem]) hne
          have hb1 : Below w.heap.size w W1 := ((hb.alloc hB2 _).alloc (by simp; omega) _).trans hG1.below
          obtain ⟨v2, W2, happ2, hG2⟩ := growInt (16 * (q : Int)) hb1.size hi3 (by omega)
          have ho3 := (hG1.own.alloc (.cells #[.int .i64 (16 * (q : Int))] 3)).kept hG2.grown (owns_apart hG1.own hi3 (by decide))
          have hb3 : Below w.heap.size w W2 := (hb1.alloc hb1.size _).trans hG2.below
          have hi4 := hG2.own
          rw [joinInt (b' := setAt b k (16 * (q : Int))) (fun i hi => setAt_old hi) setAt_new] at hi4
          rw [joinRng (f' := heldF tf nt (setAt b k (16 * (q : Int)))) (m' := heldF tm nt fun j => roundF (sz j)) (fun i hi => ⟨heldF_congr (fun y hy => setAt_old hy) i hi, rfl⟩) (by rw [heldF_new, setAt_new]) heldF_new] at ho3
          have hbn : ∀ j, j < k + 1 → 0 ≤ setAt b k (16 * (q : Int)) j ∧ setAt b k (16 * (q : Int)) j ≤ 256 := fun j hj => by
            by_cases e : j = k
            · subst e; rw [setAt_new]; omega
            · rw [← setAt_old (by omega)]; exact hbb j (by omega)
          clear hG1 hG2 hi3 ho2 hi2 hb1 hne hbb
          go_wp2_with (at_builtin; first | refine list_run rfl (.tmp 37) (.tmp 39) 137 rfl (.slice ah (nt + k) ch) (.slice (some ⟨w2.heap.size + 1, 0, none⟩) 1 1) _ rfl rfl happ1 ?_ | refine list_run rfl (.tmp 41) (.tmp 44) 23 rfl u8 (.slice (some ⟨W1.heap.size, 0, none⟩) 1 1) _ rfl rfl happ2 ?_)
          go_roundw
          case rel => exact ⟨k + 1, v1, v2, setAt b k (16 * (q : Int)), by omega, by go_num, rfl, rfl, ho3, hi4, hbn, HQ, hb3⟩
          case measure => simp [intOf]; omega
      · have e : k = ns := by omega
        subst e
        go_wp2
        go_ret2
        exact ⟨.ok b _ (.ok b HP.out HL.out) hi, hb⟩
  · obtain ⟨f, hf⟩ := errV_pos h0
    have HE : Hid (BasesAre ns sz nt tf tm (placeF ns sz nt tf tm) (fun _ => 0)) := .bad _ h0
    have HV : Hid (errV (placeF ns sz nt tf tm) = .iface 79 (.int .i64 f)) := hf
    have H0 : Hid (placeF ns sz nt tf tm ≠ 0) := h0
    rw [hf] at HC
    clear hr ht hf h0
    go_enter Tryz.func56, Tryz.ntmps56
    go_wp2_with fail
    refine HC.mono ?_
    rintro e w1 ⟨rfl, hb⟩
    clear HC
    go_wp2
    go_ret2
    exact ⟨by rw [← HV.out]; exact .bad _ _ H0.out HE.out, hb⟩
end Go.Proofs.YtieldgdkkfkehaaGreatDoor
