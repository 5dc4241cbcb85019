/-
  What checkBases, where and word of package patch return, for objects that may be, and their bases; memory that was there stays as it was.
-/
import Derived.Test.YtieldgdkkfkehaaGreatDoorErr
import Derived.Test.YtieldgdkkfkehaaGreatDoorScopeFind
import Derived.Test.YtieldgdkkfkehaaGreatDoorPlain
import Derived.Deep.QuietTactic
import Derived.BigQuiet
namespace Go.Proofs.YtieldgdkkfkehaaGreatDoor
open Go.RowKit

/-- objects that may be, and where they lie. -/
structure PatIn (w : World) (al : Option Addr) (n : Nat) (V : Nat → ObjV) (O : Nat → ObjF) (ab : Option Addr) (B : Nat → Int) : Prop where
  objs : ObjsRow w al n V O
  bases : RowAt w ab n fun i => .int .i64 (B i)
  good : ∀ i, i < n → ObjOk (O i)
  inW : ∀ i, i < n → 0 ≤ B i ∧ B i ≤ 256
  few : n ≤ 1000
theorem PatIn.later {w w' : World} {al : Option Addr} {n : Nat} {V : Nat → ObjV} {O : Nat → ObjF} {ab : Option Addr} {B : Nat → Int} (h : PatIn w al n V O ab B) (hb : Below w.heap.size w w') : PatIn w' al n V O ab B :=
  ⟨h.objs.later hb, h.bases.later hb, h.good, h.inW, h.few⟩

/-- where lies what is tied so? -/
def whereG (O : Nat → ObjF) (P Q : ByteArray → Int) (B : Nat → Int) (bi kind : Int) (s : ByteArray) (wk : Bool) : Option Int :=
  if kind = 1 then some bi else
  if 0 ≤ P s then some (B (P s).toNat + (O (P s).toNat).sAt (Q s).toNat) else
  if wk = true then some 0 else none
/-- what where returns. -/
def whE : Option Int → Value
  | some p => .tuple #[.int .i64 p, .nilIface]
  | none => .tuple #[.int .i64 0, errV 6]

set_option maxHeartbeats 2000000 in
theorem where_any (al ab : Option Addr) (n cl cb : Nat) (V : Nat → ObjV) (O : Nat → ObjF) (B : Nat → Int) (P Q : ByteArray → Int) (i : Nat) (x k d : Int) (s : ByteArray) (b : Bool) (w : World) (h : PatIn w al n V O ab B) (hP : Finds (symsF n O) P Q) (hi : i < n) :
    Calls Tryz.prog 59 #[.slice al n cl, .slice ab n cb, .int .i64 (i : Int), .agg #[.int .i64 x, .int .i64 k, .int .i64 d, .string s, .bool b]] w fun e w' => e = .returned (whE (whereG O P Q B (B i) k s b)) ∧ Below w.heap.size w w' := by
  have hfew := h.few
  have hx : ∀ ob : Obj, Below w.heap.size w (w.alloc ob) := fun ob => (Below.refl _ _).alloc (Nat.le_refl _) ob
  by_cases hk : k = 1
  · have HE : Hid (whereG O P Q B (B i) k s b = some (B i)) := if_pos hk
    have hk' : (k == 1) = true := by simp [hk]
    rcases h.bases with h0 | ⟨bb, ob, rfl, hc⟩
    · omega
    have hci : ∀ o : Obj, (w.alloc o).cell? ⟨bb, ob + i, none⟩ = some (.int .i64 (B i)) := fun o => cell_later (hx o) (hc i hi)
    clear hc hk h
    go_enter Tryz.func59, Tryz.ntmps59
    go_wp2
    go_ret2
    rw [HE.out]
    exact ⟨rfl, hx _⟩
  · have hk' : (k == 1) = false := by rw [beq_eq_false_iff_ne]; exact hk
    have HF := fun (w' : World) (hb : Below w.heap.size w w') => find_any al n cl V O s w' (by omega) (fun j hj => by have := (h.good j hj).nS; omega) (h.objs.later hb)
    rcases hP.shape s with ⟨e1, e2⟩ | ⟨p, q, e1, e2, hp, hq, _⟩
    · have e3 : ¬ 0 ≤ P s := by omega
      cases b with
      | true =>
        have HE : Hid (whereG O P Q B (B i) k s true = some 0) := by
          show whereG O P Q B (B i) k s true = some 0
          unfold whereG; rw [if_neg hk, if_neg e3, if_pos rfl]
        clear hk e3 h
        go_enter Tryz.func59, Tryz.ntmps59
        go_wp2_with fail
        refine (HF _ (hx _)).mono ?_
        rintro e w2 ⟨⟨p, q, rfl, hF⟩, hb⟩
        obtain ⟨rfl, rfl⟩ := hP.eq hF
        have c4 : w2.cell? ⟨w.heap.size, 4, none⟩ = some (.bool true) := cell_later hb (by simp [go_sem])
        clear hF HF
        rw [e1, e2]
        go_wp2
        go_ret2
        rw [HE.out]
        exact ⟨rfl, (hx _).trans (hb.mono (by simp))⟩
      | false =>
        have HE : Hid (whereG O P Q B (B i) k s false = none) := by
          show whereG O P Q B (B i) k s false = none
          unfold whereG; rw [if_neg hk, if_neg e3, if_neg (by decide)]
        clear hk e3 h
        go_enter Tryz.func59, Tryz.ntmps59
        go_wp2_with fail
        refine (HF _ (hx _)).mono ?_
        rintro e w2 ⟨⟨p, q, rfl, hF⟩, hb⟩
        obtain ⟨rfl, rfl⟩ := hP.eq hF
        have c4 : w2.cell? ⟨w.heap.size, 4, none⟩ = some (.bool false) := cell_later hb (by simp [go_sem])
        clear hF HF
        rw [e1, e2]
        go_wp2
        go_ret2
        rw [HE.out]
        exact ⟨rfl, (hx _).trans (hb.mono (by simp))⟩
    · have hp' : p < n := hp
      have hq' : q < (O p).nS := hq
      have HE : Hid (whereG O P Q B (B i) k s b = some (B p + (O p).sAt q)) := by
        show whereG O P Q B (B i) k s b = some (B p + (O p).sAt q)
        unfold whereG; rw [if_neg hk, if_pos (by omega), e1, e2]; rfl
      have hBp := h.inW p hp'
      have hSq := ((h.good p hp').syms q hq').2
      have hWp := (h.good p hp').nW
      have hSp := (h.good p hp').nS
      rcases h.bases with h0 | ⟨bb, ob, rfl, hc⟩
      · omega
      have h1 := h.objs
      rcases h1 with h0 | ⟨bl, ol, rfl, hc1⟩
      · omega
      have hH := hc1 p hp'
      have hcp := hc p hp'
      rcases hH.here.syms with h0 | ⟨bs, os, ha, hs⟩
      · omega
      have hc2 := hH.c2
      rw [ha] at hc2
      have hsq := (hs q hq').2.1
      clear hk hc hc1 h hs hH
      go_enter Tryz.func59, Tryz.ntmps59
      go_wp2_with fail
      refine (HF _ (hx _)).mono ?_
      rintro e w2 ⟨⟨p2, q2, rfl, hF⟩, hb⟩
      obtain ⟨rfl, rfl⟩ := hP.eq hF
      have hbw := (hx (.cells #[.int .i64 x, .int .i64 k, .int .i64 d, .string s, .bool b] 67)).trans (hb.mono (by simp))
      replace hcp := cell_later hbw hcp
      replace hc2 := cell_later hbw hc2
      replace hsq := cell_later hbw hsq
      clear hF HF hb
      rw [e1, e2]
      clear e1 e2
      go_wp2
      go_quiet (fail)
      go_wp2
      go_ret2
      rw [HE.out]
      exact ⟨rfl, below_drewN hbw _⟩

theorem whereG_in {w : World} {al ab : Option Addr} {n : Nat} {V : Nat → ObjV} {O : Nat → ObjF} {B : Nat → Int} {P Q : ByteArray → Int} {i : Nat} {k : Int} {s : ByteArray} {b : Bool} {p : Int} (h : PatIn w al n V O ab B) (hP : Finds (symsF n O) P Q) (hi : i < n) (e : whereG O P Q B (B i) k s b = some p) : 0 ≤ p ∧ p ≤ 300 := by
  unfold whereG at e
  split at e
  · injection e with e
    have := h.inW i hi
    omega
  split at e
  · injection e with e
    rcases hP.shape s with ⟨e1, e2⟩ | ⟨x, y, e1, e2, hx, hy, _⟩
    · omega
    · have hx' : x < n := hx
      have hy' : y < (O x).nS := hy
      have h1 := h.inW x hx'
      have h2 := ((h.good x hx').syms y hy').2
      have h3 := (h.good x hx').nW
      rw [e1, e2] at e
      simp only [Int.toNat_natCast] at e
      omega
  split at e
  · injection e with e
    omega
  · cases e

theorem isWordQ_any (n : Int) (w : World) : Calls Tryz.prog 60 #[.int .i64 n] w fun e w' => e = .returned (.bool (isWordF n)) ∧ w = w' := by
  by_cases h1 : -2147483648 ≤ n
  all_goals by_cases h2 : n ≤ 2147483647
  all_goals
    go_enter Tryz.func60, Tryz.ntmps60
    go_wp2
    go_ret
    exact ⟨ret_bool (by simp [isWordF] <;> omega), rfl⟩

/-- what word returns. -/
def hangE (r : Nat × Int) : Value := .tuple #[.int .i64 r.2, errV r.1]

set_option maxHeartbeats 2000000 in
theorem word_any (al ab : Option Addr) (n cl cb : Nat) (V : Nat → ObjV) (O : Nat → ObjF) (B : Nat → Int) (P Q : ByteArray → Int) (i : Nat) (x k d : Int) (s : ByteArray) (b : Bool) (w : World) (h : PatIn w al n V O ab B) (hP : Finds (symsF n O) P Q) (hi : i < n) (hx0 : 0 ≤ x ∧ x ≤ 40) (hd : -2147483648 ≤ d ∧ d ≤ 2147483647) :
    Calls Tryz.prog 39 #[.slice al n cl, .slice ab n cb, .int .i64 (i : Int), .agg #[.int .i64 x, .int .i64 k, .int .i64 d, .string s, .bool b]] w fun e w' => e = .returned (hangE (hangF k (B i) x d (whereG O P Q B (B i) k s b))) ∧ Below w.heap.size w w' := by
  have hfew := h.few
  have hBi := h.inW i hi
  have hx : ∀ ob : Obj, Below w.heap.size w (w.alloc ob) := fun ob => (Below.refl _ _).alloc (Nat.le_refl _) ob
  have HW := fun (w' : World) (hb : Below w.heap.size w w') => where_any al ab n cl cb V O B P Q i x k d s b w' (h.later hb) hP hi
  have hin := fun p => whereG_in (k := k) (s := s) (b := b) (p := p) h hP hi
  rcases h.bases with h0 | ⟨bb, ob, rfl, hc⟩
  · omega
  have hci := hc i hi
  clear h hP hc
  cases hw : whereG O P Q B (B i) k s b with
  | none =>
    simp only [hw, whE, errV] at HW
    clear hw hin
    go_enter Tryz.func39, Tryz.ntmps39
    go_wp2_with fail
    refine (HW _ (hx _)).mono ?_
    rintro e w2 ⟨rfl, hb⟩
    clear HW
    go_wp2
    go_ret2
    exact ⟨rfl, (hx _).trans (hb.mono (by simp))⟩
  | some p =>
    have hp := hin p hw
    simp only [hw, whE] at HW
    have HI := isWordQ_any
    clear hw hin
    by_cases h3 : k = 3
    · have h3' : (k == 3) = true := by simp [h3]
      by_cases z : p + d - (B i + x) < -500 ∨ 500 < p + d - (B i + x)
      · have HE : Hid (hangF k (B i) x d (some p) = (7, 0)) := by
          show hangF k (B i) x d (some p) = (7, 0)
          simp only [hangF]
          rw [if_pos h3, if_pos z]
        clear h3
        by_cases z1 : p + d - (B i + x) < -500
        · clear z
          go_enter Tryz.func39, Tryz.ntmps39
          go_wp2_with fail
          refine (HW _ (hx _)).mono ?_
          rintro e w2 ⟨rfl, hb⟩
          have hbw := (hx (.cells #[.int .i64 x, .int .i64 k, .int .i64 d, .string s, .bool b] 67)).trans (hb.mono (by simp))
          have c0 : w2.cell? ⟨w.heap.size, 0, none⟩ = some (.int .i64 x) := cell_later hb (by simp [go_sem])
          have c1 : w2.cell? ⟨w.heap.size, 1, none⟩ = some (.int .i64 k) := cell_later hb (by simp [go_sem])
          have c2 : w2.cell? ⟨w.heap.size, 2, none⟩ = some (.int .i64 d) := cell_later hb (by simp [go_sem])
          replace hci := cell_later hbw hci
          clear HW hb
          go_wp2
          go_quiet (fail)
          go_wp2
          go_ret2
          rw [HE.out]
          exact ⟨rfl, below_drewN hbw _⟩
        · have z2 : 500 < p + d - (B i + x) := by omega
          clear z
          go_enter Tryz.func39, Tryz.ntmps39
          go_wp2_with fail
          refine (HW _ (hx _)).mono ?_
          rintro e w2 ⟨rfl, hb⟩
          have hbw := (hx (.cells #[.int .i64 x, .int .i64 k, .int .i64 d, .string s, .bool b] 67)).trans (hb.mono (by simp))
          have c0 : w2.cell? ⟨w.heap.size, 0, none⟩ = some (.int .i64 x) := cell_later hb (by simp [go_sem])
          have c1 : w2.cell? ⟨w.heap.size, 1, none⟩ = some (.int .i64 k) := cell_later hb (by simp [go_sem])
          have c2 : w2.cell? ⟨w.heap.size, 2, none⟩ = some (.int .i64 d) := cell_later hb (by simp [go_sem])
          replace hci := cell_later hbw hci
          clear HW hb
          go_wp2
          go_quiet (fail)
          go_wp2
          go_ret2
          rw [HE.out]
          exact ⟨rfl, below_drewN hbw _⟩
      · have HE : Hid (hangF k (B i) x d (some p) = (0, p + d - (B i + x))) := by
          show hangF k (B i) x d (some p) = (0, p + d - (B i + x))
          simp only [hangF]
          rw [if_pos h3, if_neg z]
        have HI2 := fun (w : World) => HI (p + d - (B i + x)) w
        have hwd : isWordF (p + d - (B i + x)) = true := by simp [isWordF]; omega
        rw [hwd] at HI2
        have z1 : ¬ p + d - (B i + x) < -500 := by omega
        have z2 : ¬ 500 < p + d - (B i + x) := by omega
        clear h3 z HI hwd
        go_enter Tryz.func39, Tryz.ntmps39
        go_wp2_with fail
        refine (HW _ (hx _)).mono ?_
        rintro e w2 ⟨rfl, hb⟩
        have hbw := (hx (.cells #[.int .i64 x, .int .i64 k, .int .i64 d, .string s, .bool b] 67)).trans (hb.mono (by simp))
        have c0 : w2.cell? ⟨w.heap.size, 0, none⟩ = some (.int .i64 x) := cell_later hb (by simp [go_sem])
        have c1 : w2.cell? ⟨w.heap.size, 1, none⟩ = some (.int .i64 k) := cell_later hb (by simp [go_sem])
        have c2 : w2.cell? ⟨w.heap.size, 2, none⟩ = some (.int .i64 d) := cell_later hb (by simp [go_sem])
        replace hci := cell_later hbw hci
        clear HW hb
        go_wp2
        go_quiet (fail)
        go_wp2_with fail
        refine (HI2 _).mono ?_
        rintro e w3 ⟨rfl, rfl⟩
        go_wp2
        go_ret2
        rw [HE.out]
        exact ⟨rfl, below_drewN hbw _⟩
    · have h3' : (k == 3) = false := by rw [beq_eq_false_iff_ne]; exact h3
      have HI2 := fun (w : World) => HI (p + d) w
      cases hwd : isWordF (p + d) with
      | true =>
        have HE : Hid (hangF k (B i) x d (some p) = (0, p + d)) := by
          show hangF k (B i) x d (some p) = (0, p + d)
          simp only [hangF]
          rw [if_neg h3, if_pos hwd]
        rw [hwd] at HI2
        clear h3 HI hwd
        go_enter Tryz.func39, Tryz.ntmps39
        go_wp2_with fail
        refine (HW _ (hx _)).mono ?_
        rintro e w2 ⟨rfl, hb⟩
        have hbw := (hx (.cells #[.int .i64 x, .int .i64 k, .int .i64 d, .string s, .bool b] 67)).trans (hb.mono (by simp))
        have c1 : w2.cell? ⟨w.heap.size, 1, none⟩ = some (.int .i64 k) := cell_later hb (by simp [go_sem])
        have c2 : w2.cell? ⟨w.heap.size, 2, none⟩ = some (.int .i64 d) := cell_later hb (by simp [go_sem])
        clear HW hb hci
        go_wp2_with fail
        refine (HI2 _).mono ?_
        rintro e w3 ⟨rfl, rfl⟩
        go_wp2
        go_ret2
        rw [HE.out]
        exact ⟨rfl, hbw⟩
      | false =>
        have HE : Hid (hangF k (B i) x d (some p) = (7, 0)) := by
          show hangF k (B i) x d (some p) = (7, 0)
          simp only [hangF]
          rw [if_neg h3, if_neg (by simp [hwd])]
        rw [hwd] at HI2
        clear h3 HI hwd
        go_enter Tryz.func39, Tryz.ntmps39
        go_wp2_with fail
        refine (HW _ (hx _)).mono ?_
        rintro e w2 ⟨rfl, hb⟩
        have hbw := (hx (.cells #[.int .i64 x, .int .i64 k, .int .i64 d, .string s, .bool b] 67)).trans (hb.mono (by simp))
        have c1 : w2.cell? ⟨w.heap.size, 1, none⟩ = some (.int .i64 k) := cell_later hb (by simp [go_sem])
        have c2 : w2.cell? ⟨w.heap.size, 2, none⟩ = some (.int .i64 d) := cell_later hb (by simp [go_sem])
        clear HW hb hci
        go_wp2_with fail
        refine (HI2 _).mono ?_
        rintro e w3 ⟨rfl, rfl⟩
        go_wp2
        go_ret2
        rw [HE.out]
        exact ⟨rfl, hbw⟩

set_option maxHeartbeats 1000000 in
theorem checkBases_any (B : Nat → Int) (a : Option Addr) (nb c n : Nat) (w : World) (hn : nb ≤ maxLen) (hr : RowAt w a nb fun i => .int .i64 (B i)) :
    Calls Tryz.prog 38 #[.slice a nb c, .int .i64 (n : Int)] w fun e w' => e = .returned (errV (if nb ≠ n then 3 else if outB B nb = true then 1 else 0)) ∧ w' = w := by
  unfold maxLen at hn
  generalize hF : (if nb ≠ n then 3 else if outB B nb = true then 1 else 0) = F
  by_cases hne : nb = n
  · rw [if_neg (by simp [hne])] at hF
    have HF : Hid ((if anyTo (fun i => decide (B i < 0 ∨ 256 < B i)) nb = true then 1 else 0) = F) := hF
    have h1 : ((nb : Int) != (n : Int)) = false := by rw [bne_eq_false_iff_eq]; omega
    clear hF hne
    go_enter Tryz.func38, Tryz.ntmps38
    go_wp2
    go_loop [14] (fun x => ∃ k : Nat, k ≤ nb ∧ x = .int .i64 k ∧ Hid (anyTo (fun i => decide (B i < 0 ∨ 256 < B i)) k = false)) (fun x => nb - (intOf x).toNat)
    case atStart => exact ⟨0, Nat.zero_le _, rfl, rfl⟩
    case round =>
      obtain ⟨k, hk, rfl, HK⟩ := hrel
      by_cases hlt : k < nb
      · rcases hr with h0 | ⟨b, o, rfl, hc⟩
        · omega
        have hck := hc k hlt
        clear hc
        by_cases hz : B k < 0 ∨ 256 < B k
        · have HE : Hid (F = 1) := by
            show F = 1
            rw [← HF.out, if_pos (anyTo_yes hlt (decide_eq_true hz))]
          by_cases hz1 : B k < 0
          · clear hz
            go_wp2
            go_ret
            rw [HE.out]
            exact ⟨rfl, rfl⟩
          · have hz2 : 256 < B k := by omega
            clear hz
            go_wp2
            go_ret
            rw [HE.out]
            exact ⟨rfl, rfl⟩
        · have HE : Hid (anyTo (fun i => decide (B i < 0 ∨ 256 < B i)) (k + 1) = false) := anyTo_no HK.out (decide_eq_false hz)
          have hz1 : ¬ B k < 0 := by omega
          have hz2 : ¬ 256 < B k := by omega
          clear hz
          go_wp2
          go_round
          case rel => exact ⟨k + 1, by omega, by go_num, HE⟩
          case measure => simp [intOf]; omega
      · have e : k = nb := by omega
        have HE : Hid (F = 0) := by
          show F = 0
          rw [← HF.out, if_neg]
          rw [← e, HK.out]; decide
        go_wp2
        go_ret
        rw [HE.out]
        exact ⟨rfl, rfl⟩
  · rw [if_pos hne] at hF
    subst hF
    have h1 : ((nb : Int) != (n : Int)) = true := by rw [bne_iff_ne]; omega
    clear hne
    go_enter Tryz.func38, Tryz.ntmps38
    go_wp2
    go_ret
    exact ⟨rfl, rfl⟩
end Go.Proofs.YtieldgdkkfkehaaGreatDoor
