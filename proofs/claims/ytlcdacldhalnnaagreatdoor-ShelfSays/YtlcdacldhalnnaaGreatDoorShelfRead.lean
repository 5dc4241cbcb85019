/-
  What readHead of package shelf returns, of any disk: the head that stands in its first sector, or the number of the error.
-/
import Derived.Test.YtlcdacldhalnnaaGreatDoorShelfHead
import Derived.Test.YtlcdacldhalnnaaGreatDoorDiskAll
import Derived.Test.YtlcdacldhalnnaaGreatDoorEarly
namespace Go.Proofs.YtlcdacldhalnnaaGreatDoor
open Go.RowKit

/-- the head that a sector's text holds. -/
def headOf (t : List UInt8) : Option (UInt8 × UInt8) :=
  if (t.getD 18 0).toNat ≤ 1 ∧ (t.getD 19 0).toNat ≤ 55 ∧ headT (t.getD 18 0) (t.getD 19 0) = t then some (t.getD 18 0, t.getD 19 0) else none
/-- what readHead answers: the number of its error, and the head. -/
def readHeadF (s : DSt) (n : Nat) : Nat × UInt8 × UInt8 :=
  if s.readF n 0 ≠ 0 then (s.readF n 0, 0, 0) else if n < 112 then (4, 0, 0) else match headOf (s.K 0).now with | some (b, q) => (0, b, q) | none => (4, 0, 0)
theorem box2 {w : World} {g : Nat} {a b : Value} {t : TypeId} (h : w.heap[g]? = some (.cells #[a, b] t (0, 0))) : w.cell? ⟨g, 0, none⟩ = some a ∧ w.cell? ⟨g, 1, none⟩ = some b ∧ w.frozen? ⟨g, 0, none⟩ = false ∧ w.frozen? ⟨g, 1, none⟩ = false :=
  ⟨by simp [World.cell?, h], by simp [World.cell?, h], by simp [World.frozen?, h], by simp [World.frozen?, h]⟩
theorem below2 {B g : Nat} {w w' : World} (h : Below B w w') (hg : B ≤ g) (a0 a1 : Value) : Below B w ((w'.setCell ⟨g, 0, none⟩ a0).setCell ⟨g, 1, none⟩ a1) :=
  h.trans ⟨rfl, rfl, rfl, by simp [World.setCell], fun k hk => (Below.heap_setCell _ _ _ _ (Nat.ne_of_lt (Nat.lt_of_lt_of_le hk hg))).trans (Below.heap_setCell _ _ _ _ (Nat.ne_of_lt (Nat.lt_of_lt_of_le hk hg)))⟩

theorem wrap_u8 (x : UInt8) : IntKind.i64.wrap (x.toNat : Int) = (x.toNat : Int) := by
  have := x.toNat_lt
  exact IntWalk.i64_in _ ⟨by omega, by omega⟩
theorem wrap_u8' (x : UInt8) : wrap64 (x.toNat : Int) = (x.toNat : Int) := by
  have h := x.toNat_lt
  generalize x.toNat = k at *
  unfold wrap64
  omega
theorem byte_at (l : List UInt8) {i : Nat} (h : i < (⟨l.toArray⟩ : ByteArray).size) : (⟨l.toArray⟩ : ByteArray)[i] = l.getD i 0 := by
  have h2 : i < l.length := h
  rw [List.getD_eq_getElem?_getD, List.getElem?_eq_getElem h2]
  rfl
theorem errV_some {f : Nat} (h : f ≠ 0) : ∃ n : Int, errV f = .iface 62 (.int .i64 n) := by
  cases f with
  | zero => exact absurd rfl h
  | succ f => exact ⟨_, rfl⟩
set_option maxRecDepth 100000 in
set_option maxHeartbeats 4000000 in
theorem readHead_any (w : World) (B p n : Nat) (s : DSt) (h : Disk w B p n s) (hnow : (s.K 0).now.length = 64) :
    Calls Tryz.prog 31 #[.pointer (some ⟨p, 0, none⟩)] w fun e w' => e = .returned (.tuple #[.agg #[.int .i64 ((readHeadF s n).2.1.toNat : Int), .int .i64 ((readHeadF s n).2.2.toNat : Int)], errV (readHeadF s n).1]) ∧ Below w.heap.size w w' := by
  have hb0 : Below w.heap.size w (w.alloc (.cells #[.int .i64 0, .int .i64 0] 75)) := (Below.refl _ _).alloc (Nat.le_refl _) _
  have hres : (w.alloc (.cells #[.int .i64 0, .int .i64 0] 75)).heap[w.heap.size]? = some (.cells #[.int .i64 0, .int .i64 0] 75 (0, 0)) := Array.getElem?_push_size
  have hz : w.heap.size < (w.alloc (.cells #[.int .i64 0, .int .i64 0] 75)).heap.size := by simp
  have h1 := h.later hb0
  have HR := diskRead_any _ B p n s 0 h1
  generalize hW : w.alloc (.cells #[.int .i64 0, .int .i64 0] 75) = W at *
  by_cases hF : s.readF n 0 = 0
  · have hT : s.readT n 0 = ⟨(s.K 0).now.toArray⟩ := by unfold DSt.readT; rw [if_pos hF]; rfl
    have q0e : errV 0 = .nilIface := rfl
    rw [hF, q0e, hT] at HR
    have HH : Hid (readHeadF s n = if n < 112 then (4, 0, 0) else match headOf (s.K 0).now with | some (b, q) => (0, b, q) | none => (4, 0, 0)) := by unfold readHeadF; rw [if_neg (by simp [hF])]; exact rfl
    have HS := fun W (hb : Below w.heap.size w W) => diskSectors_any W B p n s (h.later hb)
    generalize hTT : (⟨(s.K 0).now.toArray⟩ : ByteArray) = T at HR
    have hTs : T.size = 64 := by rw [← hTT]; show (s.K 0).now.toArray.size = 64; simp [hnow]
    go_enter Tryz.func31, Tryz.ntmps31
    go_wp2_with fail
    refine (show Calls _ _ _ _ _ from HR).mono ?_
    rintro e w2 ⟨rfl, hb2⟩
    clear HR
    have hbA := hb0.trans (hb2.mono hb0.size)
    have hz2 : w.heap.size < w2.heap.size := Nat.lt_of_lt_of_le hz hb2.size
    have hres2 := (hb2.block _ hz).trans hres
    have HS2 := HS w2 hbA
    clear HS hb2 hres hz
    by_cases hn : n < 112
    · have HE : Hid (readHeadF s n = (4, 0, 0)) := by rw [HH.out, if_pos hn]; exact rfl
      have hn' : (n : Int) < 112 := by omega
      obtain ⟨q0, q1, f0, f1⟩ := box2 hres2
      have hNB := below2 hbA (Nat.le_refl w.heap.size) (.int .i64 0) (.int .i64 0)
      clear HH
      go_wp2_with fail
      refine (show Calls _ _ _ _ _ from HS2).mono ?_
      rintro e w3 ⟨rfl, hw3⟩
      subst hw3
      clear HS2
      go_wp2
      refine bodyPost_ret (v := .tuple #[.agg #[.int .i64 0, .int .i64 0], .iface 62 (.int .i64 4)]) (by simp [results, Tryz.results31, go_sem, q0, q1]) rfl ?_
      rw [HE.out]
      exact ⟨rfl, hNB⟩
    · have hn' : ¬ (n : Int) < 112 := by omega
      have h18 : 18 < T.size := by omega
      have h19 : 19 < T.size := by omega
      go_wp2_with fail
      refine (show Calls _ _ _ _ _ from HS2).mono ?_
      rintro e w3 ⟨rfl, hw3⟩
      subst hw3
      clear HS2
      go_wp2
      refine wp_region_G (fun _ => True) 8 9 (by kernel_rfl) rfl ?_
      have hSS : (fun _ : World => True) w3.drew := trivial
      refine takeW 0 (v := ?v1) rfl (by kernel_rfl) (by kernel_rfl) (by kernel_rfl) (by kernel_rfl) (fun _ _ _ h => h) (.inr hSS) (.inl ⟨by rfl, fun w => ?hy1⟩) ?rest1
      case hy1 => (go_simp <;> with_reducible rfl)
      simp only [Go.Act.put, List.setIfInBounds_toArray, List.set_cons_zero, List.set_cons_succ]
      refine takeW 1 (v := ?v2) rfl (by kernel_rfl) (by kernel_rfl) (by kernel_rfl) (by kernel_rfl) (fun _ _ _ h => h) (.inr hSS) (.inl ⟨by rfl, fun w => ?hy2⟩) ?rest2
      case hy2 => (go_simp <;> with_reducible rfl)
      simp only [Go.Act.put, List.setIfInBounds_toArray, List.set_cons_zero, List.set_cons_succ]
      refine takeW 2 (v := ?v3) rfl (by kernel_rfl) (by kernel_rfl) (by kernel_rfl) (by kernel_rfl) (fun _ _ _ h => h) (.inr hSS) (.inl ⟨by rfl, fun w => ?hy3⟩) ?rest3
      case hy3 => (go_simp <;> with_reducible rfl)
      simp only [Go.Act.put, List.setIfInBounds_toArray, List.set_cons_zero, List.set_cons_succ]
      refine takeW 3 (v := ?v4) rfl (by kernel_rfl) (by kernel_rfl) (by kernel_rfl) (by kernel_rfl) (fun _ _ _ h => h) (.inr hSS) (.inl ⟨by rfl, fun w => ?hy4⟩) ?rest4
      case hy4 => (go_simp <;> with_reducible rfl)
      simp only [Go.Act.put, List.setIfInBounds_toArray, List.set_cons_zero, List.set_cons_succ]
      refine takeW 4 (v := ?v5) rfl (by kernel_rfl) (by kernel_rfl) (by kernel_rfl) (by kernel_rfl) (fun _ _ _ h => h) (.inr hSS) (.inl ⟨by rfl, fun w => ?hy5⟩) ?rest5
      case hy5 => (go_simp <;> with_reducible rfl)
      simp only [Go.Act.put, List.setIfInBounds_toArray, List.set_cons_zero, List.set_cons_succ]
      refine takeW 5 (v := ?v6) rfl (by kernel_rfl) (by kernel_rfl) (by kernel_rfl) (by kernel_rfl) (fun _ _ _ h => h) (.inr hSS) (.inl ⟨by rfl, fun w => ?hy6⟩) ?rest6
      case hy6 => (go_simp <;> with_reducible rfl)
      simp only [Go.Act.put, List.setIfInBounds_toArray, List.set_cons_zero, List.set_cons_succ]
      refine takeW 6 (v := ?v7) rfl (by kernel_rfl) (by kernel_rfl) (by kernel_rfl) (by kernel_rfl) (fun _ _ _ h => h) (.inr hSS) (.inl ⟨by rfl, fun w => ?hy7⟩) ?rest7
      case hy7 => (go_simp <;> with_reducible rfl)
      simp only [Go.Act.put, List.setIfInBounds_toArray, List.set_cons_zero, List.set_cons_succ]
      refine onlyG 7 rfl (by kernel_rfl) (fun K hK => ?_)
      go_wp2_with fail
      refine hK _ _ trivial ?_
      clear hK
      refine lastG 8 rfl (by kernel_rfl) (by kernel_rfl) (fun K hK => ?_)
      go_wp2_with fail
      refine hK _ _ ?_
      clear hK
      refine doneG (by kernel_rfl) ?_ _
      have hw8 := wrap_u8 T[18]
      have hw9 := wrap_u8 T[19]
      have hv8 := wrap_u8' T[18]
      have hv9 := wrap_u8' T[19]
      have g18 : T[18] = (s.K 0).now.getD 18 0 := by subst hTT; exact byte_at _ h18
      have g19 : T[19] = (s.K 0).now.getD 19 0 := by subst hTT; exact byte_at _ h19
      simp only [hw8, hw9, hv8, hv9]
      clear hw8 hw9 hv8 hv9
      generalize T[18] = x8 at *
      generalize T[19] = x9 at *
      have G18 : Hid (x8 = (s.K 0).now.getD 18 0) := g18
      have G19 : Hid (x9 = (s.K 0).now.getD 19 0) := g19
      have HNL : Hid (T.data.toList = (s.K 0).now) := by rw [← hTT]; exact rfl
      clear g18 g19
      have hbx : Below w3.heap.size w3 (w3.alloc (.cells #[.int .i64 (x8.toNat : Int), .int .i64 (x9.toNat : Int)] 75)).drew := ((Below.refl _ _).alloc (Nat.le_refl _) _).drew
      have hbB := hbA.trans (hbx.mono (Nat.le_of_lt hz2))
      have hres4 := (hbx.block _ hz2).trans hres2
      have d0 : (w3.alloc (.cells #[.int .i64 (x8.toNat : Int), .int .i64 (x9.toNat : Int)] 75)).drew.cell? ⟨w3.heap.size, 0, none⟩ = some (.int .i64 (x8.toNat : Int)) := by simp [go_sem]
      have d1 : (w3.alloc (.cells #[.int .i64 (x8.toNat : Int), .int .i64 (x9.toNat : Int)] 75)).drew.cell? ⟨w3.heap.size, 1, none⟩ = some (.int .i64 (x9.toNat : Int)) := by simp [go_sem]
      have hlt8 := x8.toNat_lt
      have hlt9 := x9.toNat_lt
      have hz4 : w.heap.size < (w3.alloc (.cells #[.int .i64 (x8.toNat : Int), .int .i64 (x9.toNat : Int)] 75)).drew.heap.size := by simp; omega
      have hno : ¬ (x8.toNat ≤ 1 ∧ x9.toNat ≤ 55 ∧ headT x8 x9 = T.data.toList) → readHeadF s n = (4, 0, 0) := fun hh => by
        rw [HH.out, if_neg hn]
        unfold headOf
        rw [← G18.out, ← G19.out, ← HNL.out, if_neg hh]
      have hyes : (x8.toNat ≤ 1 ∧ x9.toNat ≤ 55 ∧ headT x8 x9 = T.data.toList) → readHeadF s n = (0, x8, x9) := fun hh => by
        rw [HH.out, if_neg hn]
        unfold headOf
        rw [← G18.out, ← G19.out, ← HNL.out, if_pos hh]
      have HNO : Hid (¬ (x8.toNat ≤ 1 ∧ x9.toNat ≤ 55 ∧ headT x8 x9 = T.data.toList) → readHeadF s n = (4, 0, 0)) := hno
      have HYES : Hid ((x8.toNat ≤ 1 ∧ x9.toNat ≤ 55 ∧ headT x8 x9 = T.data.toList) → readHeadF s n = (0, x8, x9)) := hyes
      clear hno hyes hTT hTs hres2 hbA
      generalize (w3.alloc (.cells #[.int .i64 (x8.toNat : Int), .int .i64 (x9.toNat : Int)] 75)).drew = w4 at *
      by_cases k1 : (1 : Int) < (x8.toNat : Int)
      · have HE : Hid (readHeadF s n = (4, 0, 0)) := HNO.out (fun hh => by omega)
        obtain ⟨q0, q1, f0, f1⟩ := box2 hres4
        have hNB := below2 hbB (Nat.le_refl w.heap.size) (.int .i64 0) (.int .i64 0)
        clear HH
        go_wp2
        refine bodyPost_ret (v := .tuple #[.agg #[.int .i64 0, .int .i64 0], .iface 62 (.int .i64 4)]) (by simp [results, Tryz.results31, go_sem, q0, q1]) rfl ?_
        rw [HE.out]
        exact ⟨rfl, hNB⟩
      by_cases k2 : (55 : Int) < (x9.toNat : Int)
      · have HE : Hid (readHeadF s n = (4, 0, 0)) := HNO.out (fun hh => by omega)
        obtain ⟨q0, q1, f0, f1⟩ := box2 hres4
        have hNB := below2 hbB (Nat.le_refl w.heap.size) (.int .i64 0) (.int .i64 0)
        clear HH
        go_wp2
        refine bodyPost_ret (v := .tuple #[.agg #[.int .i64 0, .int .i64 0], .iface 62 (.int .i64 4)]) (by simp [results, Tryz.results31, go_sem, q0, q1]) rfl ?_
        rw [HE.out]
        exact ⟨rfl, hNB⟩
      have HT := headText_any x8.toNat x9.toNat w4 (by omega) (by omega)
      have u8 : x8.toNat.toUInt8 = x8 := by simp
      have u9 : x9.toNat.toUInt8 = x9 := by simp
      rw [u8, u9] at HT
      clear u8 u9
      go_wp2_with fail
      refine (show Calls _ _ _ _ _ from HT).mono ?_
      rintro e w5 ⟨rfl, hb5⟩
      clear HT
      have hres5 := (hb5.block _ hz4).trans hres4
      have hbC := hbB.trans (hb5.mono hbB.size)
      have e0 := cell_later hb5 d0
      have e1 := cell_later hb5 d1
      obtain ⟨q0, q1, f0, f1⟩ := box2 hres5
      clear d0 d1 hbB hres4 hres5 HH
      by_cases hEq : (⟨(headT x8 x9).toArray⟩ : ByteArray) = T
      · have HE : Hid (readHeadF s n = (0, x8, x9)) := HYES.out ⟨by omega, by omega, by rw [← hEq]⟩
        have hNB := below2 hbC (Nat.le_refl w.heap.size) (.int .i64 (x8.toNat : Int)) (.int .i64 (x9.toNat : Int))
        rw [hEq]
        clear hEq
        go_wp2
        refine bodyPost_ret (v := .tuple #[.agg #[.int .i64 (x8.toNat : Int), .int .i64 (x9.toNat : Int)], .nilIface]) (by simp [results, Tryz.results31, go_sem, q0, q1]) rfl ?_
        rw [HE.out]
        exact ⟨rfl, hNB⟩
      · have HE : Hid (readHeadF s n = (4, 0, 0)) := HNO.out (fun hh => hEq (by rw [hh.2.2]))
        have hNB := below2 hbC (Nat.le_refl w.heap.size) (.int .i64 0) (.int .i64 0)
        generalize (⟨(headT x8 x9).toArray⟩ : ByteArray) = U at *
        have hne : (U.toList == T.toList) = false := by rw [toList_beq]; exact decide_eq_false hEq
        clear hEq
        go_wp2
        refine bodyPost_ret (v := .tuple #[.agg #[.int .i64 0, .int .i64 0], .iface 62 (.int .i64 4)]) (by simp [results, Tryz.results31, go_sem, q0, q1]) rfl ?_
        rw [HE.out]
        exact ⟨rfl, hNB⟩
  · have HE : Hid (readHeadF s n = (s.readF n 0, 0, 0)) := by unfold readHeadF; rw [if_pos hF]; exact rfl
    obtain ⟨z, hzz⟩ := errV_some hF
    rw [hzz] at HR
    generalize s.readT n 0 = T at *
    go_enter Tryz.func31, Tryz.ntmps31
    go_wp2_with fail
    refine (show Calls _ _ _ _ _ from HR).mono ?_
    rintro e w2 ⟨rfl, hb2⟩
    clear HR
    obtain ⟨q0, q1, f0, f1⟩ := box2 ((hb2.block _ hz).trans hres)
    have hNB := below2 (hb0.trans (hb2.mono hb0.size)) (Nat.le_refl w.heap.size) (.int .i64 0) (.int .i64 0)
    go_wp2
    refine bodyPost_ret (v := .tuple #[.agg #[.int .i64 0, .int .i64 0], .iface 62 (.int .i64 z)]) (by simp [results, Tryz.results31, go_sem, q0, q1]) rfl ?_
    rw [HE.out, hzz]
    exact ⟨rfl, hNB⟩
end Go.Proofs.YtlcdacldhalnnaaGreatDoor

