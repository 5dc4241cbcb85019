/-
  What words and linesOf of the document's answer return, for every text; memory that was there stays as it was.
-/
import Derived.Test.YthdccmjdbcllkaaGreatDoorReadBeg
import Derived.Test.YthdccmjdbcllkaaGreatDoorRefNum
namespace Go.Proofs.YthdccmjdbcllkaaGreatDoor
open Go.RowKit

theorem list_run_append {P : Program} {ops : Array Oper} {rest : List Oper} {o : Oper} {a : Act} {w W : World} {Q : Exit → Act → World → Prop} (hg : o.guard = none) (s x : Operand) (t : TypeId)
    (hop : o.op = Op.call { callee := Callee.builtin Builtin.append, args := #[s, x], argTypes := #[t, t] }) (v sl v' : Value)
    (hs : a.eval s = v) (hx : a.eval x = sl) (hrun : (Builtin.append_ #[t, t] o.type #[v, sl]).run P w = .ok v' W) (h : wpList P ops Q rest (a.put o.dst v') W) : wpList P ops Q (o :: rest) a w :=
  wpList_plain hg fun _ hK => by
    unfold Oper.wp
    simp [execOp, hop, resolve, invoke, builtin, hs, hx, hrun, Result.andThen]
    exact hK _ _ h

def strC (xs : List (List UInt8)) : List Value := xs.map fun l => .string ⟨l.toArray⟩
theorem strGrow {B : Nat} {w0 w : World} {v : Value} {n : Nat} {cs : List Value} (a : ByteArray) (hB : B ≤ w.heap.size) (hb : Below B w0 w) (h : w.ownsRow B 9 1 v n cs) (hn : n + 1 ≤ 1000000) :
    ∃ g cap W, (Builtin.append_ #[72, 72] 72 #[v, .slice (some ⟨w.heap.size, 0, none⟩) 1 1]).run Tryz.prog (w.alloc (.cells #[.string a] 9)) = .ok (.slice (some ⟨g, 0, none⟩) (n + 1) cap) W ∧ W.ownsRow B 9 1 (.slice (some ⟨g, 0, none⟩) (n + 1) cap) (n + 1) (cs ++ [.string a]) ∧ Below B w0 W := by
  obtain ⟨g, cap, W, happ, hown, hgr⟩ := append_one 72 9 1 16 (.string ⟨#[]⟩) (by kernel_rfl) (by kernel_rfl) (by rfl) (by decide) B w v n cs [.string a] h rfl (by simp [Value.oneCell']) hB hn (by decide)
  exact ⟨g, cap, W, happ, hown, (hb.alloc hB _).grown hgr (by simp; omega) (fun k hk => (h.lt k hk).1)⟩

theorem strC_snoc (d : List (List UInt8)) (a : ByteArray) : strC d ++ [.string a] = strC (d ++ [a.data.toList]) := by simp [strC]
theorem cut_snoc (c : UInt8) (l : List UInt8) (b : UInt8) : cut c (l ++ [b]) = cutStep c (cut c l) b := by unfold cut; rw [List.foldl_append]; rfl
theorem byteCh (b : UInt8) (n : Nat) (hn : n < 256) (h : ((b.toNat : Int) == (n : Int)) = true) : b = UInt8.ofNat n := by rw [byte_eq b n hn] at h; simpa using h
theorem byteNo (b : UInt8) (n : Nat) (hn : n < 256) (h : ((b.toNat : Int) == (n : Int)) = false) : b ≠ UInt8.ofNat n := by rw [byte_eq b n hn] at h; simpa using h

/-- what stands while a text is cut. -/
structure Cutting (c : UInt8) (w wr : World) (v : Value) (n : Nat) (l : List UInt8) (cur : List UInt8) : Prop where
  below : Below w.heap.size w wr
  is : ∃ d : List (List UInt8), cut c l = (d, cur) ∧ d.length = n ∧ wr.ownsRow w.heap.size 9 1 v n (strC d)
theorem Cutting.grow {c : UInt8} {w wr : World} {v : Value} {n : Nat} {l : List UInt8} {cur : ByteArray} (h : Cutting c w wr v n l cur.data.toList) (hn : n + 1 ≤ 1000000) :
    ∃ g cap W, (Builtin.append_ #[72, 72] 72 #[v, .slice (some ⟨wr.heap.size, 0, none⟩) 1 1]).run Tryz.prog (wr.alloc (.cells #[.string cur] 9)) = .ok (.slice (some ⟨g, 0, none⟩) (n + 1) cap) W ∧ Cutting c w W (.slice (some ⟨g, 0, none⟩) (n + 1) cap) (n + 1) (l ++ [c]) [] ∧
      W.ownsRow w.heap.size 9 1 (.slice (some ⟨g, 0, none⟩) (n + 1) cap) (n + 1) (strC ((cut c l).1 ++ [(cut c l).2])) ∧ ((cut c l).1 ++ [(cut c l).2]).length = n + 1 := by
  obtain ⟨d, h1, h2, h3⟩ := h.is
  obtain ⟨g, cap, W, happ, hown, hb⟩ := strGrow cur h.below.size h.below h3 hn
  rw [strC_snoc] at hown
  refine ⟨g, cap, W, happ, ⟨hb, d ++ [cur.data.toList], ?_, by simp [h2], hown⟩, by rw [h1]; exact hown, by rw [h1]; simp [h2]⟩
  rw [cut_snoc, h1]
  simp [cutStep]
theorem Cutting.more {c b : UInt8} {w wr : World} {v : Value} {n : Nat} {l : List UInt8} {cur : List UInt8} (h : Cutting c w wr v n l cur) (hb : b ≠ c) : Cutting c w wr v n (l ++ [b]) (cur ++ [b]) := by
  obtain ⟨d, h1, h2, h3⟩ := h.is
  refine ⟨h.below, d, ?_, h2, h3⟩
  rw [cut_snoc, h1]
  simp [cutStep, hb]

theorem byte_piece (s : ByteArray) (k : Nat) (hk : k < s.size) : (s.extract k (k + 1)).data.toList = [s[k]] := by
  rw [ByteArray.data_extract, Array.toList_extract, List.extract_eq_take_drop, show k + 1 - k = 1 by omega, List.drop_eq_getElem_cons (by simpa using hk)]
  simp [ByteArray.getElem_eq_getElem_data]

set_option maxRecDepth 100000 in
set_option maxHeartbeats 1000000 in
theorem words_ref (s : ByteArray) (w : World) (hs : s.size ≤ 100000) :
    Calls Tryz.prog 38 #[.string s] w fun e w' => (∃ b cap, e = .returned (.slice (some ⟨b, 0, none⟩) (wordsR s.data.toList).length cap) ∧ w'.ownsRow w.heap.size 9 1 (.slice (some ⟨b, 0, none⟩) (wordsR s.data.toList).length cap) (wordsR s.data.toList).length (strC (wordsR s.data.toList))) ∧ Below w.heap.size w w' := by
  have hl : s.data.toList.length = s.size := by simp
  have HW : Hid (wordsR s.data.toList = (cut 32 s.data.toList).1 ++ [(cut 32 s.data.toList).2]) := rfl
  generalize wordsR s.data.toList = ws at *
  go_enter Tryz.func38, Tryz.ntmps38
  go_wp2
  go_loopw [3, 4, 5] (fun v c i wr => ∃ (k n : Nat) (cur : ByteArray), k ≤ s.size ∧ n ≤ k ∧ cur.size ≤ k ∧ i = .int .i64 k ∧ c = .string cur ∧ Cutting 32 w wr v n (s.data.toList.take k) cur.data.toList) (fun _ _ i _ => s.size - (intOf i).toNat)
  case atStart => exact ⟨0, 0, ⟨#[]⟩, Nat.zero_le _, Nat.le_refl _, Nat.le_refl _, rfl, rfl, Below.refl _ _, [], rfl, rfl, World.ownsRow_nil _ _ _ _⟩
  case round =>
    obtain ⟨k, n, cur, hk, hn, hz, rfl, rfl, hC⟩ := hrel
    by_cases hlt : k < s.size
    · have ht := take_more s k hlt
      by_cases hc : ((s[k].toNat : Int) == 32) = true
      · rw [byteCh s[k] 32 (by omega) hc] at ht
        obtain ⟨g, cap, W, happ, hC2, _, _⟩ := hC.grow (by omega)
        have HC : Hid (Cutting 32 w W (.slice (some ⟨g, 0, none⟩) (n + 1) cap) (n + 1) (s.data.toList.take (k + 1)) []) := by
          show Cutting 32 w W _ _ _ _
          rw [ht]
          exact hC2
        clear ht hC2 hC
        go_wp2_with (at_builtin; refine list_run_append rfl _ _ 72 rfl _ _ _ rfl rfl happ ?_)
        go_wp2
        go_roundw
        case rel => exact ⟨k + 1, n + 1, ⟨#[]⟩, by omega, by omega, Nat.zero_le _, by go_num, rfl, HC.out⟩
        case measure => simp [intOf]; omega
      · have hc2 : ((s[k].toNat : Int) == 32) = false := by simpa using hc
        have hC2 := hC.more (byteNo s[k] 32 (by omega) hc2)
        have hp := byte_piece s k hlt
        rw [← ht] at hC2
        have HC : Hid (Cutting 32 w wr u3 n (s.data.toList.take (k + 1)) (cur ++ s.extract k (k + 1)).data.toList) := by
          show Cutting 32 w wr u3 n _ _
          rw [ByteArray.data_append, Array.toList_append, hp]
          exact hC2
        clear ht hC2 hC hp hc
        go_wp2
        go_roundw
        case rel => exact ⟨k + 1, n, _, by omega, by omega, by simp; omega, by go_num, rfl, HC.out⟩
        case measure => simp [intOf]; omega
    · have e : k = s.size := by omega
      subst e
      have et : s.data.toList.take s.size = s.data.toList := List.take_of_length_le (by omega)
      rw [et] at hC
      obtain ⟨g, cap, W, happ, hC2, hown, hlen⟩ := hC.grow (by omega)
      rw [← HW.out] at hown hlen
      have hB := hC2.below
      have HL : Hid (ws.length = n + 1) := hlen
      clear et hC hC2 HW hlen
      go_wp2_with (at_builtin; refine list_run_append rfl _ _ 72 rfl _ _ _ rfl rfl happ ?_)
      go_wp2
      go_ret
      rw [HL.out]
      exact ⟨⟨g, cap, rfl, hown⟩, hB⟩

theorem piece_list (s : ByteArray) (f k : Nat) : (s.extract f k).data.toList = (s.data.toList.drop f).take (k - f) := by
  rw [ByteArray.data_extract, Array.toList_extract, List.extract_eq_take_drop]
theorem piece_more (s : ByteArray) (f k : Nat) (hf : f ≤ k) (hk : k < s.size) : (s.extract f (k + 1)).data.toList = (s.extract f k).data.toList ++ [s[k]] := by
  rw [piece_list, piece_list, show k + 1 - f = (k - f) + 1 by omega, List.take_add_one, List.getElem?_drop, show f + (k - f) = k by omega, List.getElem?_eq_getElem (by simpa using hk)]
  simp [ByteArray.getElem_eq_getElem_data]
theorem piece_none (s : ByteArray) (f : Nat) : (s.extract f f).data.toList = [] := by rw [piece_list]; simp

set_option maxRecDepth 100000 in
set_option maxHeartbeats 1000000 in
theorem linesOf_ref (s : ByteArray) (w : World) (hs : s.size ≤ 100000) :
    Calls Tryz.prog 37 #[.string s] w fun e w' => (∃ v, e = .returned (.tuple #[v, .bool (decide ((cut 10 s.data.toList).2 = []))]) ∧ w'.ownsRow w.heap.size 9 1 v (cut 10 s.data.toList).1.length (strC (cut 10 s.data.toList).1)) ∧ Below w.heap.size w w' := by
  have hl : s.data.toList.length = s.size := by simp
  obtain ⟨R, hR⟩ : ∃ R, cut 10 s.data.toList = R := ⟨_, rfl⟩
  rw [hR]
  have HR : Hid (cut 10 s.data.toList = R) := hR
  clear hR
  go_enter Tryz.func37, Tryz.ntmps37
  go_wp2
  go_loopw [4, 5, 6] (fun v f i wr => ∃ (k n fr : Nat), k ≤ s.size ∧ n ≤ k ∧ fr ≤ k ∧ i = .int .i64 k ∧ f = .int .i64 fr ∧ Cutting 10 w wr v n (s.data.toList.take k) (s.extract fr k).data.toList) (fun _ _ i _ => s.size - (intOf i).toNat)
  case atStart => exact ⟨0, 0, 0, Nat.zero_le _, Nat.le_refl _, Nat.le_refl _, rfl, rfl, Below.refl _ _, [], by rw [piece_none]; rfl, rfl, World.ownsRow_nil _ _ _ _⟩
  case round =>
    obtain ⟨k, n, fr, hk, hn, hf, rfl, rfl, hC⟩ := hrel
    have hf' : (fr : Int) ≤ k := by omega
    by_cases hlt : k < s.size
    · have ht := take_more s k hlt
      by_cases hc : ((s[k].toNat : Int) == 10) = true
      · rw [byteCh s[k] 10 (by omega) hc] at ht
        obtain ⟨g, cap, W, happ, hC2, _, _⟩ := hC.grow (by omega)
        have HC : Hid (Cutting 10 w W (.slice (some ⟨g, 0, none⟩) (n + 1) cap) (n + 1) (s.data.toList.take (k + 1)) (s.extract (k + 1) (k + 1)).data.toList) := by
          show Cutting 10 w W _ _ _ _
          rw [ht, piece_none]
          exact hC2
        clear ht hC2 hC
        go_wp2_with (at_builtin; refine list_run_append rfl _ _ 72 rfl _ _ _ rfl rfl happ ?_)
        go_wp2
        go_roundw
        case rel => exact ⟨k + 1, n + 1, k + 1, by omega, by omega, by omega, by go_num, by go_num, HC.out⟩
        case measure => simp [intOf]; omega
      · have hc2 : ((s[k].toNat : Int) == 10) = false := by simpa using hc
        have hC2 := hC.more (byteNo s[k] 10 (by omega) hc2)
        rw [← ht, ← piece_more s fr k hf hlt] at hC2
        have HC : Hid (Cutting 10 w wr u4 n (s.data.toList.take (k + 1)) (s.extract fr (k + 1)).data.toList) := hC2
        clear ht hC2 hC hc
        go_wp2
        go_roundw
        case rel => exact ⟨k + 1, n, fr, by omega, by omega, by omega, by go_num, rfl, HC.out⟩
        case measure => simp [intOf]; omega
    · have e : k = s.size := by omega
      subst e
      have et : s.data.toList.take s.size = s.data.toList := List.take_of_length_le (by omega)
      rw [et] at hC
      obtain ⟨d, h1, h2, h3⟩ := hC.is
      rw [HR.out] at h1
      have HD : Hid (R = (d, (s.extract fr s.size).data.toList)) := h1
      have hB := hC.below
      have HB : Hid (((fr : Int) == (s.size : Int)) = decide ((s.extract fr s.size).data.toList = [])) := by
        show ((fr : Int) == (s.size : Int)) = _
        rw [Bool.eq_iff_iff, beq_iff_eq, decide_eq_true_eq, ← List.length_eq_zero_iff, piece_list, List.length_take, List.length_drop]
        omega
      have HN : Hid (d.length = n) := h2
      clear et hC h1 h2 HR
      go_wp2
      go_ret2
      rw [HB.out, HD.out]
      exact ⟨⟨_, rfl, by rw [HN.out]; exact h3⟩, hB⟩
end Go.Proofs.YthdccmjdbcllkaaGreatDoor
