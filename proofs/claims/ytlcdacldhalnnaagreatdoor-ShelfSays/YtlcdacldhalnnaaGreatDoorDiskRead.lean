/-
  What New, now and Read of package disk do, of any disk; all else stays as it was.
-/
import Derived.Test.YtlcdacldhalnnaaGreatDoorDiskSettle
import Derived.Laws.MakeOwn
import Derived.Laws.IdiomStrings
namespace Go.Proofs.YtlcdacldhalnnaaGreatDoor
open Go.RowKit

/-- what a sector holds now. -/
def Sec.now (S : Sec) : List UInt8 := match S.late.getLast? with
  | some x => x.2
  | none => S.kept
theorem SecOk.now {S : Sec} (h : SecOk S) : S.now.length = 64 := by
  unfold Sec.now
  split
  · rename_i x hx
    exact (h.late x (List.mem_of_getLast? hx)).2
  · exact h.kept
theorem cont_zero : ∃ Z : Array Value, (∀ w, Sem.run Tryz.prog (zeroValue 111) w = .ok (.agg Z) w) ∧ Z.size = 64 :=
  ⟨Array.replicate 64 (.int .u8 0), fun w => by kernel_rfl, by simp⟩

set_option maxRecDepth 100000 in
set_option maxHeartbeats 1000000 in
theorem now_any (w : World) (B p bs n : Nat) (s : DSt) (v : Nat → Value) (i : Nat) (h : DiskAt w B p bs n s v) (hi : i < n) :
    Calls Tryz.prog 64 #[.pointer (some ⟨bs, i * 65, none⟩)] w fun e w' => e = .returned (.agg (bytesV (s.K i).now).toArray) ∧ Below w.heap.size w w' := by
  have hk := (h.ok i hi).kept
  have hs1 : w.cell? ⟨bs, i * 65 + 64, none⟩ = some (v i) := h.cells i hi 64 _ (by rw [List.getElem?_append_right (by simp [hk])]; simp [hk])
  obtain ⟨a, c, hv, hle⟩ := owns_shape (h.rows i hi)
  have hfew := (h.ok i hi).few
  obtain ⟨Z, hal, hZ⟩ := cont_zero
  have hnow := (h.ok i hi).now
  have hltb := h.ltb
  have hbA : Below w.heap.size w (w.alloc (.cells Z 111)) := (Below.refl _ _).alloc (Nat.le_refl _) _
  have hD := h.later hbA
  have hs2 := cell_later hbA hs1
  rw [hv] at hs2
  generalize hm : (s.K i).late.length = m at *
  have HN : Hid ((bytesV (s.K i).now).length = 64) := by show (bytesV (s.K i).now).length = 64; simp [hnow]
  have hbf : Below w.heap.size w (w.alloc (.cells (bytesV (s.K i).now).toArray 111)) := (Below.refl _ _).alloc (Nat.le_refl _) _
  have hld : (loadVar 111 ⟨w.heap.size, 0, none⟩).run Tryz.prog (w.alloc (.cells (bytesV (s.K i).now).toArray 111)) = .ok (.agg (bytesV (s.K i).now).toArray) (w.alloc (.cells (bytesV (s.K i).now).toArray 111)) :=
    run_loadVar_mid _ _ _ _ _ _ (range_new w _ _ 0 _ (fun j u hj => by rw [Nat.zero_add]; exact hj)) Tryz.underlying111 rfl (cont_info HN.out)
  by_cases h0 : 0 < m
  · obtain ⟨x, hx⟩ : ∃ x, (s.K i).late[m - 1]? = some x := ⟨_, List.getElem?_eq_getElem (by omega)⟩
    obtain ⟨g, rfl, hra⟩ := hD.lateRow hi hx hv
    have hra1 : (w.alloc (.cells Z 111)).rangeAt g ((m - 1) * 65 + 1) (bytesV x.2) := fun j u hj => by
      have := hra (j + 1) u (by exact hj)
      rw [show (m - 1) * 65 + 1 + j = (m - 1) * 65 + (j + 1) by omega]
      exact this
    have hE : (s.K i).now = x.2 := by
      unfold Sec.now
      have : (s.K i).late.getLast? = some x := by rw [List.getLast?_eq_getElem?, hm]; exact hx
      rw [this]
    have HE : Hid ((s.K i).now = x.2) := hE
    rw [hE] at HN hbf hld
    have htn : ((m : Int) - 1).toNat = m - 1 := by omega
    clear h hD hra hx hE hv hbA hs1 hnow
    go_enter Tryz.func64, Tryz.ntmps64
    go_wp2_with (first
      | (refine wpList_load_mid rfl 111 (.tmp 18) rfl g ((m - 1) * 65 + 1) rfl (bytesV x.2) _ hra1 Tryz.underlying111 rfl (cont_info HN.out) ?_)
      | (refine wpList_fill rfl 111 (.tmp 2) (.tmp 19) rfl w Z rfl (bytesV x.2) rfl rfl (hZ.trans HN.out.symm) (cont_info HN.out) (bytesV_one x.2) ?_))
    refine bodyPost_ret (v := .agg (bytesV x.2).toArray) (results_cell rfl (by simp [go_sem]) hld) rfl ?_
    rw [HE.out]
    exact ⟨rfl, hbf⟩
  · have hz : m = 0 := by omega
    have hra1 : (w.alloc (.cells Z 111)).rangeAt bs (i * 65) (bytesV (s.K i).kept) := fun j u hj => by
      have hj2 : j < 64 := by
        have := (List.getElem?_eq_some_iff.1 hj).1
        simpa [hk] using this
      exact hD.cells i hi j u (by rw [List.getElem?_append_left (by simp [hk]; exact hj2)]; exact hj)
    have hE : (s.K i).now = (s.K i).kept := by
      unfold Sec.now
      have : (s.K i).late = [] := List.eq_nil_of_length_eq_zero (by omega)
      rw [this]
      rfl
    have HE : Hid ((s.K i).now = (s.K i).kept) := hE
    rw [hE] at HN hbf hld
    subst hz
    clear h hD hE hv hbA hs1 hnow hm
    generalize (s.K i).kept = K0 at *
    go_enter Tryz.func64, Tryz.ntmps64
    go_wp2_with (first
      | (refine wpList_load_mid rfl 111 (.tmp 22) rfl bs (i * 65) rfl (bytesV K0) _ hra1 Tryz.underlying111 rfl (cont_info HN.out) ?_)
      | (refine wpList_fill rfl 111 (.tmp 2) (.tmp 23) rfl w Z rfl (bytesV K0) rfl rfl (hZ.trans HN.out.symm) (cont_info HN.out) (bytesV_one K0) ?_))
    refine bodyPost_ret (v := .agg (bytesV K0).toArray) (results_cell rfl (by simp [go_sem]) hld) rfl ?_
    rw [HE.out]
    exact ⟨rfl, hbf⟩

/-- what Read answers. -/
def DSt.readF (s : DSt) (n : Nat) (at' : Int) : Nat := if s.down = true then 9 else if 0 ≤ at' ∧ at' < n then 0 else 1
theorem read_ok (w : World) (B p bs n : Nat) (s : DSt) (v : Nat → Value) (i : Nat) (h : DiskAt w B p bs n s v) (hd : s.down = false) (hi : i < n) :
    Calls Tryz.prog 48 #[.pointer (some ⟨p, 0, none⟩), .int .i64 (i : Int)] w fun e w' => e = .returned (.tuple #[.string ⟨(s.K i).now.toArray⟩, .nilIface]) ∧ Below w.heap.size w w' := by
  have c0 := h.c0
  have c3 := h.c3
  rw [hd] at c3
  have HH := has_any w B p bs n s v (i : Int) h
  have HN := now_any w B p bs n s v i h hi
  have hl := (h.ok i hi).now
  have hfew := h.few
  have hdec : (decide (0 ≤ (i : Int)) && decide ((i : Int) < (n : Int))) = true := by simp; exact hi
  rw [hdec] at HH
  obtain ⟨Z, hal, hZ⟩ := cont_zero
  generalize (s.K i).now = cs at *
  have HL : Hid ((bytesV cs).length = 64) := by show (bytesV cs).length = 64; simp [hl]
  clear h hdec
  go_enter Tryz.func48, Tryz.ntmps48
  go_wp2_with fail
  refine HH.mono ?_
  rintro e w1 ⟨rfl, rfl⟩
  clear HH
  go_wp2_with fail
  refine HN.mono ?_
  rintro e w2 ⟨rfl, hb2⟩
  clear HN
  have hcv : ∀ (src dst : TypeId), Tryz.prog.underlying src = some (.slice 5) → Tryz.prog.underlying dst = some .string → (convert src dst (.slice (some ⟨w2.heap.size, 0, none⟩) 64 64)).run Tryz.prog (w2.alloc (.cells (bytesV cs).toArray 111)) = .ok (.string ⟨cs.toArray⟩) (w2.alloc (.cells (bytesV cs).toArray 111)) := fun src dst hs hd' => by
    have := run_convert_bytes_back (P := Tryz.prog) (w2.alloc (.cells (bytesV cs).toArray 111)) src dst 5 ⟨w2.heap.size, 0, none⟩ 64 cs hs Tryz.underlying5 hd' (fun j hj => by
      rw [Addr.add_mid, Nat.zero_add, World.cell?_alloc_mark]
      simp [bytesV, hj])
    rw [hl] at this
    exact this
  have hbf : Below w1.heap.size w1 (w2.alloc (.cells (bytesV cs).toArray 111)) := hb2.alloc hb2.size _
  go_wp2_with (first
    | (refine wpList_fill rfl 111 (.tmp 6) (.tmp 23) rfl w2 Z rfl (bytesV cs) rfl rfl (hZ.trans HL.out.symm) (cont_info HL.out) (bytesV_one cs) ?_))
  go_ret2
  exact ⟨rfl, hbf⟩
theorem read_bad (w : World) (B p bs n : Nat) (s : DSt) (v : Nat → Value) (at' : Int) (h : DiskAt w B p bs n s v) (hf : s.readF n at' ≠ 0) :
    Calls Tryz.prog 48 #[.pointer (some ⟨p, 0, none⟩), .int .i64 at'] w fun e w' => e = .returned (.tuple #[.string ⟨#[]⟩, errV (s.readF n at')]) ∧ w' = w := by
  have c3 := h.c3
  have HH := has_any w B p bs n s v at' h
  unfold DSt.readF at hf ⊢
  clear h
  cases hd : s.down with
  | true =>
    rw [hd] at c3
    rw [if_pos rfl]
    go_enter Tryz.func48, Tryz.ntmps48
    go_wp2
    go_ret2
    exact ⟨rfl, rfl⟩
  | false =>
    rw [hd] at c3 hf
    rw [if_neg (by simp)] at hf ⊢
    by_cases h1 : 0 ≤ at' ∧ at' < n
    · rw [if_pos h1] at hf
      exact absurd rfl hf
    · have hdec : (decide (0 ≤ at') && decide (at' < n)) = false := by simp; omega
      rw [if_neg h1]
      rw [hdec] at HH
      clear hdec h1 hf
      go_enter Tryz.func48, Tryz.ntmps48
      go_wp2_with fail
      refine HH.mono ?_
      rintro e w1 ⟨rfl, rfl⟩
      clear HH
      go_wp2
      go_ret2
      exact ⟨rfl, rfl⟩

/-- a new disk. -/
def DSt.fresh : DSt := ⟨0, -1, false, fun _ => ⟨List.replicate 64 0, []⟩⟩
theorem sec_zero : ∃ i z, Tryz.prog.info? 116 = some i ∧ i.zero = some z ∧ i.size = 65 ∧ i.bytes = 88 ∧ z.cells = (bytesV (List.replicate 64 0) ++ [Value.slice none 0 0]).toArray := by
  obtain ⟨x, hx, hp⟩ := Option.map_eq_some_iff.1 (show (Tryz.prog.info? 116).map (fun i => (i.zero.map (·.cells), i.size, i.bytes)) = some (some (bytesV (List.replicate 64 0) ++ [Value.slice none 0 0]).toArray, 65, 88) by kernel_rfl)
  simp only [Prod.mk.injEq] at hp
  obtain ⟨h1, h2, h3⟩ := hp
  obtain ⟨z, hz, hc⟩ := Option.map_eq_some_iff.1 h1
  exact ⟨x, z, hx, hz, h2, h3, hc⟩
theorem sectors_made (w : World) (n : Nat) (h1 : 1 ≤ n) (h2 : n ≤ 120) : ∃ C : Array Value, (Instr.makeSlice 63 (.int .i64 (n : Int)) (.int .i64 (n : Int))).run Tryz.prog w = .ok (.slice (some ⟨w.heap.size, 0, none⟩) n n) (w.alloc (.cells C 116)) ∧
    ∀ i, i < n → ∀ j u, (bytesV (List.replicate 64 0) ++ [.slice none 0 0])[j]? = some u → C[i * 65 + j]? = some u := by
  obtain ⟨x, z, hx, hz, hs, hb, hc⟩ := sec_zero
  refine ⟨_, run_makeSlice (P := Tryz.prog) w 63 116 x z Tryz.underlying63 hx hz .i64 .i64 n n (by omega) (Int.le_refl _) (by rw [hs]; omega) (by rw [hb]; omega) (by omega), ?_⟩
  intro i hi j u hj
  have hj2 : j < 65 := by
    have := (List.getElem?_eq_some_iff.1 hj).1
    simpa using this
  rw [hs, hc]
  have hlt : i * 65 + j < (n : Int).toNat * 65 := by rw [Int.toNat_natCast]; omega
  have hsz : (bytesV (List.replicate 64 0) ++ [Value.slice none 0 0]).toArray.size = 65 := by simp
  generalize hL : bytesV (List.replicate 64 0) ++ [Value.slice none 0 0] = L at *
  have hmod : (i * 65 + j) % 65 = j := by omega
  simp only [madeCells]
  rw [Array.getElem?_map, Array.getElem?_range, if_pos hlt]
  simp only [Option.map_some]
  rw [hsz, hmod, getElem!_pos L.toArray j (by rw [hsz]; exact hj2)]
  rw [List.getElem?_eq_some_iff] at hj
  obtain ⟨_, hj⟩ := hj
  rw [← hj]
  rfl
/-- a disk, wherever its sectors lie. -/
def IsDisk (w : World) (B p n : Nat) (s : DSt) : Prop := ∃ bs v, DiskAt w B p bs n s v
theorem IsDisk.later {w w' : World} {B p n : Nat} {s : DSt} (h : IsDisk w B p n s) (hb : Below w.heap.size w w') : IsDisk w' B p n s := by
  obtain ⟨bs, v, h⟩ := h
  exact ⟨bs, v, h.later hb⟩
theorem newDisk_ok (w : World) (n : Nat) (h1 : 1 ≤ n) (h2 : n ≤ 120) :
    Calls Tryz.prog 6 #[.int .i64 (n : Int)] w fun e w' => ∃ p, e = .returned (.tuple #[.pointer (some ⟨p, 0, none⟩), .nilIface]) ∧ IsDisk w' w.heap.size p n DSt.fresh ∧ Below w.heap.size w w' := by
  obtain ⟨C, hmk, hC⟩ := sectors_made w n h1 h2
  have n1 : ¬ (n : Int) < 1 := by omega
  have n2 : ¬ (120 : Int) < (n : Int) := by omega
  have hD : DiskAt ((w.alloc (.cells C 116)).alloc (.cells #[.slice (some ⟨w.heap.size, 0, none⟩) n n, .int .u64 0, .int .i64 (-1), .bool false] 66)) w.heap.size (w.heap.size + 1) w.heap.size n DSt.fresh (fun _ => .slice none 0 0) := by
    refine ⟨?_, ⟨C, ?_⟩, ?_, ?_, ?_, fun _ _ _ _ _ => .inl rfl, by omega, Nat.le_refl _, by decide, by decide, h2⟩
    · have e : (w.alloc (.cells C 116)).heap.size = w.heap.size + 1 := by simp
      rw [← e]
      show ((w.alloc (.cells C 116)).heap.push _)[(w.alloc (.cells C 116)).heap.size]? = _
      rw [Array.getElem?_push_size]
      rfl
    · rw [heap_alloc_old _ _ (by simp)]
      exact heap_alloc_new w _
    · intro i hi j u hj
      rw [World.cell?_alloc_lt _ _ _ (by simp), World.cell?_alloc_mark]
      exact hC i hi j u hj
    · exact fun i _ => ⟨by simp [DSt.fresh], by simp [DSt.fresh], by simp [DSt.fresh]⟩
    · exact fun i _ => World.ownsRow_nil _ _ _ _
  have hI := (show IsDisk _ _ _ _ _ from ⟨_, _, hD⟩)
  have hb : Below w.heap.size w ((w.alloc (.cells C 116)).alloc (.cells #[.slice (some ⟨w.heap.size, 0, none⟩) n n, .int .u64 0, .int .i64 (-1), .bool false] 66)) := ((Below.refl _ _).alloc (Nat.le_refl _) _).alloc (by simp) _
  clear hC hD
  go_enter Tryz.func6, Tryz.ntmps6
  go_wp2
  go_ret2
  exact ⟨_, rfl, hI, hb⟩
theorem newDisk_bad (w : World) (n : Int) (h : n < 1 ∨ 120 < n) :
    Calls Tryz.prog 6 #[.int .i64 n] w fun e w' => e = .returned (.tuple #[.pointer none, errV 1]) ∧ w' = w := by
  by_cases h1 : n < 1
  · go_enter Tryz.func6, Tryz.ntmps6
    go_wp2
    go_ret2
    exact ⟨rfl, rfl⟩
  · have h2 : 120 < n := by omega
    go_enter Tryz.func6, Tryz.ntmps6
    go_wp2
    go_ret2
    exact ⟨rfl, rfl⟩
end Go.Proofs.YtlcdacldhalnnaaGreatDoor
