/-
  What add of package disk does, of any disk; all else stays as it was.
-/
import Derived.Test.YtlcdacldhalnnaaGreatDoorDiskWrite
import Derived.Deep.RegionHeld3
import Derived.Deep.DrawnRows
namespace Go.Proofs.YtlcdacldhalnnaaGreatDoor
open Go.RowKit

theorem struck_ok {L : List Late} (h : LatesOk L) (b : Nat) : LatesOk (struck L b) := fun x hx => h x (List.mem_filter.1 hx).1
theorem struck_once {L : List Late} (h : (L.map (·.1)).Nodup) (b : Nat) (d : List UInt8) : ((struck L b ++ [(b, d)]).map (·.1)).Nodup := by
  rw [List.map_append, List.nodup_append]
  refine ⟨?_, by simp, ?_⟩
  · unfold struck
    exact (List.filter_sublist.map _).nodup h
  · intro x hx y hy
    simp at hy
    subst hy
    obtain ⟨z, hz, rfl⟩ := List.mem_map.1 hx
    unfold struck at hz
    have := (List.mem_filter.1 hz).2
    simpa using this
theorem Spun.grown {B : Nat} {w w' : World} {row : Option Nat} (hg : w.grownBy w' row) (hr : ∀ k, row = some k → B ≤ k ∧ ∃ c, w.heap[k]? = some (.cells c 113 (0, 0))) (hB : B ≤ w.heap.size) : Spun B w w' :=
  ⟨⟨hg.os, hg.tape, hg.output, hg.size, fun k hk => hg.block k (by omega) (fun e => by have := (hr k e.symm).1; omega)⟩, fun k o hk ho => by
    by_cases e : some k = row
    · obtain ⟨_, c, hc⟩ := hr k e.symm
      rw [hk] at hc
      injection hc with hc
      exact absurd ⟨c, _, _, hc, .inr (.inr rfl)⟩ ho
    · rw [hg.block k (Array.getElem?_eq_some_iff.1 hk).1 e]; exact hk⟩
/-- what append leaves, and the store behind it. -/
def AddEnd (w : World) (B p bs n : Nat) (s : DSt) (v : Nat → Value) (i b : Nat) (d : List UInt8) (v'' : Value) (X' : World) : Prop :=
  (∃ a m c, v'' = .slice a m c) ∧ X'.cell? ⟨bs, i * 65 + 64, none⟩ = some (v i) ∧ X'.frozen? ⟨bs, i * 65 + 64, none⟩ = false ∧
      DiskAt (X'.setCell ⟨bs, i * 65 + 64, none⟩ v'') B p bs n (s.at i ⟨(s.K i).kept, struck (s.K i).late b ++ [(b, d)]⟩) (fun j => if j = i then v'' else v j) ∧ Spun B w (X'.setCell ⟨bs, i * 65 + 64, none⟩ v'')
theorem range_grown {w w' : World} {row : Option Nat} (h : w.grownBy w' row) {k o : Nat} {l : List Value} (hr : w.rangeAt k o l) (hne : some k ≠ row) : w'.rangeAt k o l := fun j u hj => h.cell (hr j u hj) hne
set_option maxRecDepth 100000 in
theorem add_end {w X : World} {B p bs n : Nat} {s : DSt} {v : Nat → Value} (h : DiskAt w B p bs n s v) {i : Nat} (hi : i < n) {b : Nat} (hb : b < 64) {d : List UInt8} (hd : d.length = 64) {v' : Value} (hg : w.grownBy X (v i).ownBlock)
    (hO : X.ownsRow B 113 65 v' (struck (s.K i).late b).length (latesC (struck (s.K i).late b))) (hvb : v'.ownBlock = (v i).ownBlock) {a : Nat} (hsrc : X.rangeAt a 0 (lateC (b, d))) :
    ∃ v'' X', (Builtin.append_ #[114, 114] 114 #[v', .slice (some ⟨a, 0, none⟩) 1 1]).run Tryz.prog X = .ok v'' X' ∧ AddEnd w B p bs n s v i b d v'' X' := by
  obtain ⟨x, hx, hp⟩ := Option.map_eq_some_iff.1 (show (Tryz.prog.info? 113).map (fun i => (i.zero.map (·.cells.size), i.size, i.bytes)) = some (some 65, 65, 72) by kernel_rfl)
  simp only [Prod.mk.injEq] at hp
  obtain ⟨h1, h2, h3⟩ := hp
  obtain ⟨z, hz, hzc⟩ := Option.map_eq_some_iff.1 h1
  have hfew := (h.ok i hi).few
  have hsf : (struck (s.K i).late b).length ≤ (s.K i).late.length := List.length_filter_le _ _
  have hBs : B ≤ X.heap.size := by have := h.bp; have := h.lt; have := hg.size; omega
  obtain ⟨v'', X', hrun, hO2, hg2, _, hbl⟩ := run_append_own_at (P := Tryz.prog) X B 114 114 113 x z 65 72 Tryz.underlying114 hx hz h2 h3 hzc (by decide) v' _ _ hO ⟨a, 0, none⟩ 1 1 (lateC (b, d)) (by rw [lateC_len hd])
    (fun j u hj => by rw [Addr.add_mid]; exact hsrc j u hj) (lateC_one _) (by simp only [maxLen]; omega) (by omega) hBs
  rw [hvb] at hg2 hbl
  have hgg := hg.trans hg2
  have hnb : some bs ≠ (v i).ownBlock := fun e => by
    obtain ⟨c', hc'⟩ := own_type (h.rows i hi) e.symm
    obtain ⟨C, hC⟩ := h.sec
    rw [hC] at hc'
    simp at hc'
  have hnp : some p ≠ (v i).ownBlock := fun e => by
    obtain ⟨c', hc'⟩ := own_type (h.rows i hi) e.symm
    rw [h.blk] at hc'
    simp at hc'
  obtain ⟨C, hC⟩ := h.sec
  have hk := (h.ok i hi).kept
  have hcell : w.cell? ⟨bs, i * 65 + 64, none⟩ = some (v i) := h.cells i hi 64 _ (by rw [List.getElem?_append_right (by simp [hk])]; simp [hk])
  have hC2 : X'.heap[bs]? = some (.cells C 116 (0, 0)) := (hgg.block bs h.ltb hnb).trans hC
  have hcell2 : X'.cell? ⟨bs, i * 65 + 64, none⟩ = some (v i) := hgg.cell hcell hnb
  have hsp : Spun B w X' := Spun.grown hgg (fun k e => ⟨((h.rows i hi).lt k e).1, own_type (h.rows i hi) e⟩) (by have := h.bp; have := h.lt; omega)
  have hl : (struck (s.K i).late b ++ [(b, d)]).length = (struck (s.K i).late b).length + 1 := by simp
  obtain ⟨ax, cx, hvx, _⟩ := owns_shape hO2
  refine ⟨v'', X', hrun, ⟨_, _, _, hvx⟩, hcell2, by simp [World.frozen?, hC2], ?_, hsp.trans (Spun.set (i := i * 65 + 64) hC2 h.bb (.inr (.inl rfl)) v'')⟩
  refine h.turn hi (l := struck (s.K i).late b ++ [(b, d)]) ?_ (struck_once (h.ok i hi).once b d) ?_ ?_ ?_ ⟨_, heap_setC _ _ _ _ _ _ _ hC2⟩ ?_ (World.cell?_setCell_same _ _ _ hcell2) ?_
  · intro y hy
    rcases List.mem_append.1 hy with hy | hy
    · exact struck_ok (h.ok i hi).late b y hy
    · simp at hy; subst hy; exact ⟨hb, hd⟩
  · rw [hl, latesC_append, show latesC [(b, d)] = lateC (b, d) by simp [latesC]]
    refine own_kept hO2 (fun k hk => Below.heap_setCell _ _ _ _ (fun e => ?_))
    obtain ⟨c', hc'⟩ := own_type hO2 hk
    subst e
    rw [hC2] at hc'
    simp at hc'
  · rcases hbl with h0 | h0
    · exact .inr (.inl h0)
    · exact .inr (.inr ⟨_, h0, hg.size⟩)
  · exact (Below.heap_setCell _ _ _ _ h.ne).trans (hgg.block p h.lt hnp)
  · intro j hj
    rw [World.cell?_setCell_other _ _ _ _ (fun e => hj (by injection e with _ e _; exact e.symm))]
    exact World.cell?_of_block (hgg.block bs h.ltb hnb)
  · intro k hk hne hnr
    rw [Below.heap_setCell _ _ _ _ hne]
    exact hgg.block k hk hnr
theorem fold_set (cs : List Value) : ∀ (z : Array Value), z.size = cs.length → (cs.toArray.zipIdx.foldl (fun a (x : Value × Nat) => a.setIfInBounds (0 + x.2) x.1) z) = cs.toArray := by
  intro z hz
  have key : ∀ (l : List Value) (o : Nat) (z : Array Value), o + l.length ≤ z.size → ((l.zipIdx o).foldl (fun a (x : Value × Nat) => a.setIfInBounds (0 + x.2) x.1) z).toList = z.toList.take o ++ l ++ z.toList.drop (o + l.length) := by
    intro l
    induction l with
    | nil => intro o z _; simp
    | cons a l ih =>
      intro o z h
      simp only [List.length_cons] at h
      simp only [List.zipIdx_cons, List.foldl_cons]
      rw [ih (o + 1) _ (by simp; omega)]
      have e1 : (z.setIfInBounds (0 + o) a).toList = z.toList.set o a := by simp
      rw [e1]
      have e2 : (z.toList.set o a).take (o + 1) = z.toList.take o ++ [a] := by
        rw [List.take_set, List.take_succ_eq_append_getElem (by simp; omega), List.set_append_right _ _ (by simp; omega)]
        simp [Nat.min_eq_left (show o ≤ z.size by omega)]
      rw [e2, List.drop_set_of_lt (by omega)]
      simp [Nat.add_comm, Nat.add_left_comm]
  apply Array.ext'
  have := key cs 0 z (by omega)
  rw [List.drop_of_length_le (by simp; omega)] at this
  simpa using this
theorem build_one (W : World) (y : Late) (hy : y.2.length = 64) : (Instr.buildSlice 114 1 #[(0, .agg (lateC y).toArray)]).run Tryz.prog W = .ok (.slice (some ⟨W.heap.size, 0, none⟩) 1 1) (W.alloc (.cells (lateC y).toArray 113)) := by
  obtain ⟨Z, hal, hZ, _⟩ := late_zeros
  have hsz : ∀ w, (Go.sizeOf 113).run Tryz.prog w = .ok 65 w := fun w => by kernel_rfl
  have hl := lateC_len hy
  have hf := fold_set (lateC y) ((Array.range (1 * 65)).map (Z[· % Z.size]!)) (by simp [hl])
  simp [Instr.buildSlice, run_underlying Tryz.underlying114, hsz, hal, Value.cells, Instr.fill, hl, newRow] at hf ⊢
  rw [hf]

/-- what DeleteFunc leaves. -/
structure DelIs (w X w' : World) (B : Nat) (v : Value) (L : List Late) (b : Nat) (v' : Value) : Prop where
  own : w'.ownsRow B 113 65 v' (struck L b).length (latesC (struck L b))
  blk : v'.ownBlock = v.ownBlock
  near : X.grownBy w' v.ownBlock
  far : w.grownBy w' v.ownBlock
/-- the load of one that is late, not to be laid open. -/
def ldLate (v : Value) : Sem Value := Instr.loadAt 113 v
theorem ldLate_eq (v : Value) : Instr.loadAt 113 v = ldLate v := rfl
def bsLate (l : Array (Nat × Value)) : Sem Value := Instr.buildSlice 114 1 l
theorem bsLate_eq (l : Array (Nat × Value)) : Instr.buildSlice 114 1 l = bsLate l := rfl
attribute [local go_sem ↓] ldLate_eq bsLate_eq
attribute [local go_sem ↓] Go.wp_at_zero Go.wp_at_succ
set_option maxRecDepth 100000 in
set_option maxHeartbeats 4000000 in
theorem add_any (w : World) (B p bs n : Nat) (s : DSt) (v : Nat → Value) (i b : Nat) (d : List UInt8) (h : DiskAt w B p bs n s v) (hi : i < n) (hb : b < 64) (hd : d.length = 64) :
    Calls Tryz.prog 57 #[.pointer (some ⟨bs, i * 65, none⟩), .agg (lateC (b, d)).toArray] w fun e w' => e = .returned (.tuple #[]) ∧ (∃ v', DiskAt w' B p bs n (s.at i ⟨(s.K i).kept, struck (s.K i).late b ++ [(b, d)]⟩) v') ∧ Spun B w w' := by
  have hk := (h.ok i hi).kept
  have hbA : Below w.heap.size w (w.alloc (.cells (lateC (b, d)).toArray 113)) := (Below.refl _ _).alloc (Nat.le_refl _) _
  have hbx : (Instr.box 113 (.agg (lateC (b, d)).toArray)).run Tryz.prog w = .ok (.pointer (some ⟨w.heap.size, 0, none⟩)) (w.alloc (.cells (lateC (b, d)).toArray 113)) := rfl
  have hs1 : (w.alloc (.cells (lateC (b, d)).toArray 113)).cell? ⟨bs, i * 65 + 64, none⟩ = some (v i) := cell_later hbA (h.cells i hi 64 _ (by rw [List.getElem?_append_right (by simp [hk])]; simp [hk]))
  have hnr : (w.alloc (.cells (lateC (b, d)).toArray 113)).rangeAt w.heap.size 0 (lateC (b, d)) := range_new w _ _ 0 _ (fun j u hj => by rw [Nat.zero_add]; exact hj)
  have hbs : ∀ W, (bsLate #[(0, .agg (lateC (b, d)).toArray)]).run Tryz.prog W = .ok (.slice (some ⟨W.heap.size, 0, none⟩) 1 1) (W.alloc (.cells (lateC (b, d)).toArray 113)) := fun W => build_one W (b, d) hd
  have hmf : ∀ (fn : Fn) (first cap : Array Value) (w : World), (Instr.makeFunc fn first cap).run Tryz.prog w = .ok (.func fn first cap) w := fun _ _ _ _ => rfl
  have HD : ∀ X, Below (w.alloc (.cells (lateC (b, d)).toArray 113)).heap.size (w.alloc (.cells (lateC (b, d)).toArray 113)) X → Calls Tryz.prog 73 #[v i, .func (.func 74) #[] #[.pointer (some ⟨w.heap.size, 0, none⟩)]] X fun e w' => ∃ v', e = .returned v' ∧ DelIs w X w' B (v i) (s.K i).late b v' := fun X hX =>
    (delete_any X B _ b w.heap.size (v i) (s.K i).late (owns_below (h.rows i hi) (hbA.trans (hX.mono hbA.size))) (h.ok i hi).late (h.ok i hi).once rfl (h.ok i hi).few (cell_later hX (hnr 0 _ rfl)) (fun e => by have := ((h.rows i hi).lt _ e).2; omega)).mono fun e w' ⟨v', he, h1, h2, h3⟩ => ⟨v', he, h1, h2, h3, (grownBy_of (hbA.trans (hX.mono hbA.size))).trans h3⟩
  have hrow : (v i).ownBlock ≠ some w.heap.size := fun e => by have := ((h.rows i hi).lt _ e).2; omega
  have hrow1 : (v i).ownBlock ≠ some (w.alloc (.cells (lateC (b, d)).toArray 113)).heap.size := fun e => by have := ((h.rows i hi).lt _ e).2; simp at this; omega
  have hl65 : (lateC (b, d)).length = 65 := lateC_len hd
  have h1c := lateC_one (b, d)
  have hu := Tryz.underlying113
  have hi70 := late_info hl65
  generalize hcs : lateC (b, d) = cs at *
  have HCS : Hid (lateC (b, d) = cs) := hcs
  obtain ⟨a0, c0, hv, _⟩ := owns_shape (h.rows i hi)
  have HV : Hid (v i = .slice a0 (s.K i).late.length c0) := hv
  rw [hv] at hs1 HD hrow hrow1
  have HHD : Hid (DiskAt w B p bs n s v) := h
  have hld : ∀ X, X.rangeAt w.heap.size 0 cs → (ldLate (.pointer (some ⟨w.heap.size, 0, none⟩))).run Tryz.prog X = .ok (.agg cs.toArray) X := fun X hX => run_loadAt_mid X _ _ _ _ _ hX hu rfl hi70
  have HE : ∀ (X : World) (v' : Value) (a : Nat), Hid (w.grownBy X (Value.slice a0 (s.K i).late.length c0).ownBlock) → Hid (X.ownsRow B 113 65 v' (struck (s.K i).late b).length (latesC (struck (s.K i).late b))) → Hid (v'.ownBlock = (Value.slice a0 (s.K i).late.length c0).ownBlock) → Hid (X.rangeAt a 0 cs) →
      ∃ v'' X', (Builtin.append_ #[114, 114] 114 #[v', .slice (some ⟨a, 0, none⟩) 1 1]).run Tryz.prog X = .ok v'' X' ∧ AddEnd w B p bs n s v i b d v'' X' := fun X v' a e1 e2 e3 e4 => by
    rw [← hv] at e1 e3
    rw [← hcs] at e4
    exact add_end h hi hb hd e1.out e2.out e3.out e4.out
  clear hcs h hv
  generalize hW : w.alloc (.cells cs.toArray 113) = W at *
  have hsz : w.heap.size < W.heap.size := by rw [← hW]; simp
  have l1 := hld W.drew (by simpa using hnr)
  have hs2 : ∀ ob : Obj, (W.alloc ob).cell? ⟨bs, i * 65 + 64, none⟩ = some (.slice a0 (s.K i).late.length c0) := fun ob => cell_later ((Below.refl _ _).alloc (Nat.le_refl _) _) hs1
  clear hi70 hu h1c hd hi hb hk
  go_enter Tryz.func57, Tryz.ntmps57
  go_wp2
  go_region_law (first
    | (refine step_own (R := AddEnd w B p bs n s v i b d) rfl (.tmp 10) (.tmp 12) 114 rfl v' (.slice (some ⟨w2.heap.size, 0, none⟩) 1 1) rfl rfl ?hrun ?_; (case hrun => exact HE (w2.alloc (.cells cs.toArray 113)) v' w2.heap.size (hDI.far.trans (grownBy_of ((Below.refl _ _).alloc (Nat.le_refl _) _))) (hDI.own.alloc _) hDI.blk (range_new w2 _ _ 0 _ (fun j u hj => by rw [Nat.zero_add]; exact hj))); rintro v'' X' ⟨⟨a2, m2, c2, rfl⟩, q1, q2, q3, q4⟩)
    | (refine step_own (R := AddEnd w B p bs n s v i b d) rfl (.tmp 10) (.tmp 12) 114 rfl v' (.slice (some ⟨W.heap.size, 0, none⟩) 1 1) rfl rfl ?hrun ?_; (case hrun => exact HE w2 v' W.heap.size hDI.far hDI.own hDI.blk (range_grown hDI.near (range_new W.drew _ _ 0 _ (fun j u hj => by rw [Nat.zero_add]; exact hj)) (Ne.symm hrow1))); rintro v'' X' ⟨⟨a2, m2, c2, rfl⟩, q1, q2, q3, q4⟩)
    | (go_simp; go_at_call 73; refine (HD _ ?hb).mono ?_; (case hb => first | exact (Below.refl _ _).drew | exact ((Below.refl _ _).drew).alloc (Nat.le_refl _) _); rintro e w2 ⟨v', rfl, hDI⟩; have l2 := hld w2 (range_grown hDI.near (by first | exact hnr | exact World.rangeAt_alloc (w := W.drew) hnr _) (Ne.symm hrow))))
  all_goals
    go_end0
    exact ⟨rfl, ⟨_, q3⟩, q4⟩
end Go.Proofs.YtlcdacldhalnnaaGreatDoor
