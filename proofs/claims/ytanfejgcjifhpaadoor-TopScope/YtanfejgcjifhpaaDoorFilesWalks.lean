/-
  What New, Read, others and Remove of package files do, for every file: in plain words on what the map holds; all other memory stays as it was.
-/
import Derived.Test.YtanfejgcjifhpaaDoorFilesAt
namespace Go.Proofs.YtanfejgcjifhpaaDoor
open Go.RowKit Go.Maps



theorem new_any (w : World) :
    Calls Tryd.prog 13 #[] w fun e w' => ∃ p bm, e = .returned (.pointer (some ⟨p, 0, none⟩)) ∧ w.heap.size ≤ p ∧ w.heap.size ≤ bm ∧ FilesAt w' p bm (.map []) 0 ∧ Below w.heap.size w w' := by
  have hmm := @run_makeMap Tryd.prog
  go_enter Tryd.func13, Tryd.ntmps13
  go_wp2
  go_ret
  refine ⟨w.heap.size + 1, w.heap.size, rfl, by omega, Nat.le_refl _, ⟨?_, ?_⟩, ((Below.refl _ _).alloc (Nat.le_refl _) _).alloc (by simp) _⟩
  · have e : (w.alloc (.map #[] 0)).heap.size = w.heap.size + 1 := by simp
    rw [← e]
    show ((w.alloc (.map #[] 0)).heap.push _)[(w.alloc (.map #[] 0)).heap.size]? = _
    rw [Array.getElem?_push_size]
    rfl
  · exact (World.ownsMap_made w _ _ _).alloc _

/-- what Read answers. -/
structure ReadIs (D : DataW Unit) (s t : ByteArray) (n : Int) (f : Nat) : Prop where
  yes : Maps.has D (keyB s) = true → f = 0 ∧ D.atKey (keyB s) (fileD [] 0) = fileD t.data.toList n
  no : Maps.has D (keyB s) = false → f = 5 ∧ t = ⟨#[]⟩ ∧ n = 0

/-- a call of Read that returned. -/
def ReadEnd (D : DataW Unit) (s : ByteArray) (e : Ending) : Prop := ∃ t n f, e = .returned (.tuple #[.string t, .int .i64 n, errV f]) ∧ ReadIs D s t n f

theorem fileRead_any (w : World) (p bm : Nat) (D : DataW Unit) (k : Nat) (s : ByteArray) (h : FilesAt w p bm D k) (hs : s.size ≤ maxLen) :
    Calls Tryd.prog 19 #[.pointer (some ⟨p, 0, none⟩), .string s] w fun e w' => ReadEnd D s e ∧ Below w.heap.size w w' := by
  obtain ⟨t, n, hrun, hat⟩ := h.look s hs
  have c0 := h.c0
  have HT : Hid (D.atKey (keyB s) (fileD [] 0) = fileD t.data.toList n) := hat
  clear hat
  cases hh : Maps.has D (keyB s) with
  | true =>
    rw [hh] at hrun
    have HH : Hid (Maps.has D (keyB s) = true) := hh
    clear hh
    go_enter Tryd.func19, Tryd.ntmps19
    go_wp2
    go_quiet (fail)
    go_wp2
    go_ret3
    exact ⟨⟨t, n, 0, rfl, fun _ => ⟨rfl, HT.out⟩, fun h => absurd (h.symm.trans HH.out) (by decide)⟩, below_drewN ((Below.refl _ _).alloc (Nat.le_refl _) _) _⟩
  | false =>
    rw [hh] at hrun
    have HH : Hid (Maps.has D (keyB s) = false) := hh
    clear hh
    go_enter Tryd.func19, Tryd.ntmps19
    go_wp2
    go_ret3
    exact ⟨⟨⟨#[]⟩, 0, 5, rfl, fun h => absurd (h.symm.trans HH.out) (by decide), fun _ => ⟨rfl, rfl, rfl⟩⟩, (Below.refl _ _).alloc (Nat.le_refl _) _⟩

/-- how many others. -/
def othersF (D : DataW Unit) (s : ByteArray) : Int := if Maps.has D (keyB s) = true then (Maps.size D : Int) - 1 else Maps.size D

theorem others_any (w : World) (p bm : Nat) (D : DataW Unit) (k : Nat) (s : ByteArray) (h : FilesAt w p bm D k) (hs : s.size ≤ maxLen) (hz : Maps.size D ≤ 1000) :
    Calls Tryd.prog 29 #[.pointer (some ⟨p, 0, none⟩), .string s] w fun e w' => e = .returned (.int .i64 (othersF D s)) ∧ Below w.heap.size w w' := by
  obtain ⟨t, n, hrun, hat⟩ := h.look s hs
  have hlen := fun (ob : Obj) (ty : TypeId) => (h.own.alloc ob).len Tryd.underlying73 ty
  have c0 := h.c0
  have c0' : ∀ ob : Obj, (w.alloc ob).cell? ⟨p, 0, none⟩ = some (.map (some bm)) := fun ob => by rw [World.cell?_alloc_lt _ _ _ h.lt]; exact c0
  clear hat
  cases hh : Maps.has D (keyB s) with
  | true =>
    have HO : Hid (othersF D s = (Maps.size D : Int) - 1) := if_pos hh
    rw [hh] at hrun
    clear hh
    go_enter Tryd.func29, Tryd.ntmps29
    go_wp2
    go_ret
    rw [HO.out]
    exact ⟨rfl, (Below.refl _ _).alloc (Nat.le_refl _) _⟩
  | false =>
    have HO : Hid (othersF D s = (Maps.size D : Int)) := if_neg (by simp [hh])
    rw [hh] at hrun
    clear hh
    go_enter Tryd.func29, Tryd.ntmps29
    go_wp2
    go_ret
    rw [HO.out]
    exact ⟨rfl, (Below.refl _ _).alloc (Nat.le_refl _) _⟩

/-- the map's own block turned. -/
theorem FilesAt.map_turned {w w' : World} {p bm : Nat} {D D' : DataW Unit} {k n : Nat} (h : FilesAt w p bm D k) (ho : w'.ownsMap Tryd.prog 9 fileElem bm n D') (ht : w.mapTurned w' bm) : FilesAt w' p bm D' k ∧ Turned p bm w w' := by
  have hg := ht.grown
  refine ⟨⟨(hg.block p h.lt (fun e => h.ne (Option.some.inj e))).trans h.blk, own_exact ho⟩, hg.os, hg.tape, hg.output, hg.size, fun j hj _ h2 => hg.block j hj (fun e => h2 (Option.some.inj e))⟩

theorem remove_any (w : World) (p bm : Nat) (D : DataW Unit) (k : Nat) (s : ByteArray) (h : FilesAt w p bm D k) (hs : s.size ≤ maxLen) (F : Nat) (hF : F = if Maps.has D (keyB s) = true then 0 else 5) :
    Calls Tryd.prog 34 #[.pointer (some ⟨p, 0, none⟩), .string s] w fun e w' => e = .returned (errV F) ∧ FilesAt w' p bm (D.del (keyB s)) k ∧ Turned p bm w w' := by
  obtain ⟨t, n, hrun, hat⟩ := h.look s hs
  have c0 := h.c0
  clear hat
  have hb : Below w.heap.size w (w.alloc (.cells #[.string t, .int .i64 n] 80)) := (Below.refl _ _).alloc (Nat.le_refl _) _
  have h2 := h.later hb
  cases hh : Maps.has D (keyB s) with
  | true =>
    rw [hh] at hrun
    rw [hh, if_pos rfl] at hF
    subst hF
    have c0' := h2.c0
    clear hh
    go_enter Tryd.func34, Tryd.ntmps34
    go_wp2_with (first
      | (at_delete; refine wpList_delete_own _ rfl _ _ 73 9 rfl 80 keysStr Tryd.underlying73 fileElem bm _ D rfl h2.own _ _ rfl (keyB_of s hs) ?_; intro w1 hown1 hturn1)
      | go_in)
    go_ret
    obtain ⟨g1, g2⟩ := h2.map_turned hown1 hturn1
    exact ⟨rfl, g1, (Turned.of hb).trans g2⟩
  | false =>
    rw [hh] at hrun
    rw [hh, if_neg (by decide)] at hF
    subst hF
    have HD : D.del (keyB s) = D := del_of_not_has hh
    rw [HD]
    clear hh HD
    go_enter Tryd.func34, Tryd.ntmps34
    go_wp2
    go_ret
    exact ⟨rfl, h2, Turned.of hb⟩
end Go.Proofs.YtanfejgcjifhpaaDoor
