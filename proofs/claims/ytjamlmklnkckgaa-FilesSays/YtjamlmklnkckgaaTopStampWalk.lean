/-
  The law TopStamp returns true, for every row of acts, every name and text; memory that was there stays as it was.
-/
import Derived.Test.YtjamlmklnkckgaaFilesInv
import Derived.Test.YtjamlmklnkckgaaFilesList
namespace Go.Proofs.Ytjamlmklnkckgaa
open Go.RowKit Go.Maps

theorem fileD_inj {t t' : List UInt8} {n n' : Int} (h : fileD t n = fileD t' n') : t = t' ∧ n = n' := by
  unfold fileD at h
  injection h with h
  injection h with h1 h2
  injection h1 with h1
  injection h1 with h1
  injection h2 with h2 _
  injection h2 with h2
  injection h2 with _ h2
  exact ⟨h1, h2⟩
theorem ba_ext {x y : ByteArray} (h : x.data.toList = y.data.toList) : x = y := WideShapes.bytes_inj h
/-- what is read of what was just written. -/
theorem read_put {D : DataW Unit} {s text t : ByteArray} {n m : Int} {f : Nat} (hD : IsMap D) (h : ReadIs (D.put (keyB s) (fileD text.data.toList m)) s t n f) : t = text ∧ n = m ∧ f = 0 := by
  obtain ⟨h1, h2⟩ := h.yes (has_put_same hD (keyB_key s) _)
  rw [atKey_put_same hD (keyB_key s)] at h2
  obtain ⟨h3, h4⟩ := fileD_inj h2
  exact ⟨(ba_ext h3).symm, h4.symm, h1⟩
abbrev aB : ByteArray := ⟨#[97]⟩
abbrev xB : ByteArray := ⟨#[120]⟩
theorem closed_write : writeF (.map []) 0 aB xB = 0 := by decide

set_option maxRecDepth 100000 in
theorem drawer_any (w : World) : Calls Try.prog 22 #[] w fun e w' => e = .returned (.bool true) ∧ Below w.heap.size w w' := by
  have HN := new_any w
  go_enter Try.func22, Try.ntmps22
  go_wp2_with fail
  refine HN.mono ?_
  rintro e w1 ⟨p, bm, rfl, hp, hbm, hF, hb⟩
  have HW := write_any w1 p bm (.map []) 0 aB xB hF (by decide) (by decide)
  rw [closed_write] at HW
  clear HN
  go_wp2_with fail
  refine HW.mono ?_
  rintro e w2 hE
  have he := hE.e
  subst he
  have hF2 := hE.yes rfl
  have hb2 := hb.trans (hE.turned.below hb.size hp hbm)
  have HR := read_any w2 p bm _ _ aB hF2 (by decide)
  simp only [errV]
  clear HW hE
  go_wp2_with fail
  refine HR.mono ?_
  rintro e w3 ⟨⟨t, n, f, rfl, hI⟩, hb3⟩
  obtain ⟨rfl, rfl, rfl⟩ := read_put (s := aB) (text := xB) (m := 1) isMap_empty hI
  have hb4 := hb2.trans (hb3.mono hb2.size)
  clear HR hI hF2 hF
  simp only [errV]
  go_wp2
  go_ret
  exact ⟨rfl, hb4⟩

/-- a file's text and stamp, as they are read. -/
def fileT : DataW Unit → List UInt8
  | .agg [.lit (.string t), _] => t
  | _ => []
def fileN : DataW Unit → Int
  | .agg [_, .lit (.int _ n)] => n
  | _ => 0
theorem names_has {w : World} {bm n : Nat} {D : DataW Unit} (h : w.ownsMap Try.prog 9 fileElem bm n D) {x : List UInt8} (hx : x ∈ namesF D) : Maps.has D (.string x) = true ∧ x.length ≤ maxLen := by
  have hle := strKeys_le h Try.underlying9
  obtain ⟨es, rfl, hko⟩ := h.keysOf
  have hx' : x ∈ strKeys (DataW.map es) := (List.mergeSort_perm _ _).mem_iff.1 hx
  refine ⟨?_, hle x hx'⟩
  obtain ⟨p, hp, rfl⟩ := List.mem_map.1 hx'
  obtain ⟨v, hv⟩ := hko p hp
  obtain ⟨y, _, hy, _⟩ := Maps.keyOf_str Try.underlying9 hv
  rw [has_eq, List.any_eq_true]
  exact ⟨p, hp, by rw [hy]; simp [Lit.sameKey, strOf]⟩
theorem names_size {D : DataW Unit} (h : IsMap D) : (namesF D).length = Maps.size D := by
  obtain ⟨es, rfl⟩ := h
  unfold namesF
  rw [List.length_mergeSort]
  simp [strKeys, Maps.size]
/-- the name at a place of the list. -/
def nmF (D : DataW Unit) (i : Nat) : ByteArray := ⟨((namesF D).getD i []).toArray⟩
def txF (D : DataW Unit) (i : Nat) : ByteArray := ⟨(fileT (D.atKey (keyB (nmF D i)) (fileD [] 0))).toArray⟩
def sxF (D : DataW Unit) (i : Nat) : Int := fileN (D.atKey (keyB (nmF D i)) (fileD [] 0))
theorem nm_key (D : DataW Unit) (i : Nat) : keyB (nmF D i) = .string ((namesF D).getD i []) := by simp [keyB, nmF]
theorem nm_cell {D : DataW Unit} {i : Nat} (h : i < (namesF D).length) : ((namesF D).map encStr)[i]? = some (.string (nmF D i)) := by
  rw [List.getElem?_map, List.getElem?_eq_getElem h]
  simp [nmF, encStr, List.getD_eq_getElem?_getD, List.getElem?_eq_getElem h]
theorem nm_has {w : World} {bm n : Nat} {D : DataW Unit} (hw : w.ownsMap Try.prog 9 fileElem bm n D) {i : Nat} (h : i < (namesF D).length) : Maps.has D (keyB (nmF D i)) = true ∧ (nmF D i).size ≤ maxLen := by
  have hm : (namesF D).getD i [] ∈ namesF D := by
    rw [List.getD_eq_getElem?_getD, List.getElem?_eq_getElem h]
    exact List.getElem_mem h
  obtain ⟨h1, h2⟩ := names_has hw hm
  exact ⟨by rw [nm_key]; exact h1, by simpa [nmF, ByteArray.size] using h2⟩
/-- what is read of a name of the list. -/
theorem read_nm {D D' : DataW Unit} {k : Nat} {i : Nat} {t : ByteArray} {n : Int} {f : Nat} (_ : Inv D k) (hh : Maps.has D (keyB (nmF D i)) = true) (h1 : Maps.has D' (keyB (nmF D i)) = Maps.has D (keyB (nmF D i))) (h2 : D'.atKey (keyB (nmF D i)) (fileD [] 0) = D.atKey (keyB (nmF D i)) (fileD [] 0))
    (h : ReadIs D' (nmF D i) t n f) : f = 0 ∧ t = txF D i ∧ n = sxF D i := by
  obtain ⟨e1, e2⟩ := h.yes (h1.trans hh)
  rw [h2] at e2
  refine ⟨e1, ?_, ?_⟩
  · apply ba_ext
    unfold txF
    rw [e2]
    simp [fileT, fileD]
  · unfold sxF
    rw [e2]
    rfl
theorem owns_turned {w w' : World} {p bm B : Nat} {e : TypeId} {s n : Nat} {v : Value} {xs : List Value} (h : w.ownsRow B e s v n xs) (hp : p < B) (hbm : bm < B) (hT : Turned p bm w w') : w'.ownsRow B e s v n xs := by
  refine ⟨h.1, ?_⟩
  rcases h.2 with h | ⟨g, cap, cur, e1, e2, e3, e4⟩
  · exact .inl h
  · exact .inr ⟨g, cap, cur, e1, e2, (hT.block g (Array.getElem?_eq_some_iff.1 e3).1 (by omega) (by omega)).trans e3, e4⟩
theorem own_apart {w : World} {B B' s s' n n' : Nat} {e t : TypeId} {v v' : Value} {xs xs' : List Value} (h : w.ownsRow B e s v n xs) (h' : w.ownsRow B' t s' v' n' xs') (hne : e ≠ t) : v'.ownBlock = none ∨ v'.ownBlock ≠ v.ownBlock := by
  rcases h'.2 with ⟨rfl, _⟩ | ⟨g', cap', cur', rfl, _, hg', _⟩
  · exact .inl rfl
  · refine .inr fun hv => ?_
    rcases h.2 with ⟨rfl, _⟩ | ⟨g, cap, cur, rfl, _, hg, _⟩
    · simp [Value.ownBlock] at hv
    · simp [Value.ownBlock] at hv
      subst hv
      rw [hg] at hg'
      injection hg' with hg'
      injection hg' with h1 h2
      exact hne h2
theorem intGrow2 {B : Nat} {w : World} {v : Value} {n : Nat} {cs : List Value} (u : Int) (hB : B ≤ w.heap.size) (h : w.ownsRow B 3 1 v n cs) (hn : n + 1 ≤ 1000000) :
    ∃ v' W, (Builtin.append_ #[32, 32] 32 #[v, .slice (some ⟨w.heap.size, 0, none⟩) 1 1]).run Try.prog (w.alloc (.cells #[.int .i64 u] 3)) = .ok v' W ∧ Grown B 3 1 (w.alloc (.cells #[.int .i64 u] 3)) v (n + 1) (cs ++ [.int .i64 u]) v' W :=
  append_from 32 3 1 8 (.int .i64 0) (by kernel_rfl) (by kernel_rfl) (by rfl) (by decide) B _ v n cs (h.alloc _) (some ⟨w.heap.size, 0, none⟩) 1 1 [.int .i64 u] rfl
    (.inr ⟨_, _, rfl, fun j x hj => by
      cases j with
      | zero => simp at hj; subst hj; simp [go_sem]
      | succ j => simp at hj⟩) (fun x hx => by simp at hx; subst hx; rfl) (by simp; omega) hn (by decide)
end Go.Proofs.Ytjamlmklnkckgaa
