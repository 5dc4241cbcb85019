/- What List of package files returns, for all files: the map's names, rising; memory that was there stays as it was. The law TopStamp returns true, for every row of acts, every name and text; memory that was there stays as it was. The code's files and the document's, in plain words: they are alike; they stay so through every writing and removing; then all that is read of them is alike. -/
import Derived.Maps.RangeWalk
import Derived.Sort.KeysCollected
import Derived.Sort.OwnSorted
import Derived.Test.YtagfngiaogckpaaGreatDoorFilesInv
namespace Go.Proofs.YtagfngiaogckpaaGreatDoor
open Go.RowKit Go.Maps Go.Sort
def namesF (D : DataW Unit) : List (List UInt8) := (strKeys D).mergeSort leB
structure ListEnd (w : World) (D : DataW Unit) (e : Ending) (w' : World) : Prop where
 v : ∃ v,e = .returned v /\ w'.ownsRow w.heap.size 9 1 v (namesF D).length ((namesF D).map encStr)
 below : Below w.heap.size w w'
end Go.Proofs.YtagfngiaogckpaaGreatDoor
namespace Go.Proofs.YtagfngiaogckpaaGreatDoor
open Go.RowKit Go.Maps
theorem fileD_inj {t t' : List UInt8} {n n' : Int} (h : fileD t n = fileD t' n') : t = t' /\ n = n' := by
 unfold fileD at h
 injection h with h
 injection h with h1 h2
 injection h1 with h1
 injection h1 with h1
 injection h2 with h2 _
 injection h2 with h2
 injection h2 with _ h2
 exact ⟨h1,h2⟩
theorem ba_ext {x y : ByteArray} (h : x.data.toList = y.data.toList) : x = y := WideShapes.bytes_inj h
theorem names_size {D : DataW Unit} (h : IsMap D) : (namesF D).length = Maps.size D := by
 obtain ⟨es,rfl⟩ := h
 unfold namesF
 rw [List.length_mergeSort]
 simp [strKeys,Maps.size]
structure Agree (D : DataW Unit) (L : List FileR) : Prop where
 rise : Rising L
 mem : ∀ f : FileR,f ∈ L ↔ Maps.has D (keyB f.nm) = true /\ D.atKey (keyB f.nm) (fileD [] 0) = fileD f.tx.data.toList f.st
theorem keyB_inj {x y : ByteArray} (h : keyB x = keyB y) : x = y := by
 unfold keyB at h
 injection h with h
 exact ba_ext h
theorem Agree.empty : Agree (.map []) [] := ⟨List.Pairwise.nil,fun f => by simp [Maps.has]⟩
theorem Agree.has {D : DataW Unit} {L : List FileR} {k : Nat} (h : Agree D L) (hI : Inv D k) (s : ByteArray) : Maps.has D (keyB s) = true ↔ ∃ f ∈ L,f.nm = s := by
 constructor
 ·intro hh
  obtain ⟨t,n,h1,_⟩ := hI.st _ hh
  exact ⟨⟨s,⟨t.toArray⟩,n⟩,(h.mem _).2 ⟨hh,by simpa using h1⟩,rfl⟩
 ·rintro ⟨f,hf,rfl⟩
  exact ((h.mem f).1 hf).1
theorem Agree.put {D : DataW Unit} {L : List FileR} {k : Nat} (h : Agree D L) (hI : Inv D k) (s tx : ByteArray) (n : Int) : Agree (D.put (keyB s) (fileD tx.data.toList n)) (putR ⟨s,tx,n⟩ L) := by
 obtain ⟨hm,hr⟩ := putR_mem ⟨s,tx,n⟩ L h.rise
 refine ⟨hr,fun f => ?_⟩
 rw [hm f]
 by_cases e : f.nm = s
 ·have hk : keyB f.nm = keyB s := by rw [e]
  rw [hk,has_put_same hI.tidy.isMap (keyB_key s),atKey_put_same hI.tidy.isMap (keyB_key s)]
  constructor
  ·rintro (rfl | ⟨_,hne⟩)
   ·exact ⟨rfl,rfl⟩
   ·exact absurd e hne
  ·rintro ⟨_,h2⟩
   obtain ⟨h3,h4⟩ := fileD_inj h2
   left
   obtain ⟨a,b,c⟩ := f
   simp only at e h3 h4
   subst e h4
   rw [ba_ext h3]
 ·have hk : keyB f.nm ≠ keyB s := fun q => e (keyB_inj q)
  rw [has_put_other hk,atKey_put_other hk,<- h.mem f]
  constructor
  ·rintro (rfl | ⟨h1,_⟩)
   ·exact absurd rfl e
   ·exact h1
  ·intro h1
   exact .inr ⟨h1,e⟩
theorem Agree.del {D : DataW Unit} {L : List FileR} (h : Agree D L) (s : ByteArray) : Agree (D.del (keyB s)) (delR s L) := by
 refine ⟨h.rise.filter _,fun f => ?_⟩
 unfold delR
 rw [List.mem_filter]
 by_cases e : f.nm = s
 ·have hk : keyB f.nm = keyB s := by rw [e]
  rw [hk,has_del_same]
  simp [e]
 ·have hk : keyB f.nm ≠ keyB s := fun q => e (keyB_inj q)
  rw [has_del_other hk,atKey_del_other hk,<- h.mem f]
  simp [e]
theorem Agree.names {D : DataW Unit} {L : List FileR} {k : Nat} {w : World} {bm n : Nat} (h : Agree D L) (hI : Inv D k) (hw : w.ownsMap Tryz.prog 9 fileElem bm n D) : namesF D = L.map fun f => f.nm.data.toList := by
 obtain ⟨es,hD,hpw⟩ := hI.tidy
 have hko := hw.keysOf
 have hnd : (L.map fun f => f.nm.data.toList).Nodup := List.pairwise_map.2 (h.rise.imp fun {a b} hab e => by
  unfold ltN at hab
  rw [e] at hab
  exact List.lt_irrefl _ hab)
 have hm : ∀ x,x ∈ (L.map fun f => f.nm.data.toList) ↔ Maps.has D (.string x) = true := fun x => by
  have := h.has hI ⟨x.toArray⟩
  unfold keyB at this
  simp only at this
  rw [this,List.mem_map]
  constructor
  ·rintro ⟨f,hf,e⟩
   exact ⟨f,hf,ba_ext (by simpa using e)⟩
  ·rintro ⟨f,hf,e⟩
   exact ⟨f,hf,by rw [e]⟩
 obtain ⟨es',hD',hk'⟩ := hko
 have hee : es = es' := by rw [hD] at hD'; simpa using hD'
 subst hee
 subst hD
 have hp := perm_strKeys hpw (fun p hp => by
  obtain ⟨v,hv⟩ := hk' p hp
  obtain ⟨x,_,hx,_⟩ := Maps.keyOf_str Tryz.underlying9 hv
  exact ⟨x,hx⟩) hnd hm
 unfold namesF
 rw [<- mergeSort_of_perm hp]
 refine List.mergeSort_of_pairwise (List.pairwise_map.2 (h.rise.imp fun {a b} hab => ?_))
 unfold ltN at hab
 exact decide_eq_true (List.le_of_lt hab)
theorem Agree.length {D : DataW Unit} {L : List FileR} {k : Nat} {w : World} {bm n : Nat} (h : Agree D L) (hI : Inv D k) (hw : w.ownsMap Tryz.prog 9 fileElem bm n D) : L.length = Maps.size D := by
 rw [<- names_size hI.tidy.isMap,h.names hI hw,List.length_map]
theorem Agree.fault {D : DataW Unit} {L : List FileR} {k : Nat} {w : World} {bm n : Nat} (h : Agree D L) (hI : Inv D k) (hw : w.ownsMap Tryz.prog 9 fileElem bm n D) (hk : k <= 1000000) (s text : ByteArray) : writeF D k s text = writeRF L k s text := by
 have hl := h.length hI hw
 have h6 := hI.size
 unfold writeF writeRF
 congr 1
 have hc : (6 <= othersF D s ∨ 1000000 <= k) ↔ (((∀ x ∈ L,x.nm ≠ s) /\ L.length = 6) ∨ k = 1000000) := by
  cases hq : Maps.has D (keyB s) with
  | true =>
   obtain ⟨f,hf,e⟩ := (h.has hI s).1 hq
   have ho : othersF D s = (Maps.size D : Int) - 1 := if_pos hq
   rw [ho]
   constructor
   ·rintro (h1 | h1)
    ·omega
    ·exact .inr (by omega)
   ·rintro (⟨h1,_⟩ | h1)
    ·exact absurd e (h1 f hf)
    ·exact .inr (by omega)
  | false =>
   have ho : othersF D s = (Maps.size D : Int) := if_neg (by simp [hq])
   rw [ho]
   have hno : ∀ x ∈ L,x.nm ≠ s := fun x hx e => by
    rw [(h.has hI s).2 ⟨x,hx,e⟩] at hq
    cases hq
   constructor
   ·rintro (h1 | h1)
    ·exact .inl ⟨hno,by omega⟩
    ·exact .inr (by omega)
   ·rintro (⟨_,h1⟩ | h1)
    ·exact .inl (by omega)
    ·exact .inr (by omega)
 by_cases ht : 1200 < text.size
 ·rw [if_pos ht,if_pos ht]
 ·rw [if_neg ht,if_neg ht]
  by_cases hx : 6 <= othersF D s ∨ 1000000 <= k
  ·rw [if_pos hx,if_pos (hc.1 hx)]
  ·rw [if_neg hx,if_neg (fun y => hx (hc.2 y))]
theorem Agree.gone {D : DataW Unit} {L : List FileR} {k : Nat} (h : Agree D L) (hI : Inv D k) (s : ByteArray) : (if Maps.has D (keyB s) = true then 0 else 5 : Nat) = if (delR s L).length = L.length then 5 else 0 := by
 cases hq : Maps.has D (keyB s) with
 | true =>
  obtain ⟨f,hf,e⟩ := (h.has hI s).1 hq
  have : (delR s L).length ≠ L.length := fun q => by
   have := delR_same q
   have hm : f ∈ delR s L := by rw [this]; exact hf
   simp [delR,e] at hm
  rw [if_pos rfl,if_neg this]
 | false =>
  have hno : ∀ x ∈ L,x.nm ≠ s := fun x hx e => by
   rw [(h.has hI s).2 ⟨x,hx,e⟩] at hq
   cases hq
  have : delR s L = L := List.filter_eq_self.2 fun x hx => by simp [hno x hx]
  rw [if_neg (by decide),if_pos (by rw [this])]
end Go.Proofs.YtagfngiaogckpaaGreatDoor
