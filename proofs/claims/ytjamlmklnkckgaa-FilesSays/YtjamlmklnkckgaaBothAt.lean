/-
  The code's files and the document's beside each other in memory: what one side does leaves the other side as it was.
-/
import Derived.Test.YtjamlmklnkckgaaFilesAgree
import Derived.Test.YtjamlmklnkckgaaSameTx
import Derived.Test.YtjamlmklnkckgaaSame
namespace Go.Proofs.Ytjamlmklnkckgaa
open Go.RowKit Go.Maps

theorem RAt.turned {B q k k2 p bm : Nat} {w w' : World} {L : List FileR} {D : DataW Unit} (h : RAt B w q L k) (hF : FilesAt w p bm D k2) (hT : Turned p bm w w') : RAt B w' q L k := by
  obtain ⟨v, h1, h2⟩ := h.blk
  obtain ⟨es, clock, hm, _⟩ := hF.own
  have ne : ∀ {j : Nat} {c : Array Value} {t : TypeId}, t ≠ 93 → w.heap[j]? = some (.cells c t (0, 0)) → w'.heap[j]? = w.heap[j]? := fun {j c t} ht hj => by
    refine hT.block j (Array.getElem?_eq_some_iff.1 hj).1 (fun e => ?_) (fun e => ?_)
    · rw [e, hF.blk] at hj
      injection hj with hj
      injection hj with _ hj
      exact ht hj.symm
    · rw [e, hm] at hj
      cases hj
  refine ⟨h.lo, v, (ne (by decide) h1).trans h1, h2.1, ?_⟩
  rcases h2.2 with hn | ⟨g, cap, cur, e1, e2, e3, e4⟩
  · exact .inl hn
  · exact .inr ⟨g, cap, cur, e1, e2, (ne (by decide) e3).trans e3, e4⟩
theorem FilesAt.turnedQ {B q k k2 p bm : Nat} {w w' : World} {L : List FileR} {D : DataW Unit} (h : FilesAt w p bm D k) (hR : RAt B w q L k2) (hT : Turned q q w w') : FilesAt w' p bm D k := by
  obtain ⟨v, h1, _⟩ := hR.blk
  obtain ⟨es, clock, hm, _⟩ := h.own
  have hp : p ≠ q := fun e => by
    have := h.blk
    rw [e, h1] at this
    injection this with this
    injection this with _ this
    exact absurd this (by decide)
  have hb : bm ≠ q := fun e => by
    rw [e, h1] at hm
    cases hm
  refine ⟨(hT.block p h.lt hp hp).trans h.blk, h.own.kept (row := some q) ⟨hT.os, hT.tape, hT.output, hT.size, fun j hj hne => hT.block j hj (fun e => hne (by rw [e])) (fun e => hne (by rw [e]))⟩ (fun e => hb (Option.some.inj e))⟩

/-- both, alike. -/
structure Both (B : Nat) (w : World) (p bm q : Nat) (D : DataW Unit) (L : List FileR) (k : Nat) : Prop where
  f : FilesAt w p bm D k
  r : RAt B w q L k
  inv : Inv D k
  agree : Agree D L
  most : k ≤ 1000000
theorem Both.later {B p bm q k : Nat} {w w' : World} {D : DataW Unit} {L : List FileR} (h : Both B w p bm q D L k) (hb : Below w.heap.size w w') : Both B w' p bm q D L k := ⟨h.f.later hb, h.r.later hb, h.inv, h.agree, h.most⟩
theorem Both.len {B p bm q k : Nat} {w : World} {D : DataW Unit} {L : List FileR} (h : Both B w p bm q D L k) : L.length ≤ 6 := by
  rw [h.agree.length h.inv h.f.own]; exact h.inv.size
/-- a block that is neither side's stays. -/
theorem cell_turned {p bm : Nat} {w w' : World} (hT : Turned p bm w w') {b o : Nat} {v : Value} (h : w.cell? ⟨b, o, none⟩ = some v) (h1 : b ≠ p) (h2 : b ≠ bm) : w'.cell? ⟨b, o, none⟩ = some v := by
  have hl := World.block_lt_of_cell? _ _ h
  exact (World.cell?_of_block (hT.block b hl h1 h2)).trans h
end Go.Proofs.Ytjamlmklnkckgaa
