/- What Parse of package entry returns, of any text: the entry that is written so, or ErrText; memory that was there stays as it was. Rows of entries of a call's own: where they lie, and what keeps them. The lines of a text, one by one: what the iterator of package shelf's cut hands to a loop. -/
import Derived.Test.YtagfngiaogckpaaGreatDoorEntRead
import Derived.RangeFuncNested
import Derived.RangeFuncBound
import Derived.RangeFuncCalls
import Derived.RangeFuncLeaves
import Derived.RangeFuncBox
import Derived.Shelf.Abstract
import Derived.Shelf.RegionOpen
import Derived.OwnWalkIn
import Derived.TacticsInMore
import Derived.LoopNIn
import Derived.LoopIn
namespace Go.Proofs.YtagfngiaogckpaaGreatDoor
open Go.RowKit
theorem readE_fit (s : ByteArray) (hs : s.size <= 1000000) : EntFit (readE s) := by
 have hsz := fun i => Nat.le_trans (wd_size s i) hs
 unfold readE readW
 split
 ·rename_i h
  have hm : 1 <= nu (wordsE s) 1 /\ nu (wordsE s) 1 <= 6 /\ 0 <= nu (wordsE s) 2 /\ nu (wordsE s) 2 <= 36 := by
   have := h.2.1
   unfold mayBeB at this
   simpa using this
  refine ⟨?_,?_,?_,fun i _ => ?_⟩
  ·show (wd (wordsE s) 0).size <= maxLen
   have := hsz 0; unfold maxLen; omega
  ·show (nu (wordsE s) 1).toNat <= maxLen
   unfold maxLen; omega
  ·show (nu (wordsE s) 2).toNat <= maxLen
   unfold maxLen; omega
  ·show (wd (wordsE s) _).size <= maxLen
   have := hsz (3 + 3 * i); unfold maxLen; omega
 ·exact ⟨by decide,by decide,by decide,fun i h => absurd h (Nat.not_lt_zero _)⟩
theorem bytes_ne {T s : ByteArray} (h : T ≠ s) : (T.toList == s.toList) = false := by
 rw [beq_eq_false_iff_ne]
 intro h2
 apply h
 exact WideShapes.bytes_inj (by rwa [ByteArray.toList_eq,ByteArray.toList_eq] at h2)
theorem box_no_int {w : World} {g : Nat} (h : w.heap[g]? = some (.cells #[.string ⟨#[]⟩,.slice none 0 0,.slice none 0 0] 48 (0,0))) (o : Nat) (k : Int) : w.cell? ⟨g,o,none⟩ ≠ some (.int .i64 k) := by
 intro hc
 match o,hc with
 | 0,hc => simp [World.cell?,h] at hc
 | 1,hc => simp [World.cell?,h] at hc
 | 2,hc => simp [World.cell?,h] at hc
 | o + 3,hc => simp [World.cell?,h] at hc
theorem entAt_set3 {w : World} {g : Nat} {v : EntV} {en : EntF} (hA : EntAt w v en) (h : w.heap[g]? = some (.cells #[.string ⟨#[]⟩,.slice none 0 0,.slice none 0 0] 48 (0,0))) (a0 a1 a2 : Value) : EntAt (((w.setCell ⟨g,0,none⟩ a0).setCell ⟨g,1,none⟩ a1).setCell ⟨g,2,none⟩ a2) v en := by
 refine ⟨?_,?_⟩
 ·rcases hA.parts with h0 | ⟨bk,o,ha,hc⟩
  ·exact .inl h0
  ·refine .inr ⟨bk,o,ha,fun i hi => ?_⟩
   obtain ⟨h0,h1,h2⟩ := hc i hi
   have hne : bk ≠ g := fun e => box_no_int h _ _ (e ▸ h1)
   exact ⟨cell_set3 h0 hne _ _ _,cell_set3 h1 hne _ _ _,cell_set3 h2 hne _ _ _⟩
 ·rcases hA.pats with h0 | ⟨bk,o,ha,hc⟩
  ·exact .inl h0
  ·refine .inr ⟨bk,o,ha,fun i hi => ?_⟩
   obtain ⟨h0,h1,h2⟩ := hc i hi
   have hne : bk ≠ g := fun e => box_no_int h _ _ (e ▸ h1)
   exact ⟨cell_set3 h0 hne _ _ _,cell_set3 h1 hne _ _ _,cell_set3 h2 hne _ _ _⟩
theorem entNew_set3 {w : World} {g : Nat} {v : EntV} {en : EntF} (hA : EntNew w v en) (h : w.heap[g]? = some (.cells #[.string ⟨#[]⟩,.slice none 0 0,.slice none 0 0] 48 (0,0))) (a0 a1 a2 : Value) : EntNew (((w.setCell ⟨g,0,none⟩ a0).setCell ⟨g,1,none⟩ a1).setCell ⟨g,2,none⟩ a2) v en := by
 have key : ∀ {bk : Nat} {C : Array Value} {t : TypeId},t ≠ 48 -> w.heap[bk]? = some (.cells C t (0,0)) -> (((w.setCell ⟨g,0,none⟩ a0).setCell ⟨g,1,none⟩ a1).setCell ⟨g,2,none⟩ a2).heap[bk]? = some (.cells C t (0,0)) := fun {bk C t} ht hC => by
  have hne : bk ≠ g := fun e => by
   subst e
   rw [h] at hC
   injection hC with hC
   injection hC with _ h2 _
   exact ht h2.symm
  exact (heap_set3 hne _ _ _).trans hC
 exact ⟨entAt_set3 hA.here h _ _ _,hA.tP.imp id fun ⟨bk,o,C,ha,hC⟩ => ⟨bk,o,C,ha,key (by decide) hC⟩,hA.tQ.imp id fun ⟨bk,o,C,ha,hC⟩ => ⟨bk,o,C,ha,key (by decide) hC⟩⟩
set_option maxRecDepth 100000 in
set_option maxHeartbeats 4000000 in
theorem entParse_new (s : ByteArray) (w : World) (hE : Env w) (hs : s.size <= 1000000) :
 Calls Tryz.prog 101 #[.string s] w fun e w' => ∃ v,e = .returned (.tuple #[.agg (entCs v (parseE s).2),errV (parseE s).1]) /\ EntNew w' v (parseE s).2 /\ Below w.heap.size w w' := by
 have hb0 : Below w.heap.size w (w.alloc (.cells #[.string ⟨#[]⟩,.slice none 0 0,.slice none 0 0] 48)) := (Below.refl _ _).alloc (Nat.le_refl _) _
 have hres : (w.alloc (.cells #[.string ⟨#[]⟩,.slice none 0 0,.slice none 0 0] 48)).heap[w.heap.size]? = some (.cells #[.string ⟨#[]⟩,.slice none 0 0,.slice none 0 0] 48 (0,0)) := Array.getElem?_push_size
 have hz0 : w.heap.size < (w.alloc (.cells #[.string ⟨#[]⟩,.slice none 0 0,.slice none 0 0] 48)).heap.size := by simp
 have hE0 := hE.later hb0
 have HF := readE_fit s hs
 have HPA : Hid (parseE s = if (textE (readE s)).1 = 0 /\ (textE (readE s)).2 = s.data.toList then (0,readE s) else (4,emptyE)) := rfl
 have HR := entRead_any s _ hE0 hs
 generalize hW : w.alloc (.cells #[.string ⟨#[]⟩,.slice none 0 0,.slice none 0 0] 48) = W0 at *
 generalize readE s = en at *
 go_enter Tryz.func101,Tryz.ntmps101
 go_wp2_with fail
 refine (show Calls _ _ _ _ _ from HR).mono ?_
 rintro e w1 ⟨v,rfl,hA1,hb1⟩
 clear HR
 have hbe : Below w1.heap.size w1 (w1.alloc (.cells (entCs v en) 48)) := (Below.refl _ _).alloc (Nat.le_refl _) _
 have HT := entText_any v en _ (hA1.here.later hbe) HF ((hE0.later hb1).later hbe)
 have hres1 := (hb1.block _ hz0).trans hres
 have hlt1 : w.heap.size < w1.heap.size := Nat.lt_of_lt_of_le hz0 hb1.size
 have c0 : (w1.alloc (.cells (entCs v en) 48)).cell? ⟨w1.heap.size,0,none⟩ = some (.string en.root) := by simp [go_sem]
 have c1 : (w1.alloc (.cells (entCs v en) 48)).cell? ⟨w1.heap.size,1,none⟩ = some (.slice v.aP en.nP v.cP) := by simp [go_sem]
 have c2 : (w1.alloc (.cells (entCs v en) 48)).cell? ⟨w1.heap.size,2,none⟩ = some (.slice v.aQ en.nQ v.cQ) := by simp [go_sem]
 have hA2 := hA1.later hbe
 have hbA := (hb0.trans (hb1.mono hb0.size)).trans (hbe.mono (Nat.le_of_lt hlt1))
 have hres2 := (hbe.block _ hlt1).trans hres1
 have hlt2 : w.heap.size < (w1.alloc (.cells (entCs v en) 48)).heap.size := by simp; omega
 clear hres hres1 hA1 hb1 hb0 hE0 hE hz0 hs
 go_wp2_with fail
 refine (show Calls _ _ _ _ _ from HT).mono ?_
 rintro e w3 ⟨rfl,hb3⟩
 clear HT
 have hres3 := (hb3.block _ hlt2).trans hres2
 have hb4 := hbA.trans (hb3.mono hbA.size)
 have hA3 := hA2.later hb3
 have d0 := cell_later hb3 c0
 have d1 := cell_later hb3 c1
 have d2 := cell_later hb3 c2
 obtain ⟨q0,q1,q2,f0,f1,f2⟩ := resAt hres3
 clear c0 c1 c2 hA2 hbA hres2 hbe hlt2 hb3
 have hFin := entNew_set3 hA3 hres3
 generalize hTX : (textE en).1 = F at *
 generalize hTL : (textE en).2 = L at *
 clear hres3 hA3
 by_cases h1 : F = 0
 ·subst h1
  by_cases h2 : L = s.data.toList
  ·have HIS : Hid (parseE s = (0,en)) := by rw [HPA.out,if_pos ⟨rfl,h2⟩]; exact rfl
   have hTs : (⟨L.toArray⟩ : ByteArray) = s := by rw [h2]
   rw [hTs]
   have hse : (s.toList != s.toList) = false := by simp
   have hNB := below3 hb4 (Nat.le_refl w.heap.size) (.string en.root) (.slice v.aP en.nP v.cP) (.slice v.aQ en.nQ v.cQ)
   have hFN := hFin (.string en.root) (.slice v.aP en.nP v.cP) (.slice v.aQ en.nQ v.cQ)
   clear hTs h2 HPA hTX hTL hFin
   simp only [errV]
   go_wp2
   refine bodyPost_ret (v := .tuple #[.agg #[.string en.root,.slice v.aP en.nP v.cP,.slice v.aQ en.nQ v.cQ],.nilIface]) (by simp [results,Tryz.results101,go_sem,q0,q1,q2]) rfl ?_
   rw [HIS.out]
   exact ⟨v,rfl,hFN,hNB⟩
  ·have HIS : Hid (parseE s = (4,emptyE)) := by rw [HPA.out,if_neg (fun h => h2 h.2)]; exact rfl
   have hne := bytes_ne (T := ⟨L.toArray⟩) (s := s) (fun h => h2 (by rw [<- h]))
   have hNB := below3 hb4 (Nat.le_refl w.heap.size) (.string ⟨#[]⟩) (.slice none 0 0) (.slice none 0 0)
   clear h2 HPA hTX hTL hFin
   generalize (⟨L.toArray⟩ : ByteArray) = T at *
   simp only [errV]
   go_wp2
   refine bodyPost_ret (v := .tuple #[.agg #[.string ⟨#[]⟩,.slice none 0 0,.slice none 0 0],.iface 82 (.int .i64 4)]) (by simp [results,Tryz.results101,go_sem,q0,q1,q2]) rfl ?_
   rw [HIS.out]
   exact ⟨⟨none,0,none,0⟩,rfl,empty_new _,hNB⟩
 ·have HIS : Hid (parseE s = (4,emptyE)) := by rw [HPA.out,if_neg (fun h => h1 h.1)]; exact rfl
  obtain ⟨f,rfl⟩ : ∃ f,F = f + 1 := ⟨F - 1,by omega⟩
  have hNB := below3 hb4 (Nat.le_refl w.heap.size) (.string ⟨#[]⟩) (.slice none 0 0) (.slice none 0 0)
  clear h1 HPA hTX hTL hFin
  simp only [errV]
  generalize (((f + 1 : Nat) : Int)) = K at *
  go_wp2
  refine bodyPost_ret (v := .tuple #[.agg #[.string ⟨#[]⟩,.slice none 0 0,.slice none 0 0],.iface 82 (.int .i64 4)]) (by simp [results,Tryz.results101,go_sem,q0,q1,q2]) rfl ?_
  rw [HIS.out]
  exact ⟨⟨none,0,none,0⟩,rfl,empty_new _,hNB⟩
structure EntIn (w : World) (B : Nat) (v : EntV) (e : EntF) : Prop where
 here : EntAt w v e
 tP : e.nP = 0 ∨ ∃ bk o,v.aP = some ⟨bk,o,none⟩ /\ (bk < B ∨ ∃ C,w.heap[bk]? = some (.cells C 108 (0,0)))
 tQ : e.nQ = 0 ∨ ∃ bk o,v.aQ = some ⟨bk,o,none⟩ /\ (bk < B ∨ ∃ C,w.heap[bk]? = some (.cells C 144 (0,0)))
theorem EntNew.within {w : World} {v : EntV} {e : EntF} (h : EntNew w v e) (B : Nat) : EntIn w B v e :=
 ⟨h.here,h.tP.imp id fun ⟨bk,o,C,ha,hC⟩ => ⟨bk,o,ha,.inr ⟨C,hC⟩⟩,h.tQ.imp id fun ⟨bk,o,C,ha,hC⟩ => ⟨bk,o,ha,.inr ⟨C,hC⟩⟩⟩
theorem EntAt.within {w : World} {v : EntV} {e : EntF} (h : EntAt w v e) : EntIn w w.heap.size v e := by
 refine ⟨h,?_,?_⟩
 ·rcases h.parts with h0 | ⟨bk,o,ha,hc⟩
  ·exact .inl h0
  ·by_cases h0 : e.nP = 0
   ·exact .inl h0
   ·exact .inr ⟨bk,o,ha,.inl (World.block_lt_of_cell? _ _ (hc 0 (by omega)).1)⟩
 ·rcases h.pats with h0 | ⟨bk,o,ha,hc⟩
  ·exact .inl h0
  ·by_cases h0 : e.nQ = 0
   ·exact .inl h0
   ·exact .inr ⟨bk,o,ha,.inl (World.block_lt_of_cell? _ _ (hc 0 (by omega)).1)⟩
structure Keeps (B : Nat) (w w' : World) : Prop where
 low : ∀ k : Nat,k < B -> w'.heap[k]? = w.heap[k]?
 kind : ∀ (k : Nat) (C : Array Value) (t : TypeId),(t = 108 ∨ t = 144) -> w.heap[k]? = some (.cells C t (0,0)) -> w'.heap[k]? = w.heap[k]?
theorem Keeps.trans {B : Nat} {a b c : World} (h : Keeps B a b) (g : Keeps B b c) : Keeps B a c :=
 ⟨fun k hk => (g.low k hk).trans (h.low k hk),fun k C t ht hk => (g.kind k C t ht ((h.kind k C t ht hk).trans hk)).trans (h.kind k C t ht hk)⟩
theorem Keeps.of_below {B : Nat} {w w' : World} (hB : B <= w.heap.size) (h : Below w.heap.size w w') : Keeps B w w' :=
 ⟨fun k hk => h.block k (by omega),fun k _ _ _ hk => h.block k (Array.getElem?_eq_some_iff.1 hk).1⟩
theorem Keeps.set {B g i : Nat} {w : World} {C : Array Value} {t : TypeId} {f : Nat × Nat} (hg : w.heap[g]? = some (.cells C t f)) (ht : t ≠ 108 /\ t ≠ 144) (hB : B <= g) (v : Value) : Keeps B w (w.setCell ⟨g,i,none⟩ v) :=
 ⟨fun k hk => Below.heap_setCell _ _ _ _ (by show k ≠ g; omega),fun k C' t' ht' hk => Below.heap_setCell _ _ _ _ (fun e => by
  have e : k = g := e
  subst e
  rw [hg] at hk
  injection hk with hk
  injection hk with _ h2 _
  subst h2
  rcases ht' with h | h
  ·exact ht.1 h
  ·exact ht.2 h)⟩
theorem Keeps.grown {B B1 : Nat} {w w' : World} {e : TypeId} {s n : Nat} {v : Value} {xs : List Value} (hB : B <= B1) (hw : B <= w.heap.size) (h : w.ownsRow B1 e s v n xs) (he : e ≠ 108 /\ e ≠ 144) (hg : w.grownBy w' v.ownBlock) : Keeps B w w' := by
 have key : ∀ k,some k = v.ownBlock -> B1 <= k /\ ∃ C,w.heap[k]? = some (.cells C e (0,0)) := fun k hk => by
  rcases h.2 with ⟨rfl,_⟩ | ⟨g,cap,cur,rfl,hb,hgb,_⟩
  ·simp [Value.ownBlock] at hk
  ·have : k = g := by simpa [Value.ownBlock] using hk
   subst this
   exact ⟨hb,cur,hgb⟩
 refine ⟨fun k hk => hg.block k (by omega) (fun e' => by have := (key k e').1; omega),fun k C t ht hk => hg.block k (Array.getElem?_eq_some_iff.1 hk).1 (fun e' => ?_)⟩
 obtain ⟨C',hC'⟩ := (key k e').2
 rw [hC'] at hk
 injection hk with hk
 injection hk with _ h2 _
 subst h2
 rcases ht with h | h
 ·exact he.1 h
 ·exact he.2 h
theorem EntIn.keeps {w w' : World} {B : Nat} {v : EntV} {e : EntF} (h : EntIn w B v e) (hk : Keeps B w w') : EntIn w' B v e := by
 have kP : ∀ bk,(bk < B ∨ ∃ C,w.heap[bk]? = some (.cells C 108 (0,0))) -> w'.heap[bk]? = w.heap[bk]? := fun bk hb => by
  rcases hb with hb | ⟨C,hC⟩
  ·exact hk.low bk hb
  ·exact hk.kind bk C _ (.inl rfl) hC
 have kQ : ∀ bk,(bk < B ∨ ∃ C,w.heap[bk]? = some (.cells C 144 (0,0))) -> w'.heap[bk]? = w.heap[bk]? := fun bk hb => by
  rcases hb with hb | ⟨C,hC⟩
  ·exact hk.low bk hb
  ·exact hk.kind bk C _ (.inr rfl) hC
 refine ⟨⟨?_,?_⟩,h.tP.imp id fun ⟨bk,o,ha,hb⟩ => ⟨bk,o,ha,hb.imp id fun ⟨C,hC⟩ => ⟨C,(kP bk (.inr ⟨C,hC⟩)).trans hC⟩⟩,h.tQ.imp id fun ⟨bk,o,ha,hb⟩ => ⟨bk,o,ha,hb.imp id fun ⟨C,hC⟩ => ⟨C,(kQ bk (.inr ⟨C,hC⟩)).trans hC⟩⟩⟩
 ·rcases h.tP with h0 | ⟨bk,o,ha,hb⟩
  ·exact .inl h0
  ·have hs := kP bk hb
   rcases h.here.parts with h0 | ⟨bk',o',ha',hc⟩
   ·exact .inl h0
   ·rw [ha] at ha'
    injection ha' with ha'
    injection ha' with h1 h2
    subst h1 h2
    exact .inr ⟨bk,o,ha,fun i hi => ⟨(World.cell?_of_block (a := ⟨bk,_,none⟩) hs).trans (hc i hi).1,(World.cell?_of_block (a := ⟨bk,_,none⟩) hs).trans (hc i hi).2.1,(World.cell?_of_block (a := ⟨bk,_,none⟩) hs).trans (hc i hi).2.2⟩⟩
 ·rcases h.tQ with h0 | ⟨bk,o,ha,hb⟩
  ·exact .inl h0
  ·have hs := kQ bk hb
   rcases h.here.pats with h0 | ⟨bk',o',ha',hc⟩
   ·exact .inl h0
   ·rw [ha] at ha'
    injection ha' with ha'
    injection ha' with h1 h2
    subst h1 h2
    exact .inr ⟨bk,o,ha,fun i hi => ⟨(World.cell?_of_block (a := ⟨bk,_,none⟩) hs).trans (hc i hi).1,(World.cell?_of_block (a := ⟨bk,_,none⟩) hs).trans (hc i hi).2.1,(World.cell?_of_block (a := ⟨bk,_,none⟩) hs).trans (hc i hi).2.2⟩⟩
theorem EntIn.more {w : World} {B B' : Nat} {v : EntV} {e : EntF} (h : EntIn w B v e) (hB : B <= B') : EntIn w B' v e :=
 ⟨h.here,h.tP.imp id fun ⟨bk,o,ha,hb⟩ => ⟨bk,o,ha,hb.imp (fun h => Nat.lt_of_lt_of_le h hB) id⟩,h.tQ.imp id fun ⟨bk,o,ha,hb⟩ => ⟨bk,o,ha,hb.imp (fun h => Nat.lt_of_lt_of_le h hB) id⟩⟩
def entL (V : Nat -> EntV) (E : Nat -> EntF) (i : Nat) : List Value := [.string (E i).root,.slice (V i).aP (E i).nP (V i).cP,.slice (V i).aQ (E i).nQ (V i).cQ]
structure EntsOwn (w : World) (B0 B : Nat) (v : Value) (k : Nat) (V : Nat -> EntV) (E : Nat -> EntF) : Prop where
 row : w.ownsRow B 48 3 v k (joinC (entL V E) k)
 ins : ∀ i,i < k -> EntIn w B0 (V i) (E i)
theorem EntsOwn.ents {w : World} {B0 B : Nat} {v : Value} {k : Nat} {V : Nat -> EntV} {E : Nat -> EntF} (h : EntsOwn w B0 B v k V E) : ∃ a c,v = .slice a k c /\ EntsRow w a k V E := by
 obtain ⟨a,c,rfl,hr⟩ := rows3 (fun _ => rfl) h.row
 refine ⟨a,c,rfl,?_⟩
 rcases hr with h0 | ⟨bk,hbk,ha,hc,_⟩
 ·exact .inl h0
 ·refine .inr ⟨bk,0,ha,fun i hi => ⟨?_,?_,?_,(h.ins i hi).here⟩⟩
  ·have := hc i hi 0 _ rfl
   simpa using this
  ·have := hc i hi 1 _ rfl
   simpa using this
  ·have := hc i hi 2 _ rfl
   simpa using this
theorem EntsOwn.keeps {w w' : World} {B0 B : Nat} {v : Value} {k : Nat} {V : Nat -> EntV} {E : Nat -> EntF} (h : EntsOwn w B0 B v k V E) (hk : Keeps B0 w w') (hr : ∀ b,v.ownBlock = some b -> w'.heap[b]? = w.heap[b]?) : EntsOwn w' B0 B v k V E :=
 ⟨own_kept h.row hr,fun i hi => (h.ins i hi).keeps hk⟩
theorem EntsOwn.later {w w' : World} {B0 B : Nat} {v : Value} {k : Nat} {V : Nat -> EntV} {E : Nat -> EntF} (h : EntsOwn w B0 B v k V E) (hB : B0 <= w.heap.size) (hb : Below w.heap.size w w') : EntsOwn w' B0 B v k V E :=
 h.keeps (Keeps.of_below hB hb) fun b e => by
  obtain ⟨C,hC⟩ := own_kind h.row e
  exact hb.block b (Array.getElem?_eq_some_iff.1 hC).1
theorem EntsOwn.congr {w : World} {B0 B : Nat} {v : Value} {k : Nat} {V V' : Nat -> EntV} {E E' : Nat -> EntF} (h : EntsOwn w B0 B v k V E) (e : ∀ i,i < k -> V i = V' i /\ E i = E' i) : EntsOwn w B0 B v k V' E' :=
 ⟨by
  rw [<- joinC_congr (g := entL V E) (fun i hi => by unfold entL; rw [(e i hi).1,(e i hi).2])]
  exact h.row,fun i hi => by rw [<- (e i hi).1,<- (e i hi).2]; exact h.ins i hi⟩
def addV {α : Type} (V : Nat -> α) (k : Nat) (x : α) (i : Nat) : α := if i = k then x else V i
theorem EntsOwn.added {w' : World} {B0 B : Nat} {v' : Value} {k : Nat} {V : Nat -> EntV} {E : Nat -> EntF} {x : EntV} {e : EntF} (hi : ∀ i,i < k -> EntIn w' B0 (V i) (E i)) (he : EntIn w' B0 x e)
 (hr : w'.ownsRow B 48 3 v' (k + 1) (joinC (entL V E) k ++ [.string e.root,.slice x.aP e.nP x.cP,.slice x.aQ e.nQ x.cQ])) : EntsOwn w' B0 B v' (k + 1) (addV V k x) (addV E k e) := by
 refine ⟨?_,fun i hlt => ?_⟩
 ·show w'.ownsRow B _ 3 v' (k + 1) (joinC (entL (addV V k x) (addV E k e)) k ++ entL (addV V k x) (addV E k e) k)
  rw [joinC_congr (h := entL V E) (fun i hi => by unfold entL addV; rw [if_neg (by omega),if_neg (by omega)])]
  unfold entL addV
  rw [if_pos rfl,if_pos rfl]
  exact hr
 ·unfold addV
  by_cases h : i = k
  ·rw [if_pos h,if_pos h]; exact he
  ·rw [if_neg h,if_neg h]; exact hi i (by omega)
end Go.Proofs.YtagfngiaogckpaaGreatDoor
namespace Go.Proofs.YtagfngiaogckpaaGreatDoor
open Go.RowKit Go.Shelf
attribute [local go_sem] Oper.semAt_some
abbrev Ln := { x : ByteArray // (parseE x).1 = 0 /\ x.size <= 1000 }
def upto (X : Nat -> Ln) (k : Nat) : List Ln := (List.range k).map X
theorem upto_succ (X : Nat -> Ln) (k : Nat) : upto X (k + 1) = upto X k ++ [X k] := by simp [upto,List.range_succ]
theorem upto_len (X : Nat -> Ln) (k : Nat) : (upto X k).length = k := by simp [upto]
theorem upto_prefix (X : Nat -> Ln) : ∀ {i k : Nat},i <= k -> upto X i <+: upto X k
 | i,0,h => by obtain rfl : i = 0 := by omega
               exact List.prefix_refl _
 | i,k + 1,h => by
  by_cases e : i = k + 1
  ·subst e; exact List.prefix_refl _
  ·rw [upto_succ]
   exact (upto_prefix X (by omega : i <= k)).trans (List.prefix_append _ _)
def KpC (n₀ Bn : Nat) (W W' : World) : Prop := Below n₀ W W' /\ W'.heap[Bn]? = W.heap[Bn]?
theorem KpC.trans {n₀ Bn : Nat} {A B C : World} (h : KpC n₀ Bn A B) (g : KpC n₀ Bn B C) : KpC n₀ Bn A C := ⟨h.1.trans g.1,g.2.trans h.2⟩
theorem KpC.put {n₀ Bn m : Nat} (h1 : n₀ <= m) (h2 : Bn < m) (W : World) (l : Nat) (o o' : Obj) (hl : m <= l) (_ : W.heap[l]? = some o) (_ : o.isCells = false) (_ : o.isWalk = false) : KpC n₀ Bn W (W.putObj l o') :=
 ⟨⟨rfl,rfl,rfl,by simp,fun k hk => World.putObj_heap_other (by omega)⟩,World.putObj_heap_other (by omega)⟩
set_option maxRecDepth 100000 in
set_option maxHeartbeats 4000000 in
theorem cut1_in (n : Nat) (hn : 2 <= n) (l Bn n₀ k : Nat) (X : Nat -> Ln) (E : Nat -> EntF) (T : ByteArray) (hT : T.data.toList = linesE E k) (hTs : T.size <= 2256) (hX : ∀ i,i < k -> EntOk (E i) /\ (X i).1 = ⟨(lineE (E i)).toArray⟩) (J Jx : List Ln -> World -> Prop)
 (hY : ∀ pre x W,J pre W -> pre.length < k -> YieldAt Fence.wide (n - 1) Tryz.prog l #[.string x.1] W fun e W' =>
   (e = .returned (.bool true) /\ J (pre ++ [x]) W' /\ KpC n₀ Bn W W') ∨ (e = .returned (.bool false) /\ Jx (pre ++ [x]) W'))
 (W : World) (hBn : Boxed W Bn 9 (.string T)) (h0 : J [] W) :
 CallsIn Fence.wide n Tryz.prog 139 #[.func (.yield l) #[] #[],.pointer (some ⟨Bn,0,none⟩)] W fun e W' => (∃ v,e = .returned v) /\
  ((∃ ys,ys = upto X k /\ J ys W') ∨ (∃ pre,pre <+: upto X k /\ Jx pre W')) := by
 refine callsIn_of_wp Tryz.func139 rfl trivial ?_ rfl
 simp only [Tryz.ntmps139,List.size_toArray,List.length_cons,List.length_nil,Nat.reduceAdd,Nat.reduceSub,Array.replicate_succ,Array.replicate_zero,List.push_toArray,List.append_toArray,List.nil_append,List.cons_append]
 gi_wp2
 gi_loopw [3] (fun p wr => ∃ i : Nat,i <= k /\ p = .int .i64 ((linesE E i).length : Int) /\ Boxed wr Bn 9 (.string T) /\ J (upto X i) wr)
  (fun p _ => T.size - (intOf p).toNat)
 case atStart => exact ⟨0,Nat.zero_le _,rfl,hBn,h0⟩
 case round =>
  obtain ⟨i,hi,rfl,hB,hJ⟩ := hrel
  have hc := hB.cell
  have hsz : T.size = (linesE E k).length := by rw [<- hT]; simp
  by_cases hlt : i < k
  ·obtain ⟨hOk,hXi⟩ := hX i hlt
   obtain ⟨r,hr1,hr2,hr3⟩ := linesE_cut hlt hOk
   have hp := lineE_pos (E i)
   obtain ⟨m,hm⟩ : ∃ m,(lineE (E i)).length = m + 1 := ⟨(lineE (E i)).length - 1,by omega⟩
   have hlen : T.size = (linesE E i).length + (m + 1 + r.length) := by rw [hsz,hr3]; simp [hm]
   have HU : Hid (upto X (i + 1) = upto X i ++ [X i]) := upto_succ X i
   have HN : Hid (((linesE E (i + 1)).length : Int) = ((linesE E i).length : Int) + (m : Int) + 1) := by show ((linesE E (i + 1)).length : Int) = _; rw [linesE_succ]; simp [hm]; omega
   have HXD : Hid ((T.extract (linesE E i).length T.size).data.toList = lineE (E i) ++ r) := by
    show (T.extract (linesE E i).length T.size).data.toList = _
    rw [Lib.extract_data,hT,hr1,List.take_of_length_le (by simp [hm]; omega)]
   have HXL : Hid (T.extract (linesE E i).length ((linesE E i).length + m + 1) = (X i).1) := by
    show T.extract (linesE E i).length ((linesE E i).length + m + 1) = _
    rw [hXi]
    apply ByteArray.ext
    apply Array.ext'
    rw [Lib.extract_data,hT,hr1,show (linesE E i).length + m + 1 - (linesE E i).length = (lineE (E i)).length by omega]
    simp
   have hiv : Lib.indexByte (lineE (E i) ++ r) 10 = (m : Int) := by rw [hr2,hm]; simp
   have HI : ∀ w,Calls Tryz.prog 140 #[.string (T.extract (linesE E i).length T.size),.int .u8 10] w fun e w' => e = .returned (.int .i64 (m : Int)) /\ w' = w := fun w => by
    have := Tryz.strings_IndexByte (T.extract (linesE E i).length T.size) 10 w
    rw [HXD.out,show ((10 : Int).toNat.toUInt8) = 10 from rfl,hiv] at this
    exact this
   obtain ⟨fn,tmps,assign,body,hy,hR⟩ := hY (upto X i) (X i) wr hJ (by rw [upto_len]; exact hlt)
   have HLEN : Hid (T.size = (linesE E i).length + (m + 1 + r.length)) := hlen
   have h1 : ((linesE E i).length : Int) < (T.size : Int) := by omega
   have h2 : ((linesE E i).length : Int) + (m : Int) + 1 <= (T.size : Int) := by omega
   have h3 : (0 : Int) <= ((linesE E i).length : Int) := by omega
   have h4 : (0 : Int) <= (m : Int) := by omega
   have h5 : (T.size : Int) <= 2256 := by omega
   have HMP : Hid (upto X i <+: upto X k /\ upto X (i + 1) <+: upto X k) := ⟨upto_prefix X (by omega),upto_prefix X (by omega)⟩
   clear hr1 hr2 hr3 hm hlen hp hsz hOk hXi hiv HXD hT hX hY hJ
   generalize hA : (linesE E i).length = A at *
   have HA : Hid ((linesE E i).length = A) := hA
   clear hA
   rw [<- HXL.out] at hy
   gi_wp2
   refine ⟨trivial,fun _ => by omega,?_⟩
   refine (callsIn_wide.2 (show Calls _ _ _ _ _ from HI _)).mono ?_
   rintro e w' ⟨rfl,hw⟩
   subst hw
   clear HI
   gi_wp2
   refine ⟨fun _ => by omega,hR.mono ?_⟩
   rintro e W3 (⟨rfl,hJ3,hk3⟩ | ⟨rfl,hJx3⟩)
   ·rw [<- HU.out] at hJ3
    have hB3 : Boxed W3 Bn 9 (.string T) := hk3.2.trans hB
    clear hR hy hB hc
    gi_wp2
    go_roundw
    case rel => exact ⟨i + 1,by omega,by rw [HN.out],hB3,hJ3⟩
    case measure => simp [intOf]; omega
   ·rw [<- HU.out] at hJx3
    gi_wp2
    refine bodyPost_ret (results_none rfl _ _ _) rfl ?_
    exact ⟨⟨_,rfl⟩,.inr ⟨_,HMP.out.2,hJx3⟩⟩
  ·obtain rfl : i = k := by omega
   have h1 : ¬ ((linesE E i).length : Int) < (T.size : Int) := by omega
   clear hsz hlt
   gi_wp2
   go_end0
   exact ⟨⟨_,rfl⟩,.inl hJ⟩
theorem cut_in (n : Nat) (T : ByteArray) (w : World) :
 CallsIn Fence.wide n Tryz.prog 100 #[.string T] w fun e w' => e = .returned (.func (.func 139) #[] #[.pointer (some ⟨w.heap.size,0,none⟩)]) /\ w' = w.alloc (.cells #[.string T] 9) := by
 refine callsIn_of_wp Tryz.func100 rfl trivial ?_ rfl
 simp only [Tryz.ntmps100,List.size_toArray,List.length_cons,List.length_nil,Nat.reduceAdd,Nat.reduceSub,Array.replicate_succ,Array.replicate_zero,List.push_toArray,List.append_toArray,List.nil_append,List.cons_append]
 gi_wp2
 go_ret
 exact ⟨rfl,rfl⟩
theorem cut_stops (n : Nat) (hn : 2 <= n) (Bn n₀ k : Nat) (X : Nat -> Ln) (E : Nat -> EntF) (T : ByteArray) (hT : T.data.toList = linesE E k) (hTs : T.size <= 2256) (hX : ∀ i,i < k -> EntOk (E i) /\ (X i).1 = ⟨(lineE (E i)).toArray⟩) (w : World) (hBn : Boxed w Bn 9 (.string T)) :
 SeqStopsK Fence.wide n Tryz.prog 139 #[.pointer (some ⟨Bn,0,none⟩)] (fun x : Ln => #[Value.string x.1]) (KpC n₀ Bn) (fun ys => ys = upto X k) (fun pre => pre <+: upto X k) k w := fun l J Jx W hW _ _ hY h0 =>
 cut1_in n hn l Bn n₀ k X E T hT hTs hX J Jx hY W ((hW.block Bn hBn.lt).trans hBn) h0
end Go.Proofs.YtagfngiaogckpaaGreatDoor
