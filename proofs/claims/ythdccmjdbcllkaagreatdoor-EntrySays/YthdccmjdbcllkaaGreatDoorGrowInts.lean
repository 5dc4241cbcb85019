/- Plain words on the document's files, with nothing of the program: a list of files by rising names; what reading, writing and removing make of it. The document's files in memory; what Read and List of them return; memory that was there stays as it was. Files in memory: a block of a map and a count; what the map holds, in plain words; what stays of it as memory grows. What New, Read, others and Remove of package files do, for every file: in plain words on what the map holds; all other memory stays as it was. What Write of package files does, for every name and text: in plain words on what the map holds; all other memory stays as it was. What List, Remove and Write of the document's files do, for every name and text; all other memory stays as it was. What Write of the document's files does, for every name and text; all other memory stays as it was. Acts in memory; what LightEntry and LightActs return, for every row of acts (true: they are few, and not too long); memory that was there stays as it was. Plain words on files: what stays true of them, whatever is written and removed. (the contracts of sorting lie in the text that this one imports) What List of package files returns, for all files: the map's names, rising; memory that was there stays as it was. The law TopStamp returns true, for every row of acts, every name and text; memory that was there stays as it was. The code's files and the document's, in plain words: they are alike; they stay so through every writing and removing; then all that is read of them is alike. What read and join of package scope return, for every file, every text and every list; all other memory stays as it was. Rows of objects that the call makes: by append of a row of objects, of one object. What Of of package scope returns, for every file and every root: who belongs together, in order; or the number of the error; all other memory stays as it was. Plain words on names and objects that belong together: what is known of them where there is no error. What SameTexts returns of two rows of texts that are alike; memory stays as it was. The code's files and the document's beside each other in memory: what one side does leaves the other side as it was. What ObjectOf of the document returns, in the words of the code's reading; what Read of its files returns, in the words of the code's files. What ScopeOf of the document returns, for all files and every root: who belongs together, in order; or the number of the error; memory that was there stays as it was. What Round, Apart, inWindow and check of package place return, for every argument that is asked of them; memory that was there stays as it was. What the document's Pages and Apart return, for every argument that is asked of them; memory that was there stays as it was. Plain words on places that are used: a range meets others just if one of its places is used. Rows of numbers and rows of ranges of the call's own, that grow by one; what each place of them holds; a list of ranges, cloned. -/
import Derived.Maps.OwnSet
import Derived.Maps.Views
import Derived.StringKeys
import Derived.Maps.RangeWalk
import Derived.Sort.KeysCollected
import Derived.Sort.OwnSorted
import Derived.Maps.AppendAt
import Derived.Maps.Range
import Derived.Test.YthdccmjdbcllkaaGreatDoorRefOf
import Derived.Lib.SliceRun
namespace Go.Proofs.YthdccmjdbcllkaaGreatDoor
structure FileR where
 nm : ByteArray
 tx : ByteArray
 st : Int
def ltN (x y : ByteArray) : Prop := x.data.toList < y.data.toList
def Rising (L : List FileR) : Prop := L.Pairwise fun f g => ltN f.nm g.nm
theorem ltN_irrefl (x : ByteArray) : ¬ ltN x x := List.lt_irrefl _
theorem ltN_trans {x y z : ByteArray} (h : ltN x y) (h' : ltN y z) : ltN x z := List.lt_trans h h'
theorem ltN_tri (x y : ByteArray) : ltN x y ∨ x = y ∨ ltN y x := by
 unfold ltN
 by_cases h : x.data.toList < y.data.toList
 ·exact .inl h
 ·by_cases h' : y.data.toList < x.data.toList
  ·exact .inr (.inr h')
  ·exact .inr (.inl (WideShapes.bytes_inj (List.le_antisymm (List.not_lt.1 h') (List.not_lt.1 h))))
def leN (x y : ByteArray) : Bool := decide (x.data.toList <= y.data.toList)
theorem leN_no {x y : ByteArray} (h : leN x y = false) : ltN y x := by
 unfold leN at h
 exact List.not_le.1 (of_decide_eq_false h)
theorem leN_yes {x y : ByteArray} (h : leN x y = true) : ¬ ltN y x := by
 unfold leN at h
 exact List.not_lt.2 (of_decide_eq_true h)
def stepR (new : FileR) (q : List FileR × Bool) (f : FileR) : List FileR × Bool :=
 ((q.1 ++ (if !q.2 && leN new.nm f.nm then [new] else [])) ++ (if f.nm = new.nm then [] else [f]),q.2 || leN new.nm f.nm)
def stepsR (new : FileR) (L : List FileR) : List FileR × Bool := L.foldl (stepR new) ([],false)
def putR (new : FileR) (L : List FileR) : List FileR := if (stepsR new L).2 = true then (stepsR new L).1 else (stepsR new L).1 ++ [new]
def delR (s : ByteArray) (L : List FileR) : List FileR := L.filter fun f => !decide (f.nm = s)
theorem stepsR_snoc (new : FileR) (L : List FileR) (f : FileR) : stepsR new (L ++ [f]) = stepR new (stepsR new L) f := by simp [stepsR,List.foldl_append]
theorem snocInd {α : Type} {P : List α -> Prop} (h0 : P []) (h1 : ∀ L a,P L -> P (L ++ [a])) (L : List α) : P L := by
 have : ∀ M : List α,P M.reverse := fun M => by
  induction M with
  | nil => simpa using h0
  | cons a M ih => rw [List.reverse_cons]; exact h1 _ _ ih
 rw [<- List.reverse_reverse L]
 exact this _
structure Going (new : FileR) (L : List FileR) (q : List FileR × Bool) : Prop where
 mem : ∀ f,f ∈ q.1 ↔ (q.2 = true /\ f = new) ∨ (f ∈ L /\ f.nm ≠ new.nm)
 rise : Rising q.1
 low : q.2 = false -> ∀ f ∈ L,ltN f.nm new.nm
 high : ∀ g : FileR,(∀ f ∈ L,ltN f.nm g.nm) -> q.2 = true -> ltN new.nm g.nm
theorem going (new : FileR) (L : List FileR) (h : Rising L) : Going new L (stepsR new L) := by
 induction L using snocInd with
 | h0 => exact ⟨fun f => by simp [stepsR],List.Pairwise.nil,fun _ f hf => by simp at hf,fun g _ hq => by simp [stepsR] at hq⟩
 | h1 L f ih =>
  have hL : Rising L := (List.pairwise_append.1 h).1
  have hf : ∀ x ∈ L,ltN x.nm f.nm := fun x hx => (List.pairwise_append.1 h).2.2 x hx f (by simp)
  have I := ih hL
  rw [stepsR_snoc]
  generalize stepsR new L = q at I
  obtain ⟨acc,b⟩ := q
  have Imem := I.mem
  have Irise := I.rise
  have Ilow := I.low
  have Ihigh := I.high
  simp only at Imem Irise Ilow Ihigh
  cases hle : leN new.nm f.nm with
  | false =>
   have hlt := leN_no hle
   have hb : b = false := by
    cases b with
    | false => rfl
    | true => exact absurd (ltN_trans (Ihigh f hf rfl) hlt) (ltN_irrefl _)
   subst hb
   have hne : f.nm ≠ new.nm := fun e => ltN_irrefl _ (e ▸ hlt)
   simp only [stepR,hle,Bool.and_false,Bool.false_eq_true,if_false,List.append_nil,if_neg hne,Bool.or_false]
   refine ⟨fun x => ?_,?_,fun _ x hx => ?_,fun g _ hq => by simp at hq⟩
   ·simp only [List.mem_append,List.mem_singleton,Imem,Bool.false_eq_true,false_and,false_or]
    constructor
    ·rintro (⟨h1,h2⟩ | rfl)
     ·exact ⟨.inl h1,h2⟩
     ·exact ⟨.inr rfl,hne⟩
    ·rintro ⟨h1 | rfl,h2⟩
     ·exact .inl ⟨h1,h2⟩
     ·exact .inr rfl
   ·refine List.pairwise_append.2 ⟨Irise,by simp,fun x hx y hy => ?_⟩
    simp at hy; subst hy
    rcases (Imem x).1 hx with ⟨h1,_⟩ | ⟨h1,_⟩
    ·cases h1
    ·exact hf x h1
   ·rcases List.mem_append.1 hx with h1 | h1
    ·exact Ilow rfl x h1
    ·simp at h1; subst h1; exact hlt
  | true =>
   have hnl := leN_yes hle
   have hge : f.nm = new.nm ∨ ltN new.nm f.nm := by
    rcases ltN_tri f.nm new.nm with h1 | h1 | h1
    ·exact absurd h1 hnl
    ·exact .inl h1
    ·exact .inr h1
   have accLt : ∀ x ∈ acc,b = false -> ltN x.nm new.nm := fun x hx hb => by
    rcases (Imem x).1 hx with ⟨h1,_⟩ | ⟨h1,_⟩
    ·rw [hb] at h1; cases h1
    ·exact Ilow hb x h1
   have accF : ∀ x ∈ acc,f.nm ≠ new.nm -> ltN x.nm f.nm := fun x hx hne => by
    rcases (Imem x).1 hx with ⟨_,rfl⟩ | ⟨h1,_⟩
    ·rcases hge with e | e
     ·exact absurd e hne
     ·exact e
    ·exact hf x h1
   have hfin : (stepR new (acc,b) f).2 = true := by simp [stepR,hle]
   have hmem : ∀ x,x ∈ (stepR new (acc,b) f).1 ↔ (x = new) ∨ (x ∈ L ++ [f] /\ x.nm ≠ new.nm) := by
    intro x
    simp only [stepR,hle,Bool.and_true,List.mem_append,Imem,List.mem_singleton]
    by_cases hne : f.nm = new.nm
    ·rw [if_pos hne]
     cases b with
     | false =>
      simp
      constructor
      ·rintro (⟨h1,h2⟩ | rfl)
       ·exact .inr ⟨.inl h1,h2⟩
       ·exact .inl rfl
      ·rintro (rfl | ⟨h1 | rfl,h2⟩)
       ·exact .inr rfl
       ·exact .inl ⟨h1,h2⟩
       ·exact absurd hne h2
     | true =>
      simp
      constructor
      ·rintro (rfl | ⟨h1,h2⟩)
       ·exact .inl rfl
       ·exact .inr ⟨.inl h1,h2⟩
      ·rintro (rfl | ⟨h1 | rfl,h2⟩)
       ·exact .inl rfl
       ·exact .inr ⟨h1,h2⟩
       ·exact absurd hne h2
    ·rw [if_neg hne]
     cases b with
     | false =>
      simp
      constructor
      ·rintro ((⟨h1,h2⟩ | rfl) | rfl)
       ·exact .inr ⟨.inl h1,h2⟩
       ·exact .inl rfl
       ·exact .inr ⟨.inr rfl,hne⟩
      ·rintro (rfl | ⟨h1 | rfl,h2⟩)
       ·exact .inl (.inr rfl)
       ·exact .inl (.inl ⟨h1,h2⟩)
       ·exact .inr rfl
     | true =>
      simp
      constructor
      ·rintro ((rfl | ⟨h1,h2⟩) | rfl)
       ·exact .inl rfl
       ·exact .inr ⟨.inl h1,h2⟩
       ·exact .inr ⟨.inr rfl,hne⟩
      ·rintro (rfl | ⟨h1 | rfl,h2⟩)
       ·exact .inl (.inl rfl)
       ·exact .inl (.inr ⟨h1,h2⟩)
       ·exact .inr rfl
   refine ⟨fun x => ?_,?_,(fun h => by rw [hfin] at h; cases h),fun g hg _ => ?_⟩
   ·rw [hmem x,hfin]; simp
   ·simp only [stepR,hle,Bool.and_true]
    have h1 : Rising (acc ++ if (!b) = true then [new] else []) := by
     cases b with
     | true => simpa using Irise
     | false =>
      simp
      refine List.pairwise_append.2 ⟨Irise,by simp,fun x hx y hy => ?_⟩
      simp at hy; subst hy
      exact accLt x hx rfl
    refine List.pairwise_append.2 ⟨h1,?_,fun x hx y hy => ?_⟩
    ·by_cases hne : f.nm = new.nm <;> simp [hne]
    ·by_cases hne : f.nm = new.nm
     ·rw [if_pos hne] at hy; simp at hy
     ·rw [if_neg hne] at hy
      simp at hy; subst hy
      rcases List.mem_append.1 hx with h2 | h2
      ·exact accF x h2 hne
      ·cases b with
       | true => simp at h2
       | false =>
        simp at h2; subst h2
        rcases hge with e | e
        ·exact absurd e hne
        ·exact e
   ·have h2 := hg f (by simp)
    rcases hge with e | e
    ·rw [<- e]; exact h2
    ·exact ltN_trans e h2
theorem putR_mem (new : FileR) (L : List FileR) (h : Rising L) : (∀ f,f ∈ putR new L ↔ f = new ∨ (f ∈ L /\ f.nm ≠ new.nm)) /\ Rising (putR new L) := by
 have G := going new L h
 unfold putR
 by_cases hb : (stepsR new L).2 = true
 ·rw [if_pos hb]
  exact ⟨fun f => by rw [G.mem f]; simp [hb],G.rise⟩
 ·rw [if_neg hb]
  have hb' : (stepsR new L).2 = false := by simpa using hb
  refine ⟨fun f => ?_,List.pairwise_append.2 ⟨G.rise,by simp,fun x hx y hy => ?_⟩⟩
  ·rw [List.mem_append,G.mem f,hb']
   simp
   constructor
   ·rintro (h1 | h1)
    ·exact .inr h1
    ·exact .inl h1
   ·rintro (h1 | h1)
    ·exact .inr h1
    ·exact .inl h1
  ·simp at hy; subst hy
   rcases (G.mem x).1 hx with ⟨h1,_⟩ | ⟨h1,_⟩
   ·rw [hb'] at h1; cases h1
   ·exact G.low hb' x h1
end Go.Proofs.YthdccmjdbcllkaaGreatDoor
namespace Go.Proofs.YthdccmjdbcllkaaGreatDoor
open Go.RowKit
def fileC (f : FileR) : List Value := [.string f.nm,.string f.tx,.int .i64 f.st]
def rowC (L : List FileR) : List Value := L.flatMap fileC
theorem rowC_snoc (L : List FileR) (f : FileR) : rowC (L ++ [f]) = rowC L ++ fileC f := by simp [rowC]
theorem rowC_at {L : List FileR} {i : Nat} {f : FileR} (h : L[i]? = some f) {j : Nat} {u : Value} (hj : (fileC f)[j]? = some u) : (rowC L)[i * 3 + j]? = some u := by
 have hj3 : j < 3 := by have := (List.getElem?_eq_some_iff.1 hj).1; simpa [fileC] using this
 induction L generalizing i with
 | nil => simp at h
 | cons g L ih =>
  show (fileC g ++ rowC L)[i * 3 + j]? = some u
  cases i with
  | zero =>
   simp at h; subst h
   rw [List.getElem?_append_left (by simp [fileC]; omega)]
   simpa using hj
  | succ i =>
   have h' : L[i]? = some f := by simpa using h
   rw [List.getElem?_append_right (by simp [fileC]; omega)]
   have e : (i + 1) * 3 + j - (fileC g).length = i * 3 + j := by simp [fileC]; omega
   rw [e]
   exact ih h'
theorem rowC_one {L : List FileR} {u : Value} (h : u ∈ rowC L) : u.oneCell' = true := by
 obtain ⟨f,_,hu⟩ := List.mem_flatMap.1 h
 simp [fileC] at hu
 rcases hu with rfl | rfl | rfl <;> rfl
structure RAt (B : Nat) (w : World) (q : Nat) (L : List FileR) (k : Nat) : Prop where
 lo : B <= q
 blk : ∃ v,w.heap[q]? = some (.cells #[v,.int .i64 (k : Int)] 89 (0,0)) /\ w.ownsRow B 111 3 v L.length (rowC L)
theorem RAt.later {B q k : Nat} {w w' : World} {L : List FileR} (h : RAt B w q L k) (hb : Below w.heap.size w w') : RAt B w' q L k := by
 obtain ⟨v,h1,h2⟩ := h.blk
 exact ⟨h.lo,v,(hb.block q (Array.getElem?_eq_some_iff.1 h1).1).trans h1,owns_below h2 hb⟩
theorem RAt.open {B q k : Nat} {w : World} {L : List FileR} (h : RAt B w q L k) : ∃ a c,L.length <= c /\ w.cell? ⟨q,0,none⟩ = some (.slice a L.length c) /\ w.cell? ⟨q,1,none⟩ = some (.int .i64 (k : Int)) /\
 (L.length = 0 ∨ ∃ g,a = some ⟨g,0,none⟩ /\ ∀ i f,L[i]? = some f -> w.cell? ⟨g,i * 3,none⟩ = some (.string f.nm) /\ w.cell? ⟨g,i * 3 + 1,none⟩ = some (.string f.tx) /\ w.cell? ⟨g,i * 3 + 2,none⟩ = some (.int .i64 f.st)) := by
 obtain ⟨v,h1,h2⟩ := h.blk
 obtain ⟨a,c,rfl,hc⟩ := owns_shape h2
 refine ⟨a,c,hc,by simp [World.cell?,h1],by simp [World.cell?,h1],?_⟩
 by_cases h0 : L.length = 0
 ·exact .inl h0
 ·obtain ⟨f0,hf0⟩ : ∃ f,L[0]? = some f := ⟨L[0]'(by omega),List.getElem?_eq_getElem (by omega)⟩
  obtain ⟨g,ha,_,_⟩ := owns_cell h2 (rowC_at hf0 (j := 0) rfl)
  refine .inr ⟨g,ha,fun i f hf => ?_⟩
  have get : ∀ j u,(fileC f)[j]? = some u -> w.cell? ⟨g,i * 3 + j,none⟩ = some u := fun j u hj => by
   obtain ⟨g',ha',_,hc'⟩ := owns_cell h2 (rowC_at hf hj)
   rw [ha] at ha'
   injection ha' with ha'
   injection ha' with ha'
   subst ha'
   exact hc'
  exact ⟨by simpa using get 0 _ rfl,by simpa using get 1 _ rfl,by simpa using get 2 _ rfl⟩
def ReadREnd (L : List FileR) (s : ByteArray) (e : Ending) : Prop := ∃ (t : ByteArray) (n : Int) (f : Nat),e = .returned (.tuple #[.string t,.int .i64 n,.int .i64 (f : Int)]) /\ ((∃ x ∈ L,x.nm = s /\ t = x.tx /\ n = x.st /\ f = 0) ∨ ((∀ x ∈ L,x.nm ≠ s) /\ t = ⟨#[]⟩ /\ n = 0 /\ f = 5))
set_option maxHeartbeats 1000000 in
theorem readR_any (B : Nat) (w : World) (q : Nat) (L : List FileR) (k : Nat) (s : ByteArray) (h : RAt B w q L k) (hL : L.length <= 1000) :
 Calls Tryz.prog 43 #[.pointer (some ⟨q,0,none⟩),.string s] w fun e w' => ReadREnd L s e /\ Below w.heap.size w w' := by
 obtain ⟨a,c,hc,c0,c1,hcell⟩ := h.open
 go_enter Tryz.func43,Tryz.ntmps43
 go_wp2
 go_loopw [7] (fun x wr => ∃ i : Nat,i <= L.length /\ x = .int .i64 i /\ wr = w /\ Hid (∀ j f,j < i -> L[j]? = some f -> f.nm ≠ s)) (fun x _ => L.length - (intOf x).toNat)
 case atStart => exact ⟨0,Nat.zero_le _,rfl,rfl,fun j f hj => by omega⟩
 case round =>
  obtain ⟨i,hi,rfl,hw,HK⟩ := hrel
  replace hw := hw.symm
  subst hw
  by_cases hlt : i < L.length
  ·obtain ⟨f,hf⟩ : ∃ f,L[i]? = some f := ⟨L[i],List.getElem?_eq_getElem hlt⟩
   have hfm : f ∈ L := List.mem_of_getElem? hf
   rcases hcell with h0 | ⟨g,rfl,hcc⟩
   ·omega
   obtain ⟨d0,d1,d2⟩ := hcc i f hf
   clear hcc
   by_cases he : f.nm = s
   ·have hq : (f.nm.toList == s.toList) = true := by rw [toList_beq]; exact decide_eq_true he
    go_wp2
    go_quiet (fail)
    go_wp2
    go_ret3
    exact ⟨⟨f.tx,f.st,0,rfl,.inl ⟨f,hfm,he,rfl,rfl,rfl⟩⟩,below_drewN (Below.refl _ _) _⟩
   ·have hq : (f.nm.toList == s.toList) = false := by rw [toList_beq]; exact decide_eq_false he
    have HK2 : Hid (∀ j f,j < i + 1 -> L[j]? = some f -> f.nm ≠ s) := fun j f' hj hf' => by
     by_cases e : j = i
     ·subst e; rw [hf] at hf'; injection hf' with hf'; subst hf'; exact he
     ·exact HK.out j f' (by omega) hf'
    clear hf
    go_wp2
    go_roundw
    case rel => exact ⟨i + 1,by omega,by go_num,trivial,HK2⟩
    case measure => simp [intOf]; omega
  ·go_wp2
   go_ret3
   refine ⟨⟨⟨#[]⟩,0,5,rfl,.inr ⟨fun x hx => ?_,rfl,rfl,rfl⟩⟩,Below.refl _ _⟩
   obtain ⟨j,hj⟩ := List.getElem?_of_mem hx
   exact HK.out j x (by have := (List.getElem?_eq_some_iff.1 hj).1; omega) hj
end Go.Proofs.YthdccmjdbcllkaaGreatDoor
namespace Go.Proofs.YthdccmjdbcllkaaGreatDoor
open Go.RowKit Go.Maps
def fileList : List Value -> Option (DataW Unit × List MemPlace)
 | [.string t,.int .i64 n] => some (.agg [.lit (.string t.data.toList),.lit (.int .i64 n)],[])
 | _ => none
def fileElem : Value -> Option (DataW Unit × List MemPlace)
 | .agg c => fileList c.toList
 | _ => none
def fileD (t : List UInt8) (n : Int) : DataW Unit := .agg [.lit (.string t),.lit (.int .i64 n)]
theorem fileElem_mk (t : ByteArray) (n : Int) : fileElem (.agg #[.string t,.int .i64 n]) = some (fileD t.data.toList n,[]) := rfl
theorem fileElem_inv {v : Value} {z : DataW Unit × List MemPlace} (h : fileElem v = some z) : ∃ t n,v = .agg #[.string t,.int .i64 n] /\ z = (fileD t.data.toList n,[]) := by
 unfold fileElem at h
 split at h
 ·rename_i c
  generalize hl : c.toList = l at h
  unfold fileList at h
  split at h
  ·injection h with h
   refine ⟨_,_,?_,h.symm⟩
   rw [<- Array.toArray_toList (xs := c),hl]
  ·cases h
 ·cases h
theorem keysStr : Keyed Tryz.prog 9 := string_keyed Tryz.underlying9
theorem zeroFile (w : World) : (zeroValue 109).run Tryz.prog w = .ok (.agg #[.string ⟨#[]⟩,.int .i64 0]) w := by kernel_rfl
def keyB (s : ByteArray) : Lit := .string s.data.toList
theorem keyB_of (s : ByteArray) (hs : s.size <= maxLen) : keyOf Tryz.prog 9 (.string s) = some (keyB s) := Go.WideMaps.keyOf_string_mk Tryz.underlying9 hs
structure FilesAt (w : World) (p bm : Nat) (D : DataW Unit) (k : Nat) : Prop where
 blk : w.heap[p]? = some (.cells #[.map (some bm),.int .i64 (k : Int)] 106 (0,0))
 own : w.ownsMap Tryz.prog 9 fileElem bm (Maps.size D) D
theorem own_exact {w : World} {bm n : Nat} {D : DataW Unit} (h : w.ownsMap Tryz.prog 9 fileElem bm n D) : w.ownsMap Tryz.prog 9 fileElem bm (Maps.size D) D := by
 obtain ⟨es,clock,hb,F,_,rfl⟩ := h
 exact ⟨es,clock,hb,F,by simp [Maps.size,length_sorted],rfl⟩
structure Turned (p bm : Nat) (w w' : World) : Prop where
 os : w'.os = w.os
 tape : w'.tape = w.tape
 output : w'.output = w.output
 size : w.heap.size <= w'.heap.size
 block : ∀ k,k < w.heap.size -> k ≠ p -> k ≠ bm -> w'.heap[k]? = w.heap[k]?
theorem Turned.refl (p bm : Nat) (w : World) : Turned p bm w w := ⟨rfl,rfl,rfl,Nat.le_refl _,fun _ _ _ _ => rfl⟩
theorem Turned.of {p bm : Nat} {w w' : World} (h : Below w.heap.size w w') : Turned p bm w w' := ⟨h.os,h.tape,h.output,h.size,fun k hk _ _ => h.block k hk⟩
theorem Turned.trans {p bm : Nat} {a b c : World} (h : Turned p bm a b) (g : Turned p bm b c) : Turned p bm a c :=
 ⟨g.os.trans h.os,g.tape.trans h.tape,g.output.trans h.output,Nat.le_trans h.size g.size,fun k hk h1 h2 => (g.block k (Nat.lt_of_lt_of_le hk h.size) h1 h2).trans (h.block k hk h1 h2)⟩
theorem Turned.below {p bm B : Nat} {w w' : World} (h : Turned p bm w w') (hB : B <= w.heap.size) (h1 : B <= p) (h2 : B <= bm) : Below B w w' :=
 ⟨h.os,h.tape,h.output,h.size,fun k hk => h.block k (by omega) (by omega) (by omega)⟩
theorem FilesAt.c0 {w : World} {p bm : Nat} {D : DataW Unit} {k : Nat} (h : FilesAt w p bm D k) : w.cell? ⟨p,0,none⟩ = some (.map (some bm)) := by simp [World.cell?,h.blk]
theorem FilesAt.c1 {w : World} {p bm : Nat} {D : DataW Unit} {k : Nat} (h : FilesAt w p bm D k) : w.cell? ⟨p,1,none⟩ = some (.int .i64 (k : Int)) := by simp [World.cell?,h.blk]
theorem FilesAt.fz {w : World} {p bm : Nat} {D : DataW Unit} {k : Nat} (h : FilesAt w p bm D k) (i : Nat) : w.frozen? ⟨p,i,none⟩ = false := by simp [World.frozen?,h.blk]
theorem FilesAt.lt {w : World} {p bm : Nat} {D : DataW Unit} {k : Nat} (h : FilesAt w p bm D k) : p < w.heap.size := (Array.getElem?_eq_some_iff.1 h.blk).1
theorem FilesAt.ne {w : World} {p bm : Nat} {D : DataW Unit} {k : Nat} (h : FilesAt w p bm D k) : p ≠ bm := by
 intro e
 obtain ⟨es,clock,hb,_⟩ := h.own
 have := h.blk
 rw [e,hb] at this
 cases this
theorem FilesAt.later {w w' : World} {p bm : Nat} {D : DataW Unit} {k : Nat} (h : FilesAt w p bm D k) (hb : Below w.heap.size w w') : FilesAt w' p bm D k :=
 ⟨(hb.block p h.lt).trans h.blk,h.own.kept (row := none) ⟨hb.os,hb.tape,hb.output,hb.size,fun j hj _ => hb.block j hj⟩ (by simp)⟩
theorem FilesAt.look {w : World} {p bm : Nat} {D : DataW Unit} {k : Nat} (h : FilesAt w p bm D k) (s : ByteArray) (hs : s.size <= maxLen) :
 ∃ t n,(Instr.lookup 104 (.map (some bm)) (.string s) true).run Tryz.prog w = .ok (.tuple #[.agg #[.string t,.int .i64 n],.bool (Maps.has D (keyB s))]) w /\ D.atKey (keyB s) (fileD [] 0) = fileD t.data.toList n := by
 obtain ⟨v,ps,hrun,hR⟩ := h.own.look_ok keysStr Tryz.underlying104 (zeroFile w) (fileElem_mk ⟨#[]⟩ 0) (keyB_of s hs)
 obtain ⟨t,n,rfl,hz⟩ := fileElem_inv hR
 exact ⟨t,n,hrun,congrArg Prod.fst hz⟩
end Go.Proofs.YthdccmjdbcllkaaGreatDoor
namespace Go.Proofs.YthdccmjdbcllkaaGreatDoor
open Go.RowKit Go.Maps
theorem new_any (w : World) :
 Calls Tryz.prog 41 #[] w fun e w' => ∃ p bm,e = .returned (.pointer (some ⟨p,0,none⟩)) /\ w.heap.size <= p /\ w.heap.size <= bm /\ FilesAt w' p bm (.map []) 0 /\ Below w.heap.size w w' := by
 have hmm := @run_makeMap Tryz.prog
 go_enter Tryz.func41,Tryz.ntmps41
 go_wp2
 go_ret
 refine ⟨w.heap.size + 1,w.heap.size,rfl,by omega,Nat.le_refl _,⟨?_,?_⟩,((Below.refl _ _).alloc (Nat.le_refl _) _).alloc (by simp) _⟩
 ·have e : (w.alloc (.map #[] 0)).heap.size = w.heap.size + 1 := by simp
  rw [<- e]
  show ((w.alloc (.map #[] 0)).heap.push _)[(w.alloc (.map #[] 0)).heap.size]? = _
  rw [Array.getElem?_push_size]
  rfl
 ·exact (World.ownsMap_made w _ _ _).alloc _
structure ReadIs (D : DataW Unit) (s t : ByteArray) (n : Int) (f : Nat) : Prop where
 yes : Maps.has D (keyB s) = true -> f = 0 /\ D.atKey (keyB s) (fileD [] 0) = fileD t.data.toList n
 no : Maps.has D (keyB s) = false -> f = 5 /\ t = ⟨#[]⟩ /\ n = 0
def ReadEnd (D : DataW Unit) (s : ByteArray) (e : Ending) : Prop := ∃ t n f,e = .returned (.tuple #[.string t,.int .i64 n,errV f]) /\ ReadIs D s t n f
theorem fileRead_any (w : World) (p bm : Nat) (D : DataW Unit) (k : Nat) (s : ByteArray) (h : FilesAt w p bm D k) (hs : s.size <= maxLen) :
 Calls Tryz.prog 42 #[.pointer (some ⟨p,0,none⟩),.string s] w fun e w' => ReadEnd D s e /\ Below w.heap.size w w' := by
 obtain ⟨t,n,hrun,hat⟩ := h.look s hs
 have c0 := h.c0
 have HT : Hid (D.atKey (keyB s) (fileD [] 0) = fileD t.data.toList n) := hat
 clear hat
 cases hh : Maps.has D (keyB s) with
 | true =>
  rw [hh] at hrun
  have HH : Hid (Maps.has D (keyB s) = true) := hh
  clear hh
  go_enter Tryz.func42,Tryz.ntmps42
  go_wp2
  go_quiet (fail)
  go_wp2
  go_ret3
  exact ⟨⟨t,n,0,rfl,fun _ => ⟨rfl,HT.out⟩,fun h => absurd (h.symm.trans HH.out) (by decide)⟩,below_drewN ((Below.refl _ _).alloc (Nat.le_refl _) _) _⟩
 | false =>
  rw [hh] at hrun
  have HH : Hid (Maps.has D (keyB s) = false) := hh
  clear hh
  go_enter Tryz.func42,Tryz.ntmps42
  go_wp2
  go_ret3
  exact ⟨⟨⟨#[]⟩,0,5,rfl,fun h => absurd (h.symm.trans HH.out) (by decide),fun _ => ⟨rfl,rfl,rfl⟩⟩,(Below.refl _ _).alloc (Nat.le_refl _) _⟩
def othersF (D : DataW Unit) (s : ByteArray) : Int := if Maps.has D (keyB s) = true then (Maps.size D : Int) - 1 else Maps.size D
theorem others_any (w : World) (p bm : Nat) (D : DataW Unit) (k : Nat) (s : ByteArray) (h : FilesAt w p bm D k) (hs : s.size <= maxLen) (hz : Maps.size D <= 1000) :
 Calls Tryz.prog 49 #[.pointer (some ⟨p,0,none⟩),.string s] w fun e w' => e = .returned (.int .i64 (othersF D s)) /\ Below w.heap.size w w' := by
 obtain ⟨t,n,hrun,hat⟩ := h.look s hs
 have hlen := fun (ob : Obj) (ty : TypeId) => (h.own.alloc ob).len Tryz.underlying104 ty
 have c0 := h.c0
 have c0' : ∀ ob : Obj,(w.alloc ob).cell? ⟨p,0,none⟩ = some (.map (some bm)) := fun ob => by rw [World.cell?_alloc_lt _ _ _ h.lt]; exact c0
 clear hat
 cases hh : Maps.has D (keyB s) with
 | true =>
  have HO : Hid (othersF D s = (Maps.size D : Int) - 1) := if_pos hh
  rw [hh] at hrun
  clear hh
  go_enter Tryz.func49,Tryz.ntmps49
  go_wp2
  go_ret
  rw [HO.out]
  exact ⟨rfl,(Below.refl _ _).alloc (Nat.le_refl _) _⟩
 | false =>
  have HO : Hid (othersF D s = (Maps.size D : Int)) := if_neg (by simp [hh])
  rw [hh] at hrun
  clear hh
  go_enter Tryz.func49,Tryz.ntmps49
  go_wp2
  go_ret
  rw [HO.out]
  exact ⟨rfl,(Below.refl _ _).alloc (Nat.le_refl _) _⟩
theorem FilesAt.map_turned {w w' : World} {p bm : Nat} {D D' : DataW Unit} {k n : Nat} (h : FilesAt w p bm D k) (ho : w'.ownsMap Tryz.prog 9 fileElem bm n D') (ht : w.mapTurned w' bm) : FilesAt w' p bm D' k /\ Turned p bm w w' := by
 have hg := ht.grown
 refine ⟨⟨(hg.block p h.lt (fun e => h.ne (Option.some.inj e))).trans h.blk,own_exact ho⟩,hg.os,hg.tape,hg.output,hg.size,fun j hj _ h2 => hg.block j hj (fun e => h2 (Option.some.inj e))⟩
theorem remove_any (w : World) (p bm : Nat) (D : DataW Unit) (k : Nat) (s : ByteArray) (h : FilesAt w p bm D k) (hs : s.size <= maxLen) (F : Nat) (hF : F = if Maps.has D (keyB s) = true then 0 else 5) :
 Calls Tryz.prog 20 #[.pointer (some ⟨p,0,none⟩),.string s] w fun e w' => e = .returned (errV F) /\ FilesAt w' p bm (D.del (keyB s)) k /\ Turned p bm w w' := by
 obtain ⟨t,n,hrun,hat⟩ := h.look s hs
 have c0 := h.c0
 clear hat
 have hb : Below w.heap.size w (w.alloc (.cells #[.string t,.int .i64 n] 109)) := (Below.refl _ _).alloc (Nat.le_refl _) _
 have h2 := h.later hb
 cases hh : Maps.has D (keyB s) with
 | true =>
  rw [hh] at hrun
  rw [hh,if_pos rfl] at hF
  subst hF
  have c0' := h2.c0
  clear hh
  go_enter Tryz.func20,Tryz.ntmps20
  go_wp2_with (first
   | (at_delete; refine wpList_delete_own _ rfl _ _ 104 9 rfl 109 keysStr Tryz.underlying104 fileElem bm _ D rfl h2.own _ _ rfl (keyB_of s hs) ?_; intro w1 hown1 hturn1)
   | go_in)
  go_ret
  obtain ⟨g1,g2⟩ := h2.map_turned hown1 hturn1
  exact ⟨rfl,g1,(Turned.of hb).trans g2⟩
 | false =>
  rw [hh] at hrun
  rw [hh,if_neg (by decide)] at hF
  subst hF
  have HD : D.del (keyB s) = D := del_of_not_has hh
  rw [HD]
  clear hh HD
  go_enter Tryz.func20,Tryz.ntmps20
  go_wp2
  go_ret
  exact ⟨rfl,h2,Turned.of hb⟩
end Go.Proofs.YthdccmjdbcllkaaGreatDoor
namespace Go.Proofs.YthdccmjdbcllkaaGreatDoor
open Go.RowKit Go.Maps
theorem cloneB (s : ByteArray) (w : World) (hs : s.size <= 1000000) :
 Calls Tryz.prog 50 #[.string s] w fun e w' => e = .returned (.string s) /\ Below w.heap.size w w' := by
 have HA := Tryz.stringslite_Clone s w (by omega)
 go_enter Tryz.func50,Tryz.ntmps50
 go_wp2_with fail
 refine HA.mono ?_
 rintro e w' ⟨rfl,hb⟩
 clear HA
 go_wp2
 go_ret
 exact ⟨rfl,hb⟩
def writeF (D : DataW Unit) (k : Nat) (s text : ByteArray) : Nat :=
 seqF (nameF s.data.toList) (if 1200 < text.size then 2 else if 6 <= othersF D s ∨ 1000000 <= k then 8 else 0)
structure WriteEnd (w : World) (p bm : Nat) (D : DataW Unit) (k : Nat) (s text : ByteArray) (F : Nat) (e : Ending) (w' : World) : Prop where
 e : e = .returned (errV F)
 yes : F = 0 -> FilesAt w' p bm (D.put (keyB s) (fileD text.data.toList ((k : Int) + 1))) (k + 1)
 no : F ≠ 0 -> FilesAt w' p bm D k
 turned : Turned p bm w w'
set_option maxRecDepth 100000 in
set_option maxHeartbeats 1000000 in
theorem write_err (w : World) (p bm : Nat) (D : DataW Unit) (k : Nat) (s text : ByteArray) (h : FilesAt w p bm D k) (hs : s.size <= maxLen) (hz : Maps.size D <= 1000) (F : Nat) (hF : F = writeF D k s text) (h0 : F ≠ 0) :
 Calls Tryz.prog 18 #[.pointer (some ⟨p,0,none⟩),.string s,.string text] w fun e w' => WriteEnd w p bm D k s text F e w' := by
 have HN := check_any s w hs
 by_cases hn : nameF s.data.toList = 0
 ·rw [hn] at HN
  have hF2 : F = if 1200 < text.size then 2 else if 6 <= othersF D s ∨ 1000000 <= k then 8 else 0 := by rw [hF]; unfold writeF; rw [hn]; rfl
  clear hF hn
  by_cases ht : 1200 < text.size
  ·rw [if_pos ht] at hF2
   subst hF2
   have ht' : (1200 : Int) < (text.size : Int) := by omega
   clear ht
   go_enter Tryz.func18,Tryz.ntmps18
   go_wp2_with fail
   refine HN.mono ?_
   rintro e w' ⟨rfl,rfl⟩
   simp only [errV]
   go_wp2
   go_ret
   exact ⟨rfl,(fun h => by cases h),fun _ => h,Turned.refl _ _ _⟩
  ·rw [if_neg ht] at hF2
   have ht' : ¬ (1200 : Int) < (text.size : Int) := by omega
   by_cases ho : 6 <= othersF D s ∨ 1000000 <= k
   ·rw [if_pos ho] at hF2
    subst hF2
    have HO := others_any w p bm D k s h hs hz
    clear ht
    go_enter Tryz.func18,Tryz.ntmps18
    go_wp2_with fail
    refine HN.mono ?_
    rintro e w' ⟨rfl,rfl⟩
    simp only [errV]
    go_wp2_with fail
    refine HO.mono ?_
    rintro e w2 ⟨rfl,hb⟩
    have h2 := h.later hb
    have c1 := h2.c1
    clear HO HN
    generalize othersF D s = G at *
    by_cases hg : 6 <= G
    ·go_wp2
     go_ret
     exact ⟨rfl,(fun h => by cases h),fun _ => h2,Turned.of hb⟩
    ·have hk : (1000000 : Int) <= (k : Int) := by omega
     go_wp2
     go_ret
     exact ⟨rfl,(fun h => by cases h),fun _ => h2,Turned.of hb⟩
   ·rw [if_neg ho] at hF2
    exact absurd hF2 h0
 ·have hF2 : F = nameF s.data.toList := by rw [hF]; exact seqF_some _ hn
  rw [<- hF2] at HN
  clear hF hn hF2
  obtain ⟨f,rfl⟩ : ∃ f,F = f + 1 := ⟨F - 1,by omega⟩
  go_enter Tryz.func18,Tryz.ntmps18
  go_wp2_with fail
  refine HN.mono ?_
  rintro e w' ⟨rfl,rfl⟩
  simp only [errV]
  go_wp2
  go_ret
  exact ⟨rfl,(fun h => by cases h),fun _ => h,Turned.refl _ _ _⟩
theorem undrew2 {w w' : World} (h : Below w.drew.heap.size w.drew w') : Below w.heap.size w w' := ⟨h.os,h.tape,h.output,h.size,h.block⟩
theorem heap_set2 (w : World) (b i : Nat) (c : Array Value) (t : TypeId) (v : Value) (h : w.heap[b]? = some (.cells c t (0,0))) : (w.setCell ⟨b,i,none⟩ v).heap[b]? = some (.cells (c.set! i v) t (0,0)) := by
 show (w.heap.modify b _)[b]? = _
 rw [Array.getElem?_modify,if_pos rfl,h]
 rfl
theorem heap_set_other (w : World) (b i j : Nat) (v : Value) (h : j ≠ b) : (w.setCell ⟨b,i,none⟩ v).heap[j]? = w.heap[j]? := by
 show (w.heap.modify b _)[j]? = _
 rw [Array.getElem?_modify,if_neg (fun e => h e.symm)]
theorem FilesAt.count {w : World} {p bm : Nat} {D : DataW Unit} {k : Nat} (h : FilesAt w p bm D k) (k' : Nat) : FilesAt (w.setCell ⟨p,1,none⟩ (.int .i64 (k' : Int))) p bm D k' /\ Turned p bm w (w.setCell ⟨p,1,none⟩ (.int .i64 (k' : Int))) := by
 refine ⟨⟨?_,h.own.setCell (fun e => h.ne e.symm) _⟩,rfl,rfl,rfl,by simp [World.setCell],fun j _ h1 _ => heap_set_other _ _ _ _ _ h1⟩
 rw [heap_set2 _ _ _ _ _ _ h.blk]
 rfl
set_option maxRecDepth 100000 in
set_option maxHeartbeats 2000000 in
theorem write_ok (w : World) (p bm : Nat) (D : DataW Unit) (k : Nat) (s text : ByteArray) (h : FilesAt w p bm D k) (hs : s.size <= maxLen) (hz : Maps.size D <= 1000) (hF : writeF D k s text = 0) :
 Calls Tryz.prog 18 #[.pointer (some ⟨p,0,none⟩),.string s,.string text] w fun e w' => WriteEnd w p bm D k s text 0 e w' := by
 have HN := check_any s w hs
 have hn : nameF s.data.toList = 0 := by
  by_cases hn : nameF s.data.toList = 0
  ·exact hn
  ·unfold writeF at hF; rw [seqF_some _ hn] at hF; exact hF
 rw [hn] at HN
 have hF2 : (if 1200 < text.size then 2 else if 6 <= othersF D s ∨ 1000000 <= k then 8 else 0) = 0 := by unfold writeF at hF; rw [hn] at hF; exact hF
 have ht : ¬ 1200 < text.size := fun ht => by rw [if_pos ht] at hF2; cases hF2
 have ho : ¬ (6 <= othersF D s ∨ 1000000 <= k) := fun ho => by rw [if_neg ht,if_pos ho] at hF2; cases hF2
 have ht' : ¬ (1200 : Int) < (text.size : Int) := by omega
 have hs8 : s.size <= 8 := by
  have := nameF_bound s.data.toList
  by_cases h8 : 8 < s.data.toList.length
  ·rw [this (.inr h8)] at hn; cases hn
  ·simp at h8; omega
 have HO := others_any w p bm D k s h hs hz
 have HC1 := fun W => cloneB s W (by omega)
 have HC2 := fun W => cloneB text W (by omega)
 clear hF hF2 hn
 go_enter Tryz.func18,Tryz.ntmps18
 go_wp2_with fail
 refine HN.mono ?_
 rintro e w' ⟨rfl,rfl⟩
 simp only [errV]
 go_wp2_with fail
 refine HO.mono ?_
 rintro e w2 ⟨rfl,hb⟩
 have h2 := h.later hb
 have c1 := h2.c1
 have f1 := h2.fz 1
 clear HO HN
 generalize othersF D s = G at *
 have hg : ¬ (6 : Int) <= G := fun x => ho (.inl x)
 obtain ⟨K,hK⟩ : ∃ K : Int,(k : Int) = K := ⟨_,rfl⟩
 have hk : ¬ (1000000 : Int) <= K := fun x => ho (.inr (by omega))
 have hk0 : 0 <= K := by omega
 have HK : Hid ((k : Int) = K) := hK
 rw [hK] at c1
 clear ho ht hK
 have hcnt := h2.count (k + 1)
 have hcast : ((k + 1 : Nat) : Int) = K + 1 := by rw [<- HK.out]; omega
 rw [hcast] at hcnt
 have hzz : Maps.size D < maxLen := by simp only [maxLen]; omega
 go_upto_region 9 with fail
 obtain ⟨hX,hT⟩ := hcnt
 replace hT := (Turned.of hb).trans hT
 have c0X := hX.c0
 have c1X : (w2.setCell ⟨p,1,none⟩ (.int .i64 (K + 1))).cell? ⟨p,1,none⟩ = some (.int .i64 (K + 1)) := by rw [hX.c1,hcast]
 clear c1 f1 h2 hb hcast
 generalize w2.setCell ⟨p,1,none⟩ (.int .i64 (K + 1)) = Y at *
 have HST := fun (W : World) (hW : FilesAt W p bm D (k + 1)) => hW.own.store keysStr Tryz.underlying104 hzz (keyB_of s hs) (fileElem_mk text (K + 1))
 go_region_law
  (go_simp
   first
    | (go_at_call_of 50 (Value.string s)
       refine (HC1 _).mono ?_
       rintro e w3 ⟨rfl,hb3⟩
       repeat (replace hb3 := undrew2 hb3)
       replace hT := hT.trans (Turned.of hb3)
       replace hX := hX.later hb3
       replace c0X := hX.c0
       replace c1X := cell_later hb3 c1X
       clear hb3)
    | (go_at_call_of 50 (Value.string text)
       refine (HC2 _).mono ?_
       rintro e w4 ⟨rfl,hb3⟩
       repeat (replace hb3 := undrew2 hb3)
       replace hT := hT.trans (Turned.of hb3)
       replace hX := hX.later hb3
       replace c0X := hX.c0
       replace c1X := cell_later hb3 c1X
       clear hb3
       obtain ⟨w5,hrun5,hown5,hturn5⟩ := HST _ hX
       obtain ⟨w6,hrun6,hown6,hturn6⟩ := HST w4.drew (hX.later (Below.refl _ _).drew)))
 all_goals
  go_wp2
  go_ret
  first
   | (obtain ⟨g1,g2⟩ := hX.map_turned hown5 hturn5
      refine ⟨rfl,fun _ => ?_,fun h => absurd rfl h,hT.trans g2⟩
      rw [HK.out]; exact g1)
   | (obtain ⟨g1,g2⟩ := (hX.later (Below.refl _ _).drew).map_turned hown6 hturn6
      refine ⟨rfl,fun _ => ?_,fun h => absurd rfl h,(hT.trans (Turned.of (Below.refl _ _).drew)).trans g2⟩
      rw [HK.out]; exact g1)
theorem write_any (w : World) (p bm : Nat) (D : DataW Unit) (k : Nat) (s text : ByteArray) (h : FilesAt w p bm D k) (hs : s.size <= maxLen) (hz : Maps.size D <= 1000) :
 Calls Tryz.prog 18 #[.pointer (some ⟨p,0,none⟩),.string s,.string text] w fun e w' => WriteEnd w p bm D k s text (writeF D k s text) e w' := by
 by_cases h0 : writeF D k s text = 0
 ·rw [h0]; exact write_ok w p bm D k s text h hs hz h0
 ·exact write_err w p bm D k s text h hs hz _ rfl h0
end Go.Proofs.YthdccmjdbcllkaaGreatDoor
namespace Go.Proofs.YthdccmjdbcllkaaGreatDoor
open Go.RowKit
theorem fileGrow {B : Nat} {w : World} {v : Value} {L : List FileR} (f : FileR) (hB : B <= w.heap.size) (h : w.ownsRow B 111 3 v L.length (rowC L)) (hn : L.length + 1 <= 1000000) :
 ∃ v' W,(Builtin.append_ #[87,87] 87 #[v,.slice (some ⟨w.heap.size,0,none⟩) 1 1]).run Tryz.prog (w.alloc (.cells #[.string f.nm,.string f.tx,.int .i64 f.st] 111)) = .ok v' W /\
  W.ownsRow B 111 3 v' (L ++ [f]).length (rowC (L ++ [f])) /\ Below B (w.alloc (.cells #[.string f.nm,.string f.tx,.int .i64 f.st] 111)) W := by
 obtain ⟨v',W,h1,hG⟩ := append_from 87 111 3 40 (.agg #[.string ⟨#[]⟩,.string ⟨#[]⟩,.int .i64 0]) (by kernel_rfl) (by kernel_rfl) (by rfl) (by decide) B (w.alloc (.cells #[.string f.nm,.string f.tx,.int .i64 f.st] 111)) v L.length (rowC L) (h.alloc _) (some ⟨w.heap.size,0,none⟩) 1 1 (fileC f) rfl
  (.inr ⟨_,_,rfl,fun j x hj => by
    have : j = 0 ∨ j = 1 ∨ j = 2 := by have := (List.getElem?_eq_some_iff.1 hj).1; simp [fileC] at this; omega
    rcases this with rfl | rfl | rfl
    all_goals
     simp [fileC] at hj
     subst hj
     simp [go_sem]⟩) (fun x hx => rowC_one (L := [f]) (by simpa [rowC] using hx)) (by simp; omega) hn (by decide)
 refine ⟨v',W,h1,?_,hG.below⟩
 have := hG.own
 rw [List.length_append,rowC_snoc]
 exact this
structure ListREnd (w : World) (L : List FileR) (e : Ending) (w' : World) : Prop where
 v : ∃ v,e = .returned v /\ w'.ownsRow w.heap.size 9 1 v L.length (L.map fun f => .string f.nm)
 below : Below w.heap.size w w'
theorem strGrow3 {B : Nat} {w : World} {v : Value} {n : Nat} {cs : List Value} (u : ByteArray) (hB : B <= w.heap.size) (h : w.ownsRow B 9 1 v n cs) (hn : n + 1 <= 1000000) :
 ∃ v' W,(Builtin.append_ #[72,72] 72 #[v,.slice (some ⟨w.heap.size,0,none⟩) 1 1]).run Tryz.prog (w.alloc (.cells #[.string u] 9)) = .ok v' W /\ Grown B 9 1 (w.alloc (.cells #[.string u] 9)) v (n + 1) (cs ++ [.string u]) v' W :=
 append_from 72 9 1 16 (.string ⟨#[]⟩) (by kernel_rfl) (by kernel_rfl) (by rfl) (by decide) B _ v n cs (h.alloc _) (some ⟨w.heap.size,0,none⟩) 1 1 [.string u] rfl
  (.inr ⟨_,_,rfl,fun j x hj => by
    cases j with
    | zero => simp at hj; subst hj; simp [go_sem]
    | succ j => simp at hj⟩) (fun x hx => by simp at hx; subst hx; rfl) (by simp; omega) hn (by decide)
set_option maxHeartbeats 1000000 in
theorem listR_any (B : Nat) (w : World) (q : Nat) (L : List FileR) (k : Nat) (h : RAt B w q L k) (hL : L.length <= 1000) :
 Calls Tryz.prog 46 #[.pointer (some ⟨q,0,none⟩)] w fun e w' => ListREnd w L e w' := by
 obtain ⟨a,c,hc,c0,c1,hcell⟩ := h.open
 go_enter Tryz.func46,Tryz.ntmps46
 go_wp2
 go_loopw [3,4] (fun v x wr => ∃ i : Nat,i <= L.length /\ x = .int .i64 i /\ wr.ownsRow w.heap.size 9 1 v i ((L.take i).map fun f => .string f.nm) /\ Below w.heap.size w wr) (fun _ x _ => L.length - (intOf x).toNat)
 case atStart => exact ⟨0,Nat.zero_le _,rfl,World.ownsRow_nil _ _ _ _,Below.refl _ _⟩
 case round =>
  obtain ⟨i,hi,rfl,hown,hb⟩ := hrel
  have b0 := cell_later hb c0
  by_cases hlt : i < L.length
  ·obtain ⟨f,hf⟩ : ∃ f,L[i]? = some f := ⟨L[i],List.getElem?_eq_getElem hlt⟩
   rcases hcell with h0 | ⟨g,rfl,hcc⟩
   ·omega
   have d0 := cell_later hb (hcc i f hf).1
   obtain ⟨v',W,happ,hG⟩ := strGrow3 f.nm hb.size hown (by omega)
   have hown2 : W.ownsRow w.heap.size 9 1 v' (i + 1) ((L.take (i + 1)).map fun f => .string f.nm) := by
    have := hG.own
    rw [List.take_add_one,hf]
    simpa using this
   have hb2 := (hb.alloc hb.size _).trans hG.below
   clear hcc hown hG hf c0 c1
   go_wp2_with (at_builtin; refine list_run rfl _ _ 72 rfl u3 _ _ rfl rfl happ ?_)
   go_roundw
   case rel => exact ⟨i + 1,by omega,by go_num,hown2,hb2⟩
   case measure => simp [intOf]; omega
  ·have e : i = L.length := by omega
   subst e
   rw [List.take_length] at hown
   clear c0 c1
   go_wp2
   go_ret
   exact ⟨⟨u3,rfl,hown⟩,hb⟩
theorem RAt.set {B q k : Nat} {w wr : World} {L L' : List FileR} {v : Value} (h : RAt B w q L k) (hb : Below w.heap.size w wr) (hown : wr.ownsRow w.heap.size 111 3 v L'.length (rowC L')) (hB : B <= w.heap.size) :
 wr.frozen? ⟨q,0,none⟩ = false /\ RAt B (wr.setCell ⟨q,0,none⟩ v) q L' k /\ Turned q q w (wr.setCell ⟨q,0,none⟩ v) := by
 obtain ⟨v0,h1,h2⟩ := h.blk
 have hq : q < w.heap.size := (Array.getElem?_eq_some_iff.1 h1).1
 have h1' := (hb.block q hq).trans h1
 refine ⟨by simp [World.frozen?,h1'],⟨h.lo,v,?_,?_⟩,hb.os,hb.tape,hb.output,by simp [World.setCell]; exact hb.size,fun j hj h3 _ => ?_⟩
 ·show (wr.heap.modify q _)[q]? = _
  rw [Array.getElem?_modify,if_pos rfl,h1']
  rfl
 ·refine ⟨hown.1,?_⟩
  rcases hown.2 with hn | ⟨g,cap,cur,e1,e2,e3,e4⟩
  ·exact .inl hn
  ·refine .inr ⟨g,cap,cur,e1,Nat.le_trans hB e2,?_,e4⟩
   show (wr.heap.modify q _)[g]? = _
   rw [Array.getElem?_modify,if_neg (by omega)]
   exact e3
 ·show (wr.heap.modify q _)[j]? = _
  rw [Array.getElem?_modify,if_neg (fun e => h3 e.symm)]
  exact hb.block j hj
structure RemoveREnd (B : Nat) (w : World) (q : Nat) (L : List FileR) (k : Nat) (s : ByteArray) (e : Ending) (w' : World) : Prop where
 e : e = .returned (.int .i64 (if (delR s L).length = L.length then 5 else 0))
 at' : RAt B w' q (delR s L) k
 turned : Turned q q w w'
theorem delR_take (s : ByteArray) (L : List FileR) (i : Nat) (f : FileR) (h : L[i]? = some f) : delR s (L.take (i + 1)) = delR s (L.take i) ++ (if f.nm = s then [] else [f]) := by
 rw [List.take_add_one,h]
 unfold delR
 rw [List.filter_append]
 congr 1
 by_cases e : f.nm = s <;> simp [e]
theorem delR_le (s : ByteArray) (L : List FileR) : (delR s L).length <= L.length := List.length_filter_le _ _
theorem delR_same {s : ByteArray} {L : List FileR} (h : (delR s L).length = L.length) : delR s L = L := List.filter_eq_self.2 (by
 intro a ha
 by_cases e : (!decide (a.nm = s)) = true
 ·exact e
 ·exfalso
  have := (List.length_filter_lt_length_iff_exists (p := fun f : FileR => !decide (f.nm = s))).2 ⟨a,ha,e⟩
  unfold delR at h
  omega)
set_option maxRecDepth 100000 in
set_option maxHeartbeats 1000000 in
theorem removeR_any (B : Nat) (w : World) (q : Nat) (L : List FileR) (k : Nat) (s : ByteArray) (h : RAt B w q L k) (hL : L.length <= 1000) (hB : B <= w.heap.size) :
 Calls Tryz.prog 21 #[.pointer (some ⟨q,0,none⟩),.string s] w fun e w' => RemoveREnd B w q L k s e w' := by
 obtain ⟨a,c,hc,c0,c1,hcell⟩ := h.open
 have hq : q < w.heap.size := World.block_lt_of_cell? _ _ c0
 go_enter Tryz.func21,Tryz.ntmps21
 go_wp2
 go_loopw [5,6] (fun v x wr => ∃ i : Nat,i <= L.length /\ x = .int .i64 i /\ wr.ownsRow w.heap.size 111 3 v (delR s (L.take i)).length (rowC (delR s (L.take i))) /\ Below w.heap.size w wr) (fun _ x _ => L.length - (intOf x).toNat)
 case atStart => exact ⟨0,Nat.zero_le _,rfl,World.ownsRow_nil _ _ _ _,Below.refl _ _⟩
 case round =>
  obtain ⟨i,hi,rfl,hown,hb⟩ := hrel
  have b0 := cell_later hb c0
  by_cases hlt : i < L.length
  ·obtain ⟨f,hf⟩ : ∃ f,L[i]? = some f := ⟨L[i],List.getElem?_eq_getElem hlt⟩
   rcases hcell with h0 | ⟨g,rfl,hcc⟩
   ·omega
   have d0 := cell_later hb (hcc i f hf).1
   have d1 := cell_later hb (hcc i f hf).2.1
   have d2 := cell_later hb (hcc i f hf).2.2
   have hst := delR_take s L i f hf
   have hle : (delR s (L.take i)).length <= i := by have := delR_le s (L.take i); simp at this; omega
   by_cases he : f.nm = s
   ·have hqq : (f.nm.toList == s.toList) = true := by rw [toList_beq]; exact decide_eq_true he
    rw [if_pos he,List.append_nil] at hst
    clear hcc hf c0 c1 he
    go_wp2
    go_roundw
    case rel => exact ⟨i + 1,by omega,by go_num,by rw [hst]; exact hown,hb⟩
    case measure => simp [intOf]; omega
   ·have hqq : (f.nm.toList == s.toList) = false := by rw [toList_beq]; exact decide_eq_false he
    rw [if_neg he] at hst
    obtain ⟨v',W,happ,hown2,hbG⟩ := fileGrow f hb.size hown (by omega)
    rw [<- hst] at hown2
    have hb2 := (hb.alloc hb.size _).trans hbG
    clear hcc hown hbG hf c0 c1 hst he
    go_wp2_with (at_builtin; refine list_run rfl _ _ 87 rfl u5 _ _ rfl rfl happ ?_)
    go_roundw
    case rel => exact ⟨i + 1,by omega,by go_num,hown2,hb2⟩
    case measure => simp [intOf]; omega
  ·have e : i = L.length := by omega
   subst e
   rw [List.take_length] at hown
   obtain ⟨a5,c5,rfl,_⟩ := owns_shape hown
   obtain ⟨hfz,hset,hTs⟩ := h.set hb hown hB
   by_cases hs : (delR s L).length = L.length
   ·have hsi : (((delR s L).length : Int) == (L.length : Int)) = true := by rw [beq_iff_eq]; omega
    have HS : Hid (delR s L = L) := delR_same hs
    have HV : Hid ((if (delR s L).length = L.length then (5 : Int) else 0) = 5) := if_pos hs
    clear c0 c1 hs
    go_wp2
    go_ret
    exact ⟨by rw [HV.out]; rfl,by rw [HS.out]; exact h.later hb,Turned.of hb⟩
   ·have hsi : (((delR s L).length : Int) == (L.length : Int)) = false := by rw [beq_eq_false_iff_ne]; omega
    have HV : Hid ((if (delR s L).length = L.length then (5 : Int) else 0) = 0) := if_neg hs
    clear c0 c1 hs
    go_wp2
    go_ret
    exact ⟨by rw [HV.out]; rfl,hset,hTs⟩
def writeRF (L : List FileR) (k : Nat) (s text : ByteArray) : Nat :=
 seqF (nameF s.data.toList) (if 1200 < text.size then 2 else if ((∀ x ∈ L,x.nm ≠ s) /\ L.length = 6) ∨ k = 1000000 then 8 else 0)
structure WriteREnd (B : Nat) (w : World) (q : Nat) (L : List FileR) (k : Nat) (s text : ByteArray) (F : Nat) (e : Ending) (w' : World) : Prop where
 e : e = .returned (.int .i64 (F : Int))
 yes : F = 0 -> RAt B w' q (putR ⟨s,text,(k : Int) + 1⟩ L) (k + 1)
 no : F ≠ 0 -> RAt B w' q L k
 turned : Turned q q w w'
theorem less_eq : ∀ x y : List UInt8,Op.bytesLess x y = decide (x < y)
 | x,[] => by cases x <;> simp [Op.bytesLess]
 | [],b :: y => by simp [Op.bytesLess]
 | a :: x,b :: y => by
  rw [Op.bytesLess,less_eq x y,Bool.eq_iff_iff]
  simp [List.cons_lt_cons_iff]
theorem leN_walk (x y : ByteArray) : (Op.bytesLess x.toList y.toList || x.toList == y.toList) = leN x y := by
 rw [less_eq,ByteArray.toList_eq,ByteArray.toList_eq,Bool.eq_iff_iff]
 unfold leN
 simp only [Bool.or_eq_true,decide_eq_true_eq,beq_iff_eq]
 exact List.le_iff_lt_or_eq.symm
theorem stepR_in {new x : FileR} {acc : List FileR} (hle : leN new.nm x.nm = true) (h : x.nm = new.nm) : stepR new (acc,false) x = (acc ++ [new],true) := by
 unfold stepR; rw [hle,if_pos h]; simp
theorem stepR_two {new x : FileR} {acc : List FileR} (hle : leN new.nm x.nm = true) (h : x.nm ≠ new.nm) : stepR new (acc,false) x = ((acc ++ [new]) ++ [x],true) := by
 unfold stepR; rw [hle,if_neg h]; simp
theorem RAt.count {B q k : Nat} {w : World} {L : List FileR} (h : RAt B w q L k) (k' : Nat) : RAt B (w.setCell ⟨q,1,none⟩ (.int .i64 (k' : Int))) q L k' /\ Turned q q w (w.setCell ⟨q,1,none⟩ (.int .i64 (k' : Int))) := by
 obtain ⟨v,h1,h2⟩ := h.blk
 refine ⟨⟨h.lo,v,?_,?_⟩,rfl,rfl,rfl,by simp [World.setCell],fun j _ h3 _ => ?_⟩
 ·show (w.heap.modify q _)[q]? = _
  rw [Array.getElem?_modify,if_pos rfl,h1]
  rfl
 ·refine ⟨h2.1,?_⟩
  rcases h2.2 with hn | ⟨g,cap,cur,e1,e2,e3,e4⟩
  ·exact .inl hn
  ·refine .inr ⟨g,cap,cur,e1,e2,?_,e4⟩
   have hne : q ≠ g := fun e => by
    subst e
    rw [h1] at e3
    injection e3 with e3
    injection e3 with _ e5
    exact absurd e5 (by decide)
   show (w.heap.modify q _)[g]? = _
   rw [Array.getElem?_modify,if_neg hne]
   exact e3
 ·show (w.heap.modify q _)[j]? = _
  rw [Array.getElem?_modify,if_neg (fun e => h3 e.symm)]
set_option maxRecDepth 100000 in
set_option maxHeartbeats 2000000 in
theorem writeR_ok (B : Nat) (w : World) (q : Nat) (L : List FileR) (k : Nat) (s text : ByteArray) (h : RAt B w q L k) (hL : L.length <= 1000) (hB : B <= w.heap.size) (hs : s.size <= maxLen) (hn : nameF s.data.toList = 0) (ht : ¬ 1200 < text.size) (ho : ¬ ((∀ x ∈ L,x.nm ≠ s) /\ L.length = 6)) (hk : k < 1000000) :
 Calls Tryz.prog 19 #[.pointer (some ⟨q,0,none⟩),.string s,.string text] w fun e w' => WriteREnd B w q L k s text 0 e w' := by
 have HN := nameFault_any s w hs
 rw [hn] at HN
 have HR := readR_any B w q L k s h hL
 have ht' : ¬ (1200 : Int) < (text.size : Int) := by omega
 clear ht hn
 go_enter Tryz.func19,Tryz.ntmps19
 go_wp2_with fail
 refine HN.mono ?_
 rintro e w' ⟨rfl,rfl⟩
 go_wp2_with fail
 refine HR.mono ?_
 rintro e w2 ⟨⟨t,nn,f,rfl,hR⟩,hb2⟩
 have h2 := h.later hb2
 obtain ⟨a,c,hc,c0,c1,hcell⟩ := h2.open
 obtain ⟨K,hK⟩ : ∃ K : Int,(k : Int) = K := ⟨_,rfl⟩
 have HK : Hid ((k : Int) = K) := hK
 have hk0 : 0 <= K := by omega
 have hk1 : K < 1000000 := by omega
 have hk2 : (K == 1000000) = false := by rw [beq_eq_false_iff_ne]; omega
 rw [hK] at c1
 have hfull : f = 0 ∨ (f = 5 /\ L.length ≠ 6) := by
  rcases hR with ⟨x,_,_,_,_,h0⟩ | ⟨hno,_,_,h5⟩
  ·exact .inl h0
  ·exact .inr ⟨h5,fun e => ho ⟨hno,e⟩⟩
 clear HN HR hR ho hK hk
 have hq : q < w2.heap.size := World.block_lt_of_cell? _ _ c0
 have hfz : w2.frozen? ⟨q,1,none⟩ = false := by obtain ⟨v,hv,_⟩ := h2.blk; simp [World.frozen?,hv]
 have hcnt := h2.count (k + 1)
 have hcast : ((k + 1 : Nat) : Int) = K + 1 := by rw [<- HK.out]; omega
 rw [hcast] at hcnt
 have hgo : (0 < (f : Int) /\ ((L.length : Int) == 6) = false) ∨ ¬ 0 < (f : Int) := by
  rcases hfull with rfl | ⟨rfl,h6⟩
  ·exact .inr (by decide)
  ·exact .inl ⟨by decide,by rw [beq_eq_false_iff_ne]; omega⟩
 clear hfull
 have hB2 : B <= w2.heap.size := Nat.le_trans hB hb2.size
 go_upto_region 7 with fail
 go_cut [45] from 29 to 45 (fun x wc => x = .bool false /\ wc = w2)
 case first =>
  rcases hgo with ⟨g1,g2⟩ | g1
  ·go_wp2
   go_meet
   exact ⟨rfl,rfl⟩
  ·go_wp2
   go_meet
   exact ⟨rfl,rfl⟩
 case rest =>
  obtain ⟨rfl,hw⟩ := hcut
  replace hw := hw.symm
  subst hw
  clear hgo
  go_upto_region 10 with fail
  obtain ⟨h3,hT3⟩ := hcnt
  replace hT3 := (Turned.of hb2).trans hT3
  have hsz3 : w2.heap.size <= (w2.setCell ⟨q,1,none⟩ (.int .i64 (K + 1))).heap.size := by simp [World.setCell]
  have hq3 : q < (w2.setCell ⟨q,1,none⟩ (.int .i64 (K + 1))).heap.size := Nat.lt_of_lt_of_le hq hsz3
  have hB3 : B <= (w2.setCell ⟨q,1,none⟩ (.int .i64 (K + 1))).heap.size := Nat.le_trans hB2 hsz3
  clear c0 c1 hcell hc hfz h2 hb2
  generalize w2.setCell ⟨q,1,none⟩ (.int .i64 (K + 1)) = Y at *
  obtain ⟨a3,c3,hc3,e0,e1,hcell⟩ := h3.open
  rw [hcast] at e1
  clear hcast
  go_wp2
  go_loopw [11,12,13] (fun v b x wr => ∃ i : Nat,i <= L.length /\ x = .int .i64 i /\ b = .bool (stepsR ⟨s,text,K + 1⟩ (L.take i)).2 /\ wr.ownsRow Y.heap.size 111 3 v (stepsR ⟨s,text,K + 1⟩ (L.take i)).1.length (rowC (stepsR ⟨s,text,K + 1⟩ (L.take i)).1) /\ Below Y.heap.size Y wr /\ (stepsR ⟨s,text,K + 1⟩ (L.take i)).1.length <= 2 * i) (fun _ _ x _ => L.length - (intOf x).toNat)
  case atStart => exact ⟨0,Nat.zero_le _,rfl,rfl,World.ownsRow_nil _ _ _ _,Below.refl _ _,Nat.le_refl _⟩
  case round =>
   obtain ⟨i,hi,rfl,rfl,hown,hb,hlen⟩ := hrel
   have b0 := cell_later hb e0
   have b1 := cell_later hb e1
   by_cases hlt : i < L.length
   ·obtain ⟨x,hx⟩ : ∃ x,L[i]? = some x := ⟨L[i],List.getElem?_eq_getElem hlt⟩
    rcases hcell with h0 | ⟨g,rfl,hcc⟩
    ·omega
    have d0 := cell_later hb (hcc i x hx).1
    have d1 := cell_later hb (hcc i x hx).2.1
    have d2 := cell_later hb (hcc i x hx).2.2
    have hst : stepsR ⟨s,text,K + 1⟩ (L.take (i + 1)) = stepR ⟨s,text,K + 1⟩ (stepsR ⟨s,text,K + 1⟩ (L.take i)) x := by
     rw [List.take_add_one,hx]
     exact stepsR_snoc _ _ _
    have HST : Hid (stepsR ⟨s,text,K + 1⟩ (L.take (i + 1)) = stepR ⟨s,text,K + 1⟩ (stepsR ⟨s,text,K + 1⟩ (L.take i)) x) := hst
    generalize stepsR ⟨s,text,K + 1⟩ (L.take i) = qq at *
    obtain ⟨acc,bb⟩ := qq
    have hcc1 : ∀ W,Below Y.heap.size Y W -> W.cell? ⟨g,i * 3,none⟩ = some (.string x.nm) /\ W.cell? ⟨g,i * 3 + 1,none⟩ = some (.string x.tx) /\ W.cell? ⟨g,i * 3 + 2,none⟩ = some (.int .i64 x.st) := fun W hW => ⟨cell_later hW (hcc i x hx).1,cell_later hW (hcc i x hx).2.1,cell_later hW (hcc i x hx).2.2⟩
    clear hcc hst hx
    have hlw := leN_walk s x.nm
    have hqw : (x.nm.toList == s.toList) = decide (x.nm = s) := toList_beq _ _
    cases bb with
    | true =>
     cases hle : leN s x.nm <;> by_cases hnm : x.nm = s
     all_goals
      rw [hle] at hlw
      first
       | rw [decide_eq_true hnm] at hqw
       | rw [decide_eq_false hnm] at hqw
      first
       | (have hnm' : x.nm = s := hnm
          go_wp2
          go_roundw
          case rel => exact ⟨i + 1,by omega,by go_num,by rw [HST.out]; simp [stepR],by rw [HST.out]; simpa [stepR,hnm'] using hown,hb,by rw [HST.out]; simp [stepR,hnm'] at hlen ⊢; omega⟩
          case measure => simp [intOf]; omega)
       | (obtain ⟨v1,W1,happ1,hown2,hbG⟩ := fileGrow x hb.size hown (by simp at hlen ⊢; omega)
          have hb2 := (hb.alloc hb.size _).trans hbG
          clear hown hbG
          go_wp2_with (at_builtin; refine list_run rfl _ _ 87 rfl u11 _ _ rfl rfl happ1 ?_)
          go_roundw
          case rel => exact ⟨i + 1,by omega,by go_num,by rw [HST.out]; simp [stepR],by rw [HST.out]; simpa [stepR,hnm] using hown2,hb2,by rw [HST.out]; simp [stepR,hnm] at hlen ⊢; omega⟩
          case measure => simp [intOf]; omega)
    | false =>
     cases hle : leN s x.nm with
     | false =>
      rw [hle] at hlw
      have hnm : x.nm ≠ s := fun e => by
       have := leN_no hle
       rw [e] at this
       exact ltN_irrefl _ this
      rw [decide_eq_false hnm] at hqw
      obtain ⟨v1,W1,happ1,hown2,hbG⟩ := fileGrow x hb.size hown (by simp at hlen ⊢; omega)
      have hb2 := (hb.alloc hb.size _).trans hbG
      clear hown hbG
      go_wp2_with (at_builtin; refine list_run rfl _ _ 87 rfl u11 _ _ rfl rfl happ1 ?_)
      go_roundw
      case rel => exact ⟨i + 1,by omega,by go_num,by rw [HST.out]; simp [stepR,hle],by rw [HST.out]; simpa [stepR,hle,hnm] using hown2,hb2,by rw [HST.out]; simp [stepR,hle,hnm] at hlen ⊢; omega⟩
      case measure => simp [intOf]; omega
     | true =>
      rw [hle] at hlw
      obtain ⟨v1,W1,happ1,hown1,hbG1⟩ := fileGrow ⟨s,text,K + 1⟩ hb.size hown (by simp at hlen ⊢; omega)
      have hb1 := (hb.alloc hb.size _).trans hbG1
      have k0 := cell_later hb1 e0
      clear hown hbG1
      by_cases hnm : x.nm = s
      ·rw [decide_eq_true hnm] at hqw
       have k1 : W1.cell? ⟨g,i * 3,none⟩ = some (.string x.nm) := hcc1 _ hb1 |>.1
       go_wp2_with (at_builtin; refine list_run rfl _ _ 87 rfl u11 _ _ rfl rfl happ1 ?_)
       go_roundw
       case rel => exact ⟨i + 1,by omega,by go_num,by rw [HST.out,stepR_in hle hnm],by rw [HST.out,stepR_in hle hnm]; exact hown1,hb1,by rw [HST.out,stepR_in hle hnm]; simp at hlen ⊢; omega⟩
       case measure => simp [intOf]; omega
      ·rw [decide_eq_false hnm] at hqw
       obtain ⟨k1,k2,k3⟩ := hcc1 _ hb1
       obtain ⟨v2,W2,happ2,hown2,hbG2⟩ := fileGrow x hb1.size hown1 (by simp at hlen ⊢; omega)
       have hb2 := (hb1.alloc hb1.size _).trans hbG2
       clear hown1 hbG2
       go_wp2_with (at_builtin; first | (refine list_run rfl (.tmp 76) (.tmp 84) 87 rfl u11 _ _ rfl rfl happ1 ?_) | (refine list_run rfl (.tmp 96) (.tmp 104) 87 rfl v1 _ _ rfl rfl happ2 ?_))
       go_roundw
       case rel => exact ⟨i + 1,by omega,by go_num,by rw [HST.out,stepR_two hle hnm],by rw [HST.out,stepR_two hle hnm]; exact hown2,hb2,by rw [HST.out,stepR_two hle hnm]; simp at hlen ⊢; omega⟩
       case measure => simp [intOf]; omega
   ·have e : i = L.length := by omega
    subst e
    rw [List.take_length] at hown hlen ⊢
    have HP : Hid (putR ⟨s,text,(k : Int) + 1⟩ L = if (stepsR ⟨s,text,K + 1⟩ L).2 = true then (stepsR ⟨s,text,K + 1⟩ L).1 else (stepsR ⟨s,text,K + 1⟩ L).1 ++ [⟨s,text,K + 1⟩]) := by
     show putR ⟨s,text,(k : Int) + 1⟩ L = _
     rw [HK.out]
     rfl
    generalize stepsR ⟨s,text,K + 1⟩ L = qq at *
    obtain ⟨acc,bb⟩ := qq
    cases bb with
    | true =>
     obtain ⟨a5,c5,rfl,_⟩ := owns_shape hown
     obtain ⟨hfz,hset,hTs⟩ := h3.set hb hown hB3
     clear e0 e1
     go_wp2
     go_ret
     exact ⟨rfl,fun _ => by rw [HP.out]; exact hset,fun h => absurd rfl h,hT3.trans hTs⟩
    | false =>
     obtain ⟨v1,W1,happ1,hown1,hbG1⟩ := fileGrow ⟨s,text,K + 1⟩ hb.size hown (by simp at hlen ⊢; omega)
     have hb1 := (hb.alloc hb.size _).trans hbG1
     have k0 := cell_later hb1 e0
     obtain ⟨hfz,hset,hTs⟩ := h3.set hb1 hown1 hB3
     obtain ⟨a5,c5,hv5,_⟩ := owns_shape hown1
     subst hv5
     have hlen1 : (acc ++ [(⟨s,text,K + 1⟩ : FileR)]).length = acc.length + 1 := by simp
     rw [hlen1] at hset hTs happ1
     clear e0 e1 hown1 hown hbG1
     go_wp2_with (at_builtin; refine list_run rfl _ _ 87 rfl u11 _ _ rfl rfl happ1 ?_)
     go_ret
     exact ⟨rfl,fun _ => by rw [HP.out]; exact hset,fun h => absurd rfl h,hT3.trans hTs⟩
set_option maxRecDepth 100000 in
set_option maxHeartbeats 1000000 in
theorem writeR_err (B : Nat) (w : World) (q : Nat) (L : List FileR) (k : Nat) (s text : ByteArray) (h : RAt B w q L k) (hL : L.length <= 1000) (hs : s.size <= maxLen) (F : Nat) (hF : F = writeRF L k s text) (h0 : F ≠ 0) :
 Calls Tryz.prog 19 #[.pointer (some ⟨q,0,none⟩),.string s,.string text] w fun e w' => WriteREnd B w q L k s text F e w' := by
 have HN := nameFault_any s w hs
 by_cases hn : nameF s.data.toList = 0
 ·rw [hn] at HN
  have hF2 : F = if 1200 < text.size then 2 else if ((∀ x ∈ L,x.nm ≠ s) /\ L.length = 6) ∨ k = 1000000 then 8 else 0 := by rw [hF]; unfold writeRF; rw [hn]; rfl
  clear hF hn
  by_cases ht : 1200 < text.size
  ·rw [if_pos ht] at hF2
   subst hF2
   have ht' : (1200 : Int) < (text.size : Int) := by omega
   clear ht
   go_enter Tryz.func19,Tryz.ntmps19
   go_wp2_with fail
   refine HN.mono ?_
   rintro e w' ⟨rfl,rfl⟩
   go_wp2
   go_ret
   exact ⟨rfl,(fun h => by cases h),fun _ => h,Turned.refl _ _ _⟩
  ·rw [if_neg ht] at hF2
   have ht' : ¬ (1200 : Int) < (text.size : Int) := by omega
   by_cases ho : ((∀ x ∈ L,x.nm ≠ s) /\ L.length = 6) ∨ k = 1000000
   ·rw [if_pos ho] at hF2
    subst hF2
    have HR := readR_any B w q L k s h hL
    clear ht
    go_enter Tryz.func19,Tryz.ntmps19
    go_wp2_with fail
    refine HN.mono ?_
    rintro e w' ⟨rfl,rfl⟩
    go_wp2_with fail
    refine HR.mono ?_
    rintro e w2 ⟨⟨t,nn,f,rfl,hR⟩,hb2⟩
    have h2 := h.later hb2
    obtain ⟨a,c,hc,c0,c1,hcell⟩ := h2.open
    obtain ⟨K,hK⟩ : ∃ K : Int,(k : Int) = K := ⟨_,rfl⟩
    rw [hK] at c1
    have hgo : (0 < (f : Int) /\ ((L.length : Int) == 6) = true) ∨ (K == 1000000) = true := by
     rcases ho with ⟨hno,h6⟩ | hk
     ·rcases hR with ⟨x,hx,hxs,_⟩ | ⟨_,_,_,h5⟩
      ·exact absurd hxs (hno x hx)
      ·exact .inl ⟨by omega,by rw [beq_iff_eq]; omega⟩
     ·exact .inr (by rw [beq_iff_eq]; omega)
    clear HN HR hR ho hcell hK
    have fin : WriteREnd B w q L k s text 8 (.returned (.int .i64 ((8 : Nat) : Int))) w2 := ⟨rfl,(fun h => by cases h),fun _ => h2,Turned.of hb2⟩
    rcases hgo with ⟨g1,g2⟩ | g1
    ·go_wp2
     go_ret
     exact fin
    ·by_cases g2 : 0 < (f : Int)
     ·cases g3 : ((L.length : Int) == 6) with
      | true =>
       go_wp2
       go_ret
       exact fin
      | false =>
       go_wp2
       go_ret
       exact fin
     ·go_wp2
      go_ret
      exact fin
   ·rw [if_neg ho] at hF2
    exact absurd hF2 h0
 ·have hF2 : F = nameF s.data.toList := by rw [hF]; exact seqF_some _ hn
  rw [<- hF2] at HN
  have hp : (0 : Int) < (F : Int) := by omega
  clear hF hn hF2
  go_enter Tryz.func19,Tryz.ntmps19
  go_wp2_with fail
  refine HN.mono ?_
  rintro e w' ⟨rfl,rfl⟩
  go_wp2
  go_ret
  exact ⟨rfl,fun h => absurd h h0,fun _ => h,Turned.refl _ _ _⟩
theorem writeR_any (B : Nat) (w : World) (q : Nat) (L : List FileR) (k : Nat) (s text : ByteArray) (h : RAt B w q L k) (hL : L.length <= 1000) (hB : B <= w.heap.size) (hs : s.size <= maxLen) (hk : k <= 1000000) :
 Calls Tryz.prog 19 #[.pointer (some ⟨q,0,none⟩),.string s,.string text] w fun e w' => WriteREnd B w q L k s text (writeRF L k s text) e w' := by
 by_cases h0 : writeRF L k s text = 0
 ·rw [h0]
  have hn : nameF s.data.toList = 0 := by
   by_cases hn : nameF s.data.toList = 0
   ·exact hn
   ·unfold writeRF at h0; rw [seqF_some _ hn] at h0; exact h0
  unfold writeRF at h0
  rw [hn,seqF_zero] at h0
  have ht : ¬ 1200 < text.size := fun ht => by rw [if_pos ht] at h0; cases h0
  rw [if_neg ht] at h0
  have ho : ¬ (((∀ x ∈ L,x.nm ≠ s) /\ L.length = 6) ∨ k = 1000000) := fun ho => by rw [if_pos ho] at h0; cases h0
  have hk' : k ≠ 1000000 := fun x => ho (.inr x)
  exact writeR_ok B w q L k s text h hL hB hs hn ht (fun x => ho (.inl x)) (by omega)
 ·exact writeR_err B w q L k s text h hL hs _ rfl h0
structure ActF where
 kind : ByteArray
 s : ByteArray
 t : ByteArray
 a : Int
 k : Int
 root : ByteArray
 pa : Option Addr
 pn : Nat
 pc : Nat
 pname : Nat -> ByteArray
 qa : Option Addr
 qn : Nat
 qc : Nat
 pst : Nat -> Int
 pbs : Nat -> Int
 qp : Nat -> Int
 qt : Nat -> Int
 qv : Nat -> Int
def RowSII (w : World) (a : Option Addr) (n : Nat) (s : Nat -> ByteArray) (k b : Nat -> Int) : Prop :=
 n = 0 ∨ ∃ bk o,a = some ⟨bk,o,none⟩ /\ ∀ i,i < n -> w.cell? ⟨bk,o + i * 3,none⟩ = some (.string (s i)) /\ w.cell? ⟨bk,o + i * 3 + 1,none⟩ = some (.int .i64 (k i)) /\ w.cell? ⟨bk,o + i * 3 + 2,none⟩ = some (.int .i64 (b i))
theorem RowSII.later {w w' : World} {a : Option Addr} {n : Nat} {s : Nat -> ByteArray} {k b : Nat -> Int} (h : RowSII w a n s k b) (hb : Below w.heap.size w w') : RowSII w' a n s k b := by
 rcases h with h | ⟨bk,o,ha,hc⟩
 ·exact .inl h
 ·exact .inr ⟨bk,o,ha,fun i hi => ⟨cell_later hb (hc i hi).1,cell_later hb (hc i hi).2.1,cell_later hb (hc i hi).2.2⟩⟩
def RowIII (w : World) (a : Option Addr) (n : Nat) (p t v : Nat -> Int) : Prop :=
 n = 0 ∨ ∃ bk o,a = some ⟨bk,o,none⟩ /\ ∀ i,i < n -> w.cell? ⟨bk,o + i * 3,none⟩ = some (.int .i64 (p i)) /\ w.cell? ⟨bk,o + i * 3 + 1,none⟩ = some (.int .i64 (t i)) /\ w.cell? ⟨bk,o + i * 3 + 2,none⟩ = some (.int .i64 (v i))
theorem RowIII.later {w w' : World} {a : Option Addr} {n : Nat} {p t v : Nat -> Int} (h : RowIII w a n p t v) (hb : Below w.heap.size w w') : RowIII w' a n p t v := by
 rcases h with h | ⟨bk,o,ha,hc⟩
 ·exact .inl h
 ·exact .inr ⟨bk,o,ha,fun i hi => ⟨cell_later hb (hc i hi).1,cell_later hb (hc i hi).2.1,cell_later hb (hc i hi).2.2⟩⟩
def Is64 (n : Int) : Prop := -9223372036854775808 <= n /\ n <= 9223372036854775807
def PartsRow (w : World) (a : Option Addr) (n : Nat) (f : Nat -> ByteArray) : Prop :=
 n = 0 ∨ ∃ b o,a = some ⟨b,o,none⟩ /\ ∀ i,i < n -> w.cell? ⟨b,o + i * 3,none⟩ = some (.string (f i))
theorem PartsRow.later {w w' : World} {a : Option Addr} {n : Nat} {f : Nat -> ByteArray} (h : PartsRow w a n f) (hb : Below w.heap.size w w') : PartsRow w' a n f := by
 rcases h with h | ⟨b,o,ha,hc⟩
 ·exact .inl h
 ·exact .inr ⟨b,o,ha,fun i hi => cell_later hb (hc i hi)⟩
structure ActHere (w : World) (b o : Nat) (x : ActF) : Prop where
 c0 : w.cell? ⟨b,o,none⟩ = some (.string x.kind)
 c1 : w.cell? ⟨b,o + 1,none⟩ = some (.string x.s)
 c2 : w.cell? ⟨b,o + 2,none⟩ = some (.string x.t)
 c3 : w.cell? ⟨b,o + 3,none⟩ = some (.int .i64 x.a)
 c4 : w.cell? ⟨b,o + 4,none⟩ = some (.int .u64 x.k)
 c5 : w.cell? ⟨b,o + 5,none⟩ = some (.string x.root)
 c6 : w.cell? ⟨b,o + 6,none⟩ = some (.slice x.pa x.pn x.pc)
 c7 : w.cell? ⟨b,o + 7,none⟩ = some (.slice x.qa x.qn x.qc)
 parts : PartsRow w x.pa x.pn x.pname
 rows : RowSII w x.pa x.pn x.pname x.pst x.pbs
 pats : RowIII w x.qa x.qn x.qp x.qt x.qv
theorem ActHere.later {w w' : World} {b o : Nat} {x : ActF} (h : ActHere w b o x) (hb : Below w.heap.size w w') : ActHere w' b o x :=
 ⟨cell_later hb h.c0,cell_later hb h.c1,cell_later hb h.c2,cell_later hb h.c3,cell_later hb h.c4,cell_later hb h.c5,cell_later hb h.c6,cell_later hb h.c7,h.parts.later hb,h.rows.later hb,h.pats.later hb⟩
def ActsRow (w : World) (a : Option Addr) (n : Nat) (X : Nat -> ActF) : Prop :=
 n = 0 ∨ ∃ b o,a = some ⟨b,o,none⟩ /\ ∀ i,i < n -> ActHere w b (o + i * 8) (X i)
theorem ActsRow.later {w w' : World} {a : Option Addr} {n : Nat} {X : Nat -> ActF} (h : ActsRow w a n X) (hb : Below w.heap.size w w') : ActsRow w' a n X := by
 rcases h with h | ⟨b,o,ha,hc⟩
 ·exact .inl h
 ·exact .inr ⟨b,o,ha,fun i hi => (hc i hi).later hb⟩
structure ActFit (x : ActF) : Prop where
 s : x.s.size <= maxLen
 t : x.t.size <= maxLen
 a : Is64 x.a
 k : 0 <= x.k /\ x.k <= 18446744073709551615
 root : x.root.size <= maxLen
 parts : ∀ i,i < x.pn -> (x.pname i).size <= maxLen /\ Is64 (x.pst i) /\ Is64 (x.pbs i)
 pats : ∀ i,i < x.qn -> Is64 (x.qp i) /\ Is64 (x.qt i) /\ Is64 (x.qv i)
 pcap : x.pn <= maxLen
 qcap : x.qn <= maxLen
def SomeBool (e : Ending) : Prop := ∃ b,e = .returned (.bool b)
set_option maxRecDepth 100000 in
set_option maxHeartbeats 1000000 in
theorem lightEntry_any (root : ByteArray) (pa qa : Option Addr) (pn pc qn qc : Nat) (f : Nat -> ByteArray) (w : World) (hp : PartsRow w pa pn f) :
 Calls Tryz.prog 6 #[.agg #[.string root,.slice pa pn pc,.slice qa qn qc]] w fun e w' => SomeBool e /\ Below w.heap.size w w' := by
 have hx : Below w.heap.size w (w.alloc (.cells #[.string root,.slice pa pn pc,.slice qa qn qc] 26)) := (Below.refl _ _).alloc (Nat.le_refl _) _
 have c0 : (w.alloc (.cells #[.string root,.slice pa pn pc,.slice qa qn qc] 26)).cell? ⟨w.heap.size,0,none⟩ = some (.string root) := by simp [go_sem]
 have c1 : (w.alloc (.cells #[.string root,.slice pa pn pc,.slice qa qn qc] 26)).cell? ⟨w.heap.size,1,none⟩ = some (.slice pa pn pc) := by simp [go_sem]
 have c2 : (w.alloc (.cells #[.string root,.slice pa pn pc,.slice qa qn qc] 26)).cell? ⟨w.heap.size,2,none⟩ = some (.slice qa qn qc) := by simp [go_sem]
 by_cases hc : 20 < root.size ∨ 8 < pn ∨ 40 < qn
 ·go_enter Tryz.func6,Tryz.ntmps6
  go_wp2
  all_goals first | (go_ret; exact ⟨⟨_,rfl⟩,hx⟩) | (exfalso; omega)
 ·have g1 : ¬ (20 : Int) < root.size := by omega
  have g2 : ¬ (8 : Int) < pn := by omega
  have g3 : ¬ (40 : Int) < qn := by omega
  have h8 : pn <= 8 := by omega
  have hp' := hp.later hx
  clear hc hp
  go_enter Tryz.func6,Tryz.ntmps6
  go_wp2
  generalize w.alloc (.cells #[.string root,.slice pa pn pc,.slice qa qn qc] 26) = Y at *
  go_loopw [3] (fun x wr => ∃ k : Nat,k <= pn /\ x = .int .i64 k /\ wr = Y) (fun x _ => pn - (intOf x).toNat)
  case atStart => exact ⟨0,Nat.zero_le _,rfl,rfl⟩
  case round =>
   obtain ⟨k,hk,rfl,hw⟩ := hrel
   replace hw := hw.symm
   subst hw
   by_cases hlt : k < pn
   ·rcases hp' with h0 | ⟨b1,o1,rfl,h5⟩
    ·omega
    have p0 := h5 k hlt
    clear h5
    go_wp2
    all_goals first
     | (go_ret; exact ⟨⟨_,rfl⟩,hx⟩)
     | (go_roundw
        case rel => exact ⟨k + 1,by omega,by go_num,trivial⟩
        case measure => simp [intOf]; omega)
   ·go_wp2
    go_ret
    exact ⟨⟨_,rfl⟩,hx⟩
def LightActsEnd (n most : Nat) (X : Nat -> ActF) (e : Ending) : Prop := ∃ b,e = .returned (.bool b) /\ (b = true -> n <= most /\ ∀ i,i < n -> (X i).s.size <= 100 /\ (X i).t.size <= 1300)
theorem upto_more {p : Nat -> Prop} {k : Nat} (h : ∀ i,i < k -> p i) (hk : p k) : ∀ i,i < k + 1 -> p i := fun i hi => by
 by_cases e : i = k
 ·subst e; exact hk
 ·exact h i (by omega)
set_option maxRecDepth 100000 in
set_option maxHeartbeats 2000000 in
theorem lightActs_any (a : Option Addr) (n c most : Nat) (X : Nat -> ActF) (w : World) (hm : most <= 1000) (hr : ActsRow w a n X) (hf : ∀ i,i < n -> ActFit (X i)) :
 Calls Tryz.prog 5 #[.slice a n c,.int .i64 (most : Int)] w fun e w' => LightActsEnd n most X e /\ Below w.heap.size w w' := by
 by_cases h0 : most < n
 ·have h0' : (most : Int) < (n : Int) := by omega
  clear h0 hr hf hm
  go_enter Tryz.func5,Tryz.ntmps5
  go_wp2
  go_ret
  exact ⟨⟨false,rfl,fun h => by cases h⟩,Below.refl _ _⟩
 ·have h0' : ¬ (most : Int) < (n : Int) := by omega
  go_enter Tryz.func5,Tryz.ntmps5
  go_wp2
  go_loopw [5,6] (fun y x wr => ∃ (k : Nat) (N : Int),k <= n /\ x = .int .i64 k /\ y = .int .i64 N /\ 0 <= N /\ N <= 20000 /\ Below w.heap.size w wr /\ Hid (∀ i,i < k -> (X i).s.size <= 100 /\ (X i).t.size <= 1300)) (fun _ x _ => n - (intOf x).toNat)
  case atStart => exact ⟨0,0,Nat.zero_le _,rfl,rfl,by omega,by omega,Below.refl _ _,fun i hi => by omega⟩
  case round =>
   obtain ⟨k,N,hk,rfl,rfl,hN0,hN1,hb,HK⟩ := hrel
   by_cases hlt : k < n
   ·rcases hr with hz | ⟨bk,o,rfl,hc⟩
    ·omega
    have H := (hc k hlt).later hb
    have d1 := H.c1
    have d2 := H.c2
    have d5 := H.c5
    have d6 := H.c6
    have d7 := H.c7
    have ht := (hf k hlt).t
    unfold maxLen at ht
    have HE := lightEntry_any (X k).root (X k).pa (X k).qa (X k).pn (X k).pc (X k).qn (X k).qc (X k).pname wr H.parts
    clear hc hf H
    by_cases q1 : 100 < (X k).s.size
    ·have q1' : (100 : Int) < ((X k).s.size : Int) := by omega
     clear q1 HE
     go_wp2
     go_ret
     exact ⟨⟨false,rfl,fun h => by cases h⟩,hb⟩
    ·have q1' : ¬ (100 : Int) < ((X k).s.size : Int) := by omega
     by_cases q2 : 1300 < (X k).t.size
     ·have q2' : (1300 : Int) < ((X k).t.size : Int) := by omega
      clear q1 q2 HE
      go_wp2
      go_ret
      exact ⟨⟨false,rfl,fun h => by cases h⟩,hb⟩
     ·have q2' : ¬ (1300 : Int) < ((X k).t.size : Int) := by omega
      by_cases q3 : (20000 : Int) < N + ((X k).t.size : Int)
      ·clear q1 q2 HE
       go_wp2
       go_ret
       exact ⟨⟨false,rfl,fun h => by cases h⟩,hb⟩
      ·have HK2 : Hid (∀ i,i < k + 1 -> (X i).s.size <= 100 /\ (X i).t.size <= 1300) := upto_more HK.out ⟨by omega,by omega⟩
       clear q1 q2
       go_wp2_with fail
       refine HE.mono ?_
       rintro e w2 ⟨⟨b,rfl⟩,hb2⟩
       have hB := hb.trans (hb2.mono hb.size)
       clear HE d1 d2 d5 d6 d7 hb hb2
       cases b with
       | false =>
        go_wp2
        go_ret
        exact ⟨⟨false,rfl,fun h => by cases h⟩,hB⟩
       | true =>
        go_wp2
        go_roundw
        case rel => exact ⟨k + 1,N + ((X k).t.size : Int),by omega,by go_num,rfl,by omega,by omega,hB,HK2⟩
        case measure => simp [intOf]; omega
   ·have e : k = n := by omega
    subst e
    go_wp2
    go_ret
    exact ⟨⟨true,rfl,fun _ => ⟨by omega,HK.out⟩⟩,hb⟩
end Go.Proofs.YthdccmjdbcllkaaGreatDoor
namespace Go.Proofs.YthdccmjdbcllkaaGreatDoor
open Go.RowKit Go.Maps
theorem keyB_key (s : ByteArray) : WideAt.IsKeyLit (keyB s) := by simp [keyB,WideAt.IsKeyLit]
structure Inv (D : DataW Unit) (k : Nat) : Prop where
 tidy : Tidy D
 size : Maps.size D <= 6
 st : ∀ key,Maps.has D key = true -> ∃ t n,D.atKey key (fileD [] 0) = fileD t n /\ n <= (k : Int)
theorem Inv.empty : Inv (.map []) 0 := ⟨tidy_empty,by simp [Maps.size],fun key h => by simp [Maps.has] at h⟩
theorem writeF_ok {D : DataW Unit} {k : Nat} {s text : ByteArray} (h : writeF D k s text = 0) : othersF D s < 6 /\ text.size <= 1200 /\ k < 1000000 := by
 unfold writeF at h
 by_cases hn : nameF s.data.toList = 0
 ·rw [hn,seqF_zero] at h
  by_cases ht : 1200 < text.size
  ·rw [if_pos ht] at h; cases h
  ·rw [if_neg ht] at h
   by_cases ho : 6 <= othersF D s ∨ 1000000 <= k
   ·rw [if_pos ho] at h; cases h
   ·exact ⟨by omega,by omega,by omega⟩
 ·rw [seqF_some _ hn] at h; exact absurd h hn
theorem Inv.put {D : DataW Unit} {k : Nat} {s text : ByteArray} (h : Inv D k) (hF : writeF D k s text = 0) : Inv (D.put (keyB s) (fileD text.data.toList ((k : Int) + 1))) (k + 1) := by
 obtain ⟨ho,_,_⟩ := writeF_ok hF
 refine ⟨h.tidy.put (keyB_key s) _,?_,fun key hh => ?_⟩
 ·rw [size_put h.tidy]
  unfold othersF at ho
  have := h.size
  cases hq : Maps.has D (keyB s) with
  | true => simp; exact this
  | false => rw [hq] at ho; simp at ho ⊢; omega
 ·by_cases e : key = keyB s
  ·subst e
   exact ⟨_,_,atKey_put_same h.tidy.isMap (keyB_key s) _ _,by omega⟩
  ·rw [has_put_other e] at hh
   obtain ⟨t,n,h1,h2⟩ := h.st key hh
   exact ⟨t,n,by rw [atKey_put_other e]; exact h1,by omega⟩
theorem Inv.del {D : DataW Unit} {k : Nat} {s : ByteArray} (h : Inv D k) : Inv (D.del (keyB s)) k := by
 refine ⟨h.tidy.del _,?_,fun key hh => ?_⟩
 ·have := size_del (k := keyB s) h.tidy
  have := h.size
  omega
 ·by_cases e : key = keyB s
  ·subst e; rw [has_del_same] at hh; cases hh
  ·rw [has_del_other e] at hh
   obtain ⟨t,n,h1,h2⟩ := h.st key hh
   exact ⟨t,n,by rw [atKey_del_other e]; exact h1,h2⟩
abbrev kWrite : ByteArray := ⟨#[119,114,105,116,101]⟩
end Go.Proofs.YthdccmjdbcllkaaGreatDoor

namespace Go.Proofs.YthdccmjdbcllkaaGreatDoor
open Go.RowKit Go.Maps Go.Sort
def namesF (D : DataW Unit) : List (List UInt8) := (strKeys D).mergeSort leB
structure ListEnd (w : World) (D : DataW Unit) (e : Ending) (w' : World) : Prop where
 v : ∃ v,e = .returned v /\ w'.ownsRow w.heap.size 9 1 v (namesF D).length ((namesF D).map encStr)
 below : Below w.heap.size w w'
theorem strGrow2 {B : Nat} {w : World} {v : Value} {n : Nat} {cs : List Value} (u : Value) (hu : u.oneCell' = true) (hB : B <= w.heap.size) (h : w.ownsRow B 9 1 v n cs) (hn : n + 1 <= 1000000) :
 ∃ v' W,(Builtin.append_ #[72,72] 72 #[v,.slice (some ⟨w.heap.size,0,none⟩) 1 1]).run Tryz.prog (w.alloc (.cells #[u] 9)) = .ok v' W /\ Grown B 9 1 (w.alloc (.cells #[u] 9)) v (n + 1) (cs ++ [u]) v' W :=
 append_from 72 9 1 16 (.string ⟨#[]⟩) (by kernel_rfl) (by kernel_rfl) (by rfl) (by decide) B _ v n cs (h.alloc _) (some ⟨w.heap.size,0,none⟩) 1 1 [u] rfl
  (.inr ⟨_,_,rfl,fun j x hj => by
    cases j with
    | zero => simp at hj; subst hj; simp [go_sem]
    | succ j => simp at hj⟩) (fun x hx => by simp at hx; subst hx; exact hu) (by simp; omega) hn (by decide)
set_option maxRecDepth 100000 in
set_option maxHeartbeats 1000000 in
theorem list_any (w : World) (p bm : Nat) (D : DataW Unit) (k : Nat) (h : FilesAt w p bm D k) (hz : Maps.size D <= 1000) :
 Calls Tryz.prog 45 #[.pointer (some ⟨p,0,none⟩)] w fun e w' => ListEnd w D e w' := by
 have hown := h.own
 have hbl := hown.lt
 have c0 := h.c0
 go_enter Tryz.func45,Tryz.ntmps45
 go_wp2_with (first
  | (at_range; refine wpList_range_own _ rfl _ 104 rfl 9 109 keysStr Tryz.underlying104 _ bm _ _ rfl hown ?_; intro w0 hrg0 hg0 hs0)
  | go_in)
 go_frame
 go_loopw [3] (fun v wr => ∃ (left : Lit -> Bool) (cnt : Nat) (ss : List (List UInt8)),wr.ranges Tryz.prog 9 fileElem bm w.heap.size (Maps.size D) D left cnt /\ ss.length + cnt <= Maps.size D /\
  wr.ownsRow w.heap.size 9 1 v ss.length (ss.map encStr) /\ Collected D left ss /\ Below w.heap.size w wr)
  (fun _ wr => wr.rangeLeft bm w.heap.size)
 case atStart =>
  exact ⟨_,_,[],hrg0,by simp,World.ownsRow_nil _ _ _ _,Collected.start D,(Below.refl _ _).grown hg0 (Nat.le_refl _) (fun j hj => by cases hj)⟩
 case round =>
  obtain ⟨left,cnt,ss,hrg,hcs,hrow,hC,hnx⟩ := hrel
  go_wp2_with (first
   | (at_next; refine wpList_next_ranges _ rfl _ rfl 9 keysStr fileElem encStr (fun q : ByteArray × Int => .agg #[.string q.1,.int .i64 q.2]) (fun key kl hk => by obtain ⟨x,hx,_⟩ := Maps.keyOf_str Tryz.underlying9 hk; exact ⟨x,hx⟩) (fun v y hv => by obtain ⟨t,n,rfl,_⟩ := fileElem_inv hv; exact ⟨(t,n),rfl⟩) bm w.heap.size _ _ _ _ rfl hrg ?_ ?_)
   | go_in)
  ·intro hc0 hl0
   have hperm := hC.perm hown keysStr Tryz.underlying9 hl0
   have HN : Hid (namesF D = ss.mergeSort leB) := (mergeSort_of_perm hperm).symm
   rcases hrow.2 with ⟨rfl,hn0⟩ | ⟨g,cap,cur,rfl,hbase,hb,h1,h2,h3,h4⟩
   ·have hs0 : ss = [] := List.eq_nil_of_length_eq_zero hn0
    subst hs0
    have HS := Tryz.slices_Sort_string_none none 0 wr
    clear hrg hC hperm hrow
    go_wp2_with fail
    refine HS.mono ?_
    rintro e w' ⟨rfl,hw⟩
    replace hw := hw.symm
    subst hw
    go_wp2
    go_ret
    exact ⟨⟨.slice none 0 0,rfl,by rw [HN.out,List.mergeSort_nil]; exact World.ownsRow_nil _ _ _ _⟩,hnx⟩
   ·have hH : Holds encStr wr g 0 ss.toArray := holds_of_block hb (by simpa using h4)
    have hgl : g < wr.heap.size := (Array.getElem?_eq_some_iff.1 hb).1
    have HS := Tryz.slices_Sort_string g 0 cap ss wr hH hgl (by omega)
    clear hrg hC hperm hrow hH
    go_wp2_with fail
    refine HS.mono ?_
    rintro e w' ⟨rfl,nn,os,hw⟩
    have hown' := ownsRow_sorted (n := nn) (os := os) (ts := ss.mergeSort leB) (by simp) hbase hb h1 h2 h3
    have hnx' := hnx.grown (grownBy_sorted (n := nn) (os := os) (g := g) (ss.mergeSort leB).toArray) hnx.size (fun j hj => by cases hj; exact hbase)
    rw [<- hw] at hown' hnx'
    clear hw HS
    go_wp2
    go_ret
    refine ⟨⟨.slice (some ⟨g,0,none⟩) ss.length cap,rfl,?_⟩,hnx'⟩
    rw [HN.out,List.length_mergeSort]
    exact hown'
  ·intro x ct cn kl yd yp w2 cnt2 hkey hlk hv hat hrg2 hlt hg2 hs2 hen
   obtain ⟨x',ex,rfl,_⟩ := Maps.keyOf_str Tryz.underlying9 hkey
   obtain rfl : x = x' := encStr_inj ex
   have hrow2 := hrow.kept hg2 (Or.inr (row_ne_iter hrow hrg).symm)
   have hB2 : w.heap.size <= w2.heap.size := Nat.le_trans hnx.size hg2.size
   have hnx2 := hnx.grown hg2 hnx.size (fun j hj => by cases hj; exact Nat.le_refl _)
   clear hs2
   obtain ⟨v',w3,happ,hG⟩ := strGrow2 (encStr x) (by simp [Value.oneCell']) hB2 hrow2 (by omega)
   have hen' := hen
   go_wp2_with (at_builtin; refine list_run rfl _ _ 72 rfl _ _ _ rfl rfl happ ?_)
   have hrg3 := (hrg2.alloc (.cells #[encStr x] 9)).kept hG.grown (row_ne_low hrow2 hbl) (row_ne_iter hrow2 hrg2)
   go_roundw
   case rel =>
    refine ⟨_,cnt2,ss ++ [x],hrg3,by simp; omega,?_,hC.step hlk hat,?_⟩
    ·have := hG.own
     simpa using this
    ·exact (hnx2.alloc hB2 _).trans hG.below
   case measure => rw [hrg3.left_eq,hrg.left_eq]; exact hlt
end Go.Proofs.YthdccmjdbcllkaaGreatDoor
namespace Go.Proofs.YthdccmjdbcllkaaGreatDoor
open Go.RowKit Go.Maps
theorem fileD_inj {t t' : List UInt8} {n n' : Int} (h : fileD t n = fileD t' n') : t = t' /\ n = n' := by
 unfold fileD at h
 injection h with h
 injection h with h1 h2
 injection h1 with h1
 injection h1 with h1
 injection h2 with h2 _
 injection h2 with h2
 injection h2 with _ h2
 exact ⟨h1,h2⟩
theorem ba_ext {x y : ByteArray} (h : x.data.toList = y.data.toList) : x = y := WideShapes.bytes_inj h
theorem names_size {D : DataW Unit} (h : IsMap D) : (namesF D).length = Maps.size D := by
 obtain ⟨es,rfl⟩ := h
 unfold namesF
 rw [List.length_mergeSort]
 simp [strKeys,Maps.size]
def nmF (D : DataW Unit) (i : Nat) : ByteArray := ⟨((namesF D).getD i []).toArray⟩
theorem nm_cell {D : DataW Unit} {i : Nat} (h : i < (namesF D).length) : ((namesF D).map encStr)[i]? = some (.string (nmF D i)) := by
 rw [List.getElem?_map,List.getElem?_eq_getElem h]
 simp [nmF,encStr,List.getD_eq_getElem?_getD,List.getElem?_eq_getElem h]
structure Agree (D : DataW Unit) (L : List FileR) : Prop where
 rise : Rising L
 mem : ∀ f : FileR,f ∈ L ↔ Maps.has D (keyB f.nm) = true /\ D.atKey (keyB f.nm) (fileD [] 0) = fileD f.tx.data.toList f.st
theorem keyB_inj {x y : ByteArray} (h : keyB x = keyB y) : x = y := by
 unfold keyB at h
 injection h with h
 exact ba_ext h
theorem Agree.empty : Agree (.map []) [] := ⟨List.Pairwise.nil,fun f => by simp [Maps.has]⟩
theorem Agree.has {D : DataW Unit} {L : List FileR} {k : Nat} (h : Agree D L) (hI : Inv D k) (s : ByteArray) : Maps.has D (keyB s) = true ↔ ∃ f ∈ L,f.nm = s := by
 constructor
 ·intro hh
  obtain ⟨t,n,h1,_⟩ := hI.st _ hh
  exact ⟨⟨s,⟨t.toArray⟩,n⟩,(h.mem _).2 ⟨hh,by simpa using h1⟩,rfl⟩
 ·rintro ⟨f,hf,rfl⟩
  exact ((h.mem f).1 hf).1
theorem Agree.read {D : DataW Unit} {L : List FileR} {k : Nat} (h : Agree D L) (hI : Inv D k) {s t t' : ByteArray} {n n' : Int} {f f' : Nat} (h1 : ReadIs D s t n f)
 (h2 : (∃ x ∈ L,x.nm = s /\ t' = x.tx /\ n' = x.st /\ f' = 0) ∨ ((∀ x ∈ L,x.nm ≠ s) /\ t' = ⟨#[]⟩ /\ n' = 0 /\ f' = 5)) : t = t' /\ n = n' /\ f = f' := by
 rcases h2 with ⟨x,hx,rfl,rfl,rfl,rfl⟩ | ⟨hno,rfl,rfl,rfl⟩
 ·obtain ⟨g1,g2⟩ := (h.mem x).1 hx
  obtain ⟨e1,e2⟩ := h1.yes g1
  rw [g2] at e2
  obtain ⟨e3,e4⟩ := fileD_inj e2
  exact ⟨(ba_ext e3).symm,e4.symm,e1⟩
 ·have hh : Maps.has D (keyB s) = false := by
   cases hq : Maps.has D (keyB s) with
   | false => rfl
   | true =>
    obtain ⟨x,hx,e⟩ := (h.has hI s).1 hq
    exact absurd e (hno x hx)
  obtain ⟨e1,e2,e3⟩ := h1.no hh
  exact ⟨e2,e3,e1⟩
theorem Agree.put {D : DataW Unit} {L : List FileR} {k : Nat} (h : Agree D L) (hI : Inv D k) (s tx : ByteArray) (n : Int) : Agree (D.put (keyB s) (fileD tx.data.toList n)) (putR ⟨s,tx,n⟩ L) := by
 obtain ⟨hm,hr⟩ := putR_mem ⟨s,tx,n⟩ L h.rise
 refine ⟨hr,fun f => ?_⟩
 rw [hm f]
 by_cases e : f.nm = s
 ·have hk : keyB f.nm = keyB s := by rw [e]
  rw [hk,has_put_same hI.tidy.isMap (keyB_key s),atKey_put_same hI.tidy.isMap (keyB_key s)]
  constructor
  ·rintro (rfl | ⟨_,hne⟩)
   ·exact ⟨rfl,rfl⟩
   ·exact absurd e hne
  ·rintro ⟨_,h2⟩
   obtain ⟨h3,h4⟩ := fileD_inj h2
   left
   obtain ⟨a,b,c⟩ := f
   simp only at e h3 h4
   subst e h4
   rw [ba_ext h3]
 ·have hk : keyB f.nm ≠ keyB s := fun q => e (keyB_inj q)
  rw [has_put_other hk,atKey_put_other hk,<- h.mem f]
  constructor
  ·rintro (rfl | ⟨h1,_⟩)
   ·exact absurd rfl e
   ·exact h1
  ·intro h1
   exact .inr ⟨h1,e⟩
theorem Agree.del {D : DataW Unit} {L : List FileR} (h : Agree D L) (s : ByteArray) : Agree (D.del (keyB s)) (delR s L) := by
 refine ⟨h.rise.filter _,fun f => ?_⟩
 unfold delR
 rw [List.mem_filter]
 by_cases e : f.nm = s
 ·have hk : keyB f.nm = keyB s := by rw [e]
  rw [hk,has_del_same]
  simp [e]
 ·have hk : keyB f.nm ≠ keyB s := fun q => e (keyB_inj q)
  rw [has_del_other hk,atKey_del_other hk,<- h.mem f]
  simp [e]
theorem Agree.names {D : DataW Unit} {L : List FileR} {k : Nat} {w : World} {bm n : Nat} (h : Agree D L) (hI : Inv D k) (hw : w.ownsMap Tryz.prog 9 fileElem bm n D) : namesF D = L.map fun f => f.nm.data.toList := by
 obtain ⟨es,hD,hpw⟩ := hI.tidy
 have hko := hw.keysOf
 have hnd : (L.map fun f => f.nm.data.toList).Nodup := List.pairwise_map.2 (h.rise.imp fun {a b} hab e => by
  unfold ltN at hab
  rw [e] at hab
  exact List.lt_irrefl _ hab)
 have hm : ∀ x,x ∈ (L.map fun f => f.nm.data.toList) ↔ Maps.has D (.string x) = true := fun x => by
  have := h.has hI ⟨x.toArray⟩
  unfold keyB at this
  simp only at this
  rw [this,List.mem_map]
  constructor
  ·rintro ⟨f,hf,e⟩
   exact ⟨f,hf,ba_ext (by simpa using e)⟩
  ·rintro ⟨f,hf,e⟩
   exact ⟨f,hf,by rw [e]⟩
 obtain ⟨es',hD',hk'⟩ := hko
 have hee : es = es' := by rw [hD] at hD'; simpa using hD'
 subst hee
 subst hD
 have hp := perm_strKeys hpw (fun p hp => by
  obtain ⟨v,hv⟩ := hk' p hp
  obtain ⟨x,_,hx,_⟩ := Maps.keyOf_str Tryz.underlying9 hv
  exact ⟨x,hx⟩) hnd hm
 unfold namesF
 rw [<- mergeSort_of_perm hp]
 refine List.mergeSort_of_pairwise (List.pairwise_map.2 (h.rise.imp fun {a b} hab => ?_))
 unfold ltN at hab
 exact decide_eq_true (List.le_of_lt hab)
theorem Agree.length {D : DataW Unit} {L : List FileR} {k : Nat} {w : World} {bm n : Nat} (h : Agree D L) (hI : Inv D k) (hw : w.ownsMap Tryz.prog 9 fileElem bm n D) : L.length = Maps.size D := by
 rw [<- names_size hI.tidy.isMap,h.names hI hw,List.length_map]
theorem Agree.fault {D : DataW Unit} {L : List FileR} {k : Nat} {w : World} {bm n : Nat} (h : Agree D L) (hI : Inv D k) (hw : w.ownsMap Tryz.prog 9 fileElem bm n D) (hk : k <= 1000000) (s text : ByteArray) : writeF D k s text = writeRF L k s text := by
 have hl := h.length hI hw
 have h6 := hI.size
 unfold writeF writeRF
 congr 1
 have hc : (6 <= othersF D s ∨ 1000000 <= k) ↔ (((∀ x ∈ L,x.nm ≠ s) /\ L.length = 6) ∨ k = 1000000) := by
  cases hq : Maps.has D (keyB s) with
  | true =>
   obtain ⟨f,hf,e⟩ := (h.has hI s).1 hq
   have ho : othersF D s = (Maps.size D : Int) - 1 := if_pos hq
   rw [ho]
   constructor
   ·rintro (h1 | h1)
    ·omega
    ·exact .inr (by omega)
   ·rintro (⟨h1,_⟩ | h1)
    ·exact absurd e (h1 f hf)
    ·exact .inr (by omega)
  | false =>
   have ho : othersF D s = (Maps.size D : Int) := if_neg (by simp [hq])
   rw [ho]
   have hno : ∀ x ∈ L,x.nm ≠ s := fun x hx e => by
    rw [(h.has hI s).2 ⟨x,hx,e⟩] at hq
    cases hq
   constructor
   ·rintro (h1 | h1)
    ·exact .inl ⟨hno,by omega⟩
    ·exact .inr (by omega)
   ·rintro (⟨_,h1⟩ | h1)
    ·exact .inl (by omega)
    ·exact .inr (by omega)
 by_cases ht : 1200 < text.size
 ·rw [if_pos ht,if_pos ht]
 ·rw [if_neg ht,if_neg ht]
  by_cases hx : 6 <= othersF D s ∨ 1000000 <= k
  ·rw [if_pos hx,if_pos (hc.1 hx)]
  ·rw [if_neg hx,if_neg (fun y => hx (hc.2 y))]
theorem Agree.gone {D : DataW Unit} {L : List FileR} {k : Nat} (h : Agree D L) (hI : Inv D k) (s : ByteArray) : (if Maps.has D (keyB s) = true then 0 else 5 : Nat) = if (delR s L).length = L.length then 5 else 0 := by
 cases hq : Maps.has D (keyB s) with
 | true =>
  obtain ⟨f,hf,e⟩ := (h.has hI s).1 hq
  have : (delR s L).length ≠ L.length := fun q => by
   have := delR_same q
   have hm : f ∈ delR s L := by rw [this]; exact hf
   simp [delR,e] at hm
  rw [if_pos rfl,if_neg this]
 | false =>
  have hno : ∀ x ∈ L,x.nm ≠ s := fun x hx e => by
   rw [(h.has hI s).2 ⟨x,hx,e⟩] at hq
   cases hq
  have : delR s L = L := List.filter_eq_self.2 fun x hx => by simp [hno x hx]
  rw [if_neg (by decide),if_pos (by rw [this])]
theorem keyB_inj' {x y : ByteArray} (h : keyB x = keyB y) : x = y := by
 injection h with h
 exact WideShapes.bytes_inj h
structure Texts (D : DataW Unit) (T : ByteArray -> ByteArray) : Prop where
 is : ∀ s t n,Maps.has D (keyB s) = true -> D.atKey (keyB s) (fileD [] 0) = fileD t.data.toList n -> t = T s
theorem fileD_txt {t t' : List UInt8} {n n' : Int} (h : fileD t n = fileD t' n') : t = t' := by
 simp [fileD] at h
 exact h.1
theorem texts_some (D : DataW Unit) : ∃ T,Texts D T := by
 have h : ∀ s : ByteArray,∃ T : ByteArray,∀ t n,D.atKey (keyB s) (fileD [] 0) = fileD t.data.toList n -> t = T := fun s => by
  by_cases e : ∃ t : ByteArray,∃ n,D.atKey (keyB s) (fileD [] 0) = fileD t.data.toList n
  ·obtain ⟨t,n,e⟩ := e
   exact ⟨t,fun t' n' e' => WideShapes.bytes_inj (fileD_txt (e'.symm.trans e))⟩
  ·exact ⟨⟨#[]⟩,fun t n e' => absurd ⟨t,n,e'⟩ e⟩
 obtain ⟨T,hT⟩ := Classical.axiomOfChoice h
 exact ⟨T,⟨fun s t n _ e => hT s t n e⟩⟩
def rdD (D : DataW Unit) (T : ByteArray -> ByteArray) (s : ByteArray) : Nat × ObjF := if Maps.has D (keyB s) = true then parseF (T s) else (5,emptyO)
theorem has_few {D : DataW Unit} (hD : Tidy D) : ∀ l : List ByteArray,l.Nodup -> (∀ s,s ∈ l -> Maps.has D (keyB s) = true) -> l.length <= Maps.size D := by
 intro l
 induction l generalizing D with
 | nil => intro _ _; exact Nat.zero_le _
 | cons s l ih =>
  intro hn hh
  rw [List.nodup_cons] at hn
  have h1 := ih (hD.del (keyB s)) hn.2 (fun x hx => by
   rw [has_del_other (fun e => hn.1 (by rw [<- keyB_inj' e]; exact hx))]
   exact hh x (List.mem_cons_of_mem _ hx))
  have h2 := size_del (k := keyB s) hD
  rw [if_pos (hh s (List.mem_cons_self ..))] at h2
  simp only [List.length_cons]
  omega
theorem rd_few {D : DataW Unit} {k : Nat} {T : ByteArray -> ByteArray} (hI : Inv D k) : ∀ l : List ByteArray,l.Nodup -> (∀ s,s ∈ l -> (rdD D T s).1 = 0) -> l.length <= 6 := fun l hn h =>
 Nat.le_trans (has_few hI.tidy l hn fun s hs => by
  have := h s hs
  unfold rdD at this
  split at this
  ·assumption
  ·cases this) hI.size
theorem parse_zero {s : ByteArray} (h : (parseF s).1 = 0) : ObjOk (parseF s).2 := objOk (textF_zero (parse_back h).1).1
theorem rd_ok {D : DataW Unit} {T : ByteArray -> ByteArray} {s : ByteArray} (h : (rdD D T s).1 = 0) : ObjOk (rdD D T s).2 := by
 unfold rdD at h ⊢
 split
 ·rename_i hh; rw [if_pos hh] at h; exact parse_zero h
 ·rename_i hh; rw [if_neg hh] at h; cases h
set_option maxRecDepth 100000 in
set_option maxHeartbeats 1000000 in
theorem scopeRead_any (w : World) (p bm : Nat) (D : DataW Unit) (k : Nat) (T : ByteArray -> ByteArray) (s : ByteArray) (h : FilesAt w p bm D k) (hT : Texts D T) (hE : Env w) (hs : s.size <= maxLen) :
 Calls Tryz.prog 88 #[.pointer (some ⟨p,0,none⟩),.string s] w fun e w' => (∃ v : ObjV,e = .returned (.tuple #[.agg (v.cells (rdD D T s).2),errV (rdD D T s).1]) /\ ObjAt w' v (rdD D T s).2 /\ ObjNew w.heap.size v (rdD D T s).2) /\ Below w.heap.size w w' := by
 have hx : Below w.heap.size w (w.alloc (.cells #[.slice none 0 0,.slice none 0 0,.slice none 0 0,.slice none 0 0] 116)) := (Below.refl _ _).alloc (Nat.le_refl _) _
 have HR := fileRead_any (w.alloc (.cells #[.slice none 0 0,.slice none 0 0,.slice none 0 0,.slice none 0 0] 116)) p bm D k s (h.later hx) hs
 have hE1 := hE.later hx
 have hR0 : (w.alloc (.cells #[.slice none 0 0,.slice none 0 0,.slice none 0 0,.slice none 0 0] 116)).heap[w.heap.size]? = some (.cells #[.slice none 0 0,.slice none 0 0,.slice none 0 0,.slice none 0 0] 116 (0,0)) := by
  show (w.heap.push _)[w.heap.size]? = _
  rw [Array.getElem?_push_size]
 have hlt : w.heap.size < (w.alloc (.cells #[.slice none 0 0,.slice none 0 0,.slice none 0 0,.slice none 0 0] 116)).heap.size := by simp
 go_enter Tryz.func88,Tryz.ntmps88
 go_wp2_with fail
 generalize w.alloc (.cells #[.slice none 0 0,.slice none 0 0,.slice none 0 0,.slice none 0 0] 116) = w0 at *
 refine HR.mono ?_
 rintro e w1 ⟨⟨t,n,f,rfl,hR⟩,hb1⟩
 clear HR
 have hb2 := hx.trans (hb1.mono hx.size)
 have hR1 : w1.heap[w.heap.size]? = some (.cells #[.slice none 0 0,.slice none 0 0,.slice none 0 0,.slice none 0 0] 116 (0,0)) := (hb1.block _ hlt).trans hR0
 have hE2 := hE1.later hb1
 have hl2 : w.heap.size < w1.heap.size := Nat.lt_of_lt_of_le hlt hb1.size
 cases hh : Maps.has D (keyB s) with
 | false =>
  obtain ⟨rfl,rfl,rfl⟩ := hR.no hh
  have HQ : Hid (rdD D T s = (5,emptyO)) := by
   show rdD D T s = _
   unfold rdD; rw [if_neg (by simp [hh])]
  have q0 : w1.cell? ⟨w.heap.size,0,none⟩ = some (.slice none 0 0) := by simp [World.cell?,hR1]
  have q1 : w1.cell? ⟨w.heap.size,1,none⟩ = some (.slice none 0 0) := by simp [World.cell?,hR1]
  have q2 : w1.cell? ⟨w.heap.size,2,none⟩ = some (.slice none 0 0) := by simp [World.cell?,hR1]
  have q3 : w1.cell? ⟨w.heap.size,3,none⟩ = some (.slice none 0 0) := by simp [World.cell?,hR1]
  have q4 : ∀ i,w1.frozen? ⟨w.heap.size,i,none⟩ = false := fun i => by simp [World.frozen?,hR1]
  have hY := below_store4 hb2 (Nat.le_refl w.heap.size) (.slice none 0 0) (.slice none 0 0) (.slice none 0 0) (.slice none 0 0)
  have q5 : errV 5 = .iface 74 (.int .i64 5) := rfl
  rw [q5]
  clear hR hh hR1 hR0 hE1 hE2 h hb1 hx q5
  go_wp2
  refine bodyPost_ret (v := .tuple #[.agg #[.slice none 0 0,.slice none 0 0,.slice none 0 0,.slice none 0 0],.iface 74 (.int .i64 5)]) (by simp [results,Tryz.results88,go_sem,q0,q1,q2,q3]) rfl ?_
  rw [HQ.out]
  exact ⟨⟨noV,rfl,noV_at _,noV_new _⟩,hY⟩
 | true =>
  obtain ⟨rfl,ht⟩ := hR.yes hh
  obtain rfl := hT.is s t n hh ht
  have HQ : Hid (rdD D T s = parseF (T s)) := by
   show rdD D T s = _
   unfold rdD; rw [if_pos hh]
  have HP := parse_new (T s) w1 hE2
  have q5 : errV 0 = .nilIface := rfl
  rw [q5]
  clear hR hh hR0 hE1 hE2 h hx q5 ht
  go_wp2_with fail
  refine HP.mono ?_
  rintro e w2 ⟨⟨v,rfl,hA,hNw⟩,hb3⟩
  have hR2 : w2.heap[w.heap.size]? = some (.cells #[.slice none 0 0,.slice none 0 0,.slice none 0 0,.slice none 0 0] 116 (0,0)) := (hb3.block _ hl2).trans hR1
  have hb4 := hb2.trans (hb3.mono hb2.size)
  have q0 : w2.cell? ⟨w.heap.size,0,none⟩ = some (.slice none 0 0) := by simp [World.cell?,hR2]
  have q1 : w2.cell? ⟨w.heap.size,1,none⟩ = some (.slice none 0 0) := by simp [World.cell?,hR2]
  have q2 : w2.cell? ⟨w.heap.size,2,none⟩ = some (.slice none 0 0) := by simp [World.cell?,hR2]
  have q3 : w2.cell? ⟨w.heap.size,3,none⟩ = some (.slice none 0 0) := by simp [World.cell?,hR2]
  have q4 : ∀ i,w2.frozen? ⟨w.heap.size,i,none⟩ = false := fun i => by simp [World.frozen?,hR2]
  obtain ⟨F,hF⟩ : ∃ F,(parseF (T s)).2 = F := ⟨_,rfl⟩
  obtain ⟨ev,hEv⟩ : ∃ ev,errV (parseF (T s)).1 = ev := ⟨_,rfl⟩
  have HF : Hid ((parseF (T s)).2 = F) := hF
  have HEv : Hid (errV (parseF (T s)).1 = ev) := hEv
  rw [hF] at hA hNw ⊢
  rw [hEv]
  obtain ⟨aN,cN,aW,cW,aS,cS,aT,cT⟩ := v
  have hY := below_store4 hb4 (Nat.le_refl w.heap.size) (.slice aN F.nN cN) (.slice aW F.nW cW) (.slice aS F.nS cS) (.slice aT F.nT cT)
  have hAY := hA.store4 hR2 aN F.nN cN aW F.nW cW aS F.nS cS aT F.nT cT
  unfold ObjV.cells
  clear hR2 hA hb4 hb3 hb2 HP hF hEv hR1 hb1
  go_wp2
  refine bodyPost_ret (v := .tuple #[.agg #[.slice aN F.nN cN,.slice aW F.nW cW,.slice aS F.nS cS,.slice aT F.nT cT],ev]) (by simp [results,Tryz.results88,go_sem,q0,q1,q2,q3]) rfl ?_
  rw [HQ.out,HF.out,HEv.out]
  exact ⟨⟨⟨aN,cN,aW,cW,aS,cS,aT,cT⟩,rfl,hAY,hNw.lower (by omega)⟩,hY⟩
abbrev OwnTx (w : World) (B : Nat) (v : Value) (N : List ByteArray) : Prop := w.ownsRow B 9 1 v N.length (N.map Value.string)
theorem ownTx_row {w : World} {B : Nat} {v : Value} {N : List ByteArray} (h : OwnTx w B v N) : ∃ a c,v = .slice a N.length c /\ N.length <= c /\ RowAt w a N.length fun i => .string (N.getD i ⟨#[]⟩) := by
 obtain ⟨a,c,rfl,hc⟩ := owns_shape h
 refine ⟨a,c,rfl,hc,?_⟩
 by_cases h0 : N.length = 0
 ·exact .inl h0
 ·have key : ∀ i,i < N.length -> ∃ g,a = some ⟨g,0,none⟩ /\ B <= g /\ w.cell? ⟨g,i,none⟩ = some (.string (N.getD i ⟨#[]⟩)) := fun i hi =>
   owns_cell h (by rw [List.getElem?_map,List.getElem?_eq_getElem hi,List.getD_eq_getElem?_getD,List.getElem?_eq_getElem hi]; rfl)
  obtain ⟨g,ha,_,_⟩ := key 0 (by omega)
  refine .inr ⟨g,0,ha,fun i hi => ?_⟩
  obtain ⟨g1,ha1,_,h1⟩ := key i hi
  rw [ha] at ha1
  injection ha1 with ha1
  injection ha1 with ha1
  subst ha1
  simpa using h1
def SameOrNew (B : Nat) (v u : Value) : Prop := u.ownBlock = v.ownBlock ∨ ∃ j,u.ownBlock = some j /\ B <= j
theorem growTx {B : Nat} {w : World} {v : Value} {N : List ByteArray} (s : ByteArray) (hB : B <= w.heap.size) (h : OwnTx w B v N) (hn : N.length < 1000000) :
 ∃ v' W,(Builtin.append_ #[72,72] 72 #[v,.slice (some ⟨w.heap.size,0,none⟩) 1 1]).run Tryz.prog (w.alloc (.cells #[.string s] 9)) = .ok v' W /\ OwnTx W B v' (N ++ [s]) /\ (w.alloc (.cells #[.string s] 9)).grownBy W v.ownBlock /\ SameOrNew w.heap.size v v' := by
 have hinfo : (Tryz.prog.info? 9).map (fun i => (i.zero,i.size,i.bytes)) = some (some (.string ⟨#[]⟩),1,16) := by kernel_rfl
 obtain ⟨i,hi,hzz⟩ := Option.map_eq_some_iff.1 hinfo
 simp only [Prod.mk.injEq] at hzz
 obtain ⟨hz,hs,hb⟩ := hzz
 obtain ⟨v',W,h1,h2,h3,_,h5⟩ := run_append_own_at (P := Tryz.prog) (w.alloc (.cells #[.string s] 9)) B 72 72 9 i (.string ⟨#[]⟩) 1 16 Tryz.underlying72 hi hz hs hb rfl (by decide) v N.length _ (h.alloc _) ⟨w.heap.size,0,none⟩ 1 1 [.string s] rfl
  (fun j u hj => by
    match j,hj with
    | 0,hj => simp at hj; subst hj; simp [go_sem,Addr.add]
    | j + 1,hj => simp at hj) (fun u hu => by simp at hu; subst hu; rfl) (by simp only [maxLen]; omega) (by omega) (by simp; omega)
 refine ⟨v',W,h1,?_,h3,?_⟩
 ·show W.ownsRow B 9 1 v' (N ++ [s]).length ((N ++ [s]).map Value.string)
  rw [List.length_append,List.map_append]
  exact h2
 ·rcases h5 with h5 | h5
  ·exact .inl h5
  ·exact .inr ⟨_,h5,by simp⟩
theorem RowAt.grown {w W : World} {a : Option Addr} {n : Nat} {f : Nat -> Value} {row : Option Nat} (h : RowAt w a n f) (hg : w.grownBy W row) (hs : ∀ b o,0 < n -> a = some ⟨b,o,none⟩ -> some b ≠ row) : RowAt W a n f := by
 rcases h with h | ⟨b,o,ha,hc⟩
 ·exact .inl h
 ·by_cases h0 : n = 0
  ·exact .inl h0
  ·exact .inr ⟨b,o,ha,fun i hi => hg.cell (hc i hi) (hs b o (by omega) ha)⟩
theorem anyTo_mem {N : List ByteArray} {s : ByteArray} : anyTo (fun j => decide (N.getD j ⟨#[]⟩ = s)) N.length = memB N s := by
 have key : ∀ k,k <= N.length -> anyTo (fun j => decide (N.getD j ⟨#[]⟩ = s)) k = memB (N.take k) s := by
  intro k
  induction k with
  | zero => intro _; rfl
  | succ k ih =>
   intro hk
   have e : N.take (k + 1) = N.take k ++ [N[k]] := by rw [List.take_succ_eq_append_getElem (by omega)]
   rw [e]
   show (anyTo _ k || decide (N.getD k ⟨#[]⟩ = s)) = _
   rw [ih (by omega),List.getD_eq_getElem?_getD,List.getElem?_eq_getElem (by omega : k < N.length)]
   unfold memB
   rw [List.any_append]
   simp
 have := key N.length (Nat.le_refl _)
 rwa [List.take_length] at this
theorem grownBy_refl (w : World) (row : Option Nat) : w.grownBy w row := ⟨rfl,rfl,rfl,Nat.le_refl _,fun _ _ _ => rfl⟩
set_option maxHeartbeats 2000000 in
theorem join_any (w : World) (B : Nat) (v : Value) (N : List ByteArray) (aN : Option Addr) (cN : Nat) (o : ObjF) (h : OwnTx w B v N) (hr : RowAt w aN o.nN fun i => .string (o.needs i)) (hsep : ∀ b f,0 < o.nN -> aN = some ⟨b,f,none⟩ -> some b ≠ v.ownBlock) (hB : B <= w.heap.size) (hn : N.length <= 1000) (hm : o.nN <= 1000) :
 Calls Tryz.prog 89 #[v,.slice aN o.nN cN] w fun e w' => (∃ v',e = .returned v' /\ OwnTx w' B v' (joinL N (needsTo o o.nN)) /\ SameOrNew w.heap.size v v') /\ w.grownBy w' v.ownBlock := by
 go_enter Tryz.func89,Tryz.ntmps89
 go_wp2
 go_loopw [0,9] (fun x z wr => ∃ (k : Nat) (u : Value),k <= o.nN /\ z = .int .i64 k /\ x = u /\ OwnTx wr B u (joinL N (needsTo o k)) /\ SameOrNew w.heap.size v u /\ w.grownBy wr v.ownBlock) (fun _ z _ => o.nN - (intOf z).toNat)
 case atStart => exact ⟨0,v,Nat.zero_le _,rfl,rfl,h,.inl rfl,grownBy_refl _ _⟩
 case round =>
  obtain ⟨k,u,hk,rfl,rfl,ho,hsn,hg⟩ := hrel
  have hlen := joinL_len N (needsTo o k)
  have hln : (needsTo o k).length = k := by simp [needsTo]
  by_cases hlt : k < o.nN
  ·have hrk := hr.grown hg hsep
   rcases hrk with h0 | ⟨b,f,rfl,hc⟩
   ·omega
   have hck := hc k hlt
   obtain ⟨au,cu,rfl,_,hru⟩ := ownTx_row ho
   have HC := contains_any (fun i => (joinL N (needsTo o k)).getD i ⟨#[]⟩) au (joinL N (needsTo o k)).length cu (o.needs k) wr (by omega) hru
   rw [anyTo_mem] at HC
   have hsz : B <= wr.heap.size := Nat.le_trans hB hg.size
   have hsucc := joinL_snoc N (needsTo o k) (o.needs k)
   rw [<- needsTo_succ] at hsucc
   clear hc hru
   cases hmem : memB (joinL N (needsTo o k)) (o.needs k) with
   | true =>
    rw [hmem] at HC
    rw [if_pos hmem] at hsucc
    have ho2 : OwnTx wr B (.slice au (joinL N (needsTo o k)).length cu) (joinL N (needsTo o (k + 1))) := by rw [hsucc]; exact ho
    clear hsucc hmem ho
    go_wp2_with fail
    refine HC.mono ?_
    rintro e w' ⟨rfl,rfl⟩
    clear HC
    go_wp2
    go_roundw
    case rel => exact ⟨k + 1,_,by omega,by go_num,rfl,ho2,hsn,hg⟩
    case measure => simp [intOf]; omega
   | false =>
    rw [hmem] at HC
    rw [if_neg (by simp [hmem])] at hsucc
    obtain ⟨v1,W1,happ1,hO1,hg1,hsn1⟩ := growTx (o.needs k) hsz ho (by omega)
    rw [<- hsucc] at hO1
    have hg2 : w.grownBy W1 v.ownBlock := (hg.andThen (World.grownBy_alloc wr (.cells #[.string (o.needs k)] 9) none) (fun j hj => by cases hj)).andThen hg1 (fun j hj => by
     rcases hsn with e | ⟨j',e,hj'⟩
     ·rw [e] at hj; exact .inr hj
     ·rw [e] at hj; injection hj with hj; subst hj; exact .inl hj')
    have hsn2 : SameOrNew w.heap.size v v1 := by
     rcases hsn1 with e | ⟨j',e,hj'⟩
     ·rcases hsn with e2 | ⟨j2,e2,hj2⟩
      ·exact .inl (e.trans e2)
      ·exact .inr ⟨j2,e.trans e2,hj2⟩
     ·exact .inr ⟨j',e,Nat.le_trans hg.size hj'⟩
    clear hsucc hmem ho hg1 hsn1 hsn hg
    go_wp2_with fail
    refine HC.mono ?_
    rintro e w' ⟨rfl,rfl⟩
    clear HC
    go_wp2_with (at_builtin; refine list_run rfl (.tmp 17) (.tmp 19) 72 rfl (.slice au (joinL N (needsTo o k)).length cu) (.slice (some ⟨wr.heap.size,0,none⟩) 1 1) _ rfl rfl happ1 ?_)
    go_roundw
    case rel => exact ⟨k + 1,v1,by omega,by go_num,rfl,hO1,hsn2,hg2⟩
    case measure => simp [intOf]; omega
  ·have e : k = o.nN := by omega
   subst e
   go_wp2
   go_ret
   exact ⟨⟨_,rfl,ho,hsn⟩,hg⟩
end Go.Proofs.YthdccmjdbcllkaaGreatDoor
namespace Go.Proofs.YthdccmjdbcllkaaGreatDoor
open Go.RowKit
def objC (V : Nat -> ObjV) (O : Nat -> ObjF) (i : Nat) : List Value := [.slice (V i).aN (O i).nN (V i).cN,.slice (V i).aW (O i).nW (V i).cW,.slice (V i).aS (O i).nS (V i).cS,.slice (V i).aT (O i).nT (V i).cT]
theorem objC_len (V : Nat -> ObjV) (O : Nat -> ObjF) (i : Nat) : (objC V O i).length = 4 := rfl
abbrev OwnObjs (B : Nat) (w : World) (v : Value) (n : Nat) (V : Nat -> ObjV) (O : Nat -> ObjF) : Prop := w.ownsRow B 116 4 v n (joinC (objC V O) n)
theorem objs_one {V : Nat -> ObjV} {O : Nat -> ObjF} {n : Nat} {u : Value} (h : u ∈ joinC (objC V O) n) : u.oneCell' = true := by
 obtain ⟨i,_,hu⟩ := joinC_mem h
 simp [objC] at hu
 rcases hu with rfl | rfl | rfl | rfl <;> rfl
theorem OwnObjs.row {B : Nat} {w : World} {v : Value} {n : Nat} {V : Nat -> ObjV} {O : Nat -> ObjF} (h : OwnObjs B w v n V O) (hA : ∀ i,i < n -> ObjAt w (V i) (O i)) : ∃ a c,v = .slice a n c /\ n <= c /\ ObjsRow w a n V O := by
 obtain ⟨a,c,rfl,hc⟩ := owns_shape h
 refine ⟨a,c,rfl,hc,?_⟩
 by_cases h0 : n = 0
 ·exact .inl h0
 ·have cell : ∀ i k,i < n -> k < 4 -> ∀ u,(objC V O i)[k]? = some u -> ∃ g,a = some ⟨g,0,none⟩ /\ B <= g /\ w.cell? ⟨g,i * 4 + k,none⟩ = some u := fun i k hi hk u hu =>
   owns_cell h (by rw [joinC_at (s := 4) (fun i _ => objC_len V O i) hi hk]; exact hu)
  obtain ⟨g,ha,_,_⟩ := cell 0 0 (by omega) (by omega) _ rfl
  refine .inr ⟨g,0,ha,fun i hi => ?_⟩
  have get : ∀ k,k < 4 -> ∀ u,(objC V O i)[k]? = some u -> w.cell? ⟨g,i * 4 + k,none⟩ = some u := fun k hk u hu => by
   obtain ⟨g',ha',_,hc'⟩ := cell i k hi hk u hu
   rw [ha] at ha'
   injection ha' with ha'
   injection ha' with ha'
   subst ha'
   exact hc'
  exact ⟨by simpa using get 0 (by omega) _ rfl,by simpa using get 1 (by omega) _ rfl,by simpa using get 2 (by omega) _ rfl,by simpa using get 3 (by omega) _ rfl,hA i hi⟩
theorem owns_base {w : World} {B B' : Nat} {e : TypeId} {s n : Nat} {v : Value} {xs : List Value} (h : w.ownsRow B e s v n xs) (hB : B' <= B) : w.ownsRow B' e s v n xs := by
 refine ⟨h.1,?_⟩
 rcases h.2 with h | ⟨g,cap,cur,e1,e2,e3⟩
 ·exact .inl h
 ·exact .inr ⟨g,cap,cur,e1,Nat.le_trans hB e2,e3⟩
theorem ownObjs_nil (B : Nat) (w : World) (V : Nat -> ObjV) (O : Nat -> ObjF) : OwnObjs B w (.slice none 0 0) 0 V O := World.ownsRow_nil w B 116 4
end Go.Proofs.YthdccmjdbcllkaaGreatDoor
namespace Go.Proofs.YthdccmjdbcllkaaGreatDoor
open Go.RowKit Go.Maps
def RowSep (a : Option Addr) (n : Nat) (row : Option Nat) : Prop := ∀ b f,0 < n -> a = some ⟨b,f,none⟩ -> some b ≠ row
structure ObjSep (v : ObjV) (o : ObjF) (row : Option Nat) : Prop where
 needs : RowSep v.aN o.nN row
 words : RowSep v.aW o.nW row
 syms : RowSep v.aS o.nS row
 ties : RowSep v.aT o.nT row
theorem NewRow.sep {B n : Nat} {a : Option Addr} {row : Option Nat} (h : NewRow B a n) (hr : ∀ j,row = some j -> j < B) : RowSep a n row := fun b f hn ha e => by
 rcases h with h | ⟨b',f',h1,h2⟩
 ·omega
 ·rw [ha] at h1
  injection h1 with h1
  injection h1 with h1
  subst h1
  have := hr b e.symm
  omega
theorem ObjNew.sep {B : Nat} {v : ObjV} {o : ObjF} {row : Option Nat} (h : ObjNew B v o) (hr : ∀ j,row = some j -> j < B) : ObjSep v o row := ⟨h.needs.sep hr,h.words.sep hr,h.syms.sep hr,h.ties.sep hr⟩
theorem ObjAt.grown {w W : World} {v : ObjV} {o : ObjF} {row : Option Nat} (h : ObjAt w v o) (hg : w.grownBy W row) (hs : ObjSep v o row) : ObjAt W v o where
 needs := h.needs.grown hg hs.needs
 words := h.words.grown hg hs.words
 syms := by
  rcases h.syms with h | ⟨b,f,ha,hc⟩
  ·exact .inl h
  ·by_cases h0 : o.nS = 0
   ·exact .inl h0
   ·have hq := hs.syms b f (by omega) ha
    exact .inr ⟨b,f,ha,fun i hi => ⟨hg.cell (hc i hi).1 hq,hg.cell (hc i hi).2.1 hq,hg.cell (hc i hi).2.2 hq⟩⟩
 ties := by
  rcases h.ties with h | ⟨b,f,ha,hc⟩
  ·exact .inl h
  ·by_cases h0 : o.nT = 0
   ·exact .inl h0
   ·have hq := hs.ties b f (by omega) ha
    exact .inr ⟨b,f,ha,fun i hi => ⟨hg.cell (hc i hi).1 hq,hg.cell (hc i hi).2.1 hq,hg.cell (hc i hi).2.2.1 hq,hg.cell (hc i hi).2.2.2.1 hq,hg.cell (hc i hi).2.2.2.2 hq⟩⟩
 capN := h.capN
 capS := h.capS
theorem rowSep_next {w : World} {B : Nat} {a : Option Addr} {n : Nat} {u u' : Value} (hlt : ∀ b f,0 < n -> a = some ⟨b,f,none⟩ -> b < w.heap.size) (h : RowSep a n u.ownBlock) (hB : w.heap.size <= B) (hs : SameOrNew B u u') : RowSep a n u'.ownBlock := fun b f hn ha e => by
 rcases hs with e2 | ⟨j,e2,hj⟩
 ·rw [e2] at e; exact h b f hn ha e
 ·rw [e2] at e
  injection e with e
  subst e
  have := hlt b f hn ha
  omega
theorem ObjSep.next {w : World} {B : Nat} {v : ObjV} {o : ObjF} {u u' : Value} (hA : ObjAt w v o) (h : ObjSep v o u.ownBlock) (hB : w.heap.size <= B) (hs : SameOrNew B u u') : ObjSep v o u'.ownBlock where
 needs := rowSep_next (w := w) (fun b f hn ha => by
  rcases hA.needs with h | ⟨b',f',h1,hc⟩
  ·omega
  ·rw [ha] at h1; injection h1 with h1; injection h1 with h1; subst h1; exact World.block_lt_of_cell? _ _ (hc 0 hn)) h.needs hB hs
 words := rowSep_next (w := w) (fun b f hn ha => by
  rcases hA.words with h | ⟨b',f',h1,hc⟩
  ·omega
  ·rw [ha] at h1; injection h1 with h1; injection h1 with h1; subst h1; exact World.block_lt_of_cell? _ _ (hc 0 hn)) h.words hB hs
 syms := rowSep_next (w := w) (fun b f hn ha => by
  rcases hA.syms with h | ⟨b',f',h1,hc⟩
  ·omega
  ·rw [ha] at h1; injection h1 with h1; injection h1 with h1; subst h1; exact World.block_lt_of_cell? _ _ (hc 0 hn).1) h.syms hB hs
 ties := rowSep_next (w := w) (fun b f hn ha => by
  rcases hA.ties with h | ⟨b',f',h1,hc⟩
  ·omega
  ·rw [ha] at h1; injection h1 with h1; injection h1 with h1; subst h1; exact World.block_lt_of_cell? _ _ (hc 0 hn).1) h.ties hB hs
theorem growObj {B : Nat} {w : World} {x : Value} {n : Nat} {V V' : Nat -> ObjV} {O : Nat -> ObjF} (v : ObjV) (hB : B <= w.heap.size) (h : OwnObjs B w x n V O) (hn : n < 1000) (hV : ∀ i,i < n -> V i = V' i) (hv : V' n = v) :
 ∃ x' W,(Builtin.append_ #[96,96] 96 #[x,.slice (some ⟨w.heap.size,0,none⟩) 1 1]).run Tryz.prog (w.alloc (.cells #[.slice v.aN (O n).nN v.cN,.slice v.aW (O n).nW v.cW,.slice v.aS (O n).nS v.cS,.slice v.aT (O n).nT v.cT] 116)) = .ok x' W /\
  OwnObjs B W x' (n + 1) V' O /\ (w.alloc (.cells #[.slice v.aN (O n).nN v.cN,.slice v.aW (O n).nW v.cW,.slice v.aS (O n).nS v.cS,.slice v.aT (O n).nT v.cT] 116)).grownBy W x.ownBlock /\ SameOrNew w.heap.size x x' := by
 have hinfo : (Tryz.prog.info? 116).map (fun i => (i.zero,i.size,i.bytes)) = some (some (.agg #[.slice none 0 0,.slice none 0 0,.slice none 0 0,.slice none 0 0]),4,96) := by kernel_rfl
 obtain ⟨i,hi,hzz⟩ := Option.map_eq_some_iff.1 hinfo
 simp only [Prod.mk.injEq] at hzz
 obtain ⟨hz,hs,hb⟩ := hzz
 obtain ⟨x',W,h1,h2,h3,_,h5⟩ := run_append_own_at (P := Tryz.prog) (w.alloc (.cells #[.slice v.aN (O n).nN v.cN,.slice v.aW (O n).nW v.cW,.slice v.aS (O n).nS v.cS,.slice v.aT (O n).nT v.cT] 116)) B 96 96 116 i _ 4 96 Tryz.underlying96 hi hz hs hb rfl (by decide) x n _ (h.alloc _) ⟨w.heap.size,0,none⟩ 1 1 (objC V' O n) rfl
  (fun j u hj => by
    simp only [objC,hv] at hj
    match j,hj with
    | 0,hj => simp at hj; subst hj; simp [go_sem,Addr.add]
    | 1,hj => simp at hj; subst hj; simp [go_sem,Addr.add]
    | 2,hj => simp at hj; subst hj; simp [go_sem,Addr.add]
    | 3,hj => simp at hj; subst hj; simp [go_sem,Addr.add]
    | j + 4,hj => simp at hj) (fun u hu => objs_one (n := n + 1) (V := V') (O := O) (by show u ∈ joinC (objC V' O) n ++ objC V' O n; exact List.mem_append_right _ hu)) (by simp only [maxLen]; omega) (by omega) (by simp; omega)
 refine ⟨x',W,h1,?_,h3,?_⟩
 ·show W.ownsRow B 116 4 x' (n + 1) (joinC (objC V' O) n ++ objC V' O n)
  rw [joinC_congr (g := objC V' O) (h := objC V O) (fun i hi => by simp [objC,hV i hi])]
  exact h2
 ·rcases h5 with h5 | h5
  ·exact .inl h5
  ·exact .inr ⟨_,h5,by simp⟩
theorem ownsSep {w : World} {B B' : Nat} {e e' : TypeId} {s s' n n' : Nat} {v v' : Value} {xs xs' : List Value} (h : w.ownsRow B e s v n xs) (h' : w.ownsRow B' e' s' v' n' xs') (he : e ≠ e') : v.ownBlock = none ∨ v.ownBlock ≠ v'.ownBlock := by
 rcases h.2 with ⟨rfl,_⟩ | ⟨g,cap,cur,rfl,_,hg,_⟩
 ·exact .inl rfl
 ·rcases h'.2 with ⟨rfl,_⟩ | ⟨g',cap',cur',rfl,_,hg',_⟩
  ·exact .inr (by simp [Value.ownBlock])
  ·refine .inr fun e2 => ?_
   simp [Value.ownBlock] at e2
   subst e2
   rw [hg] at hg'
   injection hg' with hg'
   injection hg' with _ h2 _
   exact he h2
structure ObjsIn (w : World) (B : Nat) (x : Value) (n : Nat) (V : Nat -> ObjV) (O : Nat -> ObjF) : Prop where
 own : OwnObjs B w x n V O
 at' : ∀ j,j < n -> ObjAt w (V j) (O j)
inductive OfEnd (w : World) (B : Nat) (rd : ByteArray -> Nat × ObjF) (root : ByteArray) : Ending -> Prop
 | bad (F i : Nat) (h : OfIs rd root F i) (hf : F ≠ 0) : OfEnd w B rd root (.returned (.tuple #[.slice none 0 0,.slice none 0 0,errV F]))
 | ok (i : Nat) (u x : Value) (V : Nat -> ObjV) (h : OfIs rd root 0 i) (hu : OwnTx w B u (namesAt rd root i)) (hx : ObjsIn w B x i V fun j => (rd (nmAt rd root j)).2) : OfEnd w B rd root (.returned (.tuple #[u,x,.nilIface]))
theorem nm_size {D : DataW Unit} {T : ByteArray -> ByteArray} {root : ByteArray} {i : Nat} (hroot : root.size <= maxLen) (hr : ReadTo (rdD D T) root i) (hi : i < (namesAt (rdD D T) root i).length) : (nmAt (rdD D T) root i).size <= maxLen := by
 by_cases h0 : i = 0
 ·subst h0; exact hroot
 ·have hget := names_get (rd := rdD D T) (root := root) (Nat.le_refl i) hi
  obtain ⟨k,q,hk,_,hq,e⟩ := names_wanted hget (by omega) hr
  have := (rd_ok (hr k hk).2).needs q hq
  have hl := nameF_len this
  rw [e] at hl
  have : (nmAt (rdD D T) root i).data.toList.length = (nmAt (rdD D T) root i).size := by simp
  simp only [maxLen]
  omega
set_option maxRecDepth 100000 in
set_option maxHeartbeats 4000000 in
theorem of_any (w : World) (p bm : Nat) (D : DataW Unit) (k : Nat) (T : ByteArray -> ByteArray) (root : ByteArray) (h : FilesAt w p bm D k) (hI : Inv D k) (hT : Texts D T) (hE : Env w) (hroot : root.size <= maxLen) :
 Calls Tryz.prog 66 #[.pointer (some ⟨p,0,none⟩),.string root] w fun e w' => OfEnd w' w.heap.size (rdD D T) root e /\ Below w.heap.size w w' := by
 have hO0 : OwnTx (w.alloc (.cells #[.string root] 9)) w.heap.size (.slice (some ⟨w.heap.size,0,none⟩) 1 1) [root] := by
  have e : (w.alloc (.cells #[.string root] 9)).heap[w.heap.size]? = some (.cells #[.string root] 9) := by
   show (w.heap.push _)[w.heap.size]? = _
   rw [Array.getElem?_push_size]
  exact ⟨rfl,.inr ⟨w.heap.size,1,#[.string root],rfl,Nat.le_refl _,e,Nat.le_refl _,by simp [maxLen],rfl,rfl⟩⟩
 have hx0 : Below w.heap.size w (w.alloc (.cells #[.string root] 9)) := (Below.refl _ _).alloc (Nat.le_refl _) _
 have hfew := rd_few (T := T) hI
 generalize hrd : rdD D T = rd at *
 have HRD : Hid (rdD D T = rd) := hrd
 clear hrd
 go_enter Tryz.func66,Tryz.ntmps66
 go_wp2
 go_loopw [7,8,9] (fun a b z wr => ∃ (i : Nat) (u x : Value) (V : Nat -> ObjV),i <= 6 /\ z = .int .i64 i /\ a = u /\ b = x /\ OwnTx wr w.heap.size u (namesAt rd root i) /\ ObjsIn wr w.heap.size x i V (fun j => (rd (nmAt rd root j)).2) /\
  (∀ j,j < i -> ObjSep (V j) (rd (nmAt rd root j)).2 u.ownBlock /\ ObjSep (V j) (rd (nmAt rd root j)).2 x.ownBlock) /\ Hid (ReadTo rd root i) /\ Below w.heap.size w wr) (fun _ _ z _ => 7 - (intOf z).toNat)
 case atStart => exact ⟨0,_,_,fun _ => noV,by omega,rfl,rfl,rfl,hO0,⟨World.ownsRow_nil _ _ _ _,fun j hj => by omega⟩,fun j hj => by omega,fun j hj => by omega,hx0⟩
 case round =>
  clear hO0 hx0
  obtain ⟨i,u,x,V,hi6,rfl,rfl,rfl,ho,hx,hsep,HR,hb⟩ := hrel
  have hnn : ∀ j,j < i -> (rd (nmAt rd root j)).2.nN <= 4 := fun j hj => by
   have h1 := (HR.out j hj).2
   rw [<- HRD.out] at h1 ⊢
   exact (rd_ok h1).nN
  have hlen := names_len rd root i hnn
  by_cases hlt : i < (namesAt rd root i).length
  ·have hget := names_get (rd := rd) (root := root) (Nat.le_refl i) hlt
   have hsz : (nmAt rd root i).size <= maxLen := by
    rw [<- HRD.out] at HR hlt ⊢
    exact nm_size hroot HR.out hlt
   have hRd := scopeRead_any wr p bm D k T (nmAt rd root i) (h.later hb) hT (hE.later hb) hsz
   rw [HRD.out] at hRd
   obtain ⟨au,cu,rfl,hcu,hru⟩ := ownTx_row ho
   have hB := hb.size
   rcases hru with h0 | ⟨bu,fu,rfl,hcn⟩
   ·omega
   have hci : wr.cell? ⟨bu,fu + i,none⟩ = some (.string (nmAt rd root i)) := hcn i hlt
   clear hcn hget
   have hltu : ∀ j,(Value.slice (some ⟨bu,fu,none⟩) (namesAt rd root i).length cu).ownBlock = some j -> j < wr.heap.size := fun j e => (ho.lt j e).2
   have hltx : ∀ j,u8.ownBlock = some j -> j < wr.heap.size := fun j e => (hx.own.lt j e).2
   by_cases hf : (rd (nmAt rd root i)).1 = 0
   ·have HR2 : Hid (ReadTo rd root (i + 1)) := fun j hj => by
     by_cases e : j = i
     ·subst e; exact ⟨hlt,hf⟩
     ·exact HR.out j (by omega)
    have hi7 : i + 1 <= 6 := HR2.out.few hfew
    have hok : ObjOk (rd (nmAt rd root i)).2 := by
     rw [<- HRD.out] at hf ⊢
     exact rd_ok hf
    have hn4 := hok.nN
    rw [hf] at hRd
    have q5 : errV 0 = .nilIface := rfl
    rw [q5] at hRd
    clear q5 hf
    go_wp2_with fail
    refine hRd.mono ?_
    rintro e w1 ⟨⟨v,rfl,hA,hNw⟩,hb1⟩
    clear hRd hci
    have ho1 := owns_below ho hb1
    have hx1 : ∀ j,j < i -> ObjAt w1 (V j) (rd (nmAt rd root j)).2 := fun j hj => (hx.at' j hj).later hb1
    have hxo1 := owns_below hx.own hb1
    have hb2 := hb.trans (hb1.mono hb.size)
    have hs1 := hb1.size
    have hNu := hNw.sep hltu
    have hNx := hNw.sep hltx
    clear hNw hltu hltx hb1 hb hx ho
    obtain ⟨aN,cN,aW,cW,aS,cS,aT,cT⟩ := v
    have hal : ∀ ob : Obj,Below w1.heap.size w1 (w1.alloc ob) := fun ob => (Below.refl _ _).alloc (Nat.le_refl _) ob
    obtain ⟨x',W,happ,hxW,hgW,hsnW⟩ := growObj (w := w1.alloc (.cells #[.slice aN (rd (nmAt rd root i)).2.nN cN,.slice aW (rd (nmAt rd root i)).2.nW cW,.slice aS (rd (nmAt rd root i)).2.nS cS,.slice aT (rd (nmAt rd root i)).2.nT cT] 116)) (V := V) (V' := fun j => if j = i then ⟨aN,cN,aW,cW,aS,cS,aT,cT⟩ else V j) ⟨aN,cN,aW,cW,aS,cS,aT,cT⟩ (by simp; omega) (hxo1.alloc _) (by omega) (fun j hj => by simp [Nat.ne_of_lt hj]) (by simp)
    have e1 : (w1.alloc (.cells #[.slice aN (rd (nmAt rd root i)).2.nN cN,.slice aW (rd (nmAt rd root i)).2.nW cW,.slice aS (rd (nmAt rd root i)).2.nS cS,.slice aT (rd (nmAt rd root i)).2.nT cT] 116)).heap.size = w1.heap.size + 1 := by simp
    rw [e1] at happ hsnW
    clear e1
    have hbA : Below w1.heap.size w1 ((w1.alloc (.cells #[.slice aN (rd (nmAt rd root i)).2.nN cN,.slice aW (rd (nmAt rd root i)).2.nW cW,.slice aS (rd (nmAt rd root i)).2.nS cS,.slice aT (rd (nmAt rd root i)).2.nT cT] 116)).alloc (.cells #[.slice aN (rd (nmAt rd root i)).2.nN cN,.slice aW (rd (nmAt rd root i)).2.nW cW,.slice aS (rd (nmAt rd root i)).2.nS cS,.slice aT (rd (nmAt rd root i)).2.nT cT] 116)) := (hal _).alloc (by simp) _
    have hoW : OwnTx W w.heap.size (.slice (some ⟨bu,fu,none⟩) (namesAt rd root i).length cu) (namesAt rd root i) := ((ho1.alloc _).alloc _).kept hgW (ownsSep ho1 hxo1 (by decide))
    have hxW1 : ∀ j,j < i -> ObjAt W (V j) (rd (nmAt rd root j)).2 := fun j hj => ((hx1 j hj).later hbA).grown hgW (hsep j hj).2
    have hAW : ObjAt W ⟨aN,cN,aW,cW,aS,cS,aT,cT⟩ (rd (nmAt rd root i)).2 := (hA.later hbA).grown hgW hNx
    have hne : some w1.heap.size ≠ u8.ownBlock := fun e => by have := (hxo1.lt _ e.symm).2; omega
    have c0 : W.cell? ⟨w1.heap.size,0,none⟩ = some (.slice aN (rd (nmAt rd root i)).2.nN cN) := hgW.cell (by simp [go_sem]) hne
    have hbW : Below w.heap.size w W := (hb2.trans (hbA.mono hb2.size)).grown hgW (Nat.le_trans hb2.size hbA.size) (fun j e => (hxo1.lt j e).1)
    have HJ := join_any W w.heap.size (.slice (some ⟨bu,fu,none⟩) (namesAt rd root i).length cu) (namesAt rd root i) aN cN (rd (nmAt rd root i)).2 hoW hAW.needs hNu.needs hbW.size (by omega) (by omega)
    have hsx2 : ∀ j,j < i + 1 -> ObjSep ((fun j => if j = i then (⟨aN,cN,aW,cW,aS,cS,aT,cT⟩ : ObjV) else V j) j) (rd (nmAt rd root j)).2 x'.ownBlock := fun j hj => by
     by_cases e : j = i
     ·subst e
      simp only [if_pos]
      exact ObjSep.next hA hNx (Nat.le_succ _) hsnW
     ·simp only [if_neg e]
      exact ObjSep.next (hx1 j (by omega)) (hsep j (by omega)).2 (Nat.le_succ _) hsnW
    have hsu : ∀ j,j < i + 1 -> ObjAt W ((fun j => if j = i then (⟨aN,cN,aW,cW,aS,cS,aT,cT⟩ : ObjV) else V j) j) (rd (nmAt rd root j)).2 /\ ObjSep ((fun j => if j = i then (⟨aN,cN,aW,cW,aS,cS,aT,cT⟩ : ObjV) else V j) j) (rd (nmAt rd root j)).2 (Value.slice (some ⟨bu,fu,none⟩) (namesAt rd root i).length cu).ownBlock := fun j hj => by
     by_cases e : j = i
     ·subst e
      simp only [if_pos]
      exact ⟨hAW,hNu⟩
     ·simp only [if_neg e]
      exact ⟨hxW1 j (by omega),(hsep j (by omega)).1⟩
    clear hx1 hA hNu hNx hsep hxW1 hAW hbA hal hb2 ho1 hxo1 hsnW hne hgW
    unfold ObjV.cells
    generalize (fun j => if j = i then (⟨aN,cN,aW,cW,aS,cS,aT,cT⟩ : ObjV) else V j) = V2 at *
    go_wp2_with (at_builtin; refine list_run rfl (.tmp 32) (.tmp 34) 96 rfl u8 (.slice (some ⟨w1.heap.size + 1,0,none⟩) 1 1) _ rfl rfl happ ?_)
    refine HJ.mono ?_
    rintro e W2 ⟨⟨u',rfl,hu',hsn'⟩,hgJ⟩
    have hxW2 : OwnObjs w.heap.size W2 x' (i + 1) V2 (fun j => (rd (nmAt rd root j)).2) := hxW.kept hgJ (ownsSep hxW hoW (by decide))
    have hA2 : ∀ j,j < i + 1 -> ObjAt W2 (V2 j) (rd (nmAt rd root j)).2 := fun j hj => (hsu j hj).1.grown hgJ (hsu j hj).2
    have hsep2 : ∀ j,j < i + 1 -> ObjSep (V2 j) (rd (nmAt rd root j)).2 u'.ownBlock /\ ObjSep (V2 j) (rd (nmAt rd root j)).2 x'.ownBlock := fun j hj => ⟨ObjSep.next (hsu j hj).1 (hsu j hj).2 (Nat.le_refl _) hsn',hsx2 j hj⟩
    have hbW2 : Below w.heap.size w W2 := hbW.grown hgJ hbW.size (fun j e => (hoW.lt j e).1)
    have hu2 : OwnTx W2 w.heap.size u' (namesAt rd root (i + 1)) := hu'
    clear HJ hu' hsn' hgJ hsu hsx2 hxW hoW hbW happ c0
    go_wp2
    go_roundw
    case rel => exact ⟨i + 1,u',x',V2,hi7,by go_num,rfl,rfl,hu2,⟨hxW2,hA2⟩,hsep2,HR2,hbW2⟩
    case measure => simp [intOf]; omega
   ·obtain ⟨z,hz⟩ : ∃ z : Int,errV (rd (nmAt rd root i)).1 = .iface 74 (.int .i64 z) := by
     cases e : (rd (nmAt rd root i)).1 with
     | zero => exact absurd e hf
     | succ f => exact ⟨_,rfl⟩
    have HE : Hid (OfIs rd root (rd (nmAt rd root i)).1 i) := .bad i HR.out hlt hf
    have H0 : Hid ((rd (nmAt rd root i)).1 ≠ 0) := hf
    have HZ : Hid (errV (rd (nmAt rd root i)).1 = .iface 74 (.int .i64 z)) := hz
    rw [hz] at hRd
    clear hf hz hsep hltu hltx
    go_wp2_with fail
    refine hRd.mono ?_
    rintro e w1 ⟨⟨v,rfl,hA,hNw⟩,hb1⟩
    obtain ⟨aN,cN,aW,cW,aS,cS,aT,cT⟩ := v
    have hb2 := hb.trans (hb1.mono hb.size)
    clear hRd hA hNw
    unfold ObjV.cells
    go_wp2
    go_ret3
    exact ⟨by rw [<- HZ.out]; exact .bad _ i HE.out H0.out,hb2.alloc hb2.size _⟩
  ·have hei : (namesAt rd root i).length = i := by
    have : i <= (namesAt rd root i).length := by
     cases i with
     | zero => omega
     | succ j =>
      have h1 := (HR.out j (by omega)).1
      have h2 : (namesAt rd root j).length <= (namesAt rd root (j + 1)).length := (names_pre rd root (Nat.le_succ j)).length_le
      omega
    omega
   have HE : Hid (OfIs rd root 0 i) := .ok i HR.out hei
   obtain ⟨au,cu,rfl,hcu,hru⟩ := ownTx_row ho
   clear hru hsep HR
   go_wp2
   go_ret3
   exact ⟨.ok i _ _ V HE.out ho hx,hb⟩
end Go.Proofs.YthdccmjdbcllkaaGreatDoor
namespace Go.Proofs.YthdccmjdbcllkaaGreatDoor
open Go.RowKit Go.Maps
structure Scoped (rd : ByteArray -> Nat × ObjF) (root : ByteArray) (n : Nat) (nm : Nat -> ByteArray) (O : Nat -> ObjF) : Prop where
 pos : 0 < n
 few : n <= 6
 root : nm 0 = root
 read : ∀ i,i < n -> rd (nm i) = (0,O i)
 once : ∀ i j,i < n -> j < n -> nm i = nm j -> i = j
 want : ∀ i,0 < i -> i < n -> ∃ k q,k < i /\ q < (O k).nN /\ (O k).needs q = nm i
 need : ∀ k q,k < n -> q < (O k).nN -> ∃ i,i < n /\ nm i = (O k).needs q
theorem scope_of {rd : ByteArray -> Nat × ObjF} {root : ByteArray} {i : Nat} (h : OfIs rd root 0 i) (hf : ∀ l : List ByteArray,l.Nodup -> (∀ s,s ∈ l -> (rd s).1 = 0) -> l.length <= 6) : Scoped rd root i (nmAt rd root) (fun j => (rd (nmAt rd root j)).2) /\ (namesAt rd root i).length = i /\ ∀ j,j < i -> (namesAt rd root i).getD j ⟨#[]⟩ = nmAt rd root j := by
 generalize hF : (0 : Nat) = F at h
 cases h with
 | bad _ _ _ hf => exact absurd hF.symm hf
 | ok _ h hi =>
  have hget : ∀ j,j < i -> (namesAt rd root i)[j]? = some (nmAt rd root j) := fun j hj => names_get (by omega) (h j hj).1
  refine ⟨⟨?_,h.few hf,rfl,fun j hj => ?_,fun a b ha hb e => ?_,fun a h0 ha => ?_,fun k q hk hq => ?_⟩,hi,fun j hj => ?_⟩
  ·have := names_one rd root i
   omega
  ·exact Prod.ext (h j hj).2 rfl
  ·have h1 := hget a ha
   have h2 := hget b hb
   rw [e] at h1
   have hla : a < (namesAt rd root i).length := by omega
   have hlb : b < (namesAt rd root i).length := by omega
   rw [List.getElem?_eq_getElem hla] at h1
   rw [List.getElem?_eq_getElem hlb] at h2
   have hnd := List.pairwise_iff_getElem.1 (names_nodup rd root i)
   have e2 : (namesAt rd root i)[a] = (namesAt rd root i)[b] := (Option.some.inj h1).trans (Option.some.inj h2).symm
   rcases Nat.lt_trichotomy a b with q | q | q
   ·exact absurd e2 (hnd a b hla hlb q)
   ·exact q
   ·exact absurd e2.symm (hnd b a hlb hla q)
  ·obtain ⟨k,q,_,h2,h3,h4⟩ := names_wanted (hget a ha) h0 h
   exact ⟨k,q,h2,h3,h4⟩
  ·have hm := names_needs (rd := rd) (root := root) hk hq
   obtain ⟨j,hj,e⟩ := List.getElem_of_mem hm
   have hj' : j < i := by omega
   have := hget j hj'
   rw [List.getElem?_eq_getElem hj] at this
   exact ⟨j,hj',by rw [<- Option.some.inj this]; exact e⟩
  ·rw [List.getD_eq_getElem?_getD,hget j hj]; rfl
end Go.Proofs.YthdccmjdbcllkaaGreatDoor
namespace Go.Proofs.YthdccmjdbcllkaaGreatDoor
open Go.RowKit
theorem sameTx_zero (a c : Option Addr) (ca cb : Nat) (w : World) :
 Calls Tryz.prog 44 #[.slice a 0 ca,.slice c 0 cb] w fun e w' => e = .returned (.bool true) /\ ∃ k,w' = w.drewN k := by
 go_enter Tryz.func44,Tryz.ntmps44
 go_wp2
 refine wp_loop_rounds 1 ?_
 rw [rounds_succ]
 go_wp2
 go_ret
 exact ⟨rfl,0,rfl⟩
set_option maxHeartbeats 400000 in
theorem sameTx_some (f : Nat -> ByteArray) (n : Nat) (bx ox cx bY oY cy : Nat) (w : World) (hm : n <= 1000000000)
 (hx : ∀ i,i < n -> w.cell? ⟨bx,ox + i,none⟩ = some (.string (f i)))
 (hy : ∀ i,i < n -> w.cell? ⟨bY,oY + i,none⟩ = some (.string (f i))) :
 Calls Tryz.prog 44 #[.slice (some ⟨bx,ox,none⟩) n cx,.slice (some ⟨bY,oY,none⟩) n cy] w fun e w' => e = .returned (.bool true) /\ ∃ k,w' = w.drewN k := by
 go_enter Tryz.func44,Tryz.ntmps44
 go_wp2
 go_loopw [5] (fun i wr => ∃ k j : Nat,k <= n /\ i = .int .i64 k /\ wr = w.drewN j) (fun i _ => n - (intOf i).toNat)
 case atStart => exact ⟨0,0,Nat.zero_le _,rfl,rfl⟩
 case round =>
  obtain ⟨k,j,hk,rfl,rfl⟩ := hrel
  by_cases hlt : k < n
  ·have hxk := hx k hlt
   have hyk := hy k hlt
   clear hx hy
   generalize f k = z at *
   go_wp2
   go_quiet (fail)
   go_wp2
   go_roundw
   case rel => exact ⟨k + 1,j + nq,by omega,by go_num,rfl⟩
   case measure => simp [intOf]; omega
  ·have hkn : k = n := by omega
   subst hkn
   clear hx hy
   go_wp2
   go_ret
   exact ⟨rfl,j,rfl⟩
theorem sameTx_true (f g : Nat -> ByteArray) (n : Nat) (a c : Option Addr) (ca cb : Nat) (w : World) (hm : n <= 1000000000)
 (hx : RowAt w a n fun i => .string (f i)) (hy : RowAt w c n fun i => .string (g i)) (he : ∀ i,i < n -> f i = g i) :
 Calls Tryz.prog 44 #[.slice a n ca,.slice c n cb] w fun e w' => e = .returned (.bool true) /\ ∃ k,w' = w.drewN k := by
 rcases hx with h0 | ⟨b,o,rfl,hx⟩
 ·subst h0
  exact sameTx_zero a c ca cb w
 ·rcases hy with h0 | ⟨b',o',rfl,hy⟩
  ·subst h0
   exact sameTx_zero _ c ca cb w
  ·exact sameTx_some f n b o ca b' o' cb w hm hx (fun i hi => by rw [hy i hi,he i hi])
end Go.Proofs.YthdccmjdbcllkaaGreatDoor
namespace Go.Proofs.YthdccmjdbcllkaaGreatDoor
open Go.RowKit Go.Maps
theorem RAt.turned {B q k k2 p bm : Nat} {w w' : World} {L : List FileR} {D : DataW Unit} (h : RAt B w q L k) (hF : FilesAt w p bm D k2) (hT : Turned p bm w w') : RAt B w' q L k := by
 obtain ⟨v,h1,h2⟩ := h.blk
 obtain ⟨es,clock,hm,_⟩ := hF.own
 have ne : ∀ {j : Nat} {c : Array Value} {t : TypeId},t ≠ 106 -> w.heap[j]? = some (.cells c t (0,0)) -> w'.heap[j]? = w.heap[j]? := fun {j c t} ht hj => by
  refine hT.block j (Array.getElem?_eq_some_iff.1 hj).1 (fun e => ?_) (fun e => ?_)
  ·rw [e,hF.blk] at hj
   injection hj with hj
   injection hj with _ hj
   exact ht hj.symm
  ·rw [e,hm] at hj
   cases hj
 refine ⟨h.lo,v,(ne (by decide) h1).trans h1,h2.1,?_⟩
 rcases h2.2 with hn | ⟨g,cap,cur,e1,e2,e3,e4⟩
 ·exact .inl hn
 ·exact .inr ⟨g,cap,cur,e1,e2,(ne (by decide) e3).trans e3,e4⟩
theorem FilesAt.turnedQ {B q k k2 p bm : Nat} {w w' : World} {L : List FileR} {D : DataW Unit} (h : FilesAt w p bm D k) (hR : RAt B w q L k2) (hT : Turned q q w w') : FilesAt w' p bm D k := by
 obtain ⟨v,h1,_⟩ := hR.blk
 obtain ⟨es,clock,hm,_⟩ := h.own
 have hp : p ≠ q := fun e => by
  have := h.blk
  rw [e,h1] at this
  injection this with this
  injection this with _ this
  exact absurd this (by decide)
 have hb : bm ≠ q := fun e => by
  rw [e,h1] at hm
  cases hm
 refine ⟨(hT.block p h.lt hp hp).trans h.blk,h.own.kept (row := some q) ⟨hT.os,hT.tape,hT.output,hT.size,fun j hj hne => hT.block j hj (fun e => hne (by rw [e])) (fun e => hne (by rw [e]))⟩ (fun e => hb (Option.some.inj e))⟩
structure Both (B : Nat) (w : World) (p bm q : Nat) (D : DataW Unit) (L : List FileR) (k : Nat) : Prop where
 f : FilesAt w p bm D k
 r : RAt B w q L k
 inv : Inv D k
 agree : Agree D L
 most : k <= 1000000
theorem Both.later {B p bm q k : Nat} {w w' : World} {D : DataW Unit} {L : List FileR} (h : Both B w p bm q D L k) (hb : Below w.heap.size w w') : Both B w' p bm q D L k := ⟨h.f.later hb,h.r.later hb,h.inv,h.agree,h.most⟩
theorem Both.len {B p bm q k : Nat} {w : World} {D : DataW Unit} {L : List FileR} (h : Both B w p bm q D L k) : L.length <= 6 := by
 rw [h.agree.length h.inv h.f.own]; exact h.inv.size
theorem cell_turned {p bm : Nat} {w w' : World} (hT : Turned p bm w w') {b o : Nat} {v : Value} (h : w.cell? ⟨b,o,none⟩ = some v) (h1 : b ≠ p) (h2 : b ≠ bm) : w'.cell? ⟨b,o,none⟩ = some v := by
 have hl := World.block_lt_of_cell? _ _ h
 exact (World.cell?_of_block (hT.block b hl h1 h2)).trans h
theorem cells_same {a b : ObjF} (e : SameO a b) (v : ObjV) : v.cells b = v.cells a := by
 unfold ObjV.cells
 rw [e.nN,e.nW,e.nS,e.nT]
theorem ObjAt.same {w : World} {v : ObjV} {a b : ObjF} (h : ObjAt w v b) (e : SameO a b) : ObjAt w v a where
 needs := by
  rw [e.nN]
  exact h.needs.imp id fun ⟨bk,o,ha,hc⟩ => ⟨bk,o,ha,fun i hi => by rw [hc i hi]; show some (Value.string _) = some (Value.string _); rw [e.needs i hi]⟩
 words := by
  rw [e.nW]
  exact h.words.imp id fun ⟨bk,o,ha,hc⟩ => ⟨bk,o,ha,fun i hi => by rw [hc i hi]; show some (Value.int .i64 _) = some (Value.int .i64 _); rw [e.words i hi]⟩
 syms := by
  rw [e.nS]
  exact h.syms.imp id fun ⟨bk,o,ha,hc⟩ => ⟨bk,o,ha,fun i hi => by
   obtain ⟨h1,h2,h3⟩ := hc i hi
   obtain ⟨e1,e2,e3⟩ := e.syms i hi
   rw [e1,e2,e3]
   exact ⟨h1,h2,h3⟩⟩
 ties := by
  rw [e.nT]
  exact h.ties.imp id fun ⟨bk,o,ha,hc⟩ => ⟨bk,o,ha,fun i hi => by
   obtain ⟨h1,h2,h3,h4,h5⟩ := hc i hi
   obtain ⟨e1,e2,e3,e4,e5⟩ := e.ties i hi
   rw [e1,e2,e3,e4,e5]
   exact ⟨h1,h2,h3,h4,h5⟩⟩
 capN := by rw [e.nN]; exact h.capN
 capS := by rw [e.nS]; exact h.capS
theorem ObjNew.same {B : Nat} {v : ObjV} {a b : ObjF} (h : ObjNew B v b) (e : SameO a b) : ObjNew B v a :=
 ⟨by rw [e.nN]; exact h.needs,by rw [e.nW]; exact h.words,by rw [e.nS]; exact h.syms,by rw [e.nT]; exact h.ties⟩
theorem objectOf_parse (s : ByteArray) (w : World) :
 Calls Tryz.prog 53 #[.string s] w fun e w' => (∃ v : ObjV,e = .returned (.tuple #[.agg (v.cells (parseF s).2),.int .i64 (((parseF s).1 : Nat) : Int)]) /\ ObjAt w' v (parseF s).2 /\ ObjNew w.heap.size v (parseF s).2) /\ Below w.heap.size w w' :=
 (objectOf_new s w).mono fun e w' ⟨⟨v,h1,h2,h3⟩,h4⟩ => by
   obtain ⟨e1,e2,_⟩ := ref_same s
   exact ⟨⟨v,by rw [h1,e1,cells_same e2],h2.same e2,h3.same e2⟩,h4⟩
theorem readR_is (B : Nat) (w : World) (q : Nat) (L : List FileR) (k : Nat) (D : DataW Unit) (s : ByteArray) (h : RAt B w q L k) (hL : L.length <= 1000) (hA : Agree D L) (hI : Inv D k) :
 Calls Tryz.prog 43 #[.pointer (some ⟨q,0,none⟩),.string s] w fun e w' => (∃ (t : ByteArray) (n : Int) (f : Nat),e = .returned (.tuple #[.string t,.int .i64 n,.int .i64 (f : Int)]) /\ ReadIs D s t n f) /\ Below w.heap.size w w' :=
 (readR_any B w q L k s h hL).mono fun e w' ⟨⟨t,n,f,he,hc⟩,hb⟩ => by
   refine ⟨⟨t,n,f,he,?_,?_⟩,hb⟩
   ·intro hh
    rcases hc with ⟨x,hx,rfl,rfl,rfl,rfl⟩ | ⟨hno,_⟩
    ·exact ⟨rfl,((hA.mem x).1 hx).2⟩
    ·obtain ⟨x,hx,e⟩ := (hA.has hI s).1 hh
     exact absurd e (hno x hx)
   ·intro hh
    rcases hc with ⟨x,hx,rfl,_,_,_⟩ | ⟨_,h1,h2,h3⟩
    ·rw [((hA.mem x).1 hx).1] at hh
     cases hh
    ·exact ⟨h3,h1,h2⟩
inductive ROfEnd (w : World) (B : Nat) (rd : ByteArray -> Nat × ObjF) (root : ByteArray) : Ending -> Prop
 | bad (F i : Nat) (h : OfIs rd root F i) (hf : F ≠ 0) : ROfEnd w B rd root (.returned (.tuple #[.slice none 0 0,.slice none 0 0,.int .i64 (F : Int)]))
 | ok (i : Nat) (u x : Value) (V : Nat -> ObjV) (h : OfIs rd root 0 i) (hu : OwnTx w B u (namesAt rd root i)) (hx : ObjsIn w B x i V fun j => (rd (nmAt rd root j)).2) : ROfEnd w B rd root (.returned (.tuple #[u,x,.int .i64 0]))
theorem any_mem (N : List ByteArray) (s : ByteArray) (n : Nat) (hn : n = N.length) : anyTo (fun j => decide (N.getD j ⟨#[]⟩ = s)) n = memB N s := by subst hn; exact anyTo_mem
theorem grown_drewN {w W : World} {row : Option Nat} (h : w.grownBy W row) (j : Nat) : w.grownBy (W.drewN j) row := ⟨h.os,h.tape,h.output,h.size,h.block⟩
set_option maxRecDepth 100000 in
set_option maxHeartbeats 8000000 in
theorem refScopeOf_any (B : Nat) (w : World) (q : Nat) (L : List FileR) (k : Nat) (D : DataW Unit) (T : ByteArray -> ByteArray) (root : ByteArray) (h : RAt B w q L k) (hL : L.length <= 1000) (hA : Agree D L) (hI : Inv D k) (hT : Texts D T) :
 Calls Tryz.prog 70 #[.pointer (some ⟨q,0,none⟩),.string root] w fun e w' => ROfEnd w' w.heap.size (rdD D T) root e /\ Below w.heap.size w w' := by
 have hO0 : OwnTx (w.alloc (.cells #[.string root] 9)) w.heap.size (.slice (some ⟨w.heap.size,0,none⟩) 1 1) [root] := by
  have e : (w.alloc (.cells #[.string root] 9)).heap[w.heap.size]? = some (.cells #[.string root] 9) := by
   show (w.heap.push _)[w.heap.size]? = _
   rw [Array.getElem?_push_size]
  exact ⟨rfl,.inr ⟨w.heap.size,1,#[.string root],rfl,Nat.le_refl _,e,Nat.le_refl _,by simp [maxLen],rfl,rfl⟩⟩
 have hx0 : Below w.heap.size w (w.alloc (.cells #[.string root] 9)) := (Below.refl _ _).alloc (Nat.le_refl _) _
 have hfew := rd_few (T := T) hI
 have HRD : Hid (∀ s,rdD D T s = if Maps.has D (keyB s) = true then parseF (T s) else (5,emptyO)) := fun s => rfl
 have HOK : Hid (∀ s,(rdD D T s).1 = 0 -> ObjOk (rdD D T s).2) := fun s h => rd_ok h
 generalize rdD D T = rd at *
 go_enter Tryz.func70,Tryz.ntmps70
 go_wp2
 go_loopw [7,8,9,10,11,12,13,14,15,16] (fun a b z _ _ _ _ _ _ _ wr => ∃ (i : Nat) (u x : Value) (V : Nat -> ObjV),i <= 6 /\ z = .int .i64 i /\ a = u /\ b = x /\ OwnTx wr w.heap.size u (namesAt rd root i) /\ ObjsIn wr w.heap.size x i V (fun j => (rd (nmAt rd root j)).2) /\
  (∀ j,j < i -> ObjSep (V j) (rd (nmAt rd root j)).2 u.ownBlock /\ ObjSep (V j) (rd (nmAt rd root j)).2 x.ownBlock) /\ Hid (ReadTo rd root i) /\ Below w.heap.size w wr) (fun _ _ z _ _ _ _ _ _ _ _ => 7 - (intOf z).toNat)
 case atStart => exact ⟨0,_,_,fun _ => noV,by omega,rfl,rfl,rfl,hO0,⟨World.ownsRow_nil _ _ _ _,fun j hj => by omega⟩,fun j hj => by omega,fun j hj => by omega,hx0⟩
 case round =>
  clear hO0 hx0
  obtain ⟨i,u,x,V,hi6,rfl,rfl,rfl,ho,hx,hsep,HR,hb⟩ := hrel
  have hnn : ∀ j,j < i -> (rd (nmAt rd root j)).2.nN <= 4 := fun j hj => (HOK.out _ (HR.out j hj).2).nN
  have hlen := names_len rd root i hnn
  by_cases hlt : i < (namesAt rd root i).length
  ·have hRd := readR_is B wr q L k D (nmAt rd root i) (h.later hb) hL hA hI
   obtain ⟨au,cu,rfl,hcu,hru⟩ := ownTx_row ho
   have hB := hb.size
   rcases hru with h0 | ⟨bu,fu,rfl,hcn⟩
   ·omega
   have hci : wr.cell? ⟨bu,fu + i,none⟩ = some (.string (nmAt rd root i)) := hcn i hlt
   clear hcn
   have hltu : ∀ j,(Value.slice (some ⟨bu,fu,none⟩) (namesAt rd root i).length cu).ownBlock = some j -> j < wr.heap.size := fun j e => (ho.lt j e).2
   have hltx : ∀ j,u8.ownBlock = some j -> j < wr.heap.size := fun j e => (hx.own.lt j e).2
   have hi0 : (0 : Int) <= (i : Int) := by omega
   have hi1 : (i : Int) < ((namesAt rd root i).length : Int) := by omega
   have HE : (rd (nmAt rd root i)).1 ≠ 0 -> OfIs rd root (rd (nmAt rd root i)).1 i := fun hf => .bad i HR.out hlt hf
   have HRi := HRD.out (nmAt rd root i)
   go_wp2_with fail
   refine (show Calls _ _ _ _ _ from hRd).mono ?_
   rintro e w0 ⟨⟨t,st,f,rfl,hRI⟩,hb0⟩
   clear hRd hci
   have hb1 := hb.trans (hb0.mono hb.size)
   cases hh : Maps.has D (keyB (nmAt rd root i)) with
   | false =>
    obtain ⟨rfl,rfl,rfl⟩ := hRI.no hh
    rw [hh,if_neg (by decide)] at HRi
    rw [HRi] at HE
    have HEE : Hid (OfIs rd root 5 i) := HE (by decide)
    clear HE HRi hRI hh hsep hltu hltx hx ho
    go_wp2
    go_ret3
    exact ⟨.bad 5 i HEE.out (by decide),hb1⟩
   | true =>
    obtain ⟨rfl,hat⟩ := hRI.yes hh
    obtain rfl := hT.is _ _ _ hh hat
    rw [hh,if_pos rfl] at HRi
    clear hat hRI
    have HOb := objectOf_parse (T (nmAt rd root i)) w0
    rw [<- HRi] at HOb
    by_cases hf : (rd (nmAt rd root i)).1 = 0
    ·have HR2 : Hid (ReadTo rd root (i + 1)) := fun j hj => by
      by_cases e : j = i
      ·subst e; exact ⟨hlt,hf⟩
      ·exact HR.out j (by omega)
     have hi7 : i + 1 <= 6 := HR2.out.few hfew
     have hok : ObjOk (rd (nmAt rd root i)).2 := HOK.out _ hf
     have hn4 := hok.nN
     rw [hf] at HOb
     clear HRi HE hh
     go_wp2_with fail
     refine (show Calls _ _ _ _ _ from HOb).mono ?_
     rintro e w1 ⟨⟨v,rfl,hAt,hNw⟩,hb1'⟩
     clear HOb
     have hb01 := hb0.trans (hb1'.mono hb0.size)
     have ho1 := owns_below ho hb01
     have hx1 : ∀ j,j < i -> ObjAt w1 (V j) (rd (nmAt rd root j)).2 := fun j hj => (hx.at' j hj).later hb01
     have hxo1 := owns_below hx.own hb01
     have hb2 := hb.trans (hb01.mono hb.size)
     have hs1 := hb01.size
     have hNu := (hNw.lower hb0.size).sep hltu
     have hNx := (hNw.lower hb0.size).sep hltx
     clear hNw hltu hltx hb01 hb0 hb1' hb1 hb hx ho
     obtain ⟨aN,cN,aW,cW,aS,cS,aT,cT⟩ := v
     obtain ⟨x',W,happ,hxW,hgW,hsnW⟩ := growObj (w := w1.alloc (.cells #[.slice aN (rd (nmAt rd root i)).2.nN cN,.slice aW (rd (nmAt rd root i)).2.nW cW,.slice aS (rd (nmAt rd root i)).2.nS cS,.slice aT (rd (nmAt rd root i)).2.nT cT] 116)) (V := V) (V' := fun j => if j = i then ⟨aN,cN,aW,cW,aS,cS,aT,cT⟩ else V j) (O := fun j => (rd (nmAt rd root j)).2) ⟨aN,cN,aW,cW,aS,cS,aT,cT⟩ (by simp; have := hb2.size; omega) (hxo1.alloc _) (by omega) (fun j hj => by simp only [if_neg (show j ≠ i by omega)]) (by simp)
     have e1 : (w1.alloc (.cells #[.slice aN (rd (nmAt rd root i)).2.nN cN,.slice aW (rd (nmAt rd root i)).2.nW cW,.slice aS (rd (nmAt rd root i)).2.nS cS,.slice aT (rd (nmAt rd root i)).2.nT cT] 116)).heap.size = w1.heap.size + 1 := by simp
     rw [e1] at happ hsnW
     clear e1
     have hbA : Below w1.heap.size w1 ((w1.alloc (.cells #[.slice aN (rd (nmAt rd root i)).2.nN cN,.slice aW (rd (nmAt rd root i)).2.nW cW,.slice aS (rd (nmAt rd root i)).2.nS cS,.slice aT (rd (nmAt rd root i)).2.nT cT] 116)).alloc (.cells #[.slice aN (rd (nmAt rd root i)).2.nN cN,.slice aW (rd (nmAt rd root i)).2.nW cW,.slice aS (rd (nmAt rd root i)).2.nS cS,.slice aT (rd (nmAt rd root i)).2.nT cT] 116)) := ((Below.refl _ _).alloc (Nat.le_refl _) _).alloc (by simp) _
     have hoW : OwnTx W w.heap.size (.slice (some ⟨bu,fu,none⟩) (namesAt rd root i).length cu) (namesAt rd root i) := ((ho1.alloc _).alloc _).kept hgW (ownsSep ho1 hxo1 (by decide))
     have hxW1 : ∀ j,j < i -> ObjAt W (V j) (rd (nmAt rd root j)).2 := fun j hj => ((hx1 j hj).later hbA).grown hgW (hsep j hj).2
     have hAW : ObjAt W ⟨aN,cN,aW,cW,aS,cS,aT,cT⟩ (rd (nmAt rd root i)).2 := (hAt.later hbA).grown hgW hNx
     have hne : some w1.heap.size ≠ u8.ownBlock := fun e => by have := (hxo1.lt _ e.symm).2; omega
     have hneu : some w1.heap.size ≠ (Value.slice (some ⟨bu,fu,none⟩) (namesAt rd root i).length cu).ownBlock := fun e => by have := (ho1.lt _ e.symm).2; omega
     have c0 : W.cell? ⟨w1.heap.size,0,none⟩ = some (.slice aN (rd (nmAt rd root i)).2.nN cN) := hgW.cell (by simp [go_sem]) hne
     have hbW : Below w.heap.size w W := (hb2.trans (hbA.mono hb2.size)).grown hgW (Nat.le_trans hb2.size hbA.size) (fun j e => (hxo1.lt j e).1)
     have hsx2 : ∀ j,j < i + 1 -> ObjSep ((fun j => if j = i then (⟨aN,cN,aW,cW,aS,cS,aT,cT⟩ : ObjV) else V j) j) (rd (nmAt rd root j)).2 x'.ownBlock := fun j hj => by
      by_cases e : j = i
      ·subst e
       simp only [if_pos]
       exact ObjSep.next hAt hNx (Nat.le_succ _) hsnW
      ·simp only [if_neg e]
       exact ObjSep.next (hx1 j (by omega)) (hsep j (by omega)).2 (Nat.le_succ _) hsnW
     have hsu : ∀ j,j < i + 1 -> ObjAt W ((fun j => if j = i then (⟨aN,cN,aW,cW,aS,cS,aT,cT⟩ : ObjV) else V j) j) (rd (nmAt rd root j)).2 /\ ObjSep ((fun j => if j = i then (⟨aN,cN,aW,cW,aS,cS,aT,cT⟩ : ObjV) else V j) j) (rd (nmAt rd root j)).2 (Value.slice (some ⟨bu,fu,none⟩) (namesAt rd root i).length cu).ownBlock := fun j hj => by
      by_cases e : j = i
      ·subst e
       simp only [if_pos]
       exact ⟨hAW,hNu⟩
      ·simp only [if_neg e]
       exact ⟨hxW1 j (by omega),(hsep j (by omega)).1⟩
     have hrN := hAW.needs
     have hsepN := hNu.needs
     clear hx1 hAt hNu hNx hsep hxW1 hAW hbA hb2 ho1 hxo1 hsnW hne hgW hi0 hi1
     unfold ObjV.cells
     generalize (fun j => if j = i then (⟨aN,cN,aW,cW,aS,cS,aT,cT⟩ : ObjV) else V j) = V2 at *
     have hsuc : namesAt rd root (i + 1) = joinL (namesAt rd root i) (needsTo (rd (nmAt rd root i)).2 (rd (nmAt rd root i)).2.nN) := rfl
     have HSUC : Hid (namesAt rd root (i + 1) = joinL (namesAt rd root i) (needsTo (rd (nmAt rd root i)).2 (rd (nmAt rd root i)).2.nN)) := hsuc
     clear hsuc hf hok hfew HR hlt hnn HOK HRD
     dsimp only at hrN hsepN
     go_wp2_with (at_builtin; refine list_run rfl (.tmp 46) (.tmp 48) 96 rfl u8 (.slice (some ⟨w1.heap.size + 1,0,none⟩) 1 1) _ rfl rfl happ ?_)
     generalize hO : (rd (nmAt rd root i)).2 = o at *
     generalize hN : namesAt rd root i = N at *
     go_loopw [7,14,15,16] (fun y7 y14 _ _ wk => ∃ (m : Nat) (uu : Value),m <= o.nN /\ y14 = .int .i64 m /\ y7 = uu /\ OwnTx wk w.heap.size uu (joinL N (needsTo o m)) /\ SameOrNew W.heap.size (.slice (some ⟨bu,fu,none⟩) N.length cu) uu /\ W.grownBy wk (Value.slice (some ⟨bu,fu,none⟩) N.length cu).ownBlock) (fun _ y14 _ _ _ => o.nN - (intOf y14).toNat)
     case atStart => exact ⟨0,_,Nat.zero_le _,rfl,rfl,hoW,.inl rfl,grownBy_refl _ _⟩
     case round =>
      obtain ⟨m,uu,hm,rfl,rfl,hou,hsn,hg⟩ := hrel
      have hlen2 := joinL_len N (needsTo o m)
      have hln2 : (needsTo o m).length = m := by simp [needsTo]
      have c0k := hg.cell c0 hneu
      by_cases hlm : m < o.nN
      ·have hrk := hrN.grown hg hsepN
       rcases hrk with h0 | ⟨bN,fN,rfl,hcN⟩
       ·omega
       have hcm := hcN m hlm
       obtain ⟨av,cv,rfl,_,hrv⟩ := ownTx_row hou
       have hm0 : (0 : Int) <= (m : Int) := by omega
       have hm1 : (m : Int) < (o.nN : Int) := by omega
       have hsuc2 := joinL_snoc N (needsTo o m) (o.needs m)
       rw [<- needsTo_succ] at hsuc2
       have hszk : w.heap.size <= wr.heap.size := Nat.le_trans hbW.size hg.size
       clear hcN
       obtain ⟨M,hM⟩ : ∃ M,joinL N (needsTo o m) = M := ⟨_,rfl⟩
       rw [hM] at hsuc2 hou hlen2 hrv hsn
       rw [hM]
       go_wp2
       go_loopw [15,16] (fun y15 y16 wz => ∃ (z d : Nat),z <= M.length /\ y16 = .int .i64 z /\ y15 = .bool (anyTo (fun j => decide (M.getD j ⟨#[]⟩ = o.needs m)) z) /\ wz = wr.drewN d) (fun _ y16 _ => M.length - (intOf y16).toNat)
       case atStart => exact ⟨0,0,Nat.zero_le _,rfl,rfl,rfl⟩
       case round =>
        obtain ⟨z,d,hz,rfl,rfl,rfl⟩ := hrel
        by_cases hlz : z < M.length
        ·rcases hrv with h0 | ⟨bv,fv,rfl,hcv⟩
         ·omega
         have hcz : wr.cell? ⟨bv,fv + z,none⟩ = some (.string (M.getD z ⟨#[]⟩)) := hcv z hlz
         have hz0 : (0 : Int) <= (z : Int) := by omega
         have hz1 : (z : Int) < (M.length : Int) := by omega
         have hstep : anyTo (fun j => decide (M.getD j ⟨#[]⟩ = o.needs m)) (z + 1) = (anyTo (fun j => decide (M.getD j ⟨#[]⟩ = o.needs m)) z || decide (M.getD z ⟨#[]⟩ = o.needs m)) := rfl
         obtain ⟨b0,hb0⟩ : ∃ b0,anyTo (fun j => decide (M.getD j ⟨#[]⟩ = o.needs m)) z = b0 := ⟨_,rfl⟩
         obtain ⟨b1,hb1⟩ : ∃ b1,anyTo (fun j => decide (M.getD j ⟨#[]⟩ = o.needs m)) (z + 1) = b1 := ⟨_,rfl⟩
         rw [hb0,hb1] at hstep
         have HB1 : Hid (anyTo (fun j => decide (M.getD j ⟨#[]⟩ = o.needs m)) (z + 1) = b1) := hb1
         rw [hb0]
         clear hb0 hb1
         have hq : ((M.getD z ⟨#[]⟩).toList == (o.needs m).toList) = decide (M.getD z ⟨#[]⟩ = o.needs m) := toList_beq _ _
         generalize decide (M.getD z ⟨#[]⟩ = o.needs m) = dz at *
         generalize M.getD z ⟨#[]⟩ = nz at *
         clear hcv
         cases b0 with
         | true =>
          have hb1t : b1 = true := hstep
          subst hb1t
          clear hq hstep
          go_wp2
          go_quiet (fail)
          go_wp2
          go_roundw
          case rel => exact ⟨z + 1,_,by omega,by go_num,by rw [HB1.out],rfl⟩
          case measure => simp [intOf]; omega
         | false =>
          rw [Bool.false_or] at hstep
          subst hstep
          go_wp2
          go_quiet (fail)
          go_wp2
          go_roundw
          case rel => exact ⟨z + 1,_,by omega,by go_num,by rw [HB1.out],rfl⟩
          case measure => simp [intOf]; omega
        ·obtain rfl : z = M.length := by omega
         have hgd := grown_drewN hg d
         have houd : OwnTx (wr.drewN d) w.heap.size (.slice av M.length cv) M := hou
         rw [any_mem M (o.needs m) M.length rfl]
         cases hmem : memB M (o.needs m) with
         | true =>
          rw [if_pos hmem] at hsuc2
          have ho2 : OwnTx (wr.drewN d) w.heap.size (.slice av M.length cv) (joinL N (needsTo o (m + 1))) := by rw [hsuc2]; exact houd
          clear hsuc2 hmem hou houd hM
          go_wp2
          go_roundw
          case rel => exact ⟨m + 1,_,by omega,by go_num,rfl,ho2,hsn,hgd⟩
          case measure => simp [intOf]; omega
         | false =>
          rw [if_neg (by simp [hmem])] at hsuc2
          have hszd : w.heap.size <= (wr.drewN d).heap.size := hszk
          obtain ⟨v1,W1,happ1,hO1,hg1,hsn1⟩ := growTx (o.needs m) hszd houd (by omega)
          rw [<- hsuc2] at hO1
          have hg2 : W.grownBy W1 (Value.slice (some ⟨bu,fu,none⟩) N.length cu).ownBlock := (hgd.andThen (World.grownBy_alloc (wr.drewN d) (.cells #[.string (o.needs m)] 9) none) (fun j hj => by cases hj)).andThen hg1 (fun j hj => by
           rcases hsn with e | ⟨j',e,hj'⟩
           ·rw [e] at hj; exact .inr hj
           ·rw [e] at hj; injection hj with hj; subst hj; exact .inl hj')
          have hsn2 : SameOrNew W.heap.size (.slice (some ⟨bu,fu,none⟩) N.length cu) v1 := by
           rcases hsn1 with e | ⟨j',e,hj'⟩
           ·rcases hsn with e2 | ⟨j2,e2,hj2⟩
            ·exact .inl (e.trans e2)
            ·exact .inr ⟨j2,e.trans e2,hj2⟩
           ·exact .inr ⟨j',e,Nat.le_trans hgd.size hj'⟩
          clear hsuc2 hmem hou houd hg1 hsn1 hsn hg hgd hM
          go_wp2_with (at_builtin; refine list_run rfl (.tmp 78) (.tmp 84) 72 rfl (.slice av M.length cv) (.slice (some ⟨(wr.drewN d).heap.size,0,none⟩) 1 1) _ rfl rfl happ1 ?_)
          go_roundw
          case rel => exact ⟨m + 1,v1,by omega,by go_num,rfl,hO1,hsn2,hg2⟩
          case measure => simp [intOf]; omega
      ·obtain rfl : m = o.nN := by omega
       have hxW2 : OwnObjs w.heap.size wr x' (i + 1) V2 (fun j => (rd (nmAt rd root j)).2) := hxW.kept hg (ownsSep hxW hoW (by decide))
       have hA2 : ∀ j,j < i + 1 -> ObjAt wr (V2 j) (rd (nmAt rd root j)).2 := fun j hj => (hsu j hj).1.grown hg (hsu j hj).2
       have hsep2 : ∀ j,j < i + 1 -> ObjSep (V2 j) (rd (nmAt rd root j)).2 u7.ownBlock /\ ObjSep (V2 j) (rd (nmAt rd root j)).2 x'.ownBlock := fun j hj => ⟨ObjSep.next (hsu j hj).1 (hsu j hj).2 (Nat.le_refl _) hsn,hsx2 j hj⟩
       have hbW2 : Below w.heap.size w wr := hbW.grown hg hbW.size (fun j e => (hoW.lt j e).1)
       have hu2 : OwnTx wr w.heap.size u7 (namesAt rd root (i + 1)) := by rw [HSUC.out]; exact hou
       clear hou hsn hg hsu hsx2 hxW hoW hbW happ c0 hrN
       go_wp2
       go_roundw
       case rel => exact ⟨i + 1,u7,x',V2,hi7,by go_num,rfl,rfl,hu2,⟨hxW2,hA2⟩,hsep2,HR2,hbW2⟩
       case measure => simp [intOf]; omega
    ·have HEE : Hid (OfIs rd root (rd (nmAt rd root i)).1 i) := HE hf
     have H0 : Hid ((rd (nmAt rd root i)).1 ≠ 0) := hf
     have hpos : (0 : Int) < (((rd (nmAt rd root i)).1 : Nat) : Int) := by omega
     clear hf HE HRi hsep hltu hltx hx ho hh
     generalize (rd (nmAt rd root i)).1 = F at *
     go_wp2_with fail
     refine (show Calls _ _ _ _ _ from HOb).mono ?_
     rintro e w1 ⟨⟨v,rfl,hAt,hNw⟩,hb1'⟩
     obtain ⟨aN,cN,aW,cW,aS,cS,aT,cT⟩ := v
     have hb2 := hb1.trans (hb1'.mono hb1.size)
     clear HOb hAt hNw
     unfold ObjV.cells
     go_wp2
     go_ret3
     exact ⟨.bad _ i HEE.out H0.out,hb2.alloc hb2.size _⟩
  ·have hei : (namesAt rd root i).length = i := by
    have : i <= (namesAt rd root i).length := by
     cases i with
     | zero => omega
     | succ j =>
      have h1 := (HR.out j (by omega)).1
      have h2 : (namesAt rd root j).length <= (namesAt rd root (j + 1)).length := (names_pre rd root (Nat.le_succ j)).length_le
      omega
    omega
   have HE : Hid (OfIs rd root 0 i) := .ok i HR.out hei
   obtain ⟨au,cu,rfl,hcu,hru⟩ := ownTx_row ho
   clear hru hsep HR
   go_wp2
   go_ret3
   exact ⟨.ok i _ _ V HE.out ho hx,hb⟩
end Go.Proofs.YthdccmjdbcllkaaGreatDoor
namespace Go.Proofs.YthdccmjdbcllkaaGreatDoor
open Go.RowKit
def RngRow (w : World) (a : Option Addr) (n : Nat) (f m : Nat -> Int) : Prop :=
 n = 0 ∨ ∃ bk o,a = some ⟨bk,o,none⟩ /\ ∀ i,i < n -> w.cell? ⟨bk,o + i * 2,none⟩ = some (.int .i64 (f i)) /\ w.cell? ⟨bk,o + i * 2 + 1,none⟩ = some (.int .i64 (m i))
theorem RngRow.later {w w' : World} {a : Option Addr} {n : Nat} {f m : Nat -> Int} (h : RngRow w a n f m) (hb : Below w.heap.size w w') : RngRow w' a n f m := by
 rcases h with h | ⟨bk,o,ha,hc⟩
 ·exact .inl h
 ·exact .inr ⟨bk,o,ha,fun i hi => ⟨cell_later hb (hc i hi).1,cell_later hb (hc i hi).2⟩⟩
theorem round_any (n : Int) (w : World) (h0 : 0 <= n) (h1 : n <= 1000) : Calls Tryz.prog 93 #[.int .i64 n] w fun e w' => e = .returned (.int .i64 (roundF n)) /\ w = w' := by
 go_enter Tryz.func93,Tryz.ntmps93
 go_wp2
 go_ret
 exact ⟨ret_int (by unfold roundF; omega),rfl⟩
set_option maxHeartbeats 1000000 in
theorem apart_any (x m y k : Int) (w : World) (hx : -1000 <= x /\ x <= 1000) (hm : -1000 <= m /\ m <= 1000) (hy : -1000 <= y /\ y <= 1000) (hk : -1000 <= k /\ k <= 1000) :
 Calls Tryz.prog 132 #[.agg #[.int .i64 x,.int .i64 m],.agg #[.int .i64 y,.int .i64 k]] w fun e w' => e = .returned (.bool (apartB x m y k)) /\ Below w.heap.size w w' := by
 obtain ⟨x0,x1⟩ := hx
 obtain ⟨y0,y1⟩ := hy
 obtain ⟨m0,m1⟩ := hm
 obtain ⟨k0,k1⟩ := hk
 have hb : ∀ o1 o2 : Obj,Below w.heap.size w ((w.alloc o1).alloc o2) := fun o1 o2 => ((Below.refl _ _).alloc (Nat.le_refl _) o1).alloc (by simp) o2
 by_cases h1 : m <= 0
 ·have HE : Hid (true = apartB x m y k) := by unfold Hid apartB; rw [eq_comm,decide_eq_true_eq]; omega
  go_enter Tryz.func132,Tryz.ntmps132
  go_wp2
  go_ret
  exact ⟨ret_bool HE.out,hb _ _⟩
 ·by_cases h2 : k <= 0
  ·have HE : Hid (true = apartB x m y k) := by unfold Hid apartB; rw [eq_comm,decide_eq_true_eq]; omega
   go_enter Tryz.func132,Tryz.ntmps132
   go_wp2
   go_ret
   exact ⟨ret_bool HE.out,hb _ _⟩
  ·by_cases h3 : y < x
   ·have HE : Hid (decide (k <= x - y) = apartB x m y k) := by unfold Hid apartB; rw [Bool.eq_iff_iff]; simp only [decide_eq_true_eq]; omega
    go_enter Tryz.func132,Tryz.ntmps132
    go_wp2
    go_ret
    exact ⟨ret_bool HE.out,hb _ _⟩
   ·have HE : Hid (decide (m <= y - x) = apartB x m y k) := by unfold Hid apartB; rw [Bool.eq_iff_iff]; simp only [decide_eq_true_eq]; omega
    go_enter Tryz.func132,Tryz.ntmps132
    go_wp2
    go_ret
    exact ⟨ret_bool HE.out,hb _ _⟩
theorem inWindow_any (n : Int) (w : World) : Calls Tryz.prog 130 #[.int .i64 n] w fun e w' => e = .returned (.bool (decide (0 <= n) && decide (n <= 256))) /\ w = w' := by
 by_cases h1 : 0 <= n
 all_goals by_cases h2 : n <= 256
 all_goals
  go_enter Tryz.func130,Tryz.ntmps130
  go_wp2
  go_ret
  exact ⟨ret_bool (by simp <;> omega),rfl⟩
set_option maxHeartbeats 2000000 in
theorem placeCheck_any (sz tf tm : Nat -> Int) (a a' : Option Addr) (ns c nt c' : Nat) (w : World) (hn : ns <= maxLen) (hn' : nt <= maxLen) (hr : RowAt w a ns fun i => .int .i64 (sz i)) (ht : RngRow w a' nt tf tm) :
 Calls Tryz.prog 90 #[.slice a ns c,.slice a' nt c'] w fun e w' => e = .returned (errV (placeF ns sz nt tf tm)) /\ Below w.heap.size w w' := by
 unfold maxLen at hn hn'
 generalize hF : placeF ns sz nt tf tm = F
 unfold placeF at hF
 by_cases h1 : 6 < ns ∨ 20 < nt
 ·rw [if_pos h1] at hF
  subst hF
  by_cases g1 : (6 : Int) < (ns : Int)
  ·clear h1
   go_enter Tryz.func90,Tryz.ntmps90
   go_wp2
   go_ret
   exact ⟨rfl,Below.refl _ _⟩
  ·have g2 : (20 : Int) < (nt : Int) := by omega
   clear h1
   go_enter Tryz.func90,Tryz.ntmps90
   go_wp2
   go_ret
   exact ⟨rfl,Below.refl _ _⟩
 ·rw [if_neg h1] at hF
  have HF : Hid ((if anyTo (fun i => decide (sz i < 1 ∨ 40 < sz i)) ns = true then 1 else if anyTo (fun i => decide (tf i < 0 ∨ 256 < tf i ∨ tm i < 0 ∨ 256 < tm i)) nt = true then 1 else 0) = F) := hF
  have g1 : ¬ (6 : Int) < (ns : Int) := by omega
  have g2 : ¬ (20 : Int) < (nt : Int) := by omega
  clear hF h1
  go_enter Tryz.func90,Tryz.ntmps90
  go_wp2
  go_loopw [20] (fun x wr => ∃ k : Nat,k <= ns /\ x = .int .i64 k /\ wr = w /\ Hid (anyTo (fun i => decide (sz i < 1 ∨ 40 < sz i)) k = false)) (fun x _ => ns - (intOf x).toNat)
  case atStart => exact ⟨0,Nat.zero_le _,rfl,rfl,rfl⟩
  case round =>
   obtain ⟨k,hk,rfl,hw,HK⟩ := hrel
   replace hw := hw.symm
   subst hw
   by_cases hlt : k < ns
   ·rcases hr with h0 | ⟨b,o,rfl,hc⟩
    ·omega
    have hck := hc k hlt
    clear hc
    by_cases hz : sz k < 1 ∨ 40 < sz k
    ·have HE : Hid (F = 1) := by
      show F = 1
      rw [<- HF.out,if_pos (anyTo_yes hlt (decide_eq_true hz))]
     by_cases hz1 : sz k < 1
     ·clear hz
      go_wp2
      go_ret
      rw [HE.out]
      exact ⟨rfl,Below.refl _ _⟩
     ·have hz2 : 40 < sz k := by omega
      clear hz
      go_wp2
      go_ret
      rw [HE.out]
      exact ⟨rfl,Below.refl _ _⟩
    ·have HE : Hid (anyTo (fun i => decide (sz i < 1 ∨ 40 < sz i)) (k + 1) = false) := anyTo_no HK.out (decide_eq_false hz)
     have hz1 : ¬ sz k < 1 := by omega
     have hz2 : ¬ 40 < sz k := by omega
     clear hz
     go_wp2
     go_roundw
     case rel => exact ⟨k + 1,by omega,by go_num,trivial,HE⟩
     case measure => simp [intOf]; omega
   ·have e : k = ns := by omega
    have HG : Hid ((if anyTo (fun i => decide (tf i < 0 ∨ 256 < tf i ∨ tm i < 0 ∨ 256 < tm i)) nt = true then 1 else 0) = F) := by
     have hq : ¬ anyTo (fun i => decide (sz i < 1 ∨ 40 < sz i)) ns = true := by rw [<- e,HK.out]; decide
     have := HF.out
     rw [if_neg hq] at this
     exact this
    clear HF HK
    subst e
    go_wp2
    go_loopw [34] (fun x wr => ∃ k : Nat,k <= nt /\ x = .int .i64 k /\ Below w.heap.size w wr /\ Hid (anyTo (fun i => decide (tf i < 0 ∨ 256 < tf i ∨ tm i < 0 ∨ 256 < tm i)) k = false)) (fun x _ => nt - (intOf x).toNat)
    case atStart => exact ⟨0,Nat.zero_le _,rfl,Below.refl _ _,rfl⟩
    case round =>
     obtain ⟨j,hj,rfl,hb,HK⟩ := hrel
     by_cases hlt : j < nt
     ·rcases ht with h0 | ⟨b,o,rfl,hc⟩
      ·omega
      have hc0 := cell_later hb (hc j hlt).1
      have hc1 := cell_later hb (hc j hlt).2
      have hx : ∀ ob : Obj,Below w.heap.size w (wr.alloc ob) := fun ob => hb.alloc hb.size ob
      have HA := fun (w : World) => inWindow_any (tf j) w
      have HB := fun (w : World) => inWindow_any (tm j) w
      clear hc hr
      by_cases hz : tf j < 0 ∨ 256 < tf j ∨ tm j < 0 ∨ 256 < tm j
      ·have HE : Hid (F = 1) := by
        show F = 1
        rw [<- HG.out,if_pos (anyTo_yes hlt (decide_eq_true hz))]
       by_cases hz1 : tf j < 0 ∨ 256 < tf j
       ·have e1 : (decide (0 <= tf j) && decide (tf j <= 256)) = false := by rw [Bool.and_eq_false_iff]; simp; omega
        rw [e1] at HA
        clear hz hz1 e1
        go_wp2_with fail
        refine (HA _).mono ?_
        rintro e w' ⟨rfl,rfl⟩
        go_wp2
        go_ret
        rw [HE.out]
        exact ⟨rfl,hx _⟩
       ·have e1 : (decide (0 <= tf j) && decide (tf j <= 256)) = true := by simp; omega
        have e2 : (decide (0 <= tm j) && decide (tm j <= 256)) = false := by rw [Bool.and_eq_false_iff]; simp; omega
        rw [e1] at HA
        rw [e2] at HB
        clear hz hz1 e1 e2
        go_wp2_with fail
        refine (HA _).mono ?_
        rintro e w' ⟨rfl,rfl⟩
        go_wp2_with fail
        refine (HB _).mono ?_
        rintro e w' ⟨rfl,rfl⟩
        go_wp2
        go_ret
        rw [HE.out]
        exact ⟨rfl,hx _⟩
      ·have HE : Hid (anyTo (fun i => decide (tf i < 0 ∨ 256 < tf i ∨ tm i < 0 ∨ 256 < tm i)) (j + 1) = false) := anyTo_no HK.out (decide_eq_false hz)
       have e1 : (decide (0 <= tf j) && decide (tf j <= 256)) = true := by simp; omega
       have e2 : (decide (0 <= tm j) && decide (tm j <= 256)) = true := by simp; omega
       rw [e1] at HA
       rw [e2] at HB
       clear hz e1 e2
       go_wp2_with fail
       refine (HA _).mono ?_
       rintro e w' ⟨rfl,rfl⟩
       go_wp2_with fail
       refine (HB _).mono ?_
       rintro e w' ⟨rfl,rfl⟩
       go_wp2
       go_roundw
       case rel => exact ⟨j + 1,by omega,by go_num,hx _,HE⟩
       case measure => simp [intOf]; omega
     ·have e : j = nt := by omega
      have HE : Hid (F = 0) := by
       show F = 0
       rw [<- HG.out,if_neg]
       rw [<- e,HK.out]; decide
      go_wp2
      go_ret
      rw [HE.out]
      exact ⟨rfl,hb⟩
theorem pages_any (n : Int) (w : World) (h0 : 0 <= n) (h1 : n <= 1000) : Calls Tryz.prog 96 #[.int .i64 n] w fun e w' => e = .returned (.int .i64 (roundF n)) /\ w = w' := by
 by_cases h : 0 < n % 16
 ·go_enter Tryz.func96,Tryz.ntmps96
  go_wp2
  go_ret
  exact ⟨ret_int (by unfold roundF; omega),rfl⟩
 ·go_enter Tryz.func96,Tryz.ntmps96
  go_wp2
  go_ret
  exact ⟨ret_int (by unfold roundF; omega),rfl⟩
end Go.Proofs.YthdccmjdbcllkaaGreatDoor
namespace Go.Proofs.YthdccmjdbcllkaaGreatDoor
def usedB (hf hm : Nat -> Int) (n : Nat) (z : Nat) : Bool := anyTo (fun j => decide (hf j <= (z : Int) /\ (z : Int) < hf j + hm j)) n
def usedTo (hf hm : Nat -> Int) (n k : Nat) (z : Nat) : Bool := usedB hf hm n z || decide (hf n <= (z : Int) /\ (z : Int) < hf n + k)
theorem usedTo_zero (hf hm : Nat -> Int) (n z : Nat) : usedTo hf hm n 0 z = usedB hf hm n z := by
 unfold usedTo
 rw [decide_eq_false (by omega),Bool.or_false]
theorem usedTo_full {hf hm : Nat -> Int} {n k : Nat} (hk : hm n = k) (z : Nat) : usedTo hf hm n k z = usedB hf hm (n + 1) z := by
 unfold usedTo usedB
 simp only [anyTo,hk]
theorem usedTo_succ {hf hm : Nat -> Int} {n k x : Nat} (hx : hf n + k = x) (z : Nat) : usedTo hf hm n (k + 1) z = if z = x then true else usedTo hf hm n k z := by
 unfold usedTo
 by_cases e : z = x
 ·rw [if_pos e]
  rw [decide_eq_true (show hf n <= (z : Int) /\ (z : Int) < hf n + ((k + 1 : Nat) : Int) by omega),Bool.or_true]
 ·rw [if_neg e]
  congr 1
  rw [Bool.eq_iff_iff]
  simp only [decide_eq_true_eq]
  omega
theorem usedB_congr {hf hm hf' hm' : Nat -> Int} {n z : Nat} (h : ∀ j,j < n -> hf j = hf' j /\ hm j = hm' j) : usedB hf hm n z = usedB hf' hm' n z :=
 anyTo_congr fun i hi => by rw [(h i hi).1,(h i hi).2]
def clearB (hf hm : Nat -> Int) (n x : Nat) : Nat -> Bool
 | 0 => true
 | k + 1 => clearB hf hm n x k && !(usedB hf hm n (x + k))
theorem clearB_iff {hf hm : Nat -> Int} {n x k : Nat} : clearB hf hm n x k = true ↔ ∀ j,j < k -> usedB hf hm n (x + j) = false := by
 induction k with
 | zero => simp [clearB]
 | succ k ih =>
  simp only [clearB,Bool.and_eq_true,ih,Bool.not_eq_true']
  constructor
  ·rintro ⟨h,h'⟩ j hj
   by_cases e : j = k
   ·subst e; exact h'
   ·exact h j (by omega)
  ·intro h
   exact ⟨fun j hj => h j (by omega),h k (by omega)⟩
theorem clearB_meets {hf hm : Nat -> Int} {n x k : Nat} : clearB hf hm n x k = !(meetsB hf hm n (x : Int) (k : Int)) := by
 rw [Bool.eq_iff_iff,clearB_iff,Bool.not_eq_true',meetsB_false]
 constructor
 ·intro h j hj
  rw [apartB_iff]
  rintro z ⟨⟨a,b⟩,c,d⟩
  have := h (z - x).toNat (by omega)
  rw [<- Bool.not_eq_true] at this
  apply this
  unfold usedB
  rw [anyTo_iff]
  exact ⟨j,hj,decide_eq_true (by omega)⟩
 ·intro h j hj
  rw [<- Bool.not_eq_true]
  intro hu
  unfold usedB at hu
  rw [anyTo_iff] at hu
  obtain ⟨i,hi,e⟩ := hu
  rw [decide_eq_true_eq] at e
  exact apartB_iff.1 (h i hi) ((x + j : Nat) : Int) ⟨by omega,by omega⟩
theorem clearB_mono {hf hm : Nat -> Int} {n x k r : Nat} (hk : k <= r) (h : clearB hf hm n x k = false) : clearB hf hm n x r = false := by
 rw [<- Bool.not_eq_true,clearB_iff] at h ⊢
 exact fun h' => h fun j hj => h' j (by omega)
theorem usedB_far {hf hm : Nat -> Int} {n z : Nat} (h : ∀ j,j < n -> hf j + hm j <= 600) (hz : 600 <= z) : usedB hf hm n z = false := by
 rw [<- Bool.not_eq_true]
 intro hu
 unfold usedB at hu
 rw [anyTo_iff] at hu
 obtain ⟨i,hi,e⟩ := hu
 rw [decide_eq_true_eq] at e
 have := h i hi
 omega
theorem meets_far {hf hm : Nat -> Int} {n k : Nat} {many : Int} (h : ∀ j,j < n -> hf j + hm j <= 600) (hk : 600 <= 16 * k) : meetsB hf hm n (16 * (k : Int)) many = false := by
 rw [meetsB_false]
 intro j hj
 have := h j hj
 unfold apartB
 rw [decide_eq_true_eq]
 omega
end Go.Proofs.YthdccmjdbcllkaaGreatDoor
namespace Go.Proofs.YthdccmjdbcllkaaGreatDoor
open Go.RowKit
def rngC (f m : Nat -> Int) (i : Nat) : List Value := [.int .i64 (f i),.int .i64 (m i)]
def intC (b : Nat -> Int) (i : Nat) : List Value := [.int .i64 (b i)]
theorem rngC_len (f m : Nat -> Int) (i : Nat) : (rngC f m i).length = 2 := rfl
theorem intC_len (b : Nat -> Int) (i : Nat) : (intC b i).length = 1 := rfl
theorem owns_apart {w : World} {B B' : Nat} {e e' : TypeId} {s s' n n' : Nat} {v v' : Value} {xs xs' : List Value} (h : w.ownsRow B e s v n xs) (h' : w.ownsRow B' e' s' v' n' xs') (he : e ≠ e') : v.ownBlock = none ∨ v.ownBlock ≠ v'.ownBlock := by
 rcases h.2 with ⟨rfl,_⟩ | ⟨g,cap,cur,rfl,_,hg,_⟩
 ·exact .inl rfl
 ·rcases h'.2 with ⟨rfl,_⟩ | ⟨g',cap',cur',rfl,_,hg',_⟩
  ·exact .inr (by simp [Value.ownBlock])
  ·refine .inr fun e2 => ?_
   simp [Value.ownBlock] at e2
   subst e2
   rw [hg] at hg'
   injection hg' with hg'
   injection hg' with _ h2 _
   exact he h2
theorem rows_rng {w : World} {B : Nat} {e : TypeId} {v : Value} {n : Nat} {f m : Nat -> Int} (h : w.ownsRow B e 2 v n (joinC (rngC f m) n)) : ∃ a c,v = .slice a n c /\ n <= c /\ RngRow w a n f m := by
 obtain ⟨a,c,rfl,hc⟩ := owns_shape h
 refine ⟨a,c,rfl,hc,?_⟩
 by_cases h0 : n = 0
 ·exact .inl h0
 ·have key : ∀ i,i < n -> ∀ j u,(rngC f m i)[j]? = some u -> j < 2 -> ∃ g,a = some ⟨g,0,none⟩ /\ B <= g /\ w.cell? ⟨g,i * 2 + j,none⟩ = some u := fun i hi j u hu hj =>
   owns_cell h (by rw [joinC_at (fun i _ => rngC_len f m i) hi hj]; exact hu)
  obtain ⟨g,ha,_,_⟩ := key 0 (by omega) 0 _ rfl (by omega)
  refine .inr ⟨g,0,ha,fun i hi => ?_⟩
  obtain ⟨g1,ha1,_,h1⟩ := key i hi 0 _ rfl (by omega)
  obtain ⟨g2,ha2,_,h2⟩ := key i hi 1 _ rfl (by omega)
  rw [ha] at ha1 ha2
  injection ha1 with ha1
  injection ha1 with ha1
  injection ha2 with ha2
  injection ha2 with ha2
  subst ha1 ha2
  exact ⟨by simpa using h1,by simpa using h2⟩
theorem rows_int {w : World} {B : Nat} {e : TypeId} {v : Value} {n : Nat} {b : Nat -> Int} (h : w.ownsRow B e 1 v n (joinC (intC b) n)) : ∃ a c,v = .slice a n c /\ n <= c /\ RowAt w a n fun i => .int .i64 (b i) := by
 obtain ⟨a,c,rfl,hc⟩ := owns_shape h
 refine ⟨a,c,rfl,hc,?_⟩
 by_cases h0 : n = 0
 ·exact .inl h0
 ·have key : ∀ i,i < n -> ∃ g,a = some ⟨g,0,none⟩ /\ B <= g /\ w.cell? ⟨g,i,none⟩ = some (.int .i64 (b i)) := fun i hi =>
   owns_cell h (by have := joinC_at (g := intC b) (s := 1) (n := n) (i := i) (j := 0) (fun i _ => intC_len b i) hi (by omega); simpa [intC] using this)
  obtain ⟨g,ha,_,_⟩ := key 0 (by omega)
  refine .inr ⟨g,0,ha,fun i hi => ?_⟩
  obtain ⟨g1,ha1,_,h1⟩ := key i hi
  rw [ha] at ha1
  injection ha1 with ha1
  injection ha1 with ha1
  subst ha1
  simpa using h1
theorem growInt {B : Nat} {w : World} {v : Value} {n : Nat} {b : Nat -> Int} (x : Int) (hB : B <= w.heap.size) (h : w.ownsRow B 3 1 v n (joinC (intC b) n)) (hn : n < 1000000) :
 ∃ v' W,(Builtin.append_ #[97,97] 97 #[v,.slice (some ⟨w.heap.size,0,none⟩) 1 1]).run Tryz.prog (w.alloc (.cells #[.int .i64 x] 3)) = .ok v' W /\ Grown B 3 1 (w.alloc (.cells #[.int .i64 x] 3)) v (n + 1) (joinC (intC b) n ++ [.int .i64 x]) v' W :=
 append_from 97 3 1 8 (.int .i64 0) (by kernel_rfl) (by kernel_rfl) (by rfl) (by decide) B _ v n _ (h.alloc _) (some ⟨w.heap.size,0,none⟩) 1 1 [.int .i64 x] rfl
  (.inr ⟨_,_,rfl,fun j u hj => by
    match j,hj with
    | 0,hj => simp at hj; subst hj; simp [go_sem]
    | j + 1,hj => simp at hj⟩) (fun u hu => by simp at hu; subst hu; rfl) (by simp; omega) (by omega) (by decide)
theorem growRng {B : Nat} {w : World} {v : Value} {n : Nat} {f m : Nat -> Int} (x y : Int) (hB : B <= w.heap.size) (h : w.ownsRow B 173 2 v n (joinC (rngC f m) n)) (hn : n < 1000000) :
 ∃ v' W,(Builtin.append_ #[169,169] 169 #[v,.slice (some ⟨w.heap.size,0,none⟩) 1 1]).run Tryz.prog (w.alloc (.cells #[.int .i64 x,.int .i64 y] 173)) = .ok v' W /\ Grown B 173 2 (w.alloc (.cells #[.int .i64 x,.int .i64 y] 173)) v (n + 1) (joinC (rngC f m) n ++ [.int .i64 x,.int .i64 y]) v' W :=
 append_from 169 173 2 16 (.agg #[.int .i64 0,.int .i64 0]) (by kernel_rfl) (by kernel_rfl) (by rfl) (by decide) B _ v n _ (h.alloc _) (some ⟨w.heap.size,0,none⟩) 1 1 [.int .i64 x,.int .i64 y] rfl
  (.inr ⟨_,_,rfl,fun j u hj => by
    match j,hj with
    | 0,hj => simp at hj; subst hj; simp [go_sem]
    | 1,hj => simp at hj; subst hj; simp [go_sem]
    | j + 2,hj => simp at hj⟩) (fun u hu => by simp at hu; rcases hu with rfl | rfl <;> rfl) (by simp; omega) (by omega) (by decide)
theorem joinInt {b b' : Nat -> Int} {n : Nat} {x : Int} (h : ∀ i,i < n -> b i = b' i) (hx : b' n = x) : joinC (intC b) n ++ [.int .i64 x] = joinC (intC b') (n + 1) := by
 show _ = joinC (intC b') n ++ intC b' n
 rw [joinC_congr (h := intC b') (fun i hi => by simp [intC,h i hi])]
 simp [intC,hx]
theorem joinRng {f m f' m' : Nat -> Int} {n : Nat} {x y : Int} (h : ∀ i,i < n -> f i = f' i /\ m i = m' i) (hx : f' n = x) (hy : m' n = y) : joinC (rngC f m) n ++ [.int .i64 x,.int .i64 y] = joinC (rngC f' m') (n + 1) := by
 show _ = joinC (rngC f' m') n ++ rngC f' m' n
 rw [joinC_congr (h := rngC f' m') (fun i hi => by simp [rngC,h i hi])]
 simp [rngC,hx,hy]
theorem rng_cells {w : World} {a : Option Addr} {n : Nat} {f m : Nat -> Int} (h : RngRow w a n f m) : n = 0 ∨ ∃ b o,a = some ⟨b,o,none⟩ /\ ∀ j u,(joinC (rngC f m) n)[j]? = some u -> w.cell? ⟨b,o + j,none⟩ = some u := by
 rcases h with h | ⟨b,o,ha,hc⟩
 ·exact .inl h
 ·refine .inr ⟨b,o,ha,fun j u hj => ?_⟩
  have hlt : j < n * 2 := by
   have := (List.getElem?_eq_some_iff.1 hj).1
   rw [joinC_len (fun i _ => rngC_len f m i)] at this
   exact this
  have e : j = j / 2 * 2 + j % 2 := by omega
  rw [e,joinC_at (fun i _ => rngC_len f m i) (by omega : j / 2 < n) (by omega : j % 2 < 2)] at hj
  have := hc (j / 2) (by omega)
  have hm : j % 2 = 0 ∨ j % 2 = 1 := by omega
  rcases hm with h2 | h2
  ·rw [h2] at hj
   simp [rngC] at hj
   rw [e,h2]
   simpa [hj] using this.1
  ·rw [h2] at hj
   simp [rngC] at hj
   rw [e,h2,<- Nat.add_assoc]
   simpa [hj] using this.2
theorem rng_one {f m : Nat -> Int} {n : Nat} : ∀ u ∈ joinC (rngC f m) n,u.oneCell' = true := fun u hu => by
 obtain ⟨i,_,h⟩ := joinC_mem hu
 simp [rngC] at h
 rcases h with rfl | rfl <;> rfl
set_option maxHeartbeats 1000000 in
theorem cloneRng_any (f m : Nat -> Int) (a : Option Addr) (n c : Nat) (w : World) (hn : n <= 1000000) (hr : RngRow w a n f m) :
 Calls Tryz.prog 91 #[.slice a n c] w fun e w' => (∃ v',e = .returned v' /\ w'.ownsRow w.heap.size 173 2 v' n (joinC (rngC f m) n)) /\ Below w.heap.size w w' := by
 have q : ∀ (w : World) (a : Option Addr) (n c n' c' : Nat),(binOp .eql 169 (.slice a n c) (.slice none n' c')).run Tryz.prog w = .ok (.bool a.isNone) w := fun w a n c n' c' => Lib.run_eql_slice_nil w _ _ a n c n' c' Tryz.underlying169
 cases a with
 | none =>
  have h0 : n = 0 := by
   rcases hr with h | ⟨b,o,h,_⟩
   ·exact h
   ·cases h
  subst h0
  go_enter Tryz.func91,Tryz.ntmps91
  go_wp2
  go_ret
  exact ⟨⟨_,rfl,World.ownsRow_nil _ _ _ _⟩,Below.refl _ _⟩
 | some ad =>
  obtain ⟨v',W,happ,hG⟩ := append_from 169 173 2 16 (.agg #[.int .i64 0,.int .i64 0]) (by kernel_rfl) (by kernel_rfl) (by rfl) (by decide) w.heap.size (w.alloc (.cells #[] 173)) (.slice (some ⟨w.heap.size,0,none⟩) 0 0) 0 []
   (World.ownsRow_made w #[] 0 (Nat.le_refl _) (Nat.zero_le _) rfl) (some ad) n c (joinC (rngC f m) n) (joinC_len (fun i _ => rngC_len f m i)) (rng_cells (hr.later ((Below.refl _ _).alloc (Nat.le_refl _) _))) rng_one (by simp) (by omega) (by decide)
  clear hr
  go_enter Tryz.func91,Tryz.ntmps91
  go_wp2_with (at_builtin; refine list_run rfl _ _ 169 rfl _ _ _ rfl rfl happ ?_)
  go_ret
  exact ⟨⟨v',rfl,by simpa using hG.own⟩,((Below.refl _ _).alloc (Nat.le_refl _) _).trans hG.below⟩
end Go.Proofs.YthdccmjdbcllkaaGreatDoor
