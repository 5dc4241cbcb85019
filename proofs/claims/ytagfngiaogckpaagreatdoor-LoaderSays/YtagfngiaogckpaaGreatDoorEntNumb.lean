/- A shelf on a disk, in plain words: what stands on it; what is left where entries are kept, and where the disk falls meanwhile. What writeBody of package shelf does, of any disk that isn't down and on which nothing is late: the body is kept, or the disk fell, and all but that body is as it was. What number of package entry returns, of any text; what the library's Clone does here. -/
import Derived.Test.YtagfngiaogckpaaGreatDoorShelfWrite
namespace Go.Proofs.YtagfngiaogckpaaGreatDoor
open Go.RowKit
structure ShelfOk (E : Nat -> EntF) (k : Nat) : Prop where
 few : k <= 3
 ok : ∀ i,i < k -> entF (E i) = 0
 once : ∀ i j,i < k -> j < k -> (E i).root = (E j).root -> i = j
theorem ShelfOk.ent {E : Nat -> EntF} {k : Nat} (h : ShelfOk E k) {i : Nat} (hi : i < k) : EntOk (E i) := entOk (h.ok i hi)
def bodyK (s : DSt) (b q : Nat) : List UInt8 := catTo (fun i => (s.K (1 + b * 55 + i)).kept) q
structure Stands (s : DSt) (n : Nat) (E : Nat -> EntF) (k : Nat) : Prop where
 up : s.down = false
 many : 112 <= n
 calm : ∀ i,i < n -> (s.K i).late = []
 good : ShelfOk E k
 head : ∃ b q : Nat,b <= 1 /\ q <= 55 /\ (s.K 0).kept = headT b.toUInt8 q.toUInt8 /\ Lib.trimRightB (bodyK s b q) 0 = linesE E k
theorem bodyK_congr {s s' : DSt} {b q : Nat} (h : ∀ i,i < q -> (s'.K (1 + b * 55 + i)).kept = (s.K (1 + b * 55 + i)).kept) : bodyK s' b q = bodyK s b q := by
 unfold bodyK
 induction q with
 | zero => rfl
 | succ q ih =>
  have := ih fun i hi => h i (by omega)
  simp only [catTo]
  rw [this,h q (by omega)]
theorem Stands.of {s s' : DSt} {n : Nat} {E : Nat -> EntF} {k : Nat} (h : Stands s n E k) (hup : s'.down = false) (hc : ∀ i,i < n -> (s'.K i).late = []) (hK : ∀ i,i < n -> (s'.K i).kept = (s.K i).kept) : Stands s' n E k := by
 obtain ⟨b,q,hb,hq,hh,ht⟩ := h.head
 have hm := h.many
 refine ⟨hup,h.many,hc,h.good,b,q,hb,hq,(hK 0 (by omega)).trans hh,?_⟩
 rw [bodyK_congr (fun i hi => hK _ (by have : b * 55 <= 55 := by omega
                                       omega))]
 exact ht
theorem Stands.same {s : DSt} {n : Nat} {E E' : Nat -> EntF} {k : Nat} (h : Stands s n E k) (e : ∀ i,i < k -> SameE (E i) (E' i)) : Stands s n E' k := by
 have hl : ∀ i,i < k -> entF (E' i) = 0 /\ lineE (E i) = lineE (E' i) := fun i hi => (e i hi).line (h.good.ok i hi)
 obtain ⟨b,q,hb,hq,hh,ht⟩ := h.head
 refine ⟨h.up,h.many,h.calm,⟨h.good.few,fun i hi => (hl i hi).1,fun i j hi hj he => h.good.once i j hi hj ?_⟩,b,q,hb,hq,hh,ht.trans (linesE_congr fun i hi => (hl i hi).2)⟩
 rw [(e i hi).root,(e j hj).root]; exact he
theorem Stands.now {s : DSt} {n : Nat} {E : Nat -> EntF} {k : Nat} (h : Stands s n E k) {i : Nat} (hi : i < n) : (s.K i).now = (s.K i).kept := by
 unfold Sec.now; rw [h.calm i hi]; rfl
def chunk (t : List UInt8) (i : Nat) : List UInt8 := (t.drop (64 * i)).take 64
theorem chunk_len (t : List UInt8) (i : Nat) : (chunk t i).length <= 64 := by simp [chunk]; omega
theorem chunks (t : List UInt8) : ∀ k,catTo (fun i => padB (chunk t i)) k = t.take (64 * k) ++ List.replicate (64 * k - t.length) 0
 | 0 => by simp [catTo]
 | k + 1 => by
  simp only [catTo]
  rw [chunks t k]
  by_cases h : 64 * k <= t.length
  ·have e0 : 64 * k - t.length = 0 := by omega
   rw [e0,List.replicate_zero,List.append_nil]
   unfold padB chunk
   rw [<- List.append_assoc,show 64 * (k + 1) = 64 * k + 64 by omega,List.take_add]
   congr 2
   rw [List.length_take,List.length_drop]
   omega
  ·have e1 : chunk t k = [] := by unfold chunk; rw [List.drop_of_length_le (by omega)]; rfl
   rw [e1,List.take_of_length_le (by omega),List.take_of_length_le (by omega)]
   unfold padB
   rw [List.nil_append,List.append_assoc,List.replicate_append_replicate]
   congr 2
   simp
   omega
theorem trim_zeros {t : List UInt8} (m : Nat) (h : t = [] ∨ t.getLast? = some 10) : Lib.trimRightB (t ++ List.replicate m 0) 0 = t := by
 rw [Lib.trimRightB_take (t ++ List.replicate m 0) 0 t.length (by simp) ?_ ?_]
 ·simp
 ·intro j b hj hb
  rw [List.getElem?_append_right hj] at hb
  have := List.mem_of_getElem? hb
  exact (List.mem_replicate.1 this).2
 ·intro b hk hb
  rw [List.getElem?_append_left (by omega)] at hb
  rcases h with rfl | h
  ·simp at hk
  ·rw [List.getLast?_eq_getElem?,hb] at h
   injection h with h
   subst h
   decide
def many64 (t : List UInt8) : Nat := (t.length + 63) / 64
theorem chunks_all (t : List UInt8) (h : t = [] ∨ t.getLast? = some 10) : Lib.trimRightB (catTo (fun i => padB (chunk t i)) (many64 t)) 0 = t := by
 rw [chunks t (many64 t),List.take_of_length_le (by unfold many64; omega)]
 exact trim_zeros _ h
structure Bodied (s s1 : DSt) (b : Nat) (t : List UInt8) (k : Nat) : Prop where
 up : s1.down = false
 left : s.left = -1 -> s1.left = -1
 rest : ∀ i,¬ (1 + b * 55 <= i /\ i < 1 + b * 55 + k) -> s1.K i = s.K i
 body : ∀ i,i < k -> ∃ bit,bit < 64 /\ s1.K (1 + b * 55 + i) = ⟨(s.K (1 + b * 55 + i)).kept,[(bit,padB (chunk t i))]⟩
theorem Bodied.start {s : DSt} (h : s.down = false) (b : Nat) (t : List UInt8) : Bodied s s b t 0 := ⟨h,id,fun _ _ => rfl,fun i hi => by omega⟩
theorem not_falls {s : DSt} (h : s.falls = false) : s.down = false /\ s.left ≠ 0 := by simpa [DSt.falls] using h
theorem stepped_calm {s : DSt} (h : s.left = -1) : s.stepped.left = -1 := by simp [DSt.stepped,h]
theorem Bodied.more {s s1 : DSt} {b k : Nat} {t : List UInt8} (h : Bodied s s1 b t k) (hf : s1.falls = false) (hn : s1.next < 64) (hc : (s.K (1 + b * 55 + k)).late = []) : Bodied s (s1.stepped.put (1 + b * 55 + k) (padB (chunk t k))) b t (k + 1) := by
 have hk : s1.stepped.K (1 + b * 55 + k) = s.K (1 + b * 55 + k) := h.rest _ (by omega)
 have hke : (s1.stepped.put (1 + b * 55 + k) (padB (chunk t k))).K = fun j => if j = 1 + b * 55 + k then ⟨(s1.stepped.K (1 + b * 55 + k)).kept,struck (s1.stepped.K (1 + b * 55 + k)).late s1.stepped.next ++ [(s1.stepped.next,padB (chunk t k))]⟩ else s1.stepped.K j := rfl
 refine ⟨(not_falls hf).1,fun hl => stepped_calm (h.left hl),fun i hi => ?_,fun i hi => ?_⟩
 ·rw [hke]
  show (if i = 1 + b * 55 + k then _ else s1.K i) = _
  rw [if_neg (by omega)]
  exact h.rest i (by omega)
 ·by_cases e : i = k
  ·subst e
   refine ⟨s1.next,hn,?_⟩
   rw [hke]
   show (if 1 + b * 55 + i = 1 + b * 55 + i then _ else _) = _
   rw [if_pos rfl,hk,hc]
   rfl
  ·obtain ⟨bit,h1,h2⟩ := h.body i (by omega)
   refine ⟨bit,h1,?_⟩
   rw [hke]
   show (if 1 + b * 55 + i = 1 + b * 55 + k then _ else s1.K (1 + b * 55 + i)) = _
   rw [if_neg (by omega)]
   exact h2
def Split (s : DSt) (n : Nat) (E : Nat -> EntF) (k : Nat) (E' : Nat -> EntF) (k' : Nat) : Prop := s.down = true /\ ∀ keep,Stands (s.again keep) n E k ∨ Stands (s.again keep) n E' k'
theorem Stands.fallen {s s1 : DSt} {n b0 q0 : Nat} {E E' : Nat -> EntF} {k k' : Nat} (h : Stands s n E k) (hb0 : b0 <= 1) (hq0 : q0 <= 55) (hh : (s.K 0).kept = headT b0.toUInt8 q0.toUInt8) (ht : Lib.trimRightB (bodyK s b0 q0) 0 = linesE E k)
 (hd : s1.down = true) (hr : ∀ i,i < n -> ¬ (1 + (1 - b0) * 55 <= i /\ i < 1 + (1 - b0) * 55 + 55) -> s1.K i = s.K i) : Split s1 n E k E' k' := by
 have hm := h.many
 have hk : ∀ keep i,i < n -> ¬ (1 + (1 - b0) * 55 <= i /\ i < 1 + (1 - b0) * 55 + 55) -> ((s1.again keep).K i).kept = (s.K i).kept := fun keep i hi hn => by
  show keepTo keep (s1.K i).kept (s1.K i).late = _
  rw [hr i hi hn,h.calm i hi]
  rfl
 refine ⟨hd,fun keep => .inl ⟨rfl,hm,fun _ _ => rfl,h.good,b0,q0,hb0,hq0,(hk keep 0 (by omega) (by omega)).trans hh,?_⟩⟩
 rw [bodyK_congr (s := s) (fun i hi => hk keep _ (by have : b0 * 55 <= 55 := by omega
                                                     omega) (by rcases Nat.le_one_iff_eq_zero_or_eq_one.1 hb0 with rfl | rfl <;> omega))]
 exact ht
structure BodyKept (s s2 : DSt) (n b : Nat) (t : List UInt8) : Prop where
 up : s2.down = false
 left : s.left = -1 -> s2.left = -1
 rest : ∀ i,i < n -> ¬ (1 + b * 55 <= i /\ i < 1 + b * 55 + 55) -> s2.K i = s.K i
 calm : ∀ i,i < n -> (s2.K i).late = []
 body : ∀ i,i < many64 t -> (s2.K (1 + b * 55 + i)).kept = padB (chunk t i)
theorem bit_all {c d : List UInt8} {bit : Nat} (h : bit < 64) : keepTo 18446744073709551615 c [(bit,d)] = d := by
 show (if bitOf 18446744073709551615 bit = true then d else c) = d
 rw [bitOf_all bit h,if_pos rfl]
theorem sec_calm {S : Sec} {keep : Int} (h : S.late = []) : (⟨keepTo keep S.kept S.late,[]⟩ : Sec) = S := by
 obtain ⟨c,l⟩ := S
 simp only at h
 subst h
 rfl
theorem Bodied.flush {s s1 : DSt} {n b : Nat} {t : List UInt8} (h : Bodied s s1 b t (many64 t)) (hq : many64 t <= 55) (hf : s1.falls = false) (hc : ∀ i,i < n -> (s.K i).late = []) : BodyKept s (s1.stepped.settled 18446744073709551615) n b t := by
 refine ⟨(not_falls hf).1,fun hl => stepped_calm (h.left hl),fun i hi hn => ?_,fun _ _ => rfl,fun i hi => ?_⟩
 ·have e := h.rest i (by omega)
  show (⟨keepTo _ (s1.K i).kept (s1.K i).late,[]⟩ : Sec) = _
  rw [e]
  exact sec_calm (hc i hi)
 ·obtain ⟨bit,h1,h2⟩ := h.body i hi
  show keepTo _ (s1.K (1 + b * 55 + i)).kept (s1.K (1 + b * 55 + i)).late = _
  rw [h2]
  exact bit_all h1
theorem many64_le {t : List UInt8} (h : t.length <= 2256) : many64 t <= 55 := by unfold many64; omega
theorem Stands.new {S : DSt} {n b : Nat} {E : Nat -> EntF} {k : Nat} (hg : ShelfOk E k) (hn : 112 <= n) (hb : b <= 1) (hup : S.down = false) (hc : ∀ i,i < n -> (S.K i).late = []) (h0 : (S.K 0).kept = headT b.toUInt8 (many64 (linesE E k)).toUInt8)
 (hbody : ∀ i,i < many64 (linesE E k) -> (S.K (1 + b * 55 + i)).kept = padB (chunk (linesE E k) i)) : Stands S n E k := by
 refine ⟨hup,hn,hc,hg,b,many64 (linesE E k),hb,many64_le (linesE_len hg.few fun i hi => hg.ent hi),h0,?_⟩
 have e : bodyK S b (many64 (linesE E k)) = catTo (fun i => padB (chunk (linesE E k) i)) (many64 (linesE E k)) := by
  unfold bodyK
  generalize many64 (linesE E k) = q at *
  clear h0
  induction q with
  | zero => rfl
  | succ q ih =>
   have h1 := ih fun i hi => hbody i (by omega)
   simp only [catTo]
   rw [h1,hbody q (by omega)]
 rw [e]
 exact chunks_all _ (linesE_end E k)
theorem padB_head (b q : UInt8) : padB (headB b q).data.toList = headT b q := by
 have h : (headT b q).length = 64 := by simp [headT]
 unfold padB headB
 simp [h]
theorem write_head {s : DSt} {n : Nat} (b q : UInt8) (hn : 112 <= n) : s.writeF n 0 (headB b q) = (if s.falls = true then 9 else 0) /\ s.wrote n 0 (headB b q) = if s.falls = true then s.fell else s.stepped.put 0 (headT b q) := by
 have hs := headB_size b q
 have hno : ¬ (¬ ((0 : Int) <= 0 /\ (0 : Int) < n) ∨ 64 < (headB b q).size) := by rw [hs]; omega
 unfold DSt.writeF DSt.wrote
 rw [if_neg hno,if_neg hno,padB_head]
 exact ⟨rfl,rfl⟩
theorem head_done {s s2 : DSt} {n b0 q0 : Nat} {E E' : Nat -> EntF} {k k' : Nat} (h : Stands s n E k) (hb0 : b0 <= 1) (hq0 : q0 <= 55) (hh : (s.K 0).kept = headT b0.toUInt8 q0.toUInt8) (ht : Lib.trimRightB (bodyK s b0 q0) 0 = linesE E k)
 (hK : BodyKept s s2 n (1 - b0) (linesE E' k')) (hg : ShelfOk E' k') (hnx : s2.next < 64) :
 (s2.headF n (1 - b0).toUInt8 (many64 (linesE E' k')).toUInt8 = 0 /\ Stands (s2.headed n (1 - b0).toUInt8 (many64 (linesE E' k')).toUInt8) n E' k' /\ (s.left = -1 -> (s2.headed n (1 - b0).toUInt8 (many64 (linesE E' k')).toUInt8).left = -1)) ∨
 (s.left ≠ -1 /\ s2.headF n (1 - b0).toUInt8 (many64 (linesE E' k')).toUInt8 = 9 /\ Split (s2.headed n (1 - b0).toUInt8 (many64 (linesE E' k')).toUInt8) n E k E' k') := by
 have hn := h.many
 have hb1 : 1 - b0 <= 1 := by omega
 obtain ⟨e1,e2⟩ := write_head (s := s2) (n := n) (1 - b0).toUInt8 (many64 (linesE E' k')).toUInt8 hn
 have hcal := hK.calm
 have hbod := hK.body
 unfold DSt.headF DSt.headed
 rw [e1,e2]
 by_cases hf : s2.falls = true
 ·rw [if_pos hf,if_pos hf,if_neg (by decide)]
  refine .inr ⟨fun hl => ?_,rfl,?_⟩
  ·have h1 := hK.left hl
   simp [DSt.falls,hK.up,h1] at hf
  ·rw [if_neg (by decide)]
   exact h.fallen hb0 hq0 hh ht rfl fun i hi hn' => hK.rest i hi hn'
 ·have hf' : s2.falls = false := by simpa using hf
  rw [if_neg hf,if_neg hf,if_pos rfl,if_pos rfl]
  have hk0 : s2.K 0 = s.K 0 := hK.rest 0 (by omega) (by omega)
  generalize hs3 : s2.stepped.put 0 (headT (1 - b0).toUInt8 (many64 (linesE E' k')).toUInt8) = s3
  have k0 : s3.K 0 = ⟨(s2.K 0).kept,[(s2.next,headT (1 - b0).toUInt8 (many64 (linesE E' k')).toUInt8)]⟩ := by
   rw [<- hs3]
   show (if (0 : Nat) = 0 then (⟨(s2.K 0).kept,struck (s2.K 0).late s2.next ++ [(s2.next,_)]⟩ : Sec) else s2.K 0) = _
   rw [if_pos rfl,hcal 0 (by omega)]
   rfl
  have ki : ∀ i,i ≠ 0 -> s3.K i = s2.K i := fun i hi => by
   rw [<- hs3]
   show (if i = 0 then _ else s2.K i) = _
   rw [if_neg hi]
  have hup3 : s3.down = false := by rw [<- hs3]; exact hK.up
  have hl3 : s.left = -1 -> s3.left = -1 := fun hl => by rw [<- hs3]; exact stepped_calm (hK.left hl)
  clear hs3
  have hnew : ∀ (S : DSt) (keep : Int),S.down = false -> S.K = (fun j => ⟨keepTo keep (s3.K j).kept (s3.K j).late,[]⟩) -> bitOf keep s2.next = true -> Stands S n E' k' := fun S keep hS hSK hbit => by
   refine Stands.new hg hn hb1 hS (fun i _ => by rw [hSK]) ?_ (fun i hi => ?_)
   ·rw [hSK]
    show keepTo keep (s3.K 0).kept (s3.K 0).late = _
    rw [k0]
    show (if bitOf keep s2.next = true then _ else _) = _
    rw [if_pos hbit]
   ·rw [hSK]
    have hq := many64_le (linesE_len (E := E') hg.few fun i hi => hg.ent hi)
    have hlt : 1 + (1 - b0) * 55 + i < n := by have : (1 - b0) * 55 <= 55 := by omega
                                               omega
    show keepTo keep (s3.K (1 + (1 - b0) * 55 + i)).kept (s3.K (1 + (1 - b0) * 55 + i)).late = _
    rw [ki _ (by omega),hcal _ hlt]
    exact hbod i hi
  by_cases hf3 : s3.falls = true
  ·refine .inr ⟨fun hl => ?_,?_,?_⟩
   ·have h1 := hl3 hl
    simp [DSt.falls,hup3,h1] at hf3
   ·unfold DSt.flushF; rw [if_pos hf3]
   ·unfold DSt.flushed; rw [if_pos hf3]
    refine ⟨rfl,fun keep => ?_⟩
    by_cases hbit : bitOf keep s2.next = true
    ·exact .inr (hnew _ keep rfl rfl hbit)
    ·left
     have hk : ∀ i,i < n -> ¬ (1 + (1 - b0) * 55 <= i /\ i < 1 + (1 - b0) * 55 + 55) -> ((s3.fell.again keep).K i).kept = (s.K i).kept := fun i hi hn' => by
      show keepTo keep (s3.K i).kept (s3.K i).late = _
      by_cases e : i = 0
      ·subst e
       rw [k0]
       show (if bitOf keep s2.next = true then _ else (s2.K 0).kept) = _
       rw [if_neg hbit,hk0]
      ·rw [ki i e,hcal i hi]
       show (s2.K i).kept = _
       rw [hK.rest i hi hn']
     refine ⟨rfl,hn,fun _ _ => rfl,h.good,b0,q0,hb0,hq0,(hk 0 (by omega) (by omega)).trans hh,?_⟩
     rw [bodyK_congr (s := s) (fun i hi => hk _ (by have : b0 * 55 <= 55 := by omega
                                                    omega) (by rcases Nat.le_one_iff_eq_zero_or_eq_one.1 hb0 with rfl | rfl <;> omega))]
     exact ht
  ·have hf3' : s3.falls = false := by simpa using hf3
   have hbit : bitOf 18446744073709551615 s2.next = true := bitOf_all _ hnx
   refine .inl ⟨?_,?_,?_⟩
   ·unfold DSt.flushF; rw [if_neg hf3]
   ·unfold DSt.flushed; rw [if_neg hf3]
    exact hnew _ _ hup3 rfl hbit
   ·unfold DSt.flushed; rw [if_neg hf3]
    exact fun hl => stepped_calm (hl3 hl)
inductive BodyEnd (s : DSt) (n b : Nat) (t : List UInt8) (s' : DSt) : Ending -> Prop
 | ok (h : BodyKept s s' n b t) : BodyEnd s n b t s' (.returned (.tuple #[.agg #[.int .i64 (b : Int),.int .i64 (many64 t : Int)],.nilIface]))
 | fell (x y : Int) (hl : s.left ≠ -1) (hd : s'.down = true) (hr : ∀ i,i < n -> ¬ (1 + b * 55 <= i /\ i < 1 + b * 55 + 55) -> s'.K i = s.K i) : BodyEnd s n b t s' (.returned (.tuple #[.agg #[.int .i64 x,.int .i64 y],errV 9]))
theorem Disk.nx {w : World} {B p n : Nat} {s : DSt} (h : Disk w B p n s) : s.next < 64 := by
 obtain ⟨⟨bs,v,h⟩,_⟩ := h
 exact h.nx
theorem Spun.own {B g i : Nat} {w wr : World} (h : Spun B w wr) (hB : B <= w.heap.size) (hg : w.heap.size <= g) (v : Value) : Spun B w (wr.setCell ⟨g,i,none⟩ v) :=
 ⟨⟨h.below.os,h.below.tape,h.below.output,by simp [World.setCell]; exact h.below.size,fun k hk => (Below.heap_setCell _ _ _ _ (by show k ≠ g; omega)).trans (h.below.block k hk)⟩,fun k o hk ho => by
  have hl := (Array.getElem?_eq_some_iff.1 hk).1
  rw [Below.heap_setCell _ _ _ _ (by show k ≠ g; omega)]
  exact h.block k o hk ho⟩
theorem Disk.set {w : World} {B p n g i : Nat} {s : DSt} {C : Array Value} {t : TypeId} {f : Nat × Nat} (h : Disk w B p n s) (hg : w.heap[g]? = some (.cells C t f)) (ht : ¬ (t = 112 ∨ t = 194 ∨ t = 191)) (v : Value) : Disk (w.setCell ⟨g,i,none⟩ v) B p n s :=
 h.other fun k o hk ho => by
  by_cases e : k = g
  ·subst e
   rw [hg] at hk
   injection hk with hk
   obtain ⟨c,t',f',rfl,h'⟩ := ho
   injection hk with _ h2 _
   exact absurd (h2 ▸ h') ht
  ·rw [Below.heap_setCell _ _ _ _ e]; exact hk
theorem chunk_cut (t : List UInt8) (j : Nat) : (⟨(t.drop (64 * j)).toArray⟩ : ByteArray).extract 0 (min (⟨(t.drop (64 * j)).toArray⟩ : ByteArray).size 64) = ⟨(chunk t j).toArray⟩ /\
 (⟨(t.drop (64 * j)).toArray⟩ : ByteArray).extract (min (⟨(t.drop (64 * j)).toArray⟩ : ByteArray).size 64) (⟨(t.drop (64 * j)).toArray⟩ : ByteArray).size = ⟨(t.drop (64 * (j + 1))).toArray⟩ := by
 rw [Lib.extract_mk,Lib.extract_mk,ba_size]
 have e : t.drop (64 * (j + 1)) = (t.drop (64 * j)).drop 64 := by rw [List.drop_drop]; rfl
 rw [e]
 unfold chunk
 generalize t.drop (64 * j) = l
 rw [List.drop_zero,Nat.sub_zero]
 by_cases h64 : 64 <= l.length
 ·rw [Nat.min_eq_right h64,List.take_of_length_le (l := l.drop 64) (by simp)]
  exact ⟨rfl,rfl⟩
 ·rw [Nat.min_eq_left (by omega),List.take_of_length_le (Nat.le_refl _),List.take_of_length_le (l := l) (by omega),List.drop_of_length_le (Nat.le_refl _),List.drop_of_length_le (l := l) (by omega)]
  exact ⟨rfl,by simp⟩
theorem head_not (C : Array Value) (f : Nat × Nat) : ¬ DiskTy (.cells C 116 f) := by
 rintro ⟨c,t,f',h,ht⟩
 injection h with _ h2 _
 subst h2
 exact absurd ht (by decide)
theorem two_new0 (w : World) (a b : Obj) : ((w.alloc a).alloc b).heap[w.heap.size]? = some a := by
 have h : w.heap.size < (w.alloc a).heap.size := by simp
 exact ((((Below.refl _ _).alloc (Nat.le_refl _) b).block _ h : ((w.alloc a).alloc b).heap[w.heap.size]? = (w.alloc a).heap[w.heap.size]?)).trans Array.getElem?_push_size
theorem two_new1 (w : World) (a b : Obj) : ((w.alloc a).alloc b).heap[w.heap.size + 1]? = some b := by
 have h : (w.alloc a).heap.size = w.heap.size + 1 := by simp
 rw [<- h]
 exact Array.getElem?_push_size
set_option maxRecDepth 100000 in
set_option maxHeartbeats 4000000 in
theorem writeBody_any (w : World) (B p n : Nat) (s : DSt) (b : Nat) (t : List UInt8) (h : Disk w B p n s) (hup : s.down = false) (hn : 112 <= n) (hb : b <= 1) (ht : t.length <= 3520) (hc : ∀ i,i < n -> (s.K i).late = []) :
 Calls Tryz.prog 80 #[.pointer (some ⟨p,0,none⟩),.int .i64 (b : Int),.string ⟨t.toArray⟩] w fun e w' => ∃ s',BodyEnd s n b t s' e /\ Disk w' B p n s' /\ Spun B w w' := by
 have hB := h.base
 have hbi : (b : Int) <= 1 := by omega
 have hbi0 : (0 : Int) <= (b : Int) := by omega
 have q0 : errV 0 = .nilIface := rfl
 have q9 : errV 9 = .iface 82 (.int .i64 9) := rfl
 have hb0 : Below w.heap.size w ((w.alloc (.cells #[.int .i64 0,.int .i64 0] 116)).alloc (.cells #[.int .i64 (b : Int),.int .i64 0] 116)) := ((Below.refl _ _).alloc (Nat.le_refl _) _).alloc (by simp) _
 have r0 : ((w.alloc (.cells #[.int .i64 0,.int .i64 0] 116)).alloc (.cells #[.int .i64 (b : Int),.int .i64 0] 116)).heap[w.heap.size]? = some (.cells #[.int .i64 0,.int .i64 0] 116 (0,0)) := two_new0 _ _ _
 have r1 : ((w.alloc (.cells #[.int .i64 0,.int .i64 0] 116)).alloc (.cells #[.int .i64 (b : Int),.int .i64 0] 116)).heap[w.heap.size + 1]? = some (.cells #[.int .i64 (b : Int),.int .i64 0] 116 (0,0)) := two_new1 _ _ _
 go_enter Tryz.func80,Tryz.ntmps80
 go_wp2
 go_loopw [2] (fun y wr => ∃ (j : Nat) (s1 : DSt),y = .string ⟨(t.drop (64 * j)).toArray⟩ /\ Hid (64 * j < t.length + 64) /\ Bodied s s1 b t j /\ Disk wr B p n s1 /\ Spun B w wr /\ wr.heap[w.heap.size]? = some (.cells #[.int .i64 0,.int .i64 0] 116 (0,0)) /\ wr.heap[w.heap.size + 1]? = some (.cells #[.int .i64 (b : Int),.int .i64 (j : Int)] 116 (0,0))) (fun y _ => Lib.strSize y)
 case atStart => exact ⟨0,s,rfl,by show 64 * 0 < t.length + 64; omega,Bodied.start hup b t,h.later hb0,Spun.of hB hb0,r0,r1⟩
 case round =>
  clear r0 r1 hb0
  obtain ⟨j,s1,rfl,hj,hBd,hD,hSp,r0,r1⟩ := hrel
  have hsz : Hid ((⟨(t.drop (64 * j)).toArray⟩ : ByteArray).size = t.length - 64 * j) := by rw [ba_size,List.length_drop]; exact rfl
  obtain ⟨x0,x1,y0,y1⟩ := box2 r1
  have HT : Hid (_ /\ _) := chunk_cut t j
  generalize (⟨(t.drop (64 * j)).toArray⟩ : ByteArray) = T at *
  have hjn : j < 55 ∨ T.size = 0 := by have h1 := hj.out; have h2 := hsz.out; omega
  by_cases hpos : 0 < T.size
  ·have hp : (0 : Int) < (T.size : Int) := by omega
   have hj55 : j < 55 := by omega
   have hlt : 1 + b * 55 + j < n := by have : b * 55 <= 55 := by omega
                                       omega
   have hji : (j : Int) < 55 := by omega
   have hji0 : (0 : Int) <= (j : Int) := by omega
   have HA := fun W => start_any (b : Int) W hbi0 hbi
   obtain ⟨m,hm⟩ : ∃ m : Nat,m = min T.size 64 := ⟨_,rfl⟩
   have hmi : min (T.size : Int) 64 = (m : Int) := by omega
   have hm0 : (0 : Int) <= (m : Int) := by omega
   have hm1 : (m : Int) <= (T.size : Int) := by omega
   have hmT : m <= T.size := by omega
   have HX : Hid (T.extract 0 m = ⟨(chunk t j).toArray⟩) := by rw [hm]; exact HT.out.1
   have HY : Hid (T.extract m T.size = ⟨(t.drop (64 * (j + 1))).toArray⟩) := by rw [hm]; exact HT.out.2
   have hcs : (⟨(chunk t j).toArray⟩ : ByteArray).size <= 64 := by rw [ba_size]; exact chunk_len t j
   have HCD : Hid ((⟨(chunk t j).toArray⟩ : ByteArray).data.toList = chunk t j) := by show (chunk t j).toArray.toList = _; simp
   generalize (⟨(chunk t j).toArray⟩ : ByteArray) = CH at *
   have HSZ : Hid (m = min T.size 64) := hm
   clear hm hjn
   go_wp2_with fail
   have hSS : (fun w' : World => w'.cell? ⟨w.heap.size + 1,1,none⟩ = some (.int .i64 (j : Int))) wr.drew := x1
   have hDd := hD.later (Below.refl _ wr).drew
   have hSd : Spun B w wr.drew := hSp.trans (Spun.of (Nat.le_trans hB hSp.size) (Below.refl _ wr).drew)
   have r0d : wr.drew.heap[w.heap.size]? = some (.cells #[.int .i64 0,.int .i64 0] 116 (0,0)) := r0
   have r1d : wr.drew.heap[w.heap.size + 1]? = some (.cells #[.int .i64 (b : Int),.int .i64 (j : Int)] 116 (0,0)) := r1
   clear hD hSp r0 r1 x0 x1 y0 y1
   refine wp_region_G (fun w' : World => w'.cell? ⟨w.heap.size + 1,1,none⟩ = some (.int .i64 (j : Int))) 9 11 (by kernel_rfl) rfl ?_
   generalize wr.drew = w1 at *
   refine tW 0 hSS ?_
   refine tW 1 hSS ?_
   refine tW 3 hSS ?_
   refine tW 6 hSS ?_
   refine tW 7 hSS ?_
   refine tW 8 hSS ?_
   rw [HX.out]
   refine tR 4 [5] hSS ?_
   refine oG 2 fun K hK => ?_
   go_wp2_with fail
   refine (show Calls _ _ _ _ _ from HA _).mono ?_
   rintro e w2 ⟨rfl,hw2⟩
   subst hw2
   clear HA
   go_wp2
   refine hK _ _ hSS ?_
   clear hK
   refine tW 5 hSS ?_
   have HWR := diskWrite_any w1 B p n s1 (1 + (b : Int) * 55 + (j : Int)) CH hDd (Nat.le_trans hcs (by decide))
   have hin : ¬ (¬ (0 <= 1 + (b : Int) * 55 + (j : Int) /\ 1 + (b : Int) * 55 + (j : Int) < n) ∨ 64 < CH.size) := by omega
   unfold DSt.writeF DSt.wrote at HWR
   rw [if_neg hin,if_neg hin,HCD.out,show (1 + (b : Int) * 55 + (j : Int)).toNat = 1 + b * 55 + j by omega] at HWR
   refine lG 9 fun K hK => ?_
   cases hf : s1.falls with
   | true =>
    rw [if_pos hf,if_pos hf,q9] at HWR
    go_wp2_with fail
    refine (show Calls _ _ _ _ _ from HWR).mono ?_
    rintro e w4 ⟨rfl,hD4,hS4⟩
    clear HWR
    go_wp2
    refine hK _ _ ?_
    clear hK
    refine tA 10 ?_
    refine doneG (by kernel_rfl) ?_ _
    have r0e := hS4.block _ _ r0d (head_not _ _)
    obtain ⟨z0,z1,z2,z3⟩ := box2 r0e
    have hSE : Spun B w ((w4.setCell ⟨w.heap.size,0,none⟩ (.int .i64 0)).setCell ⟨w.heap.size,1,none⟩ (.int .i64 0)) := ((hSd.trans hS4).own hB (Nat.le_refl _) _).own hB (Nat.le_refl _) _
    have hDE : Disk ((w4.setCell ⟨w.heap.size,0,none⟩ (.int .i64 0)).setCell ⟨w.heap.size,1,none⟩ (.int .i64 0)) B p n s1.fell := (hD4.set r0e (by decide) _).set (heap_set0 _ r0e) (by decide) _
    have HEND : BodyEnd s n b t s1.fell (.returned (.tuple #[.agg #[.int .i64 0,.int .i64 0],errV 9])) := .fell 0 0 (fun hl => by
     have h1 := hBd.left hl
     simp [DSt.falls,hBd.up,h1] at hf) rfl (fun i hi hni => hBd.rest i (by omega))
    clear hf
    go_wp2
    refine bodyPost_ret (v := .tuple #[.agg #[.int .i64 0,.int .i64 0],.iface 82 (.int .i64 9)]) (by simp [results,Tryz.results80,go_sem,z0,z1]) rfl ?_
    exact ⟨_,HEND,hDE,hSE⟩
   | false =>
    rw [if_neg (by simp [hf]),if_neg (by simp [hf]),q0] at HWR
    have hBd2 := hBd.more hf hDd.nx (hc _ hlt)
    go_wp2_with fail
    refine (show Calls _ _ _ _ _ from HWR).mono ?_
    rintro e w4 ⟨rfl,hD4,hS4⟩
    clear HWR
    go_wp2
    refine hK _ _ ?_
    clear hK
    refine tA 10 ?_
    refine doneG (by kernel_rfl) ?_ _
    have r0e := hS4.block _ _ r0d (head_not _ _)
    have r1e := hS4.block _ _ r1d (head_not _ _)
    have hSe := hSd.trans hS4
    obtain ⟨x0,x1,y0,y1⟩ := box2 r1e
    clear hf hSS hDd hSd r0d r1d hS4
    go_wp2
    have hSS : (fun w' : World => w'.cell? ⟨w.heap.size + 1,1,none⟩ = some (.int .i64 (j : Int))) w4.drew := x1
    have hDd := hD4.later (Below.refl _ w4).drew
    have hSd : Spun B w w4.drew := hSe.trans (Spun.of (Nat.le_trans hB hSe.size) (Below.refl _ w4).drew)
    have r0d : w4.drew.heap[w.heap.size]? = some (.cells #[.int .i64 0,.int .i64 0] 116 (0,0)) := r0e
    have r1d : w4.drew.heap[w.heap.size + 1]? = some (.cells #[.int .i64 (b : Int),.int .i64 (j : Int)] 116 (0,0)) := r1e
    obtain ⟨x0',x1',y0',y1'⟩ := box2 r1d
    clear hD4 hSe r0e r1e x0 x1 y0 y1
    refine wp_region_G (fun w' : World => w'.cell? ⟨w.heap.size + 1,1,none⟩ = some (.int .i64 (j : Int))) 8 9 (by kernel_rfl) rfl ?_
    generalize w4.drew = w5 at *
    refine tW 0 hSS ?_
    refine tW 1 hSS ?_
    refine tW 2 hSS ?_
    refine tW 3 hSS ?_
    refine tW 6 hSS ?_
    rw [HY.out]
    refine tR 4 [] hSS ?_
    refine tW 5 hSS ?_
    refine tW 7 hSS ?_
    refine lG 8 fun K hK => ?_
    go_wp2
    refine hK _ _ ?_
    clear hK
    refine doneG (by kernel_rfl) ?_ _
    have hsz2 : (⟨(t.drop (64 * (j + 1))).toArray⟩ : ByteArray).size = t.length - 64 * (j + 1) := by rw [ba_size,List.length_drop]
    have hsz1 := hsz.out
    have r0n : (w5.setCell ⟨w.heap.size + 1,1,none⟩ (.int .i64 ((j : Int) + 1))).heap[w.heap.size]? = some (.cells #[.int .i64 0,.int .i64 0] 116 (0,0)) := (Below.heap_setCell _ _ _ _ (by simp)).trans r0d
    have r1n : (w5.setCell ⟨w.heap.size + 1,1,none⟩ (.int .i64 ((j : Int) + 1))).heap[w.heap.size + 1]? = some (.cells #[.int .i64 (b : Int),.int .i64 ((j + 1 : Nat) : Int)] 116 (0,0)) := by rw [heap_set0 _ r1d]; rfl
    have hDn := hDd.set (i := 1) r1d (by decide) (.int .i64 ((j : Int) + 1))
    have hSn := hSd.own (i := 1) hB (Nat.le_succ w.heap.size) (.int .i64 ((j : Int) + 1))
    go_wp2
    go_roundw
    case rel => exact ⟨j + 1,_,rfl,by show 64 * (j + 1) < t.length + 64; omega,hBd2,hDn,hSn,r0n,r1n⟩
    case measure => show Lib.strSize (.string _) < Lib.strSize (.string _); rw [Lib.strSize_string,Lib.strSize_string]; omega
  ·have hjq : j = many64 t := by have h1 := hj.out; have h2 := hsz.out; unfold many64; omega
   have hT0 : T.size = 0 := by omega
   have hq55 : many64 t <= 55 := by unfold many64; omega
   subst hjq
   go_wp2
   have hSS : (fun w' : World => w'.cell? ⟨w.heap.size + 1,0,none⟩ = some (.int .i64 (b : Int)) /\ w'.cell? ⟨w.heap.size + 1,1,none⟩ = some (.int .i64 (many64 t : Int))) wr.drew := ⟨x0,x1⟩
   have hDd := hD.later (Below.refl _ wr).drew
   have hSd : Spun B w wr.drew := hSp.trans (Spun.of (Nat.le_trans hB hSp.size) (Below.refl _ wr).drew)
   have r0d : wr.drew.heap[w.heap.size]? = some (.cells #[.int .i64 0,.int .i64 0] 116 (0,0)) := r0
   have r1d : wr.drew.heap[w.heap.size + 1]? = some (.cells #[.int .i64 (b : Int),.int .i64 (many64 t : Int)] 116 (0,0)) := r1
   clear hD hSp r0 r1 x0 x1 y0 y1 HT
   refine wp_region_G (fun w' : World => w'.cell? ⟨w.heap.size + 1,0,none⟩ = some (.int .i64 (b : Int)) /\ w'.cell? ⟨w.heap.size + 1,1,none⟩ = some (.int .i64 (many64 t : Int))) 3 5 (by kernel_rfl) rfl ?_
   generalize wr.drew = w1 at *
   refine tW 1 hSS ?_
   refine tR 0 [] hSS ?_
   have HFL := diskFlush_any w1 B p n s1 hDd
   unfold DSt.flushF DSt.flushed at HFL
   cases hf : s1.falls with
   | true =>
    rw [if_pos hf,if_pos hf,q9] at HFL
    refine oG 2 fun K hK => ?_
    go_wp2_with fail
    refine (show Calls _ _ _ _ _ from HFL).mono ?_
    rintro e w4 ⟨rfl,hD4,hS4⟩
    clear HFL
    have r0e := hS4.block _ _ r0d (head_not _ _)
    have r1e := hS4.block _ _ r1d (head_not _ _)
    obtain ⟨x0,x1,y0,y1⟩ := box2 r1e
    obtain ⟨z0,z1,z2,z3⟩ := box2 r0e
    go_wp2
    refine hK _ _ ⟨x0,x1⟩ ?_
    clear hK
    have hSE : Spun B w ((w4.setCell ⟨w.heap.size,0,none⟩ (.int .i64 (b : Int))).setCell ⟨w.heap.size,1,none⟩ (.int .i64 (many64 t : Int))) := ((hSd.trans hS4).own hB (Nat.le_refl _) _).own hB (Nat.le_refl _) _
    have hDE : Disk ((w4.setCell ⟨w.heap.size,0,none⟩ (.int .i64 (b : Int))).setCell ⟨w.heap.size,1,none⟩ (.int .i64 (many64 t : Int))) B p n s1.fell := (hD4.set r0e (by decide) _).set (heap_set0 _ r0e) (by decide) _
    have HEND : BodyEnd s n b t s1.fell (.returned (.tuple #[.agg #[.int .i64 (b : Int),.int .i64 (many64 t : Int)],errV 9])) := .fell _ _ (fun hl => by
     have h1 := hBd.left hl
     simp [DSt.falls,hBd.up,h1] at hf) rfl (fun i hi hni => hBd.rest i (by omega))
    clear hf
    refine lG 3 fun K hK => ?_
    go_wp2
    refine hK _ _ ?_
    clear hK
    refine tA 4 ?_
    refine doneG (by kernel_rfl) ?_ _
    go_wp2
    refine bodyPost_ret (v := .tuple #[.agg #[.int .i64 (b : Int),.int .i64 (many64 t : Int)],.iface 82 (.int .i64 9)]) (by simp [results,Tryz.results80,go_sem,z0,z1]) rfl ?_
    exact ⟨_,HEND,hDE,hSE⟩
   | false =>
    rw [if_neg (by simp [hf]),if_neg (by simp [hf]),q0] at HFL
    have hKB := hBd.flush hq55 hf hc
    refine oG 2 fun K hK => ?_
    go_wp2_with fail
    refine (show Calls _ _ _ _ _ from HFL).mono ?_
    rintro e w4 ⟨rfl,hD4,hS4⟩
    clear HFL
    have r0e := hS4.block _ _ r0d (head_not _ _)
    have r1e := hS4.block _ _ r1d (head_not _ _)
    obtain ⟨x0,x1,y0,y1⟩ := box2 r1e
    obtain ⟨z0,z1,z2,z3⟩ := box2 r0e
    go_wp2
    refine hK _ _ ⟨x0,x1⟩ ?_
    clear hK
    have hSE : Spun B w ((w4.setCell ⟨w.heap.size,0,none⟩ (.int .i64 (b : Int))).setCell ⟨w.heap.size,1,none⟩ (.int .i64 (many64 t : Int))) := ((hSd.trans hS4).own hB (Nat.le_refl _) _).own hB (Nat.le_refl _) _
    have hDE : Disk ((w4.setCell ⟨w.heap.size,0,none⟩ (.int .i64 (b : Int))).setCell ⟨w.heap.size,1,none⟩ (.int .i64 (many64 t : Int))) B p n (s1.stepped.settled 18446744073709551615) := (hD4.set r0e (by decide) _).set (heap_set0 _ r0e) (by decide) _
    have HEND : BodyEnd s n b t _ (.returned (.tuple #[.agg #[.int .i64 (b : Int),.int .i64 (many64 t : Int)],.nilIface])) := .ok hKB
    clear hf
    refine lG 3 fun K hK => ?_
    go_wp2
    refine hK _ _ ?_
    clear hK
    refine tA 4 ?_
    refine doneG (by kernel_rfl) ?_ _
    go_wp2
    refine bodyPost_ret (v := .tuple #[.agg #[.int .i64 (b : Int),.int .i64 (many64 t : Int)],.nilIface]) (by simp [results,Tryz.results80,go_sem,z0,z1]) rfl ?_
    exact ⟨_,HEND,hDE,hSE⟩
theorem entNumber_any (s : ByteArray) (w : World) (hE : Env w) (hs : s.size <= 1000000) :
 Calls Tryz.prog 172 #[.string s] w fun e w' => e = .returned (.int .i64 (numF s.data.toList)) /\ Below w.heap.size w w' := by
 generalize hF : numF s.data.toList = F
 unfold numF at hF
 cases hq : Lib.atoiAll s.data.toList with
 | ok v =>
  rw [hq] at hF
  have HA := Tryz.strconv_Atoi_ok s (by omega) v hq w
  have HE : Hid (v = F) := hF
  clear hF hq
  go_enter Tryz.func172,Tryz.ntmps172
  go_wp2_with fail
  refine HA.mono ?_
  rintro e w' ⟨rfl,hw⟩
  have hb : Below w.heap.size w w' := by
   rcases hw with rfl | ⟨t,rfl⟩
   ·exact Below.refl _ _
   ·exact Lib.bytesWorld_below _ _ _
  clear hw HA
  go_wp2
  go_ret
  exact ⟨ret_int HE.out,hb⟩
 | range =>
  rw [hq] at hF
  obtain ⟨ev,hv,hev⟩ := hE.errR
  have HA := Tryz.strconv_Atoi_range s (by omega) hq ev w hv hev
  have HE : Hid (Lib.atoiSat s.data.toList = F) := hF
  generalize Lib.atoiSat s.data.toList = v at *
  clear hF hq hv hev
  go_enter Tryz.func172,Tryz.ntmps172
  go_wp2_with fail
  refine HA.mono ?_
  rintro e w' ⟨N,rfl,_,_,hb⟩
  clear HA
  go_wp2
  go_ret
  exact ⟨ret_int HE.out,hb⟩
 | _ =>
  rw [hq] at hF
  obtain ⟨ev,hv,hev⟩ := hE.errS
  have HA := Tryz.strconv_Atoi_syntax s (by omega) hq ev w hv hev
  have HE : Hid (0 = F) := hF
  clear hF hq hv hev
  go_enter Tryz.func172,Tryz.ntmps172
  go_wp2_with fail
  refine HA.mono ?_
  rintro e w' ⟨N,rfl,_,_,hb⟩
  clear HA
  go_wp2
  go_ret
  exact ⟨ret_int HE.out,hb⟩
theorem entClone_any (s : ByteArray) (w : World) (hs : s.size <= 1000000) :
 Calls Tryz.prog 31 #[.string s] w fun e w' => e = .returned (.string s) /\ Below w.heap.size w w' := by
 have HA := Tryz.stringslite_Clone s w (by omega)
 go_enter Tryz.func31,Tryz.ntmps31
 go_wp2_with fail
 refine HA.mono ?_
 rintro e w' ⟨rfl,hb⟩
 clear HA
 go_wp2
 go_ret
 exact ⟨rfl,hb⟩
end Go.Proofs.YtagfngiaogckpaaGreatDoor
