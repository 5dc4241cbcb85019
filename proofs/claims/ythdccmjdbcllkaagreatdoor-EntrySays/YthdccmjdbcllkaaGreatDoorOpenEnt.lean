/- Slices that came in, opened: a row of numbers, a row of texts, a row of structs of a text, a number and a bool: what each place holds. A row of acts that came in, opened: what each place holds. An entry that came in, opened: where its two slices lie, and what they hold. -/
import Derived.Deep.Slices
import Derived.Deep.Strs
import Derived.ChangeSlices
import Derived.Test.YthdccmjdbcllkaaGreatDoorGrowInts
import Derived.Lib.SmallJoins
import Derived.ChangeOld
import Derived.Test.YthdccmjdbcllkaaGreatDoorEntCheck
namespace Go.Proofs.YthdccmjdbcllkaaGreatDoor
open Go.RowKit Go.Deep Go.ChangeShapes Go.WideShapes
section
variable {H : Type} {enc : TypeId × Value -> H} {P : Program} {w : World} {base : Nat} {held : Bool}
theorem slice_cell {t e : TypeId} {fuel : Nat} {v : Value} {spare : Nat -> Bool} {x : DataW H × List MemPlace} (ht : P.underlying t = some (.slice e)) (h : DataW.trod enc P w base spare held fuel t [v] = some x) : ∃ a n c,v = .slice a n c := by
 rcases open_slice ht h with ⟨hcs,_⟩ | ⟨y,len,cap,m,fu,D,Pl,hcs,_⟩
 ·simp at hcs; exact ⟨_,_,_,hcs⟩
 ·simp at hcs; exact ⟨_,_,_,hcs⟩
end
end Go.Proofs.YthdccmjdbcllkaaGreatDoor
namespace Go.Proofs.YthdccmjdbcllkaaGreatDoor
open Go.RowKit Go.Deep Go.ChangeShapes Go.WideShapes Go.Joins
section
variable {H : Type} {enc : TypeId × Value -> H} {w : World} {base : Nat} {held : Bool}
theorem slice_capA {P : Program} {t e : TypeId} {fuel : Nat} {a : Option Addr} {n c : Nat} {spare : Nat -> Bool} {x : DataW H × List MemPlace} (ht : P.underlying t = some (.slice e)) (h : DataW.trod enc P w base spare held fuel t [.slice a n c] = some x) : n <= c := by
 rcases open_slice ht h with ⟨hcs,_⟩ | ⟨y,len,cap,m,fu,D,Pl,hcs,_,hl,_⟩
 ·simp at hcs
  obtain ⟨rfl,rfl,rfl⟩ := hcs
  exact Nat.le_refl _
 ·simp at hcs
  obtain ⟨rfl,rfl,rfl⟩ := hcs
  exact hl
theorem is64_of {n : Int} (h : (Lit.int .i64 n).wf = true) : Is64 n := by
 have h1 : (decide (IntKind.min .i64 <= n) && decide (n <= IntKind.max .i64)) = true := h
 simp only [Bool.and_eq_true,decide_eq_true_eq] at h1
 exact h1
theorem isU64_of {n : Int} (h : (Lit.int .u64 n).wf = true) : 0 <= n /\ n <= 18446744073709551615 := by
 have h1 : (decide (IntKind.min .u64 <= n) && decide (n <= IntKind.max .u64)) = true := h
 simp only [Bool.and_eq_true,decide_eq_true_eq] at h1
 exact h1
structure PartQ where
 s : ByteArray
 k : Int
 b : Int
structure PatQ where
 p : Int
 t : Int
 v : Int
set_option maxRecDepth 100000 in
theorem open_parts {fuel : Nat} {a : Option Addr} {n c : Nat} {x : DataW H × List MemPlace} (h : DataW.trod enc Tryz.prog w base (fun _ => true) held fuel 23 [.slice a n c] = some x) :
 ∃ f : Nat -> PartQ,RowSII w a n (fun i => (f i).s) (fun i => (f i).k) (fun i => (f i).b) /\ (∀ i,i < n -> (f i).s.size <= maxLen /\ Is64 (f i).k /\ Is64 (f i).b) /\ n <= maxLen := by
 have ce : Tryz.prog.cellsOf 69 = 3 := by kernel_rfl
 rcases open_slice Tryz.underlying23 h with ⟨hcs,_⟩ | ⟨y,len,cap,m,fu,D,Pl,hcs,_,hl,hm,hmm,_,hx⟩
 ·simp at hcs
  obtain ⟨rfl,rfl,rfl⟩ := hcs
  exact ⟨fun _ => ⟨ByteArray.empty,0,0⟩,.inl rfl,fun i hi => by omega,by decide⟩
 ·simp at hcs
  obtain ⟨rfl,rfl,rfl⟩ := hcs
  simp at hmm
  have each : ∀ i,i < n -> ∃ q : PartQ,w.cell? (y.add (i * 3)) = some (.string q.s) /\ w.cell? (y.add (i * 3 + 1)) = some (.int .i64 q.k) /\ w.cell? (y.add (i * 3 + 2)) = some (.int .i64 q.b) /\ q.s.size <= maxLen /\ Is64 q.k /\ Is64 q.b := by
   intro i hi
   obtain ⟨cs',h1,h2⟩ := hx i (by omega)
   rw [ce] at h1
   obtain ⟨_,hlen,hcell⟩ := World.cells?_some h1
   obtain ⟨xs,k,hk,hxy,_,hxl,hf⟩ := DataW.trod_struct Tryz.underlying69 h2
   match xs,hxl,cs',hlen with
   | [y0,y1,y2],_,[v0,v1,v2],_ =>
    have g0 := hf 0 _ rfl
    have g1 := hf 1 _ rfl
    have g2 := hf 2 _ rfl
    have q0 : Tryz.prog.cellsOf 9 = 1 := by kernel_rfl
    have q1 : Tryz.prog.cellsOf 3 = 1 := by kernel_rfl
    simp [q0,q1] at g0 g1 g2
    have e0 := hcell 0 (by omega)
    have e1 := hcell 1 (by omega)
    have e2 := hcell 2 (by omega)
    rw [add_add] at e0 e1 e2
    obtain ⟨s,hs,_,m0⟩ := DataW.trod_string Tryz.underlying9 g0
    obtain ⟨z1,hz1,_,m1⟩ := DataW.trod_int Tryz.underlying3 g1
    obtain ⟨z2,hz2,_,m2⟩ := DataW.trod_int Tryz.underlying3 g2
    simp at hs hz1 hz2
    subst hs hz1 hz2
    exact ⟨⟨s,z1,z2⟩,by simpa using e0,by simpa using e1,by simpa using e2,m0,is64_of m1,is64_of m2⟩
  haveI : Inhabited PartQ := ⟨⟨ByteArray.empty,0,0⟩⟩
  obtain ⟨q,hq⟩ := choose_lt each
  refine ⟨q,?_,fun i hi => (hq i hi).2.2.2,Nat.le_trans hl hm⟩
  by_cases h0 : n = 0
  ·exact .inl h0
  ·obtain ⟨bk,o,sp⟩ := y
   have hc := (hq 0 (by omega)).1
   have hsp : sp = none := by simpa [Addr.add] using World.cell?_spot hc
   subst hsp
   refine .inr ⟨bk,o,rfl,fun i hi => ?_⟩
   have := hq i hi
   rw [add_plain,add_plain,add_plain] at this
   exact ⟨this.1,by simpa [Nat.add_assoc] using this.2.1,by simpa [Nat.add_assoc] using this.2.2.1⟩
set_option maxRecDepth 100000 in
theorem open_pats {fuel : Nat} {a : Option Addr} {n c : Nat} {x : DataW H × List MemPlace} (h : DataW.trod enc Tryz.prog w base (fun _ => true) held fuel 24 [.slice a n c] = some x) :
 ∃ f : Nat -> PatQ,RowIII w a n (fun i => (f i).p) (fun i => (f i).t) (fun i => (f i).v) /\ (∀ i,i < n -> Is64 (f i).p /\ Is64 (f i).t /\ Is64 (f i).v) /\ n <= maxLen := by
 have ce : Tryz.prog.cellsOf 67 = 3 := by kernel_rfl
 rcases open_slice Tryz.underlying24 h with ⟨hcs,_⟩ | ⟨y,len,cap,m,fu,D,Pl,hcs,_,hl,hm,hmm,_,hx⟩
 ·simp at hcs
  obtain ⟨rfl,rfl,rfl⟩ := hcs
  exact ⟨fun _ => ⟨0,0,0⟩,.inl rfl,fun i hi => by omega,by decide⟩
 ·simp at hcs
  obtain ⟨rfl,rfl,rfl⟩ := hcs
  simp at hmm
  have each : ∀ i,i < n -> ∃ q : PatQ,w.cell? (y.add (i * 3)) = some (.int .i64 q.p) /\ w.cell? (y.add (i * 3 + 1)) = some (.int .i64 q.t) /\ w.cell? (y.add (i * 3 + 2)) = some (.int .i64 q.v) /\ Is64 q.p /\ Is64 q.t /\ Is64 q.v := by
   intro i hi
   obtain ⟨cs',h1,h2⟩ := hx i (by omega)
   rw [ce] at h1
   obtain ⟨_,hlen,hcell⟩ := World.cells?_some h1
   obtain ⟨xs,k,hk,hxy,_,hxl,hf⟩ := DataW.trod_struct Tryz.underlying67 h2
   match xs,hxl,cs',hlen with
   | [y0,y1,y2],_,[v0,v1,v2],_ =>
    have g0 := hf 0 _ rfl
    have g1 := hf 1 _ rfl
    have g2 := hf 2 _ rfl
    have q1 : Tryz.prog.cellsOf 3 = 1 := by kernel_rfl
    simp [q1] at g0 g1 g2
    have e0 := hcell 0 (by omega)
    have e1 := hcell 1 (by omega)
    have e2 := hcell 2 (by omega)
    rw [add_add] at e0 e1 e2
    obtain ⟨z0,hz0,_,m0⟩ := DataW.trod_int Tryz.underlying3 g0
    obtain ⟨z1,hz1,_,m1⟩ := DataW.trod_int Tryz.underlying3 g1
    obtain ⟨z2,hz2,_,m2⟩ := DataW.trod_int Tryz.underlying3 g2
    simp at hz0 hz1 hz2
    subst hz0 hz1 hz2
    exact ⟨⟨z0,z1,z2⟩,by simpa using e0,by simpa using e1,by simpa using e2,is64_of m0,is64_of m1,is64_of m2⟩
  haveI : Inhabited PatQ := ⟨⟨0,0,0⟩⟩
  obtain ⟨q,hq⟩ := choose_lt each
  refine ⟨q,?_,fun i hi => (hq i hi).2.2.2,Nat.le_trans hl hm⟩
  by_cases h0 : n = 0
  ·exact .inl h0
  ·obtain ⟨bk,o,sp⟩ := y
   have hc := (hq 0 (by omega)).1
   have hsp : sp = none := by simpa [Addr.add] using World.cell?_spot hc
   subst hsp
   refine .inr ⟨bk,o,rfl,fun i hi => ?_⟩
   have := hq i hi
   rw [add_plain,add_plain,add_plain] at this
   exact ⟨this.1,by simpa [Nat.add_assoc] using this.2.1,by simpa [Nat.add_assoc] using this.2.2.1⟩
theorem RowSII.parts {a : Option Addr} {n : Nat} {s : Nat -> ByteArray} {k b : Nat -> Int} (h : RowSII w a n s k b) : PartsRow w a n s := h.imp id (fun ⟨bk,o,ha,hc⟩ => ⟨bk,o,ha,fun i hi => (hc i hi).1⟩)
set_option maxRecDepth 100000 in
theorem open_acts {fuel : Nat} {a : Option Addr} {n c : Nat} {x : DataW H × List MemPlace}
 (h : DataW.trod enc Tryz.prog w base (fun _ => true) held fuel 22 [.slice a n c] = some x) :
 ∃ X : Nat -> ActF,ActsRow w a n X /\ ∀ i,i < n -> ActFit (X i) := by
 have ce : Tryz.prog.cellsOf 51 = 8 := by kernel_rfl
 rcases open_slice Tryz.underlying22 h with ⟨hcs,_⟩ | ⟨y,len,cap,m,fu,D,Pl,hcs,_,hl,hm,hmm,_,hx⟩
 ·simp at hcs
  obtain ⟨rfl,rfl,rfl⟩ := hcs
  exact ⟨fun _ => ⟨ByteArray.empty,ByteArray.empty,ByteArray.empty,0,0,ByteArray.empty,none,0,0,fun _ => ByteArray.empty,none,0,0,fun _ => 0,fun _ => 0,fun _ => 0,fun _ => 0,fun _ => 0⟩,.inl rfl,fun i hi => by omega⟩
 ·simp at hcs
  obtain ⟨rfl,rfl,rfl⟩ := hcs
  simp at hmm
  have each : ∀ i,i < n -> ∃ q : ActF,w.cell? (y.add (i * 8)) = some (.string q.kind) /\ w.cell? (y.add (i * 8 + 1)) = some (.string q.s) /\ w.cell? (y.add (i * 8 + 2)) = some (.string q.t) /\ w.cell? (y.add (i * 8 + 3)) = some (.int .i64 q.a) /\ w.cell? (y.add (i * 8 + 4)) = some (.int .u64 q.k) /\ w.cell? (y.add (i * 8 + 5)) = some (.string q.root) /\ w.cell? (y.add (i * 8 + 6)) = some (.slice q.pa q.pn q.pc) /\ w.cell? (y.add (i * 8 + 7)) = some (.slice q.qa q.qn q.qc) /\ PartsRow w q.pa q.pn q.pname /\ RowSII w q.pa q.pn q.pname q.pst q.pbs /\ RowIII w q.qa q.qn q.qp q.qt q.qv /\ ActFit q := by
   intro i hi
   obtain ⟨cs',h1,h2⟩ := hx i (by omega)
   rw [ce] at h1
   obtain ⟨_,hlen,hcell⟩ := World.cells?_some h1
   obtain ⟨xs,k,hk,hxy,_,hxl,hf⟩ := DataW.trod_struct Tryz.underlying51 h2
   match xs,hxl,cs',hlen with
   | [y0,y1,y2,y3,y4,y5],_,[v0,v1,v2,v3,v4,v5,v6,v7],_ =>
    have g0 := hf 0 _ rfl
    have g1 := hf 1 _ rfl
    have g2 := hf 2 _ rfl
    have g3 := hf 3 _ rfl
    have g4 := hf 4 _ rfl
    have g5 := hf 5 _ rfl
    have q0 : Tryz.prog.cellsOf 9 = 1 := by kernel_rfl
    have q5 : Tryz.prog.cellsOf 26 = 3 := by kernel_rfl
    have q3 : Tryz.prog.cellsOf 3 = 1 := by kernel_rfl
    have q4 : Tryz.prog.cellsOf 49 = 1 := by kernel_rfl
    simp [q0,q3,q4,q5] at g0 g1 g2 g3 g4 g5
    have e0 := hcell 0 (by omega)
    have e1 := hcell 1 (by omega)
    have e2 := hcell 2 (by omega)
    have e3 := hcell 3 (by omega)
    have e4 := hcell 4 (by omega)
    have e5 := hcell 5 (by omega)
    have e6 := hcell 6 (by omega)
    have e7 := hcell 7 (by omega)
    rw [add_add] at e0 e1 e2 e3 e4 e5 e6 e7
    obtain ⟨s0,hs0,_,_⟩ := DataW.trod_string Tryz.underlying9 g0
    obtain ⟨s1,hs1,_,m1⟩ := DataW.trod_string Tryz.underlying9 g1
    obtain ⟨s2,hs2,_,m2⟩ := DataW.trod_string Tryz.underlying9 g2
    obtain ⟨z3,hz3,_,m3⟩ := DataW.trod_int Tryz.underlying3 g3
    obtain ⟨z4,hz4,_,m4⟩ := DataW.trod_int Tryz.underlying49 g4
    obtain ⟨zs,k5,hk5,hxy5,_,hxl5,hf5⟩ := DataW.trod_struct Tryz.underlying26 g5
    match zs,hxl5 with
    | [z0,z1,z2],_ =>
     have r0 := hf5 0 _ rfl
     have r1 := hf5 1 _ rfl
     have r2 := hf5 2 _ rfl
     have q6 : Tryz.prog.cellsOf 23 = 1 := by kernel_rfl
     have q7 : Tryz.prog.cellsOf 24 = 1 := by kernel_rfl
     simp [q0,q6,q7] at r0 r1 r2
     obtain ⟨s5,hs5,_,m5⟩ := DataW.trod_string Tryz.underlying9 r0
     obtain ⟨pa,pn,pc,hp⟩ := slice_cell Tryz.underlying23 r1
     obtain ⟨qa,qn,qc,hq⟩ := slice_cell Tryz.underlying24 r2
     simp at hs0 hs1 hs2 hs5 hz3 hz4
     subst hs0 hs1 hs2 hs5 hp hq hz3 hz4
     obtain ⟨pf,hpf,hpr,hpl⟩ := open_parts r1
     obtain ⟨qf,hqf,hqr,hql⟩ := open_pats r2
     exact ⟨⟨s0,s1,s2,z3,z4,s5,pa,pn,pc,fun i => (pf i).s,qa,qn,qc,fun i => (pf i).k,fun i => (pf i).b,fun i => (qf i).p,fun i => (qf i).t,fun i => (qf i).v⟩,by simpa using e0,by simpa using e1,by simpa using e2,by simpa using e3,by simpa using e4,by simpa using e5,by simpa using e6,by simpa using e7,hpf.parts,hpf,hqf,⟨m1,m2,is64_of m3,isU64_of m4,m5,hpr,hqr,hpl,hql⟩⟩
  haveI : Inhabited ActF := ⟨⟨ByteArray.empty,ByteArray.empty,ByteArray.empty,0,0,ByteArray.empty,none,0,0,fun _ => ByteArray.empty,none,0,0,fun _ => 0,fun _ => 0,fun _ => 0,fun _ => 0,fun _ => 0⟩⟩
  obtain ⟨q,hq⟩ := choose_lt each
  refine ⟨q,?_,fun i hi => (hq i hi).2.2.2.2.2.2.2.2.2.2.2⟩
  by_cases h0 : n = 0
  ·exact .inl h0
  ·obtain ⟨bk,o,sp⟩ := y
   have hc := (hq 0 (by omega)).1
   have hsp : sp = none := by simpa [Addr.add] using World.cell?_spot hc
   subst hsp
   refine .inr ⟨bk,o,rfl,fun i hi => ?_⟩
   have := hq i hi
   rw [add_plain,add_plain,add_plain,add_plain,add_plain,add_plain,add_plain,add_plain] at this
   exact ⟨this.1,by simpa [Nat.add_assoc] using this.2.1,by simpa [Nat.add_assoc] using this.2.2.1,by simpa [Nat.add_assoc] using this.2.2.2.1,by simpa [Nat.add_assoc] using this.2.2.2.2.1,by simpa [Nat.add_assoc] using this.2.2.2.2.2.1,by simpa [Nat.add_assoc] using this.2.2.2.2.2.2.1,by simpa [Nat.add_assoc] using this.2.2.2.2.2.2.2.1,this.2.2.2.2.2.2.2.2.1,this.2.2.2.2.2.2.2.2.2.1,this.2.2.2.2.2.2.2.2.2.2.1⟩
end
section
variable {H : Type} {enc : TypeId × Value -> H} {w : World} {base : Nat} {held : Bool}
theorem is64_ofE {n : Int} (h : (Lit.int .i64 n).wf = true) : In64 n := by
 have h1 : (decide (IntKind.min .i64 <= n) && decide (n <= IntKind.max .i64)) = true := h
 simp only [Bool.and_eq_true,decide_eq_true_eq] at h1
 exact h1
structure PartQE where
 s : ByteArray
 k : Int
 b : Int
structure PatQE where
 p : Int
 t : Int
 v : Int
set_option maxRecDepth 100000 in
theorem open_partsE {fuel : Nat} {a : Option Addr} {n c : Nat} {x : DataW H × List MemPlace} (h : DataW.trod enc Tryz.prog w base (fun _ => true) held fuel 23 [.slice a n c] = some x) :
 ∃ f : Nat -> PartQE,RowE w a n (fun i => (f i).s) (fun i => (f i).k) (fun i => (f i).b) /\ (∀ i,i < n -> (f i).s.size <= maxLen /\ In64 (f i).k /\ In64 (f i).b) /\ n <= maxLen := by
 have ce : Tryz.prog.cellsOf 69 = 3 := by kernel_rfl
 rcases open_slice Tryz.underlying23 h with ⟨hcs,_⟩ | ⟨y,len,cap,m,fu,D,Pl,hcs,_,hl,hm,hmm,_,hx⟩
 ·simp at hcs
  obtain ⟨rfl,rfl,rfl⟩ := hcs
  exact ⟨fun _ => ⟨ByteArray.empty,0,0⟩,.inl rfl,fun i hi => by omega,by decide⟩
 ·simp at hcs
  obtain ⟨rfl,rfl,rfl⟩ := hcs
  simp at hmm
  have each : ∀ i,i < n -> ∃ q : PartQE,w.cell? (y.add (i * 3)) = some (.string q.s) /\ w.cell? (y.add (i * 3 + 1)) = some (.int .i64 q.k) /\ w.cell? (y.add (i * 3 + 2)) = some (.int .i64 q.b) /\ q.s.size <= maxLen /\ In64 q.k /\ In64 q.b := by
   intro i hi
   obtain ⟨cs',h1,h2⟩ := hx i (by omega)
   rw [ce] at h1
   obtain ⟨_,hlen,hcell⟩ := World.cells?_some h1
   obtain ⟨xs,k,hk,hxy,_,hxl,hf⟩ := DataW.trod_struct Tryz.underlying69 h2
   match xs,hxl,cs',hlen with
   | [y0,y1,y2],_,[v0,v1,v2],_ =>
    have g0 := hf 0 _ rfl
    have g1 := hf 1 _ rfl
    have g2 := hf 2 _ rfl
    have q0 : Tryz.prog.cellsOf 9 = 1 := by kernel_rfl
    have q1 : Tryz.prog.cellsOf 3 = 1 := by kernel_rfl
    simp [q0,q1] at g0 g1 g2
    have e0 := hcell 0 (by omega)
    have e1 := hcell 1 (by omega)
    have e2 := hcell 2 (by omega)
    rw [add_add] at e0 e1 e2
    obtain ⟨s,hs,_,m0⟩ := DataW.trod_string Tryz.underlying9 g0
    obtain ⟨z1,hz1,_,m1⟩ := DataW.trod_int Tryz.underlying3 g1
    obtain ⟨z2,hz2,_,m2⟩ := DataW.trod_int Tryz.underlying3 g2
    simp at hs hz1 hz2
    subst hs hz1 hz2
    exact ⟨⟨s,z1,z2⟩,by simpa using e0,by simpa using e1,by simpa using e2,m0,is64_ofE m1,is64_ofE m2⟩
  haveI : Inhabited PartQE := ⟨⟨ByteArray.empty,0,0⟩⟩
  obtain ⟨q,hq⟩ := choose_lt each
  refine ⟨q,?_,fun i hi => (hq i hi).2.2.2,Nat.le_trans hl hm⟩
  by_cases h0 : n = 0
  ·exact .inl h0
  ·obtain ⟨bk,o,sp⟩ := y
   have hc := (hq 0 (by omega)).1
   have hsp : sp = none := by simpa [Addr.add] using World.cell?_spot hc
   subst hsp
   refine .inr ⟨bk,o,rfl,fun i hi => ?_⟩
   have := hq i hi
   rw [add_plain,add_plain,add_plain] at this
   exact ⟨this.1,by simpa [Nat.add_assoc] using this.2.1,by simpa [Nat.add_assoc] using this.2.2.1⟩
set_option maxRecDepth 100000 in
theorem open_patsE {fuel : Nat} {a : Option Addr} {n c : Nat} {x : DataW H × List MemPlace} (h : DataW.trod enc Tryz.prog w base (fun _ => true) held fuel 24 [.slice a n c] = some x) :
 ∃ f : Nat -> PatQE,PatRow w a n (fun i => (f i).p) (fun i => (f i).t) (fun i => (f i).v) /\ (∀ i,i < n -> In64 (f i).p /\ In64 (f i).t /\ In64 (f i).v) /\ n <= maxLen := by
 have ce : Tryz.prog.cellsOf 67 = 3 := by kernel_rfl
 rcases open_slice Tryz.underlying24 h with ⟨hcs,_⟩ | ⟨y,len,cap,m,fu,D,Pl,hcs,_,hl,hm,hmm,_,hx⟩
 ·simp at hcs
  obtain ⟨rfl,rfl,rfl⟩ := hcs
  exact ⟨fun _ => ⟨0,0,0⟩,.inl rfl,fun i hi => by omega,by decide⟩
 ·simp at hcs
  obtain ⟨rfl,rfl,rfl⟩ := hcs
  simp at hmm
  have each : ∀ i,i < n -> ∃ q : PatQE,w.cell? (y.add (i * 3)) = some (.int .i64 q.p) /\ w.cell? (y.add (i * 3 + 1)) = some (.int .i64 q.t) /\ w.cell? (y.add (i * 3 + 2)) = some (.int .i64 q.v) /\ In64 q.p /\ In64 q.t /\ In64 q.v := by
   intro i hi
   obtain ⟨cs',h1,h2⟩ := hx i (by omega)
   rw [ce] at h1
   obtain ⟨_,hlen,hcell⟩ := World.cells?_some h1
   obtain ⟨xs,k,hk,hxy,_,hxl,hf⟩ := DataW.trod_struct Tryz.underlying67 h2
   match xs,hxl,cs',hlen with
   | [y0,y1,y2],_,[v0,v1,v2],_ =>
    have g0 := hf 0 _ rfl
    have g1 := hf 1 _ rfl
    have g2 := hf 2 _ rfl
    have q1 : Tryz.prog.cellsOf 3 = 1 := by kernel_rfl
    simp [q1] at g0 g1 g2
    have e0 := hcell 0 (by omega)
    have e1 := hcell 1 (by omega)
    have e2 := hcell 2 (by omega)
    rw [add_add] at e0 e1 e2
    obtain ⟨z0,hz0,_,m0⟩ := DataW.trod_int Tryz.underlying3 g0
    obtain ⟨z1,hz1,_,m1⟩ := DataW.trod_int Tryz.underlying3 g1
    obtain ⟨z2,hz2,_,m2⟩ := DataW.trod_int Tryz.underlying3 g2
    simp at hz0 hz1 hz2
    subst hz0 hz1 hz2
    exact ⟨⟨z0,z1,z2⟩,by simpa using e0,by simpa using e1,by simpa using e2,is64_ofE m0,is64_ofE m1,is64_ofE m2⟩
  haveI : Inhabited PatQE := ⟨⟨0,0,0⟩⟩
  obtain ⟨q,hq⟩ := choose_lt each
  refine ⟨q,?_,fun i hi => (hq i hi).2.2.2,Nat.le_trans hl hm⟩
  by_cases h0 : n = 0
  ·exact .inl h0
  ·obtain ⟨bk,o,sp⟩ := y
   have hc := (hq 0 (by omega)).1
   have hsp : sp = none := by simpa [Addr.add] using World.cell?_spot hc
   subst hsp
   refine .inr ⟨bk,o,rfl,fun i hi => ?_⟩
   have := hq i hi
   rw [add_plain,add_plain,add_plain] at this
   exact ⟨this.1,by simpa [Nat.add_assoc] using this.2.1,by simpa [Nat.add_assoc] using this.2.2.1⟩
end
set_option maxRecDepth 100000 in
theorem open_entry {H : Type} {enc : TypeId × Value -> H} {w : World} {base b0 : Nat} {r : Reach} {v : Value} {d : DataW H} {p : List MemPlace} (hv : Value.okWide Tryz.prog w r b0 26 v) (h : DataW.Trod enc Tryz.prog w base (fun _ => true) true 26 v d p) :
 ∃ (v' : EntV) (en : EntF),v = .agg (entCs v' en) /\ EntAt w v' en /\ EntFit en := by
 obtain ⟨c0,c1,c2,y0,y1,y2,fu,rfl,_,_,h0,h1,h2⟩ := open_agg3 Tryz.underlying26 (by kernel_rfl) (by kernel_rfl) hv h
 obtain ⟨root,hr,_,hrs⟩ := DataW.trod_string Tryz.underlying9 h0
 simp at hr
 subst hr
 obtain ⟨aP,nP,cP,rfl⟩ := slice_cell Tryz.underlying23 h1
 obtain ⟨aQ,nQ,cQ,rfl⟩ := slice_cell Tryz.underlying24 h2
 obtain ⟨f,r1,z1,m1⟩ := open_partsE h1
 obtain ⟨g,r2,z2,m2⟩ := open_patsE h2
 exact ⟨⟨aP,cP,aQ,cQ⟩,⟨root,nP,fun i => (f i).s,fun i => (f i).k,fun i => (f i).b,nQ,fun i => (g i).p,fun i => (g i).t,fun i => (g i).v⟩,rfl,⟨r1,r2⟩,⟨hrs,m1,m2,fun i hi => (z1 i hi).1⟩⟩
end Go.Proofs.YthdccmjdbcllkaaGreatDoor
