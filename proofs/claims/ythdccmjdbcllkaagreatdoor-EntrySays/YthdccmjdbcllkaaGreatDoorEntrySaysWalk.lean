/- What is said of chapter 9: the law EntrySays returns true, for all acts, every root, every entry and every text; memory that was there stays as it was. -/
import Derived.Test.YthdccmjdbcllkaaGreatDoorRefEntOf
import Derived.Test.YthdccmjdbcllkaaGreatDoorSameParts
namespace Go.Proofs.YthdccmjdbcllkaaGreatDoor
open Go.RowKit Go.Maps
def factE : EntF := ⟨⟨#[97]⟩,1,fun _ => ⟨#[97]⟩,fun _ => 3,fun _ => 16,1,fun _ => 0,fun _ => 2,fun _ => -7⟩
abbrev factLn : ByteArray := ⟨#[97,32,49,32,49,32,97,32,51,32,49,54,32,48,32,50,32,45,55,10]⟩
theorem fact_fine : entF factE = 0 := by decide +kernel
theorem fact_line : lineE factE = factLn.data.toList := by decide +kernel
set_option maxRecDepth 100000 in
set_option maxHeartbeats 4000000 in
theorem entries_any (w : World) (hE : Env w) : Calls Tryz.prog 4 #[] w fun e w' => e = .returned (.bool true) /\ Below w.heap.size w w' := by
 have HP := entParse_any factLn w hE (by decide)
 obtain ⟨r1,r2⟩ := ref_taken (s := factLn) fact_fine fact_line
 rw [r1] at HP
 generalize (parseE factLn).2 = x at *
 obtain ⟨e1,e2,e4,e3,e5⟩ := r2
 have HS0 := fun W => same_nil 0 W
 go_enter Tryz.func4,Tryz.ntmps4
 go_wp2_with fail
 refine (show Calls _ _ _ _ _ from HP).mono ?_
 rintro e w1 ⟨v,rfl,hA,hb1⟩
 clear HP
 rw [show errV 0 = .nilIface from rfl]
 have hx0 : x.root = ⟨#[97]⟩ := e1
 have hx1 : x.nP = 1 := e2
 have hx2 : x.nQ = 1 := e4
 have hbx : ∀ C,Below w1.heap.size w1 (w1.alloc (.cells C 26)) := fun C => (Below.refl _ _).alloc (Nat.le_refl _) _
 have hq := (hA.later (hbx #[.string ⟨#[97]⟩,.slice v.aP 1 v.cP,.slice v.aQ 1 v.cQ])).pats
 rw [hx2] at hq
 rcases hq with h0 | ⟨bq,oq,haq,hcq⟩
 ·cases h0
 obtain ⟨_,_,c3⟩ := hcq 0 (by decide)
 have hw7 : x.qWord 0 = -7 := (e5 0 (by decide)).2.2
 rw [hw7] at c3
 have hb2 := hb1.trans ((hbx #[.string ⟨#[97]⟩,.slice v.aP 1 v.cP,.slice v.aQ 1 v.cQ]).mono hb1.size)
 unfold entCs
 rw [hx0,hx1,hx2,haq]
 rw [haq] at c3 hb2
 clear hA hcq e1 e2 e3 e4 e5 hbx haq hx0 hx1 hx2
 go_wp2_with fail
 refine (show Calls _ _ _ _ _ from HS0 _).mono ?_
 rintro e w2 ⟨rfl,rfl⟩
 go_wp2
 go_ret
 exact ⟨rfl,hb2⟩
theorem parseE_few (s : ByteArray) : (parseE s).2.nP <= 1000 /\ (parseE s).2.nQ <= 1000000 := by
 by_cases h : (parseE s).1 = 0
 ·unfold parseE at h ⊢
  split
  ·rename_i hh
   have h0 : entF (readE s) = 0 := by
    have h1 := hh.1
    unfold textE at h1
    split at h1
    ·assumption
    ·exact h1
   have hok := entOk h0
   have h1 := hok.nP
   have h2 := hok.nQ
   exact ⟨show (readE s).nP <= 1000 by omega,show (readE s).nQ <= 1000000 by omega⟩
  ·exact ⟨(by decide : emptyE.nP <= 1000),(by decide : emptyE.nQ <= 1000000)⟩
 ·rw [parseE_no h]
  exact ⟨(by decide : emptyE.nP <= 1000),(by decide : emptyE.nQ <= 1000000)⟩
theorem SameE.rfl' (e : EntF) : SameE e e := ⟨rfl,rfl,rfl,fun _ _ => ⟨rfl,rfl,rfl⟩,fun _ _ => ⟨rfl,rfl,rfl⟩⟩
theorem entBox_cells {W : World} {b : Nat} {x y z : Value} (h : W.heap[b]? = some (.cells #[x,y,z] 26 (0,0))) : W.cell? ⟨b,0,none⟩ = some x /\ W.cell? ⟨b,1,none⟩ = some y /\ W.cell? ⟨b,2,none⟩ = some z /\ W.frozen? ⟨b,0,none⟩ = false /\ W.frozen? ⟨b,1,none⟩ = false /\ W.frozen? ⟨b,2,none⟩ = false := by
 simp [World.cell?,World.frozen?,h]
theorem entBox_put {W : World} {b : Nat} {x y z : Value} (h : W.heap[b]? = some (.cells #[x,y,z] 26 (0,0))) (x' y' z' : Value) :
 (((W.setCell ⟨b,0,none⟩ x').setCell ⟨b,1,none⟩ y').setCell ⟨b,2,none⟩ z').heap[b]? = some (.cells #[x',y',z'] 26 (0,0)) /\ Only [some 26] W (((W.setCell ⟨b,0,none⟩ x').setCell ⟨b,1,none⟩ y').setCell ⟨b,2,none⟩ z') /\
 (∀ j,j ≠ b -> (((W.setCell ⟨b,0,none⟩ x').setCell ⟨b,1,none⟩ y').setCell ⟨b,2,none⟩ z').heap[j]? = W.heap[j]?) := by
 have h0 := heap_setCell W b 0 _ _ x' h
 have h1 := heap_setCell _ b 1 _ _ y' h0
 have h2 := heap_setCell _ b 2 _ _ z' h1
 refine ⟨h2,((Only.set h 0 x').trans (Only.set h0 1 y')).trans (Only.set h1 2 z'),fun j hj => ?_⟩
 exact ((Below.heap_setCell _ _ _ _ hj).trans (Below.heap_setCell _ _ _ _ hj)).trans (Below.heap_setCell _ _ _ _ hj)
structure ESays (w W : World) (B p bm q b8 b15 : Nat) (v : EntV) (en : EntF) (vx : EntV) (rt : ByteArray) (m : Nat) (nm : Nat -> ByteArray) (S0 : ByteArray -> Int) (Bs : Nat -> Int) (l : List (Nat × Int × Int)) (D : DataW Unit) (L : List FileR) (k : Nat) : Prop where
 both : Both B W p bm q D L k
 box8 : W.heap[b8]? = some (.cells #[.string en.root,.slice v.aP en.nP v.cP,.slice v.aQ en.nQ v.cQ] 26 (0,0))
 box15 : W.heap[b15]? = some (.cells #[.string rt,.slice vx.aP m vx.cP,.slice vx.aQ l.length vx.cQ] 26 (0,0))
 rowP : W.ownsRow B 69 3 (.slice vx.aP m vx.cP) m (joinC (stmC nm S0 Bs) m)
 rowQ : W.ownsRow B 67 3 (.slice vx.aQ l.length vx.cQ) l.length (patsC l)
 below : Below w.heap.size w W
theorem ESays.later {w W W' : World} {B p bm q b8 b15 : Nat} {v : EntV} {en : EntF} {vx : EntV} {rt : ByteArray} {m : Nat} {nm : Nat -> ByteArray} {S0 : ByteArray -> Int} {Bs : Nat -> Int} {l : List (Nat × Int × Int)} {D : DataW Unit} {L : List FileR} {k : Nat} (h : ESays w W B p bm q b8 b15 v en vx rt m nm S0 Bs l D L k) (hb : Below W.heap.size W W') : ESays w W' B p bm q b8 b15 v en vx rt m nm S0 Bs l D L k :=
 ⟨h.both.later hb,(hb.block _ (Array.getElem?_eq_some_iff.1 h.box8).1).trans h.box8,(hb.block _ (Array.getElem?_eq_some_iff.1 h.box15).1).trans h.box15,owns_below h.rowP hb,owns_below h.rowQ hb,h.below.trans (hb.mono h.below.size)⟩
theorem ESays.turn {w W W' : World} {B p bm q b8 b15 : Nat} {v : EntV} {en : EntF} {vx : EntV} {rt : ByteArray} {m : Nat} {nm : Nat -> ByteArray} {S0 : ByteArray -> Int} {Bs : Nat -> Int} {l : List (Nat × Int × Int)} {D D' : DataW Unit} {L L' : List FileR} {k k' : Nat} (h : ESays w W B p bm q b8 b15 v en vx rt m nm S0 Bs l D L k) {ts : List (Option TypeId)} (hs : Only ts W W') (h1 : some 26 ∉ ts) (h2 : some 69 ∉ ts) (h3 : some 67 ∉ ts) (hbo : Both B W' p bm q D' L' k') (hbe : Below w.heap.size W W') : ESays w W' B p bm q b8 b15 v en vx rt m nm S0 Bs l D' L' k' :=
 ⟨hbo,hs.block _ _ h.box8 h1,hs.block _ _ h.box15 h1,owns_only h.rowP hs h2,owns_only h.rowQ hs h3,h.below.trans hbe⟩
theorem Only.mono {ts ts' : List (Option TypeId)} {w w' : World} (h : Only ts w w') (hs : ∀ t,t ∈ ts -> t ∈ ts') : Only ts' w w' := ⟨fun k o hk ho => h.block k o hk fun hm => ho (hs _ hm)⟩
abbrev tsBoth : List (Option TypeId) := [some 106,none,some 89]
def xE (rt : ByteArray) (m : Nat) (nm : Nat -> ByteArray) (S : ByteArray -> Int) (Bs : Nat -> Int) (l : List (Nat × Int × Int)) : EntF := ⟨rt,m,nm,fun j => S (nm j),Bs,l.length,pP l,pT l,pV l⟩
theorem at_of_rows {W : World} {B0 B1 m : Nat} {aP aQ : Option Addr} {cP cQ : Nat} {rt : ByteArray} {nm : Nat -> ByteArray} {S : ByteArray -> Int} {Bs : Nat -> Int} {l : List (Nat × Int × Int)} (hp : W.ownsRow B0 69 3 (.slice aP m cP) m (joinC (stmC nm S Bs) m)) (hq : W.ownsRow B1 67 3 (.slice aQ l.length cQ) l.length (patsC l)) : EntAt W ⟨aP,cP,aQ,cQ⟩ (xE rt m nm S Bs l) := by
 refine ⟨rows_stm hp,?_⟩
 obtain ⟨qa,qc,eq,_,rQ⟩ := rows_pat hq
 cases eq
 exact rQ
theorem made_tie {w : World} {B0 : Nat} {rd : ByteArray -> Nat × ObjF} {S : ByteArray -> Int} {root : ByteArray} {e : Ending} (h : MadeEnd w B0 rd S root e) (hlim : ∀ m Bs P Q,Reckoned rd root m Bs P Q -> m <= 6 /\ (patsAt rd root m Bs P Q).length <= 36 /\ (∀ i,i < m -> (nmAt rd root i).size <= maxLen)) :
 ∃ (F : Nat) (rt : ByteArray) (m : Nat) (nm : Nat -> ByteArray) (Bs : Nat -> Int) (l : List (Nat × Int × Int)) (aP : Option Addr) (cP : Nat) (aQ : Option Addr) (cQ : Nat),e = .returned (.tuple #[.agg #[.string rt,.slice aP m cP,.slice aQ l.length cQ],errV F]) /\ w.ownsRow B0 69 3 (.slice aP m cP) m (joinC (stmC nm S Bs) m) /\ w.ownsRow B0 67 3 (.slice aQ l.length cQ) l.length (patsC l) /\ m <= 6 /\ l.length <= 36 /\ (∀ i,i < m -> (nm i).size <= maxLen) /\
  ∀ (W : World) (B1 : Nat) (e' : Ending),RMadeEnd W B1 rd S root e' -> ∃ (aP' : Option Addr) (cP' : Nat) (aQ' : Option Addr) (cQ' : Nat),e' = .returned (.tuple #[.agg #[.string rt,.slice aP' m cP',.slice aQ' l.length cQ'],.int .i64 (F : Int)]) /\ W.ownsRow B1 69 3 (.slice aP' m cP') m (joinC (stmC nm S Bs) m) /\ W.ownsRow B1 67 3 (.slice aQ' l.length cQ') l.length (patsC l) := by
 cases h with
 | bad F hR hf =>
  refine ⟨F,⟨#[]⟩,0,fun _ => ⟨#[]⟩,fun _ => 0,[],none,0,none,0,rfl,World.ownsRow_nil _ _ _ _,World.ownsRow_nil _ _ _ _,by decide,by decide,fun i hi => absurd hi (Nat.not_lt_zero _),fun W B1 e' h' => ?_⟩
  cases h' with
  | bad F' hR' hf' =>
   obtain rfl := hR.unique hR'
   exact ⟨none,0,none,0,rfl,World.ownsRow_nil _ _ _ _,World.ownsRow_nil _ _ _ _⟩
  | ok m B P Q aP aQ cP cQ h2 hp hq => exact (hR.not h2).elim
 | ok m B P Q aP aQ cP cQ hR hp hq =>
  obtain ⟨h1,h2,h3⟩ := hlim m B P Q hR
  refine ⟨0,root,m,nmAt rd root,B,patsAt rd root m B P Q,aP,cP,aQ,cQ,rfl,hp,hq,h1,h2,h3,fun W B1 e' h' => ?_⟩
  cases h' with
  | bad F' hR' hf' => exact (hR'.not hR).elim
  | ok m' B' P' Q' aP' aQ' cP' cQ' h2' hp' hq' =>
   obtain ⟨rfl,rfl,rfl,rfl⟩ := h2'.unique hR
   exact ⟨aP',cP',aQ',cQ',rfl,hp',hq'⟩
theorem use_tie {w1 : World} {B1 : Nat} {D : DataW Unit} {S : ByteArray -> Int} {rd : ByteArray -> Nat × ObjF} {n : Nat} {s : Nat -> ByteArray} {st b : Nat -> Int} {np : Nat} {p t v : Nat -> Int} {e : Ending} (h : UseEnd w1 B1 D S rd n s st b np p t v e) (hn : n <= 1000) (hok : ∀ i,i < n -> (rd (s i)).1 = 0 -> (rd (s i)).2.nW <= 1000) :
 ∃ (F : Nat) (u : Value),e = .returned (.tuple #[u,errV F]) /\ ∀ (W : World) (B2 : Nat) (e' : Ending),Below w1.heap.size w1 W -> RUsedEnd W B2 D S rd n s st b np p t v e' -> ∃ u' : Value,e' = .returned (.tuple #[u',.int .i64 (F : Int)]) /\ ∀ W2,Below W.heap.size W W2 -> Calls Tryz.prog 26 #[u,u'] W2 fun e w' => e = .returned (.bool true) /\ ∃ k,w' = W2.drewN k := by
 cases h with
 | stale h1 =>
  refine ⟨10,_,rfl,fun W B2 e' hb h' => ?_⟩
  cases h' with
  | stale h2 => exact ⟨_,rfl,fun W2 _ => sameParts_none none none 0 0 W2⟩
  | bad i hi hq h0 hf => rw [h1] at hq; cases hq
  | out hq h0 h => rw [h1] at hq; cases hq
  | ok u A C hq h0 h hu => rw [h1] at hq; cases hq
 | bad i hi h0 hf hq =>
  refine ⟨(rd (s i)).1,_,rfl,fun W B2 e' hb h' => ?_⟩
  cases h' with
  | stale h2 => rw [hq] at h2; cases h2
  | bad i' hi' hq' h0' hf' =>
   have : i' = i := by
    rcases Nat.lt_trichotomy i' i with e | e | e
    ·exact absurd (h0 i' e) hf'
    ·exact e
    ·exact absurd (h0' i e) hf
   subst this
   exact ⟨_,rfl,fun W2 _ => sameParts_none none none 0 0 W2⟩
  | out hq' h0' h => exact absurd (h0' i hi) hf
  | ok u A C hq' h0' h hu => exact absurd (h0' i hi) hf
 | lay e hq h0 hl =>
  cases hl with
  | bad hbd =>
   refine ⟨1,_,rfl,fun W B2 e' hb h' => ?_⟩
   cases h' with
   | stale h2 => rw [hq] at h2; cases h2
   | bad i' hi' hq' h0' hf' => exact absurd (h0 i' hi') hf'
   | out hq' h0' h => exact ⟨_,rfl,fun W2 _ => sameParts_none none none 0 0 W2⟩
   | ok u A C hq' h0' h hu => exact (hbd.not h).elim
  | ok u g A C G h5 ho hu =>
   have hPI : PartsIn w1 B1 u n s b (fun i => (rd (s i)).2.nW) (putF (fun i j => (rd (s i)).2.words j) p t v np) g A C G := ⟨ho,hu⟩
   obtain ⟨a,c,rfl,_,hrow⟩ := parts_row hPI
   refine ⟨0,_,rfl,fun W B2 e' hb h' => ?_⟩
   cases h' with
   | stale h2 => rw [hq] at h2; cases h2
   | bad i' hi' hq' h0' hf' => exact absurd (h0 i' hi') hf'
   | out hq' h0' h => exact (h.not h5).elim
   | ok u' A' C' hq' h0' h hu' =>
    obtain ⟨a',c',rfl,_,hrow'⟩ := hu'.rows
    exact ⟨_,rfl,fun W2 hb2 => sameParts_true n s b _ _ a a' c c' A A' C C' W2 hn (fun i hi => hok i hi (h0 i hi)) ((hrow.later hb).later hb2) (hrow'.later hb2)⟩
set_option maxRecDepth 100000 in
set_option maxHeartbeats 32000000 in
theorem entrySays_walk (a : Option Addr) (n c : Nat) (X : Nat -> ActF) (a' : Option Addr) (n' c' : Nat) (X' : Nat -> ActF) (root : ByteArray) (v : EntV) (en : EntF) (s : ByteArray) (w : World) (hE : Env w) (hr : ActsRow w a n X) (hf : ∀ i,i < n -> ActFit (X i)) (hr' : ActsRow w a' n' X') (hf' : ∀ i,i < n' -> ActFit (X' i)) (hA : EntAt w v en) (hfit : EntFit en) :
 Calls Tryz.prog 3 #[.slice a n c,.slice a' n' c',.string root,.agg (entCs v en),.string s] w fun e w' => e = .returned (.bool true) /\ Below w.heap.size w w' := by
 have hb0 : Below w.heap.size w (w.alloc (.cells (entCs v en) 26)) := (Below.refl _ _).alloc (Nat.le_refl _) _
 have hx8 : (w.alloc (.cells (entCs v en) 26)).heap[w.heap.size]? = some (.cells (entCs v en) 26 (0,0)) := Array.getElem?_push_size
 have hz8 : w.heap.size < (w.alloc (.cells (entCs v en) 26)).heap.size := by simp
 have HC := entries_any _ (hE.later hb0)
 go_enter Tryz.func3,Tryz.ntmps3
 go_wp2_with fail
 refine (show Calls _ _ _ _ _ from HC).mono ?_
 rintro e w1 ⟨rfl,hb1⟩
 clear HC
 have hB1 := hb0.trans (hb1.mono hb0.size)
 have hx1 := (hb1.block _ hz8).trans hx8
 have hz1 := Nat.lt_of_lt_of_le hz8 hb1.size
 clear hb0 hx8 hz8 hb1
 have HL := lightActs_any a n c 30 X w1 (by decide) (hr.later hB1) hf
 clear hf
 go_wp2_with fail
 refine (show Calls _ _ _ _ _ from HL).mono ?_
 rintro e w2 ⟨⟨b,rfl,hlb⟩,hb2⟩
 clear HL
 have hB2 := hB1.trans (hb2.mono hB1.size)
 have hx2 := (hb2.block _ hz1).trans hx1
 have hz2 := Nat.lt_of_lt_of_le hz1 hb2.size
 clear hB1 hx1 hz1 hb2
 cases b with
 | false =>
  clear hlb
  go_wp2
  go_ret
  exact ⟨rfl,hB2⟩
 | true =>
 obtain ⟨h30,hsz⟩ := hlb rfl
 clear hlb
 have HL := lightActs_any a' n' c' 10 X' w2 (by decide) (hr'.later hB2) hf'
 clear hf'
 go_wp2_with fail
 refine (show Calls _ _ _ _ _ from HL).mono ?_
 rintro e w3 ⟨⟨b,rfl,hlb⟩,hb3⟩
 clear HL
 have hB3 := hB2.trans (hb3.mono hB2.size)
 have hx3 := (hb3.block _ hz2).trans hx2
 have hz3 := Nat.lt_of_lt_of_le hz2 hb3.size
 clear hB2 hx2 hz2 hb3
 cases b with
 | false =>
  clear hlb
  go_wp2
  go_ret
  exact ⟨rfl,hB3⟩
 | true =>
 obtain ⟨h10,hsz'⟩ := hlb rfl
 clear hlb
 by_cases hs : (50 : Int) < (root.size : Int)
 ·go_wp2
  go_ret
  exact ⟨rfl,hB3⟩
 have hroot : root.size <= maxLen := by simp only [maxLen]; omega
 obtain ⟨c0,c1,c2,_⟩ := entBox_cells hx3
 have HLE := lightEntry_few en.root v.aP v.aQ en.nP v.cP en.nQ v.cQ en.pName w3 (hA.later hB3).parts.fewRow
 go_wp2_with fail
 refine (show Calls _ _ _ _ _ from HLE).mono ?_
 rintro e w4 ⟨⟨b,rfl,hlb⟩,hb4⟩
 clear HLE c0 c1 c2
 have hB4 := hB3.trans (hb4.mono hB3.size)
 have hx4 := (hb4.block _ hz3).trans hx3
 have hz4 := Nat.lt_of_lt_of_le hz3 hb4.size
 clear hB3 hx3 hz3 hb4
 cases b with
 | false =>
  clear hlb
  go_wp2
  go_ret
  exact ⟨rfl,hB4⟩
 | true =>
 obtain ⟨h8,h40⟩ := hlb rfl
 clear hlb
 by_cases hs5 : (1500 : Int) < (s.size : Int)
 ·go_wp2
  go_ret
  exact ⟨rfl,hB4⟩
 have hssz : s.size <= 1500 := by omega
 obtain ⟨c0,c1,c2,_⟩ := entBox_cells hx4
 have HF := refEntFault_any v en w4 (hA.later hB4) hfit
 go_wp2_with fail
 refine (show Calls _ _ _ _ _ from HF).mono ?_
 rintro e w5 ⟨rfl,hb5⟩
 clear HF c0 c1 c2
 have hB5 := hB4.trans (hb5.mono hB4.size)
 have hx5 := (hb5.block _ hz4).trans hx4
 have hz5 := Nat.lt_of_lt_of_le hz4 hb5.size
 clear hB4 hx4 hz4 hb5
 obtain ⟨c0,c1,c2,_⟩ := entBox_cells hx5
 have HT := entText_any v en w5 (hA.later hB5) hfit (hE.later hB5)
 go_wp2_with fail
 refine (show Calls _ _ _ _ _ from HT).mono ?_
 rintro e w6 ⟨rfl,hb6⟩
 clear HT c0 c1 c2
 have hB6 := hB5.trans (hb6.mono hB5.size)
 have hx6 := (hb6.block _ hz5).trans hx5
 have hz6 := Nat.lt_of_lt_of_le hz5 hb6.size
 clear hB5 hx5 hz5 hb6
 obtain ⟨c0,c1,c2,_⟩ := entBox_cells hx6
 have HCH := entCheck_any v en w6 (hA.later hB6) hfit
 have HXT := fun (W : World) (hW : Below w6.heap.size w6 W) (h0 : entF en = 0) => refEntText_any v en W ((hA.later hB6).later hW) h0
 have hte : textE en = if entF en = 0 then (0,lineE en) else (entF en,[]) := rfl
 generalize textE en = TX at *
 obtain ⟨tn,tl⟩ := TX
 dsimp only
 go_upto_region 6 with fail
 go_cut [12,13,14,91] from 56 to 91 (fun _ _ _ y wc => y = .bool false /\ Below w6.heap.size w6 wc)
 case first =>
  go_wp2_with fail
  refine (show Calls _ _ _ _ _ from HCH).mono ?_
  rintro e w7 ⟨rfl,hb7⟩
  clear HCH
  obtain ⟨d0,d1,d2,_⟩ := entBox_cells ((hb7.block _ hz6).trans hx6)
  by_cases h0 : entF en = 0
  ·rw [if_pos h0] at hte
   have HXT' := HXT w7 hb7 h0
   rw [h0]
   injection hte with hn hl
   subst hn
   subst hl
   rw [show errV 0 = .nilIface from rfl]
   have HS0 := fun W => same_nil 0 W
   clear HXT h0
   go_wp2_with fail
   refine (show Calls _ _ _ _ _ from HS0 _).mono ?_
   rintro e w8 ⟨rfl,rfl⟩
   go_wp2_with fail
   refine (show Calls _ _ _ _ _ from HS0 _).mono ?_
   rintro e w8 ⟨rfl,rfl⟩
   go_wp2_with fail
   refine (show Calls _ _ _ _ _ from HXT').mono ?_
   rintro e w8 ⟨⟨t,rfl,ht⟩,hb8⟩
   have htt : t = ⟨(lineE en).toArray⟩ := by rw [<- ht]
   subst htt
   have hq : ((⟨(lineE en).toArray⟩ : ByteArray).toList == (⟨(lineE en).toArray⟩ : ByteArray).toList) = true := by simp
   have hb := hb7.trans (hb8.mono hb7.size)
   clear HXT' ht hb7 hb8
   generalize (⟨(lineE en).toArray⟩ : ByteArray) = t at *
   go_wp2_with fail
   go_meet
   exact ⟨rfl,hb⟩
  ·rw [if_neg h0] at hte
   injection hte with hn hl
   subst hn
   subst hl
   have hpos : (0 : Int) < ((entF en : Nat) : Int) := by omega
   have HS := fun W => same_self (entF en) W
   have hse : ((⟨([] : List UInt8).toArray⟩ : ByteArray).toList == ([] : List UInt8)) = true := by rw [ByteArray.toList_eq]; rfl
   have hz0 : (((entF en : Nat) : Int) == 0) = false := by rw [beq_eq_false_iff_ne]; omega
   clear HXT h0
   generalize entF en = F at *
   go_wp2_with fail
   refine (show Calls _ _ _ _ _ from HS _).mono ?_
   rintro e w8 ⟨rfl,rfl⟩
   go_wp2_with fail
   refine (show Calls _ _ _ _ _ from HS _).mono ?_
   rintro e w8 ⟨rfl,rfl⟩
   go_wp2_with fail
   go_meet
   exact ⟨rfl,hb7⟩
 case rest =>
 obtain ⟨rfl,hb7⟩ := hcut
 have hB7 := hB6.trans (hb7.mono hB6.size)
 have hx7 := (hb7.block _ hz6).trans hx6
 have hz7 := Nat.lt_of_lt_of_le hz6 hb7.size
 clear hB6 hx6 hz6 hb7 HCH HXT hte c0 c1 c2
 clear tn tl
 have HP := entParse_any s wc (hE.later hB7) (by omega)
 have HRO := fun (W : World) => refEntOf_any s W (by omega)
 obtain ⟨hfw1,hfw2⟩ := parseE_few s
 generalize parseE s = PE at *
 obtain ⟨F,x⟩ := PE
 dsimp only at *
 go_wp2_with fail
 refine (show Calls _ _ _ _ _ from HP).mono ?_
 rintro e w8 ⟨vx,rfl,hAx,hb8⟩
 clear HP
 have hb8' : Below w8.heap.size w8 (w8.alloc (.cells (entCs vx x) 26)) := (Below.refl _ _).alloc (Nat.le_refl _) _
 have hx15 : (w8.alloc (.cells (entCs vx x) 26)).heap[w8.heap.size]? = some (.cells (entCs vx x) 26 (0,0)) := Array.getElem?_push_size
 have hz15 : w8.heap.size < (w8.alloc (.cells (entCs vx x) 26)).heap.size := by simp
 have hB8 := hB7.trans ((hb8.trans (hb8'.mono hb8.size)).mono hB7.size)
 have hx8 := (hb8'.block _ (Nat.lt_of_lt_of_le hz7 hb8.size)).trans ((hb8.block _ hz7).trans hx7)
 have hAx8 := hAx.later hb8'
 have h15 : w.heap.size < w8.heap.size := Nat.lt_of_lt_of_le hz7 hb8.size
 have HRO' := HRO (w8.alloc (.cells (entCs vx x) 26))
 clear hB7 hx7 hz7 hb8 hb8' hAx HRO
 go_upto_region 9 with fail
 generalize w8.alloc (.cells (entCs vx x) 26) = w9 at *
 generalize w8.heap.size = b15 at *
 go_wp2_with fail
 refine (show Calls _ _ _ _ _ from HRO').mono ?_
 rintro e w10 ⟨⟨vy,rfl,hAy⟩,hb10⟩
 clear HRO'
 have hb10' : Below w10.heap.size w10 (w10.alloc (.cells (entCs vy x) 26)) := (Below.refl _ _).alloc (Nat.le_refl _) _
 have hx16 : (w10.alloc (.cells (entCs vy x) 26)).heap[w10.heap.size]? = some (.cells (entCs vy x) 26 (0,0)) := Array.getElem?_push_size
 have hz16 : w10.heap.size < (w10.alloc (.cells (entCs vy x) 26)).heap.size := by simp
 have hbb := hb10.trans (hb10'.mono hb10.size)
 have hB10 := hB8.trans (hbb.mono hB8.size)
 have hx10 := (hbb.block _ (Nat.lt_trans h15 hz15)).trans hx8
 have hx15' := (hbb.block _ hz15).trans hx15
 have h16 : b15 < w10.heap.size := Nat.lt_of_lt_of_le hz15 hb10.size
 have HSE := sameE_true (SameE.rfl' x) vx vy (w10.alloc (.cells (entCs vy x) 26)) hfw1 hfw2 (hAx8.later hbb) (hAy.later hb10')
 have HS := fun W => same_self F W
 clear hB8 hx8 hx15 hz15 hAx8 hb10 hb10' hbb hAy
 go_upto_region 10 with fail
 generalize w10.alloc (.cells (entCs vy x) 26) = w11 at *
 generalize w10.heap.size = b16 at *
 obtain ⟨c0,c1,c2,_⟩ := entBox_cells hx15'
 obtain ⟨d0,d1,d2,_⟩ := entBox_cells hx16
 go_wp2_with fail
 refine (show Calls _ _ _ _ _ from HS _).mono ?_
 rintro e w12 ⟨rfl,rfl⟩
 go_wp2_with fail
 refine (show Calls _ _ _ _ _ from HSE).mono ?_
 rintro e w12 ⟨rfl,hb12⟩
 clear HSE HS c0 c1 c2 d0 d1 d2
 have hB12 := hB10.trans (hb12.mono hB10.size)
 have hz11 : b16 < w12.heap.size := Nat.lt_of_lt_of_le hz16 hb12.size
 have hx8' := (hb12.block _ (Nat.lt_trans h15 (Nat.lt_trans h16 hz16))).trans hx10
 have hx15 := (hb12.block _ (Nat.lt_trans h16 hz16)).trans hx15'
 have hx16' := (hb12.block _ hz16).trans hx16
 clear hB10 hx10 hx15' hx16 hz16 hb12
 have HFi := filed_any a n c X w12 (hr.later hB12) (by omega) hsz
 clear hr hsz
 go_wp2_with fail
 refine (show Calls _ _ _ _ _ from HFi).mono ?_
 rintro e w13 ⟨⟨p,bm,q,D,L,k,rfl,hBo,hp,hbm⟩,hb13⟩
 clear HFi
 have hB13 := hB12.trans (hb13.mono hB12.size)
 have hx8 := (hb13.block _ (Nat.lt_trans h15 (Nat.lt_trans h16 hz11))).trans hx8'
 have hx15' := (hb13.block _ (Nat.lt_trans h16 hz11)).trans hx15
 have hx16 := (hb13.block _ hz11).trans hx16'
 have hBsz : w.heap.size <= w12.heap.size := hB12.size
 have hBsz' := hb13.size
 clear hB12 hx8' hx15 hx16' hb13
 generalize w12.heap.size = B at *
 obtain ⟨T,hT⟩ := texts_some D
 obtain ⟨S,hS⟩ := stamps_some D
 have HM := make_any w13 p bm D k T S root hBo.f hBo.inv hT hS (hE.later hB13) hroot
 have hfew := rd_few (T := T) hBo.inv
 have hlim : ∀ m Bs P Q,Reckoned (rdD D T) root m Bs P Q -> m <= 6 /\ (patsAt (rdD D T) root m Bs P Q).length <= 36 /\ (∀ i,i < m -> (nmAt (rdD D T) root i).size <= maxLen) := fun m Bs P Q hR => by
  have hSc := (scope_of hR.of hfew).1
  have hok : ∀ j,j < m -> ObjOk (obAt (rdD D T) root j) := fun j hj => rd_ok (D := D) (T := T) (s := nmAt (rdD D T) root j) (by rw [hSc.read j hj])
  have h6 := hSc.few
  refine ⟨h6,?_,fun i hi => ?_⟩
  ·have : (patsAt (rdD D T) root m Bs P Q).length <= 6 * m := patsTo_le (O := obAt (rdD D T) root) P Q Bs (i := m) fun j hj => (hok j hj).nT
   omega
  ·by_cases h0 : i = 0
   ·subst h0; rw [hSc.root]; exact hroot
   ·obtain ⟨q',z,hq',hz,e⟩ := hSc.want i (by omega) hi
    have h1 := nameF_len ((hok q' (by omega)).needs z hz)
    rw [e] at h1
    have : (nmAt (rdD D T) root i).data.toList.length = (nmAt (rdD D T) root i).size := by simp
    simp only [maxLen]
    omega
 clear hfew
 go_wp2_with fail
 refine (show Calls _ _ _ _ _ from HM).mono ?_
 rintro e w14 ⟨hME,hb14⟩
 clear HM
 obtain ⟨F2,rt,m,nm,Bs,l,aP,cP,aQ,cQ,rfl,hrP,hrQ,hm6,hl36,hnms,htie⟩ := made_tie hME hlim
 clear hME hlim
 have hB14 := hB13.trans (hb14.mono hB13.size)
 have hBo14 := hBo.later hb14
 have h15l : b15 < w13.heap.size := (Array.getElem?_eq_some_iff.1 hx15').1
 have h16l : b16 < w13.heap.size := (Array.getElem?_eq_some_iff.1 hx16).1
 have hx8a := (hb14.block _ (Array.getElem?_eq_some_iff.1 hx8).1).trans hx8
 have hx15a := (hb14.block _ h15l).trans hx15'
 have hx16a := (hb14.block _ h16l).trans hx16
 obtain ⟨c0,c1,c2,g0,g1,g2⟩ := entBox_cells hx15a
 obtain ⟨hp15,ho15,hk15⟩ := entBox_put hx15a (.string rt) (.slice aP m cP) (.slice aQ l.length cQ)
 have hne8 : w.heap.size ≠ b15 := Nat.ne_of_lt h15
 have hne16 : b16 ≠ b15 := Nat.ne_of_gt h16
 have hx8b := (hk15 _ hne8).trans hx8a
 have hx16b := (hk15 _ hne16).trans hx16a
 have hB15 := below_store3 hB14 (Nat.le_of_lt h15) (.string rt) (.slice aP m cP) (.slice aQ l.length cQ)
 have hrP15 := owns_only hrP ho15 (by decide)
 have hrQ15 := owns_only hrQ ho15 (by decide)
 have hBo15 : Both B _ p bm q D L k := ⟨hBo14.f.only ho15 (by decide) (by decide),hBo14.r.only ho15 (by decide) (by decide),hBo14.inv,hBo14.agree,hBo14.most⟩
 have hBsz15 : B <= w13.heap.size := hBsz'
 have hL6 : L.length <= 1000 := by have := hBo.len; omega
 clear hB13 hB14 hBo hBo14 hx8 hx15' hx16 hx8a hx15a hx16a hk15 hrP hrQ ho15 hb14 h15l h16l hBsz'
 go_upto_region 16 with fail
 clear c0 c1 c2 g0 g1 g2
 generalize ((w14.setCell ⟨b15,0,none⟩ (.string rt)).setCell ⟨b15,1,none⟩ (.slice aP m cP)).setCell ⟨b15,2,none⟩ (.slice aQ l.length cQ) = w15 at *
 have HRM := refEntry_any B w15 q L k D T S root hBo15.r hL6 hBo15.agree hBo15.inv hT hS
 go_wp2_with fail
 refine (show Calls _ _ _ _ _ from HRM).mono ?_
 rintro e w16 ⟨hRM,hb16⟩
 clear HRM
 obtain ⟨aP',cP',aQ',cQ',rfl,hrP',hrQ'⟩ := htie _ _ _ hRM
 clear htie hRM
 have hB16 := hB15.trans (hb16.mono hB15.size)
 have hx8a := (hb16.block _ (Array.getElem?_eq_some_iff.1 hx8b).1).trans hx8b
 have hx15a := (hb16.block _ (Array.getElem?_eq_some_iff.1 hp15).1).trans hp15
 have hx16a := (hb16.block _ (Array.getElem?_eq_some_iff.1 hx16b).1).trans hx16b
 have hBo16 := hBo15.later hb16
 have hrP16 := owns_below hrP15 hb16
 have hrQ16 := owns_below hrQ15 hb16
 obtain ⟨c0,c1,c2,g0,g1,g2⟩ := entBox_cells hx16a
 obtain ⟨hp16,ho16,hk16⟩ := entBox_put hx16a (.string rt) (.slice aP' m cP') (.slice aQ' l.length cQ')
 have hne8' : w.heap.size ≠ b16 := Nat.ne_of_lt (Nat.lt_trans h15 h16)
 have hx8c := (hk16 _ hne8').trans hx8a
 have hx15c := (hk16 _ (Nat.ne_of_lt h16)).trans hx15a
 have hB17 := below_store3 hB16 (Nat.le_of_lt (Nat.lt_trans h15 h16)) (.string rt) (.slice aP' m cP') (.slice aQ' l.length cQ')
 have hrP17 := owns_only hrP16 ho16 (by decide)
 have hrQ17 := owns_only hrQ16 ho16 (by decide)
 have hrP17' := owns_only hrP' ho16 (by decide)
 have hrQ17' := owns_only hrQ' ho16 (by decide)
 have hBo17 : Both B _ p bm q D L k := ⟨hBo16.f.only ho16 (by decide) (by decide),hBo16.r.only ho16 (by decide) (by decide),hBo16.inv,hBo16.agree,hBo16.most⟩
 clear hB15 hB16 hBo15 hBo16 hx8b hp15 hx16b hx8a hx15a hx16a hk16 hrP15 hrQ15 hrP16 hrQ16 hrP' hrQ' ho16 hb16
 go_upto_region 17 with fail
 clear c0 c1 c2 g0 g1 g2
 generalize ((w16.setCell ⟨b16,0,none⟩ (.string rt)).setCell ⟨b16,1,none⟩ (.slice aP' m cP')).setCell ⟨b16,2,none⟩ (.slice aQ' l.length cQ') = w17 at *
 obtain ⟨c0,c1,c2,_⟩ := entBox_cells hx15c
 obtain ⟨d0,d1,d2,_⟩ := entBox_cells hp16
 have HSE := sameE_true (SameE.rfl' (xE rt m nm S Bs l)) ⟨aP,cP,aQ,cQ⟩ ⟨aP',cP',aQ',cQ'⟩ w17 (show m <= 1000 by omega) (show l.length <= 1000000 by omega) (at_of_rows hrP17 hrQ17) (at_of_rows hrP17' hrQ17')
 have HSE' : Calls Tryz.prog 14 #[.agg #[.string rt,.slice aP m cP,.slice aQ l.length cQ],.agg #[.string rt,.slice aP' m cP',.slice aQ' l.length cQ']] w17 fun e w' => e = .returned (.bool true) /\ Below w17.heap.size w17 w' := HSE
 have HS := fun W => same_self F2 W
 clear HSE
 go_wp2_with fail
 refine (show Calls _ _ _ _ _ from HS _).mono ?_
 rintro e w18 ⟨rfl,rfl⟩
 go_wp2_with fail
 refine (show Calls _ _ _ _ _ from HSE').mono ?_
 rintro e w18 ⟨rfl,hb18⟩
 clear HSE' HS c0 c1 c2 d0 d1 d2 hp16 hrP17' hrQ17'
 have hES0 : ESays w w17 B p bm q w.heap.size b15 v en ⟨aP,cP,aQ,cQ⟩ rt m nm S Bs l D L k := ⟨hBo17,hx8c,hx15c,owns_base hrP17 hBsz15,owns_base hrQ17 hBsz15,hB17⟩
 have hES := hES0.later hb18
 clear hES0 hBo17 hx8c hx15c hrP17 hrQ17 hB17 hb18 hBsz15 hT hS hL6
 generalize errV F2 = ev2 at *
 generalize (F2 : Int) = fi2 at *
 have HNM : Hid (∀ i,i < m -> (nm i).size <= maxLen) := hnms
 clear hnms
 go_upto_block 0 with fail
 go_wp2
 go_loopw [20] (fun y20 wr => ∃ (i : Nat) (D : DataW Unit) (L : List FileR) (k : Nat),i <= n' /\ y20 = .int .i64 i /\ ESays w wr B p bm q w.heap.size b15 v en ⟨aP,cP,aQ,cQ⟩ rt m nm S Bs l D L k) (fun y20 _ => n' - (intOf y20).toNat)
 case atStart => exact ⟨0,D,L,k,Nat.zero_le _,rfl,hES⟩
 case round =>
  clear hES
  obtain ⟨i,D,L,k,hi,rfl,hES⟩ := hrel
  by_cases hlt : i < n'
  ·rcases hr' with h0 | ⟨bk,o,hao,hcc⟩
   ·omega
   have H0 := hcc i hlt
   have HAH : Hid (∀ W,Below w.heap.size w W -> ActHere W bk (o + i * 8) (X' i)) := fun W hW => H0.later hW
   obtain ⟨hs1,hs2⟩ := hsz' i hlt
   have hml : (X' i).s.size <= maxLen := by simp only [maxLen]; omega
   have d0 := (HAH.out wr hES.below).c0
   have hi0 : (0 : Int) <= (i : Int) := by omega
   have hi1 : (i : Int) < (n' : Int) := by omega
   have hL6 : L.length <= 1000 := by have := hES.both.len; omega
   have hz6 : Maps.size D <= 1000 := by have := hES.both.inv.size; omega
   subst hao
   clear hcc hsz' H0
   generalize X' i = x at *
   have hpw : w.heap.size <= p := Nat.le_trans hBsz hp
   have hbw : w.heap.size <= bm := Nat.le_trans hBsz hbm
   have hqw : w.heap.size <= q := Nat.le_trans hBsz hES.both.r.lo
   have hBB : B <= wr.heap.size := by obtain ⟨vq,hvq,_⟩ := hES.both.r.blk; have := (Array.getElem?_eq_some_iff.1 hvq).1; have := hES.both.r.lo; omega
   by_cases hk1 : x.kind = kWrite
   ·have e1 : (x.kind.toList == [119,114,105,116,101]) = true := by rw [hk1,ByteArray.toList_eq]; rfl
    obtain ⟨F,hFw⟩ : ∃ F,writeF D k x.s x.t = F := ⟨_,rfl⟩
    have hFr : writeRF L k x.s x.t = F := (hES.both.agree.fault hES.both.inv hES.both.f.own hES.both.most x.s x.t).symm.trans hFw
    have hES1 := hES.later (Below.refl _ wr).drew
    have HW := write_any wr.drew p bm D k x.s x.t hES1.both.f hml hz6
    rw [hFw] at HW
    have HWR := fun W (hW : RAt B W q L k) (hWB : B <= W.heap.size) => writeR_any B W q L k x.s x.t hW hL6 hWB hml hES1.both.most
    rw [hFr] at HWR
    have HFW : Hid (writeF D k x.s x.t = F) := hFw
    have hH1 := HAH.out wr.drew hES1.below
    have hBB1 : B <= wr.drew.heap.size := hBB
    clear hk1 hFw hFr hES hBB
    go_upto_region 23 with fail
    clear d0
    have hSS : (fun w' : World => w'.cell? ⟨bk,o + i * 8 + 1,none⟩ = some (.string x.s) /\ w'.cell? ⟨bk,o + i * 8 + 2,none⟩ = some (.string x.t)) wr.drew := ⟨hH1.c1,hH1.c2⟩
    clear hH1
    refine wp_region_G (fun w' : World => w'.cell? ⟨bk,o + i * 8 + 1,none⟩ = some (.string x.s) /\ w'.cell? ⟨bk,o + i * 8 + 2,none⟩ = some (.string x.t)) 11 12 (by kernel_rfl) rfl ?_
    generalize wr.drew = A2 at *
    refine tW 0 hSS ?_
    refine tW 1 hSS ?_
    refine tW 2 hSS ?_
    refine tW 3 hSS ?_
    refine tW 4 hSS ?_
    refine tW 6 hSS ?_
    refine tW 7 hSS ?_
    refine tW 8 hSS ?_
    refine tW 9 hSS ?_
    refine tR 5 [] hSS ?_
    refine tR 10 [] hSS ?_
    clear hSS
    refine lG 11 fun K hK => ?_
    go_wp2_with fail
    refine (show Calls _ _ _ _ _ from HW).mono ?_
    rintro e w6 ⟨rfl,hFy,hFn,hT6⟩
    clear HW
    have ho6 := Only.of_turned hT6 hES1.both.f
    have hbl6 := hT6.below hES1.below.size hpw hbw
    have hb6 := hES1.below.trans hbl6
    have hd6 : Below w6.heap.size w6 w6.drew := (Below.refl _ w6).drew
    have hR6 := (hES1.both.r.only ho6 (by decide) (by decide)).later hd6
    have hB6 : B <= w6.drew.heap.size := Nat.le_trans hBB1 hT6.size
    have HRF := HWR w6.drew hR6 hB6
    have hH6 := HAH.out w6.drew (hb6.trans (hd6.mono hb6.size))
    clear HWR hT6 hBB1
    go_wp2
    refine hK _ _ ?_
    clear hK
    refine doneG (by kernel_rfl) ?_ _
    go_upto_region 24 with fail
    have hSS : (fun w' : World => w'.cell? ⟨bk,o + i * 8 + 1,none⟩ = some (.string x.s) /\ w'.cell? ⟨bk,o + i * 8 + 2,none⟩ = some (.string x.t)) w6.drew := ⟨hH6.c1,hH6.c2⟩
    clear hH6
    refine wp_region_G (fun w' : World => w'.cell? ⟨bk,o + i * 8 + 1,none⟩ = some (.string x.s) /\ w'.cell? ⟨bk,o + i * 8 + 2,none⟩ = some (.string x.t)) 11 12 (by kernel_rfl) rfl ?_
    generalize w6.drew = A6 at *
    refine tW 0 hSS ?_
    refine tW 1 hSS ?_
    refine tW 2 hSS ?_
    refine tW 3 hSS ?_
    refine tW 4 hSS ?_
    refine tW 6 hSS ?_
    refine tW 7 hSS ?_
    refine tW 8 hSS ?_
    refine tW 9 hSS ?_
    refine tR 5 [] hSS ?_
    refine tR 10 [] hSS ?_
    clear hSS
    refine lG 11 fun K hK => ?_
    go_wp2_with fail
    refine (show Calls _ _ _ _ _ from HRF).mono ?_
    rintro e w7 ⟨rfl,hRy,hRn,hT7⟩
    clear HRF
    have ho7 := Only.of_turnedQ hT7 hR6
    have hbl7 := hT7.below (Nat.le_trans hb6.size hd6.size) hqw hqw
    obtain ⟨D',L',k',hbo7⟩ : ∃ D' L' k',Both B w7 p bm q D' L' k' := both_write hES1.both HFW.out (fun h => ((hFy h).later hd6).only ho7 (by decide) (by decide)) (fun h => ((hFn h).later hd6).only ho7 (by decide) (by decide)) hRy hRn
    have HFIN : Hid (ESays w w7 B p bm q w.heap.size b15 v en ⟨aP,cP,aQ,cQ⟩ rt m nm S Bs l D' L' k') :=
     hES1.turn (ts := tsBoth) (((ho6.mono (by decide)).trans ((Only.of_below hd6).mono (by decide))).trans (ho7.mono (by decide))) (by decide) (by decide) (by decide) hbo7 ((hbl6.trans (hd6.mono hb6.size)).trans hbl7)
    clear hES1 hFy hFn hRy hRn hT7 hR6 ho6 ho7 hbl6 hbl7 hb6 hd6 hbo7 HFW hB6
    go_wp2
    refine hK _ _ ?_
    clear hK
    refine doneG (by kernel_rfl) ?_ _
    go_wp2
    go_roundw
    case rel => exact ⟨i + 1,D',L',k',by omega,by go_num,HFIN.out⟩
    case measure => simp [intOf]; omega
   ·have e1 : (x.kind.toList == [119,114,105,116,101]) = false := by have := bytes_ne hk1; rwa [show kWrite.toList = [119,114,105,116,101] by rw [ByteArray.toList_eq]] at this
    obtain ⟨F,hFr⟩ : ∃ F : Nat,F = if Maps.has D (keyB x.s) = true then 0 else 5 := ⟨_,rfl⟩
    have HW := remove_any wr p bm D k x.s hES.both.f hml F hFr
    have HWR := fun W (hW : RAt B W q L k) (hWB : B <= W.heap.size) => removeR_any B W q L k x.s hW hL6 hWB
    have d1 := (HAH.out wr hES.below).c1
    clear hk1 hFr
    go_wp2_with fail
    refine (show Calls _ _ _ _ _ from HW).mono ?_
    rintro e w6 ⟨rfl,hF6,hT6⟩
    clear HW d0 d1
    have ho6 := Only.of_turned hT6 hES.both.f
    have hbl6 := hT6.below hES.below.size hpw hbw
    have hb6 := hES.below.trans hbl6
    have hR6 := hES.both.r.only ho6 (by decide) (by decide)
    have HRF := HWR w6 hR6 (Nat.le_trans hBB hT6.size)
    have d1 := (HAH.out w6 hb6).c1
    clear HWR hT6 hBB
    go_wp2_with fail
    refine (show Calls _ _ _ _ _ from HRF).mono ?_
    rintro e w7 ⟨he7,hR7,hT7⟩
    generalize (if (delR x.s L).length = L.length then (5 : Int) else 0) = z7 at he7
    subst he7
    clear HRF d1
    have ho7 := Only.of_turnedQ hT7 hR6
    have hbl7 := hT7.below hb6.size hqw hqw
    have hbo7 : Both B w7 p bm q (D.del (keyB x.s)) (delR x.s L) k := ⟨hF6.only ho7 (by decide) (by decide),hR7,hES.both.inv.del,hES.both.agree.del x.s,hES.both.most⟩
    have HFIN : Hid (ESays w w7 B p bm q w.heap.size b15 v en ⟨aP,cP,aQ,cQ⟩ rt m nm S Bs l (D.del (keyB x.s)) (delR x.s L) k) :=
     hES.turn (ts := tsBoth) ((ho6.mono (by decide)).trans (ho7.mono (by decide))) (by decide) (by decide) (by decide) hbo7 (hbl6.trans hbl7)
    clear hES hF6 hT7 hR6 hR7 ho6 ho7 hbl6 hbl7 hb6 hbo7
    go_wp2
    go_roundw
    case rel => exact ⟨i + 1,_,_,k,by omega,by go_num,HFIN.out⟩
    case measure => simp [intOf]; omega
  ·obtain rfl : i = n' := by omega
   clear hlt hr' hsz'
   obtain ⟨T,hT⟩ := texts_some D
   obtain ⟨S2,hS2⟩ := stamps_some D
   have hL6 : L.length <= 1000 := by have := hES.both.len; omega
   obtain ⟨c0,c1,c2,_⟩ := entBox_cells hES.box15
   obtain ⟨d0,d1,d2,_⟩ := entBox_cells hES.box8
   have hbS : Below wr.heap.size wr (wr.alloc (.cells #[.string rt,.slice aP m cP,.slice aQ l.length cQ,.string en.root,.slice v.aP en.nP v.cP,.slice v.aQ en.nQ v.cQ] 26)) := (Below.refl _ _).alloc (Nat.le_refl _) _
   have hxS : (wr.alloc (.cells #[.string rt,.slice aP m cP,.slice aQ l.length cQ,.string en.root,.slice v.aP en.nP v.cP,.slice v.aQ en.nQ v.cQ] 26)).heap[wr.heap.size]? = some (.cells #[.string rt,.slice aP m cP,.slice aQ l.length cQ,.string en.root,.slice v.aP en.nP v.cP,.slice v.aQ en.nQ v.cQ] 26 (0,0)) := Array.getElem?_push_size
   have hES1 := hES.later hbS
   clear hES hbS
   go_upto_block 2 with fail
   clear c0 c1 c2 d0 d1 d2
   generalize wr.alloc (.cells #[.string rt,.slice aP m cP,.slice aQ l.length cQ,.string en.root,.slice v.aP en.nP v.cP,.slice v.aQ en.nQ v.cQ] 26) = Y at *
   generalize wr.heap.size = bS at *
   obtain ⟨wq,rfl⟩ : ∃ W,W = wr := ⟨_,rfl⟩
   go_wp2
   go_loopw [196] (fun y wz => ∃ j : Nat,j <= 2 /\ y = .int .i64 j /\ ESays w wz B p bm q w.heap.size b15 v en ⟨aP,cP,aQ,cQ⟩ rt m nm S Bs l D L k /\ wz.heap[bS]? = some (.cells #[.string rt,.slice aP m cP,.slice aQ l.length cQ,.string en.root,.slice v.aP en.nP v.cP,.slice v.aQ en.nQ v.cQ] 26 (0,0))) (fun y _ => 2 - (intOf y).toNat)
   case atStart => exact ⟨0,by omega,rfl,hES1,hxS⟩
   case round =>
    clear hES1 hxS
    obtain ⟨j,hj,rfl,hE2,hxS⟩ := hrel
    by_cases hlt : j < 2
    ·obtain ⟨vo,eo,q0,q1,q2,hAt,hb9,hb40,hnmo⟩ : ∃ (vo : EntV) (eo : EntF),wr.cell? ⟨bS,j * 3,none⟩ = some (.string eo.root) /\ wr.cell? ⟨bS,j * 3 + 1,none⟩ = some (.slice vo.aP eo.nP vo.cP) /\ wr.cell? ⟨bS,j * 3 + 2,none⟩ = some (.slice vo.aQ eo.nQ vo.cQ) /\ EntAt wr vo eo /\ eo.nP <= 900 /\ eo.nQ <= 900 /\ (∀ i,i < eo.nP -> (eo.pName i).size <= maxLen) := by
      rcases (by omega : j = 0 ∨ j = 1) with rfl | rfl
      ·exact ⟨⟨aP,cP,aQ,cQ⟩,xE rt m nm S Bs l,by simp [World.cell?,hxS,xE],by simp [World.cell?,hxS,xE],by simp [World.cell?,hxS,xE],at_of_rows hE2.rowP hE2.rowQ,show m <= 900 by omega,show l.length <= 900 by omega,HNM.out⟩
      ·exact ⟨v,en,by simp [World.cell?,hxS],by simp [World.cell?,hxS],by simp [World.cell?,hxS],hA.later hE2.below,by omega,by omega,hfit.names⟩
     have hbX : Below wr.heap.size wr (wr.alloc (.cells (entCs vo eo) 26)) := (Below.refl _ _).alloc (Nat.le_refl _) _
     have hx22 : (wr.alloc (.cells (entCs vo eo) 26)).heap[wr.heap.size]? = some (.cells (entCs vo eo) 26 (0,0)) := Array.getElem?_push_size
     have hE3 := hE2.later hbX
     have hAt3 := hAt.later hbX
     have hxS3 := (hbX.block _ (Array.getElem?_eq_some_iff.1 hxS).1).trans hxS
     have hj0 : (0 : Int) <= (j : Int) := by omega
     have hj1 : (j : Int) < 2 := by omega
     have HU := use_any _ p bm D k T S2 eo.root eo.nP eo.nQ eo.pName eo.pStamp eo.pBase eo.qPart eo.qAt eo.qWord vo.aP vo.aQ vo.cP vo.cQ hE3.both.f hS2 hT (hE.later hE3.below) hb9 hb40 hnmo hAt3.parts hAt3.pats
     clear hE2 hxS hAt hbX
     go_upto_region 30 with fail
     clear q0 q1 q2
     generalize wr.alloc (.cells (entCs vo eo) 26) = Z at *
     generalize wr.heap.size = b22 at *
     obtain ⟨c0,c1,c2,_⟩ := entBox_cells hx22
     have HOK : Hid (∀ i,i < eo.nP -> (rdD D T (eo.pName i)).1 = 0 -> (rdD D T (eo.pName i)).2.nW <= 1000) := fun i _ h0 => by
      have := (rd_ok (D := D) (T := T) (s := eo.pName i) h0).nW
      omega
     go_wp2_with fail
     refine (show Calls _ _ _ _ _ from HU).mono ?_
     rintro e w6 ⟨hUE,hb6⟩
     clear HU c0 c1 c2
     obtain ⟨F,u,rfl,htie⟩ := use_tie hUE (by omega) HOK.out
     clear hUE HOK
     have hE6 := hE3.later hb6
     have hAt6 := hAt3.later hb6
     have hx22' := (hb6.block _ (Array.getElem?_eq_some_iff.1 hx22).1).trans hx22
     have hxS6 := (hb6.block _ (Array.getElem?_eq_some_iff.1 hxS3).1).trans hxS3
     have HRU := refUsed_any B w6 q L k D T S2 eo.root eo.nP eo.nQ eo.pName eo.pStamp eo.pBase eo.qPart eo.qAt eo.qWord vo.aP vo.aQ vo.cP vo.cQ hE6.both.r hL6 hE6.both.agree hE6.both.inv hS2 hT hb9 hb40 hAt6.parts hAt6.pats
     obtain ⟨c0,c1,c2,_⟩ := entBox_cells hx22'
     clear hE3 hAt3 hx22 hxS3 hb6
     go_wp2_with fail
     refine (show Calls _ _ _ _ _ from HRU).mono ?_
     rintro e w7 ⟨hRU,hb7⟩
     clear HRU c0 c1 c2
     obtain ⟨u',rfl,hSP⟩ := htie w7 _ _ hb7 hRU
     clear hRU htie
     have hbd : Below w7.heap.size w7 w7.drew := (Below.refl _ w7).drew
     have hb7' := hb7.trans (hbd.mono hb7.size)
     have hE7 := hE6.later hb7'
     have hAt7 := hAt6.later hb7'
     have hx22 := (hb7'.block _ (Array.getElem?_eq_some_iff.1 hx22').1).trans hx22'
     have hxS7 := (hb7'.block _ (Array.getElem?_eq_some_iff.1 hxS6).1).trans hxS6
     have HSP : Hid (∀ W2,Below w7.heap.size w7 W2 -> Calls Tryz.prog 26 #[u,u'] W2 fun e w' => e = .returned (.bool true) /\ ∃ k,w' = W2.drewN k) := hSP
     have HFR := fresh_any w7.drew p bm D k S2 eo.root eo.nP eo.nQ eo.pName eo.pStamp eo.pBase vo.aP vo.aQ vo.cP vo.cQ hE7.both.f hS2 (by omega) hnmo hAt7.parts
     have HFR' := fun (W : World) (hW : Below w7.drew.heap.size w7.drew W) => refFresh_any B W q L k D S2 eo.root eo.nP eo.nQ eo.pName eo.pStamp eo.pBase vo.aP vo.aQ vo.cP vo.cQ (hE7.both.r.later hW) hL6 hE7.both.agree hE7.both.inv hS2 (by omega) (hAt7.parts.later hW)
     have HSS := fun W => same_self F W
     generalize (!staleTo D S2 eo.pName eo.pStamp eo.nP && decide (0 < eo.nP)) = fr at *
     clear hE6 hAt6 hx22' hxS6 hb7 hb7' hSP hbd
     have hbz : Below w7.heap.size w7 w7.drew := (Below.refl _ w7).drew
     have mkS : ∀ W : World,Below w7.drew.heap.size w7.drew W -> (fun w' : World => w'.cell? ⟨b22,0,none⟩ = some (.string eo.root) /\ w'.cell? ⟨b22,1,none⟩ = some (.slice vo.aP eo.nP vo.cP) /\ w'.cell? ⟨b22,2,none⟩ = some (.slice vo.aQ eo.nQ vo.cQ)) W := fun W hW => by
      obtain ⟨z0,z1,z2,_⟩ := entBox_cells hx22
      exact ⟨cell_later hW z0,cell_later hW z1,cell_later hW z2⟩
     have hSS := mkS _ (Below.refl _ _)
     clear hx22
     cases fr with
     | true =>
      go_upto_region 32 with fail
      refine wp_region_G (fun w' : World => w'.cell? ⟨b22,0,none⟩ = some (.string eo.root) /\ w'.cell? ⟨b22,1,none⟩ = some (.slice vo.aP eo.nP vo.cP) /\ w'.cell? ⟨b22,2,none⟩ = some (.slice vo.aQ eo.nQ vo.cQ)) 5 19 (by kernel_rfl) rfl ?_
      generalize w7.drew = A7 at *
      refine tW 1 hSS ?_
      refine tW 4 hSS ?_
      refine tR 0 [2] hSS ?_
      refine tR 3 [] hSS ?_
      clear hSS
      refine oG 2 fun K hK => ?_
      go_wp2_with fail
      refine (show Calls _ _ _ _ _ from HFR).mono ?_
      rintro e w8 ⟨rfl,hb8⟩
      clear HFR
      have hSS8 := mkS _ hb8
      have HFR2 := HFR' _ hb8
      clear HFR' mkS
      go_wp2
      refine hK _ _ hSS8 ?_
      clear hK hSS8
      refine lG 5 fun K hK => ?_
      go_wp2_with fail
      refine (show Calls _ _ _ _ _ from HFR2).mono ?_
      rintro e w9 ⟨rfl,hb9'⟩
      clear HFR2
      have hb89 := hb8.trans (hb9'.mono hb8.size)
      have hE9 := hE7.later hb89
      have hxS9 := (hb89.block _ (Array.getElem?_eq_some_iff.1 hxS7).1).trans hxS7
      have hSP9 := HSP.out w9 (hbz.trans (hb89.mono hbz.size))
      clear hE7 hxS7 HSP hb8 hb9' hb89 hbz
      go_wp2
      refine hK _ _ ?_
      clear hK
      refine tA 6 ?_
      refine tA 7 ?_
      refine tA 8 ?_
      refine tA 9 ?_
      refine lG 10 fun K hK => ?_
      go_wp2_with fail
      refine (show Calls _ _ _ _ _ from HSS _).mono ?_
      rintro e w10 ⟨rfl,rfl⟩
      clear HSS
      go_wp2
      refine hK _ _ ?_
      clear hK
      refine tA 11 ?_
      refine tA 12 ?_
      refine tA 13 ?_
      refine tA 14 ?_
      refine tA 15 ?_
      refine lG 16 fun K hK => ?_
      go_wp2_with fail
      refine (show Calls _ _ _ _ _ from hSP9).mono ?_
      rintro e w10 ⟨rfl,kk,rfl⟩
      clear hSP9
      have hE10 := hE9.later (below_drewN (Below.refl _ w9) kk)
      have hxS10 := ((below_drewN (Below.refl w9.heap.size w9) kk).block _ (Array.getElem?_eq_some_iff.1 hxS9).1).trans hxS9
      clear hE9 hxS9
      generalize w9.drewN kk = w10 at *
      go_wp2
      refine hK _ _ ?_
      clear hK
      refine tA 17 ?_
      refine tA 18 ?_
      refine doneG (by kernel_rfl) ?_ _
      go_wp2
      go_roundw
      case rel => exact ⟨j + 1,by omega,by go_num,hE10,hxS10⟩
      case measure => simp [intOf]; omega
     | false =>
      go_upto_region 32 with fail
      refine wp_region_G (fun w' : World => w'.cell? ⟨b22,0,none⟩ = some (.string eo.root) /\ w'.cell? ⟨b22,1,none⟩ = some (.slice vo.aP eo.nP vo.cP) /\ w'.cell? ⟨b22,2,none⟩ = some (.slice vo.aQ eo.nQ vo.cQ)) 5 19 (by kernel_rfl) rfl ?_
      generalize w7.drew = A7 at *
      refine tW 1 hSS ?_
      refine tW 4 hSS ?_
      refine tR 0 [2] hSS ?_
      refine tR 3 [] hSS ?_
      clear hSS
      refine oG 2 fun K hK => ?_
      go_wp2_with fail
      refine (show Calls _ _ _ _ _ from HFR).mono ?_
      rintro e w8 ⟨rfl,hb8⟩
      clear HFR
      have hSS8 := mkS _ hb8
      have HFR2 := HFR' _ hb8
      clear HFR' mkS
      go_wp2
      refine hK _ _ hSS8 ?_
      clear hK hSS8
      refine lG 5 fun K hK => ?_
      go_wp2_with fail
      refine (show Calls _ _ _ _ _ from HFR2).mono ?_
      rintro e w9 ⟨rfl,hb9'⟩
      clear HFR2
      have hb89 := hb8.trans (hb9'.mono hb8.size)
      have hE9 := hE7.later hb89
      have hxS9 := (hb89.block _ (Array.getElem?_eq_some_iff.1 hxS7).1).trans hxS7
      have hSP9 := HSP.out w9 (hbz.trans (hb89.mono hbz.size))
      clear hE7 hxS7 HSP hb8 hb9' hb89 hbz
      go_wp2
      refine hK _ _ ?_
      clear hK
      refine tA 6 ?_
      refine tA 7 ?_
      refine tA 8 ?_
      refine tA 9 ?_
      refine lG 10 fun K hK => ?_
      go_wp2_with fail
      refine (show Calls _ _ _ _ _ from HSS _).mono ?_
      rintro e w10 ⟨rfl,rfl⟩
      clear HSS
      go_wp2
      refine hK _ _ ?_
      clear hK
      refine tA 11 ?_
      refine tA 12 ?_
      refine tA 13 ?_
      refine tA 14 ?_
      refine tA 15 ?_
      refine lG 16 fun K hK => ?_
      go_wp2_with fail
      refine (show Calls _ _ _ _ _ from hSP9).mono ?_
      rintro e w10 ⟨rfl,kk,rfl⟩
      clear hSP9
      have hE10 := hE9.later (below_drewN (Below.refl _ w9) kk)
      have hxS10 := ((below_drewN (Below.refl w9.heap.size w9) kk).block _ (Array.getElem?_eq_some_iff.1 hxS9).1).trans hxS9
      clear hE9 hxS9
      generalize w9.drewN kk = w10 at *
      go_wp2
      refine hK _ _ ?_
      clear hK
      refine tA 17 ?_
      refine tA 18 ?_
      refine doneG (by kernel_rfl) ?_ _
      go_wp2
      go_roundw
      case rel => exact ⟨j + 1,by omega,by go_num,hE10,hxS10⟩
      case measure => simp [intOf]; omega
    ·obtain rfl : j = 2 := by omega
     have hb := hE2.below
     clear hE2 hxS hlt
     go_wp2
     go_ret
     exact ⟨rfl,hb⟩
end Go.Proofs.YthdccmjdbcllkaaGreatDoor
