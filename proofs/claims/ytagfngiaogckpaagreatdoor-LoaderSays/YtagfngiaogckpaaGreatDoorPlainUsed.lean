/- What SameTexts returns of two rows of texts that are alike; memory stays as it was. The code's files and the document's beside each other in memory: what one side does leaves the other side as it was. What ObjectOf of the document returns, in the words of the code's reading; what Read of its files returns, in the words of the code's files. What ScopeOf of the document returns, for all files and every root: who belongs together, in order; or the number of the error; memory that was there stays as it was. What Round, Apart, inWindow and check of package place return, for every argument that is asked of them; memory that was there stays as it was. What the document's Pages and Apart return, for every argument that is asked of them; memory that was there stays as it was. Plain words on places that are used: a range meets others just if one of its places is used. -/
import Derived.Test.YtagfngiaogckpaaGreatDoorFilesAgree
import Derived.Test.YtagfngiaogckpaaGreatDoorRefOf
import Derived.Test.YtagfngiaogckpaaGreatDoorScopeAll
namespace Go.Proofs.YtagfngiaogckpaaGreatDoor
open Go.RowKit
end Go.Proofs.YtagfngiaogckpaaGreatDoor
namespace Go.Proofs.YtagfngiaogckpaaGreatDoor
open Go.RowKit Go.Maps
structure Both (B : Nat) (w : World) (p bm q : Nat) (D : DataW Unit) (L : List FileR) (k : Nat) : Prop where
 f : FilesAt w p bm D k
 r : RAt B w q L k
 inv : Inv D k
 agree : Agree D L
 most : k <= 1000000
theorem Both.later {B p bm q k : Nat} {w w' : World} {D : DataW Unit} {L : List FileR} (h : Both B w p bm q D L k) (hb : Below w.heap.size w w') : Both B w' p bm q D L k := ⟨h.f.later hb,h.r.later hb,h.inv,h.agree,h.most⟩
theorem Both.len {B p bm q k : Nat} {w : World} {D : DataW Unit} {L : List FileR} (h : Both B w p bm q D L k) : L.length <= 6 := by
 rw [h.agree.length h.inv h.f.own]; exact h.inv.size
theorem cells_same {a b : ObjF} (e : SameO a b) (v : ObjV) : v.cells b = v.cells a := by
 unfold ObjV.cells
 rw [e.nN,e.nW,e.nS,e.nT]
theorem ObjAt.same {w : World} {v : ObjV} {a b : ObjF} (h : ObjAt w v b) (e : SameO a b) : ObjAt w v a where
 needs := by
  rw [e.nN]
  exact h.needs.imp id fun ⟨bk,o,ha,hc⟩ => ⟨bk,o,ha,fun i hi => by rw [hc i hi]; show some (Value.string _) = some (Value.string _); rw [e.needs i hi]⟩
 words := by
  rw [e.nW]
  exact h.words.imp id fun ⟨bk,o,ha,hc⟩ => ⟨bk,o,ha,fun i hi => by rw [hc i hi]; show some (Value.int .i64 _) = some (Value.int .i64 _); rw [e.words i hi]⟩
 syms := by
  rw [e.nS]
  exact h.syms.imp id fun ⟨bk,o,ha,hc⟩ => ⟨bk,o,ha,fun i hi => by
   obtain ⟨h1,h2,h3⟩ := hc i hi
   obtain ⟨e1,e2,e3⟩ := e.syms i hi
   rw [e1,e2,e3]
   exact ⟨h1,h2,h3⟩⟩
 ties := by
  rw [e.nT]
  exact h.ties.imp id fun ⟨bk,o,ha,hc⟩ => ⟨bk,o,ha,fun i hi => by
   obtain ⟨h1,h2,h3,h4,h5⟩ := hc i hi
   obtain ⟨e1,e2,e3,e4,e5⟩ := e.ties i hi
   rw [e1,e2,e3,e4,e5]
   exact ⟨h1,h2,h3,h4,h5⟩⟩
 capN := by rw [e.nN]; exact h.capN
 capS := by rw [e.nS]; exact h.capS
theorem ObjNew.same {B : Nat} {v : ObjV} {a b : ObjF} (h : ObjNew B v b) (e : SameO a b) : ObjNew B v a :=
 ⟨by rw [e.nN]; exact h.needs,by rw [e.nW]; exact h.words,by rw [e.nS]; exact h.syms,by rw [e.nT]; exact h.ties⟩
theorem objectOf_parse (s : ByteArray) (w : World) :
 Calls Tryz.prog 87 #[.string s] w fun e w' => (∃ v : ObjV,e = .returned (.tuple #[.agg (v.cells (parseF s).2),.int .i64 (((parseF s).1 : Nat) : Int)]) /\ ObjAt w' v (parseF s).2 /\ ObjNew w.heap.size v (parseF s).2) /\ Below w.heap.size w w' :=
 (objectOf_new s w).mono fun e w' ⟨⟨v,h1,h2,h3⟩,h4⟩ => by
   obtain ⟨e1,e2,_⟩ := ref_same s
   exact ⟨⟨v,by rw [h1,e1,cells_same e2],h2.same e2,h3.same e2⟩,h4⟩
theorem readR_is (B : Nat) (w : World) (q : Nat) (L : List FileR) (k : Nat) (D : DataW Unit) (s : ByteArray) (h : RAt B w q L k) (hL : L.length <= 1000) (hA : Agree D L) (hI : Inv D k) :
 Calls Tryz.prog 33 #[.pointer (some ⟨q,0,none⟩),.string s] w fun e w' => (∃ (t : ByteArray) (n : Int) (f : Nat),e = .returned (.tuple #[.string t,.int .i64 n,.int .i64 (f : Int)]) /\ ReadIs D s t n f) /\ Below w.heap.size w w' :=
 (readR_any B w q L k s h hL).mono fun e w' ⟨⟨t,n,f,he,hc⟩,hb⟩ => by
   refine ⟨⟨t,n,f,he,?_,?_⟩,hb⟩
   ·intro hh
    rcases hc with ⟨x,hx,rfl,rfl,rfl,rfl⟩ | ⟨hno,_⟩
    ·exact ⟨rfl,((hA.mem x).1 hx).2⟩
    ·obtain ⟨x,hx,e⟩ := (hA.has hI s).1 hh
     exact absurd e (hno x hx)
   ·intro hh
    rcases hc with ⟨x,hx,rfl,_,_,_⟩ | ⟨_,h1,h2,h3⟩
    ·rw [((hA.mem x).1 hx).1] at hh
     cases hh
    ·exact ⟨h3,h1,h2⟩
inductive ROfEnd (w : World) (B : Nat) (rd : ByteArray -> Nat × ObjF) (root : ByteArray) : Ending -> Prop
 | bad (F i : Nat) (h : OfIs rd root F i) (hf : F ≠ 0) : ROfEnd w B rd root (.returned (.tuple #[.slice none 0 0,.slice none 0 0,.int .i64 (F : Int)]))
 | ok (i : Nat) (u x : Value) (V : Nat -> ObjV) (h : OfIs rd root 0 i) (hu : OwnTx w B u (namesAt rd root i)) (hx : ObjsIn w B x i V fun j => (rd (nmAt rd root j)).2) : ROfEnd w B rd root (.returned (.tuple #[u,x,.int .i64 0]))
theorem any_mem (N : List ByteArray) (s : ByteArray) (n : Nat) (hn : n = N.length) : anyTo (fun j => decide (N.getD j ⟨#[]⟩ = s)) n = memB N s := by subst hn; exact anyTo_mem
theorem grown_drewN {w W : World} {row : Option Nat} (h : w.grownBy W row) (j : Nat) : w.grownBy (W.drewN j) row := ⟨h.os,h.tape,h.output,h.size,h.block⟩
set_option maxRecDepth 100000 in
set_option maxHeartbeats 8000000 in
theorem refScopeOf_any (B : Nat) (w : World) (q : Nat) (L : List FileR) (k : Nat) (D : DataW Unit) (T : ByteArray -> ByteArray) (root : ByteArray) (h : RAt B w q L k) (hL : L.length <= 1000) (hA : Agree D L) (hI : Inv D k) (hT : Texts D T) :
 Calls Tryz.prog 61 #[.pointer (some ⟨q,0,none⟩),.string root] w fun e w' => ROfEnd w' w.heap.size (rdD D T) root e /\ Below w.heap.size w w' := by
 have hO0 : OwnTx (w.alloc (.cells #[.string root] 9)) w.heap.size (.slice (some ⟨w.heap.size,0,none⟩) 1 1) [root] := by
  have e : (w.alloc (.cells #[.string root] 9)).heap[w.heap.size]? = some (.cells #[.string root] 9) := by
   show (w.heap.push _)[w.heap.size]? = _
   rw [Array.getElem?_push_size]
  exact ⟨rfl,.inr ⟨w.heap.size,1,#[.string root],rfl,Nat.le_refl _,e,Nat.le_refl _,by simp [maxLen],rfl,rfl⟩⟩
 have hx0 : Below w.heap.size w (w.alloc (.cells #[.string root] 9)) := (Below.refl _ _).alloc (Nat.le_refl _) _
 have hfew := rd_few (T := T) hI
 have HRD : Hid (∀ s,rdD D T s = if Maps.has D (keyB s) = true then parseF (T s) else (5,emptyO)) := fun s => rfl
 have HOK : Hid (∀ s,(rdD D T s).1 = 0 -> ObjOk (rdD D T s).2) := fun s h => rd_ok h
 generalize rdD D T = rd at *
 go_enter Tryz.func61,Tryz.ntmps61
 go_wp2
 go_loopw [7,8,9,10,11,12,13,14,15,16] (fun a b z _ _ _ _ _ _ _ wr => ∃ (i : Nat) (u x : Value) (V : Nat -> ObjV),i <= 6 /\ z = .int .i64 i /\ a = u /\ b = x /\ OwnTx wr w.heap.size u (namesAt rd root i) /\ ObjsIn wr w.heap.size x i V (fun j => (rd (nmAt rd root j)).2) /\
  (∀ j,j < i -> ObjSep (V j) (rd (nmAt rd root j)).2 u.ownBlock /\ ObjSep (V j) (rd (nmAt rd root j)).2 x.ownBlock) /\ Hid (ReadTo rd root i) /\ Below w.heap.size w wr) (fun _ _ z _ _ _ _ _ _ _ _ => 7 - (intOf z).toNat)
 case atStart => exact ⟨0,_,_,fun _ => noV,by omega,rfl,rfl,rfl,hO0,⟨World.ownsRow_nil _ _ _ _,fun j hj => by omega⟩,fun j hj => by omega,fun j hj => by omega,hx0⟩
 case round =>
  clear hO0 hx0
  obtain ⟨i,u,x,V,hi6,rfl,rfl,rfl,ho,hx,hsep,HR,hb⟩ := hrel
  have hnn : ∀ j,j < i -> (rd (nmAt rd root j)).2.nN <= 4 := fun j hj => (HOK.out _ (HR.out j hj).2).nN
  have hlen := names_len rd root i hnn
  by_cases hlt : i < (namesAt rd root i).length
  ·have hRd := readR_is B wr q L k D (nmAt rd root i) (h.later hb) hL hA hI
   obtain ⟨au,cu,rfl,hcu,hru⟩ := ownTx_row ho
   have hB := hb.size
   rcases hru with h0 | ⟨bu,fu,rfl,hcn⟩
   ·omega
   have hci : wr.cell? ⟨bu,fu + i,none⟩ = some (.string (nmAt rd root i)) := hcn i hlt
   clear hcn
   have hltu : ∀ j,(Value.slice (some ⟨bu,fu,none⟩) (namesAt rd root i).length cu).ownBlock = some j -> j < wr.heap.size := fun j e => (ho.lt j e).2
   have hltx : ∀ j,u8.ownBlock = some j -> j < wr.heap.size := fun j e => (hx.own.lt j e).2
   have hi0 : (0 : Int) <= (i : Int) := by omega
   have hi1 : (i : Int) < ((namesAt rd root i).length : Int) := by omega
   have HE : (rd (nmAt rd root i)).1 ≠ 0 -> OfIs rd root (rd (nmAt rd root i)).1 i := fun hf => .bad i HR.out hlt hf
   have HRi := HRD.out (nmAt rd root i)
   go_wp2_with fail
   refine (show Calls _ _ _ _ _ from hRd).mono ?_
   rintro e w0 ⟨⟨t,st,f,rfl,hRI⟩,hb0⟩
   clear hRd hci
   have hb1 := hb.trans (hb0.mono hb.size)
   cases hh : Maps.has D (keyB (nmAt rd root i)) with
   | false =>
    obtain ⟨rfl,rfl,rfl⟩ := hRI.no hh
    rw [hh,if_neg (by decide)] at HRi
    rw [HRi] at HE
    have HEE : Hid (OfIs rd root 5 i) := HE (by decide)
    clear HE HRi hRI hh hsep hltu hltx hx ho
    go_wp2
    go_ret3
    exact ⟨.bad 5 i HEE.out (by decide),hb1⟩
   | true =>
    obtain ⟨rfl,hat⟩ := hRI.yes hh
    obtain rfl := hT.is _ _ _ hh hat
    rw [hh,if_pos rfl] at HRi
    clear hat hRI
    have HOb := objectOf_parse (T (nmAt rd root i)) w0
    rw [<- HRi] at HOb
    by_cases hf : (rd (nmAt rd root i)).1 = 0
    ·have HR2 : Hid (ReadTo rd root (i + 1)) := fun j hj => by
      by_cases e : j = i
      ·subst e; exact ⟨hlt,hf⟩
      ·exact HR.out j (by omega)
     have hi7 : i + 1 <= 6 := HR2.out.few hfew
     have hok : ObjOk (rd (nmAt rd root i)).2 := HOK.out _ hf
     have hn4 := hok.nN
     rw [hf] at HOb
     clear HRi HE hh
     go_wp2_with fail
     refine (show Calls _ _ _ _ _ from HOb).mono ?_
     rintro e w1 ⟨⟨v,rfl,hAt,hNw⟩,hb1'⟩
     clear HOb
     have hb01 := hb0.trans (hb1'.mono hb0.size)
     have ho1 := owns_below ho hb01
     have hx1 : ∀ j,j < i -> ObjAt w1 (V j) (rd (nmAt rd root j)).2 := fun j hj => (hx.at' j hj).later hb01
     have hxo1 := owns_below hx.own hb01
     have hb2 := hb.trans (hb01.mono hb.size)
     have hs1 := hb01.size
     have hNu := (hNw.lower hb0.size).sep hltu
     have hNx := (hNw.lower hb0.size).sep hltx
     clear hNw hltu hltx hb01 hb0 hb1' hb1 hb hx ho
     obtain ⟨aN,cN,aW,cW,aS,cS,aT,cT⟩ := v
     obtain ⟨x',W,happ,hxW,hgW,hsnW⟩ := growObj (w := w1.alloc (.cells #[.slice aN (rd (nmAt rd root i)).2.nN cN,.slice aW (rd (nmAt rd root i)).2.nW cW,.slice aS (rd (nmAt rd root i)).2.nS cS,.slice aT (rd (nmAt rd root i)).2.nT cT] 133)) (V := V) (V' := fun j => if j = i then ⟨aN,cN,aW,cW,aS,cS,aT,cT⟩ else V j) (O := fun j => (rd (nmAt rd root j)).2) ⟨aN,cN,aW,cW,aS,cS,aT,cT⟩ (by simp; have := hb2.size; omega) (hxo1.alloc _) (by omega) (fun j hj => by simp only [if_neg (show j ≠ i by omega)]) (by simp)
     have e1 : (w1.alloc (.cells #[.slice aN (rd (nmAt rd root i)).2.nN cN,.slice aW (rd (nmAt rd root i)).2.nW cW,.slice aS (rd (nmAt rd root i)).2.nS cS,.slice aT (rd (nmAt rd root i)).2.nT cT] 133)).heap.size = w1.heap.size + 1 := by simp
     rw [e1] at happ hsnW
     clear e1
     have hbA : Below w1.heap.size w1 ((w1.alloc (.cells #[.slice aN (rd (nmAt rd root i)).2.nN cN,.slice aW (rd (nmAt rd root i)).2.nW cW,.slice aS (rd (nmAt rd root i)).2.nS cS,.slice aT (rd (nmAt rd root i)).2.nT cT] 133)).alloc (.cells #[.slice aN (rd (nmAt rd root i)).2.nN cN,.slice aW (rd (nmAt rd root i)).2.nW cW,.slice aS (rd (nmAt rd root i)).2.nS cS,.slice aT (rd (nmAt rd root i)).2.nT cT] 133)) := ((Below.refl _ _).alloc (Nat.le_refl _) _).alloc (by simp) _
     have hoW : OwnTx W w.heap.size (.slice (some ⟨bu,fu,none⟩) (namesAt rd root i).length cu) (namesAt rd root i) := ((ho1.alloc _).alloc _).kept hgW (ownsSep ho1 hxo1 (by decide))
     have hxW1 : ∀ j,j < i -> ObjAt W (V j) (rd (nmAt rd root j)).2 := fun j hj => ((hx1 j hj).later hbA).grown hgW (hsep j hj).2
     have hAW : ObjAt W ⟨aN,cN,aW,cW,aS,cS,aT,cT⟩ (rd (nmAt rd root i)).2 := (hAt.later hbA).grown hgW hNx
     have hne : some w1.heap.size ≠ u8.ownBlock := fun e => by have := (hxo1.lt _ e.symm).2; omega
     have hneu : some w1.heap.size ≠ (Value.slice (some ⟨bu,fu,none⟩) (namesAt rd root i).length cu).ownBlock := fun e => by have := (ho1.lt _ e.symm).2; omega
     have c0 : W.cell? ⟨w1.heap.size,0,none⟩ = some (.slice aN (rd (nmAt rd root i)).2.nN cN) := hgW.cell (by simp [go_sem]) hne
     have hbW : Below w.heap.size w W := (hb2.trans (hbA.mono hb2.size)).grown hgW (Nat.le_trans hb2.size hbA.size) (fun j e => (hxo1.lt j e).1)
     have hsx2 : ∀ j,j < i + 1 -> ObjSep ((fun j => if j = i then (⟨aN,cN,aW,cW,aS,cS,aT,cT⟩ : ObjV) else V j) j) (rd (nmAt rd root j)).2 x'.ownBlock := fun j hj => by
      by_cases e : j = i
      ·subst e
       simp only [if_pos]
       exact ObjSep.next hAt hNx (Nat.le_succ _) hsnW
      ·simp only [if_neg e]
       exact ObjSep.next (hx1 j (by omega)) (hsep j (by omega)).2 (Nat.le_succ _) hsnW
     have hsu : ∀ j,j < i + 1 -> ObjAt W ((fun j => if j = i then (⟨aN,cN,aW,cW,aS,cS,aT,cT⟩ : ObjV) else V j) j) (rd (nmAt rd root j)).2 /\ ObjSep ((fun j => if j = i then (⟨aN,cN,aW,cW,aS,cS,aT,cT⟩ : ObjV) else V j) j) (rd (nmAt rd root j)).2 (Value.slice (some ⟨bu,fu,none⟩) (namesAt rd root i).length cu).ownBlock := fun j hj => by
      by_cases e : j = i
      ·subst e
       simp only [if_pos]
       exact ⟨hAW,hNu⟩
      ·simp only [if_neg e]
       exact ⟨hxW1 j (by omega),(hsep j (by omega)).1⟩
     have hrN := hAW.needs
     have hsepN := hNu.needs
     clear hx1 hAt hNu hNx hsep hxW1 hAW hbA hb2 ho1 hxo1 hsnW hne hgW hi0 hi1
     unfold ObjV.cells
     generalize (fun j => if j = i then (⟨aN,cN,aW,cW,aS,cS,aT,cT⟩ : ObjV) else V j) = V2 at *
     have hsuc : namesAt rd root (i + 1) = joinL (namesAt rd root i) (needsTo (rd (nmAt rd root i)).2 (rd (nmAt rd root i)).2.nN) := rfl
     have HSUC : Hid (namesAt rd root (i + 1) = joinL (namesAt rd root i) (needsTo (rd (nmAt rd root i)).2 (rd (nmAt rd root i)).2.nN)) := hsuc
     clear hsuc hf hok hfew HR hlt hnn HOK HRD
     dsimp only at hrN hsepN
     go_wp2_with (at_builtin; refine list_run rfl (.tmp 46) (.tmp 48) 122 rfl u8 (.slice (some ⟨w1.heap.size + 1,0,none⟩) 1 1) _ rfl rfl happ ?_)
     generalize hO : (rd (nmAt rd root i)).2 = o at *
     generalize hN : namesAt rd root i = N at *
     go_loopw [7,14,15,16] (fun y7 y14 _ _ wk => ∃ (m : Nat) (uu : Value),m <= o.nN /\ y14 = .int .i64 m /\ y7 = uu /\ OwnTx wk w.heap.size uu (joinL N (needsTo o m)) /\ SameOrNew W.heap.size (.slice (some ⟨bu,fu,none⟩) N.length cu) uu /\ W.grownBy wk (Value.slice (some ⟨bu,fu,none⟩) N.length cu).ownBlock) (fun _ y14 _ _ _ => o.nN - (intOf y14).toNat)
     case atStart => exact ⟨0,_,Nat.zero_le _,rfl,rfl,hoW,.inl rfl,grownBy_refl _ _⟩
     case round =>
      obtain ⟨m,uu,hm,rfl,rfl,hou,hsn,hg⟩ := hrel
      have hlen2 := joinL_len N (needsTo o m)
      have hln2 : (needsTo o m).length = m := by simp [needsTo]
      have c0k := hg.cell c0 hneu
      by_cases hlm : m < o.nN
      ·have hrk := hrN.grown hg hsepN
       rcases hrk with h0 | ⟨bN,fN,rfl,hcN⟩
       ·omega
       have hcm := hcN m hlm
       obtain ⟨av,cv,rfl,_,hrv⟩ := ownTx_row hou
       have hm0 : (0 : Int) <= (m : Int) := by omega
       have hm1 : (m : Int) < (o.nN : Int) := by omega
       have hsuc2 := joinL_snoc N (needsTo o m) (o.needs m)
       rw [<- needsTo_succ] at hsuc2
       have hszk : w.heap.size <= wr.heap.size := Nat.le_trans hbW.size hg.size
       clear hcN
       obtain ⟨M,hM⟩ : ∃ M,joinL N (needsTo o m) = M := ⟨_,rfl⟩
       rw [hM] at hsuc2 hou hlen2 hrv hsn
       rw [hM]
       go_wp2
       go_loopw [15,16] (fun y15 y16 wz => ∃ (z d : Nat),z <= M.length /\ y16 = .int .i64 z /\ y15 = .bool (anyTo (fun j => decide (M.getD j ⟨#[]⟩ = o.needs m)) z) /\ wz = wr.drewN d) (fun _ y16 _ => M.length - (intOf y16).toNat)
       case atStart => exact ⟨0,0,Nat.zero_le _,rfl,rfl,rfl⟩
       case round =>
        obtain ⟨z,d,hz,rfl,rfl,rfl⟩ := hrel
        by_cases hlz : z < M.length
        ·rcases hrv with h0 | ⟨bv,fv,rfl,hcv⟩
         ·omega
         have hcz : wr.cell? ⟨bv,fv + z,none⟩ = some (.string (M.getD z ⟨#[]⟩)) := hcv z hlz
         have hz0 : (0 : Int) <= (z : Int) := by omega
         have hz1 : (z : Int) < (M.length : Int) := by omega
         have hstep : anyTo (fun j => decide (M.getD j ⟨#[]⟩ = o.needs m)) (z + 1) = (anyTo (fun j => decide (M.getD j ⟨#[]⟩ = o.needs m)) z || decide (M.getD z ⟨#[]⟩ = o.needs m)) := rfl
         obtain ⟨b0,hb0⟩ : ∃ b0,anyTo (fun j => decide (M.getD j ⟨#[]⟩ = o.needs m)) z = b0 := ⟨_,rfl⟩
         obtain ⟨b1,hb1⟩ : ∃ b1,anyTo (fun j => decide (M.getD j ⟨#[]⟩ = o.needs m)) (z + 1) = b1 := ⟨_,rfl⟩
         rw [hb0,hb1] at hstep
         have HB1 : Hid (anyTo (fun j => decide (M.getD j ⟨#[]⟩ = o.needs m)) (z + 1) = b1) := hb1
         rw [hb0]
         clear hb0 hb1
         have hq : ((M.getD z ⟨#[]⟩).toList == (o.needs m).toList) = decide (M.getD z ⟨#[]⟩ = o.needs m) := toList_beq _ _
         generalize decide (M.getD z ⟨#[]⟩ = o.needs m) = dz at *
         generalize M.getD z ⟨#[]⟩ = nz at *
         clear hcv
         cases b0 with
         | true =>
          have hb1t : b1 = true := hstep
          subst hb1t
          clear hq hstep
          go_wp2
          go_quiet (fail)
          go_wp2
          go_roundw
          case rel => exact ⟨z + 1,_,by omega,by go_num,by rw [HB1.out],rfl⟩
          case measure => simp [intOf]; omega
         | false =>
          rw [Bool.false_or] at hstep
          subst hstep
          go_wp2
          go_quiet (fail)
          go_wp2
          go_roundw
          case rel => exact ⟨z + 1,_,by omega,by go_num,by rw [HB1.out],rfl⟩
          case measure => simp [intOf]; omega
        ·obtain rfl : z = M.length := by omega
         have hgd := grown_drewN hg d
         have houd : OwnTx (wr.drewN d) w.heap.size (.slice av M.length cv) M := hou
         rw [any_mem M (o.needs m) M.length rfl]
         cases hmem : memB M (o.needs m) with
         | true =>
          rw [if_pos hmem] at hsuc2
          have ho2 : OwnTx (wr.drewN d) w.heap.size (.slice av M.length cv) (joinL N (needsTo o (m + 1))) := by rw [hsuc2]; exact houd
          clear hsuc2 hmem hou houd hM
          go_wp2
          go_roundw
          case rel => exact ⟨m + 1,_,by omega,by go_num,rfl,ho2,hsn,hgd⟩
          case measure => simp [intOf]; omega
         | false =>
          rw [if_neg (by simp [hmem])] at hsuc2
          have hszd : w.heap.size <= (wr.drewN d).heap.size := hszk
          obtain ⟨v1,W1,happ1,hO1,hg1,hsn1⟩ := growTx (o.needs m) hszd houd (by omega)
          rw [<- hsuc2] at hO1
          have hg2 : W.grownBy W1 (Value.slice (some ⟨bu,fu,none⟩) N.length cu).ownBlock := (hgd.andThen (World.grownBy_alloc (wr.drewN d) (.cells #[.string (o.needs m)] 9) none) (fun j hj => by cases hj)).andThen hg1 (fun j hj => by
           rcases hsn with e | ⟨j',e,hj'⟩
           ·rw [e] at hj; exact .inr hj
           ·rw [e] at hj; injection hj with hj; subst hj; exact .inl hj')
          have hsn2 : SameOrNew W.heap.size (.slice (some ⟨bu,fu,none⟩) N.length cu) v1 := by
           rcases hsn1 with e | ⟨j',e,hj'⟩
           ·rcases hsn with e2 | ⟨j2,e2,hj2⟩
            ·exact .inl (e.trans e2)
            ·exact .inr ⟨j2,e.trans e2,hj2⟩
           ·exact .inr ⟨j',e,Nat.le_trans hgd.size hj'⟩
          clear hsuc2 hmem hou houd hg1 hsn1 hsn hg hgd hM
          go_wp2_with (at_builtin; refine list_run rfl (.tmp 78) (.tmp 84) 64 rfl (.slice av M.length cv) (.slice (some ⟨(wr.drewN d).heap.size,0,none⟩) 1 1) _ rfl rfl happ1 ?_)
          go_roundw
          case rel => exact ⟨m + 1,v1,by omega,by go_num,rfl,hO1,hsn2,hg2⟩
          case measure => simp [intOf]; omega
      ·obtain rfl : m = o.nN := by omega
       have hxW2 : OwnObjs w.heap.size wr x' (i + 1) V2 (fun j => (rd (nmAt rd root j)).2) := hxW.kept hg (ownsSep hxW hoW (by decide))
       have hA2 : ∀ j,j < i + 1 -> ObjAt wr (V2 j) (rd (nmAt rd root j)).2 := fun j hj => (hsu j hj).1.grown hg (hsu j hj).2
       have hsep2 : ∀ j,j < i + 1 -> ObjSep (V2 j) (rd (nmAt rd root j)).2 u7.ownBlock /\ ObjSep (V2 j) (rd (nmAt rd root j)).2 x'.ownBlock := fun j hj => ⟨ObjSep.next (hsu j hj).1 (hsu j hj).2 (Nat.le_refl _) hsn,hsx2 j hj⟩
       have hbW2 : Below w.heap.size w wr := hbW.grown hg hbW.size (fun j e => (hoW.lt j e).1)
       have hu2 : OwnTx wr w.heap.size u7 (namesAt rd root (i + 1)) := by rw [HSUC.out]; exact hou
       clear hou hsn hg hsu hsx2 hxW hoW hbW happ c0 hrN
       go_wp2
       go_roundw
       case rel => exact ⟨i + 1,u7,x',V2,hi7,by go_num,rfl,rfl,hu2,⟨hxW2,hA2⟩,hsep2,HR2,hbW2⟩
       case measure => simp [intOf]; omega
    ·have HEE : Hid (OfIs rd root (rd (nmAt rd root i)).1 i) := HE hf
     have H0 : Hid ((rd (nmAt rd root i)).1 ≠ 0) := hf
     have hpos : (0 : Int) < (((rd (nmAt rd root i)).1 : Nat) : Int) := by omega
     clear hf HE HRi hsep hltu hltx hx ho hh
     generalize (rd (nmAt rd root i)).1 = F at *
     go_wp2_with fail
     refine (show Calls _ _ _ _ _ from HOb).mono ?_
     rintro e w1 ⟨⟨v,rfl,hAt,hNw⟩,hb1'⟩
     obtain ⟨aN,cN,aW,cW,aS,cS,aT,cT⟩ := v
     have hb2 := hb1.trans (hb1'.mono hb1.size)
     clear HOb hAt hNw
     unfold ObjV.cells
     go_wp2
     go_ret3
     exact ⟨.bad _ i HEE.out H0.out,hb2.alloc hb2.size _⟩
  ·have hei : (namesAt rd root i).length = i := by
    have : i <= (namesAt rd root i).length := by
     cases i with
     | zero => omega
     | succ j =>
      have h1 := (HR.out j (by omega)).1
      have h2 : (namesAt rd root j).length <= (namesAt rd root (j + 1)).length := (names_pre rd root (Nat.le_succ j)).length_le
      omega
    omega
   have HE : Hid (OfIs rd root 0 i) := .ok i HR.out hei
   obtain ⟨au,cu,rfl,hcu,hru⟩ := ownTx_row ho
   clear hru hsep HR
   go_wp2
   go_ret3
   exact ⟨.ok i _ _ V HE.out ho hx,hb⟩
end Go.Proofs.YtagfngiaogckpaaGreatDoor
namespace Go.Proofs.YtagfngiaogckpaaGreatDoor
open Go.RowKit
def RngRow (w : World) (a : Option Addr) (n : Nat) (f m : Nat -> Int) : Prop :=
 n = 0 ∨ ∃ bk o,a = some ⟨bk,o,none⟩ /\ ∀ i,i < n -> w.cell? ⟨bk,o + i * 2,none⟩ = some (.int .i64 (f i)) /\ w.cell? ⟨bk,o + i * 2 + 1,none⟩ = some (.int .i64 (m i))
theorem RngRow.later {w w' : World} {a : Option Addr} {n : Nat} {f m : Nat -> Int} (h : RngRow w a n f m) (hb : Below w.heap.size w w') : RngRow w' a n f m := by
 rcases h with h | ⟨bk,o,ha,hc⟩
 ·exact .inl h
 ·exact .inr ⟨bk,o,ha,fun i hi => ⟨cell_later hb (hc i hi).1,cell_later hb (hc i hi).2⟩⟩
theorem round_any (n : Int) (w : World) (h0 : 0 <= n) (h1 : n <= 1000) : Calls Tryz.prog 107 #[.int .i64 n] w fun e w' => e = .returned (.int .i64 (roundF n)) /\ w = w' := by
 go_enter Tryz.func107,Tryz.ntmps107
 go_wp2
 go_ret
 exact ⟨ret_int (by unfold roundF; omega),rfl⟩
set_option maxHeartbeats 1000000 in
theorem apart_any (x m y k : Int) (w : World) (hx : -1000 <= x /\ x <= 1000) (hm : -1000 <= m /\ m <= 1000) (hy : -1000 <= y /\ y <= 1000) (hk : -1000 <= k /\ k <= 1000) :
 Calls Tryz.prog 145 #[.agg #[.int .i64 x,.int .i64 m],.agg #[.int .i64 y,.int .i64 k]] w fun e w' => e = .returned (.bool (apartB x m y k)) /\ Below w.heap.size w w' := by
 obtain ⟨x0,x1⟩ := hx
 obtain ⟨y0,y1⟩ := hy
 obtain ⟨m0,m1⟩ := hm
 obtain ⟨k0,k1⟩ := hk
 have hb : ∀ o1 o2 : Obj,Below w.heap.size w ((w.alloc o1).alloc o2) := fun o1 o2 => ((Below.refl _ _).alloc (Nat.le_refl _) o1).alloc (by simp) o2
 by_cases h1 : m <= 0
 ·have HE : Hid (true = apartB x m y k) := by unfold Hid apartB; rw [eq_comm,decide_eq_true_eq]; omega
  go_enter Tryz.func145,Tryz.ntmps145
  go_wp2
  go_ret
  exact ⟨ret_bool HE.out,hb _ _⟩
 ·by_cases h2 : k <= 0
  ·have HE : Hid (true = apartB x m y k) := by unfold Hid apartB; rw [eq_comm,decide_eq_true_eq]; omega
   go_enter Tryz.func145,Tryz.ntmps145
   go_wp2
   go_ret
   exact ⟨ret_bool HE.out,hb _ _⟩
  ·by_cases h3 : y < x
   ·have HE : Hid (decide (k <= x - y) = apartB x m y k) := by unfold Hid apartB; rw [Bool.eq_iff_iff]; simp only [decide_eq_true_eq]; omega
    go_enter Tryz.func145,Tryz.ntmps145
    go_wp2
    go_ret
    exact ⟨ret_bool HE.out,hb _ _⟩
   ·have HE : Hid (decide (m <= y - x) = apartB x m y k) := by unfold Hid apartB; rw [Bool.eq_iff_iff]; simp only [decide_eq_true_eq]; omega
    go_enter Tryz.func145,Tryz.ntmps145
    go_wp2
    go_ret
    exact ⟨ret_bool HE.out,hb _ _⟩
theorem inWindow_any (n : Int) (w : World) : Calls Tryz.prog 143 #[.int .i64 n] w fun e w' => e = .returned (.bool (decide (0 <= n) && decide (n <= 256))) /\ w = w' := by
 by_cases h1 : 0 <= n
 all_goals by_cases h2 : n <= 256
 all_goals
  go_enter Tryz.func143,Tryz.ntmps143
  go_wp2
  go_ret
  exact ⟨ret_bool (by simp <;> omega),rfl⟩
set_option maxHeartbeats 2000000 in
theorem placeCheck_any (sz tf tm : Nat -> Int) (a a' : Option Addr) (ns c nt c' : Nat) (w : World) (hn : ns <= maxLen) (hn' : nt <= maxLen) (hr : RowAt w a ns fun i => .int .i64 (sz i)) (ht : RngRow w a' nt tf tm) :
 Calls Tryz.prog 104 #[.slice a ns c,.slice a' nt c'] w fun e w' => e = .returned (errV (placeF ns sz nt tf tm)) /\ Below w.heap.size w w' := by
 unfold maxLen at hn hn'
 generalize hF : placeF ns sz nt tf tm = F
 unfold placeF at hF
 by_cases h1 : 6 < ns ∨ 20 < nt
 ·rw [if_pos h1] at hF
  subst hF
  by_cases g1 : (6 : Int) < (ns : Int)
  ·clear h1
   go_enter Tryz.func104,Tryz.ntmps104
   go_wp2
   go_ret
   exact ⟨rfl,Below.refl _ _⟩
  ·have g2 : (20 : Int) < (nt : Int) := by omega
   clear h1
   go_enter Tryz.func104,Tryz.ntmps104
   go_wp2
   go_ret
   exact ⟨rfl,Below.refl _ _⟩
 ·rw [if_neg h1] at hF
  have HF : Hid ((if anyTo (fun i => decide (sz i < 1 ∨ 40 < sz i)) ns = true then 1 else if anyTo (fun i => decide (tf i < 0 ∨ 256 < tf i ∨ tm i < 0 ∨ 256 < tm i)) nt = true then 1 else 0) = F) := hF
  have g1 : ¬ (6 : Int) < (ns : Int) := by omega
  have g2 : ¬ (20 : Int) < (nt : Int) := by omega
  clear hF h1
  go_enter Tryz.func104,Tryz.ntmps104
  go_wp2
  go_loopw [20] (fun x wr => ∃ k : Nat,k <= ns /\ x = .int .i64 k /\ wr = w /\ Hid (anyTo (fun i => decide (sz i < 1 ∨ 40 < sz i)) k = false)) (fun x _ => ns - (intOf x).toNat)
  case atStart => exact ⟨0,Nat.zero_le _,rfl,rfl,rfl⟩
  case round =>
   obtain ⟨k,hk,rfl,hw,HK⟩ := hrel
   replace hw := hw.symm
   subst hw
   by_cases hlt : k < ns
   ·rcases hr with h0 | ⟨b,o,rfl,hc⟩
    ·omega
    have hck := hc k hlt
    clear hc
    by_cases hz : sz k < 1 ∨ 40 < sz k
    ·have HE : Hid (F = 1) := by
      show F = 1
      rw [<- HF.out,if_pos (anyTo_yes hlt (decide_eq_true hz))]
     by_cases hz1 : sz k < 1
     ·clear hz
      go_wp2
      go_ret
      rw [HE.out]
      exact ⟨rfl,Below.refl _ _⟩
     ·have hz2 : 40 < sz k := by omega
      clear hz
      go_wp2
      go_ret
      rw [HE.out]
      exact ⟨rfl,Below.refl _ _⟩
    ·have HE : Hid (anyTo (fun i => decide (sz i < 1 ∨ 40 < sz i)) (k + 1) = false) := anyTo_no HK.out (decide_eq_false hz)
     have hz1 : ¬ sz k < 1 := by omega
     have hz2 : ¬ 40 < sz k := by omega
     clear hz
     go_wp2
     go_roundw
     case rel => exact ⟨k + 1,by omega,by go_num,trivial,HE⟩
     case measure => simp [intOf]; omega
   ·have e : k = ns := by omega
    have HG : Hid ((if anyTo (fun i => decide (tf i < 0 ∨ 256 < tf i ∨ tm i < 0 ∨ 256 < tm i)) nt = true then 1 else 0) = F) := by
     have hq : ¬ anyTo (fun i => decide (sz i < 1 ∨ 40 < sz i)) ns = true := by rw [<- e,HK.out]; decide
     have := HF.out
     rw [if_neg hq] at this
     exact this
    clear HF HK
    subst e
    go_wp2
    go_loopw [34] (fun x wr => ∃ k : Nat,k <= nt /\ x = .int .i64 k /\ Below w.heap.size w wr /\ Hid (anyTo (fun i => decide (tf i < 0 ∨ 256 < tf i ∨ tm i < 0 ∨ 256 < tm i)) k = false)) (fun x _ => nt - (intOf x).toNat)
    case atStart => exact ⟨0,Nat.zero_le _,rfl,Below.refl _ _,rfl⟩
    case round =>
     obtain ⟨j,hj,rfl,hb,HK⟩ := hrel
     by_cases hlt : j < nt
     ·rcases ht with h0 | ⟨b,o,rfl,hc⟩
      ·omega
      have hc0 := cell_later hb (hc j hlt).1
      have hc1 := cell_later hb (hc j hlt).2
      have hx : ∀ ob : Obj,Below w.heap.size w (wr.alloc ob) := fun ob => hb.alloc hb.size ob
      have HA := fun (w : World) => inWindow_any (tf j) w
      have HB := fun (w : World) => inWindow_any (tm j) w
      clear hc hr
      by_cases hz : tf j < 0 ∨ 256 < tf j ∨ tm j < 0 ∨ 256 < tm j
      ·have HE : Hid (F = 1) := by
        show F = 1
        rw [<- HG.out,if_pos (anyTo_yes hlt (decide_eq_true hz))]
       by_cases hz1 : tf j < 0 ∨ 256 < tf j
       ·have e1 : (decide (0 <= tf j) && decide (tf j <= 256)) = false := by rw [Bool.and_eq_false_iff]; simp; omega
        rw [e1] at HA
        clear hz hz1 e1
        go_wp2_with fail
        refine (HA _).mono ?_
        rintro e w' ⟨rfl,rfl⟩
        go_wp2
        go_ret
        rw [HE.out]
        exact ⟨rfl,hx _⟩
       ·have e1 : (decide (0 <= tf j) && decide (tf j <= 256)) = true := by simp; omega
        have e2 : (decide (0 <= tm j) && decide (tm j <= 256)) = false := by rw [Bool.and_eq_false_iff]; simp; omega
        rw [e1] at HA
        rw [e2] at HB
        clear hz hz1 e1 e2
        go_wp2_with fail
        refine (HA _).mono ?_
        rintro e w' ⟨rfl,rfl⟩
        go_wp2_with fail
        refine (HB _).mono ?_
        rintro e w' ⟨rfl,rfl⟩
        go_wp2
        go_ret
        rw [HE.out]
        exact ⟨rfl,hx _⟩
      ·have HE : Hid (anyTo (fun i => decide (tf i < 0 ∨ 256 < tf i ∨ tm i < 0 ∨ 256 < tm i)) (j + 1) = false) := anyTo_no HK.out (decide_eq_false hz)
       have e1 : (decide (0 <= tf j) && decide (tf j <= 256)) = true := by simp; omega
       have e2 : (decide (0 <= tm j) && decide (tm j <= 256)) = true := by simp; omega
       rw [e1] at HA
       rw [e2] at HB
       clear hz e1 e2
       go_wp2_with fail
       refine (HA _).mono ?_
       rintro e w' ⟨rfl,rfl⟩
       go_wp2_with fail
       refine (HB _).mono ?_
       rintro e w' ⟨rfl,rfl⟩
       go_wp2
       go_roundw
       case rel => exact ⟨j + 1,by omega,by go_num,hx _,HE⟩
       case measure => simp [intOf]; omega
     ·have e : j = nt := by omega
      have HE : Hid (F = 0) := by
       show F = 0
       rw [<- HG.out,if_neg]
       rw [<- e,HK.out]; decide
      go_wp2
      go_ret
      rw [HE.out]
      exact ⟨rfl,hb⟩
theorem pages_any (n : Int) (w : World) (h0 : 0 <= n) (h1 : n <= 1000) : Calls Tryz.prog 88 #[.int .i64 n] w fun e w' => e = .returned (.int .i64 (roundF n)) /\ w = w' := by
 by_cases h : 0 < n % 16
 ·go_enter Tryz.func88,Tryz.ntmps88
  go_wp2
  go_ret
  exact ⟨ret_int (by unfold roundF; omega),rfl⟩
 ·go_enter Tryz.func88,Tryz.ntmps88
  go_wp2
  go_ret
  exact ⟨ret_int (by unfold roundF; omega),rfl⟩
end Go.Proofs.YtagfngiaogckpaaGreatDoor
namespace Go.Proofs.YtagfngiaogckpaaGreatDoor
def usedB (hf hm : Nat -> Int) (n : Nat) (z : Nat) : Bool := anyTo (fun j => decide (hf j <= (z : Int) /\ (z : Int) < hf j + hm j)) n
def usedTo (hf hm : Nat -> Int) (n k : Nat) (z : Nat) : Bool := usedB hf hm n z || decide (hf n <= (z : Int) /\ (z : Int) < hf n + k)
theorem usedTo_zero (hf hm : Nat -> Int) (n z : Nat) : usedTo hf hm n 0 z = usedB hf hm n z := by
 unfold usedTo
 rw [decide_eq_false (by omega),Bool.or_false]
theorem usedTo_full {hf hm : Nat -> Int} {n k : Nat} (hk : hm n = k) (z : Nat) : usedTo hf hm n k z = usedB hf hm (n + 1) z := by
 unfold usedTo usedB
 simp only [anyTo,hk]
theorem usedTo_succ {hf hm : Nat -> Int} {n k x : Nat} (hx : hf n + k = x) (z : Nat) : usedTo hf hm n (k + 1) z = if z = x then true else usedTo hf hm n k z := by
 unfold usedTo
 by_cases e : z = x
 ·rw [if_pos e]
  rw [decide_eq_true (show hf n <= (z : Int) /\ (z : Int) < hf n + ((k + 1 : Nat) : Int) by omega),Bool.or_true]
 ·rw [if_neg e]
  congr 1
  rw [Bool.eq_iff_iff]
  simp only [decide_eq_true_eq]
  omega
theorem usedB_congr {hf hm hf' hm' : Nat -> Int} {n z : Nat} (h : ∀ j,j < n -> hf j = hf' j /\ hm j = hm' j) : usedB hf hm n z = usedB hf' hm' n z :=
 anyTo_congr fun i hi => by rw [(h i hi).1,(h i hi).2]
def clearB (hf hm : Nat -> Int) (n x : Nat) : Nat -> Bool
 | 0 => true
 | k + 1 => clearB hf hm n x k && !(usedB hf hm n (x + k))
theorem clearB_iff {hf hm : Nat -> Int} {n x k : Nat} : clearB hf hm n x k = true ↔ ∀ j,j < k -> usedB hf hm n (x + j) = false := by
 induction k with
 | zero => simp [clearB]
 | succ k ih =>
  simp only [clearB,Bool.and_eq_true,ih,Bool.not_eq_true']
  constructor
  ·rintro ⟨h,h'⟩ j hj
   by_cases e : j = k
   ·subst e; exact h'
   ·exact h j (by omega)
  ·intro h
   exact ⟨fun j hj => h j (by omega),h k (by omega)⟩
theorem clearB_meets {hf hm : Nat -> Int} {n x k : Nat} : clearB hf hm n x k = !(meetsB hf hm n (x : Int) (k : Int)) := by
 rw [Bool.eq_iff_iff,clearB_iff,Bool.not_eq_true',meetsB_false]
 constructor
 ·intro h j hj
  rw [apartB_iff]
  rintro z ⟨⟨a,b⟩,c,d⟩
  have := h (z - x).toNat (by omega)
  rw [<- Bool.not_eq_true] at this
  apply this
  unfold usedB
  rw [anyTo_iff]
  exact ⟨j,hj,decide_eq_true (by omega)⟩
 ·intro h j hj
  rw [<- Bool.not_eq_true]
  intro hu
  unfold usedB at hu
  rw [anyTo_iff] at hu
  obtain ⟨i,hi,e⟩ := hu
  rw [decide_eq_true_eq] at e
  exact apartB_iff.1 (h i hi) ((x + j : Nat) : Int) ⟨by omega,by omega⟩
theorem clearB_mono {hf hm : Nat -> Int} {n x k r : Nat} (hk : k <= r) (h : clearB hf hm n x k = false) : clearB hf hm n x r = false := by
 rw [<- Bool.not_eq_true,clearB_iff] at h ⊢
 exact fun h' => h fun j hj => h' j (by omega)
theorem usedB_far {hf hm : Nat -> Int} {n z : Nat} (h : ∀ j,j < n -> hf j + hm j <= 600) (hz : 600 <= z) : usedB hf hm n z = false := by
 rw [<- Bool.not_eq_true]
 intro hu
 unfold usedB at hu
 rw [anyTo_iff] at hu
 obtain ⟨i,hi,e⟩ := hu
 rw [decide_eq_true_eq] at e
 have := h i hi
 omega
theorem meets_far {hf hm : Nat -> Int} {n k : Nat} {many : Int} (h : ∀ j,j < n -> hf j + hm j <= 600) (hk : 600 <= 16 * k) : meetsB hf hm n (16 * (k : Int)) many = false := by
 rw [meetsB_false]
 intro j hj
 have := h j hj
 unfold apartB
 rw [decide_eq_true_eq]
 omega
end Go.Proofs.YtagfngiaogckpaaGreatDoor
