/- What Make of package entry returns, over any files and any root: an entry of what is reckoned, with the stamps of its files, or the number of the error; memory that was there stays as it was. A row of an entry's parts in memory; what is read of a row of the call's own. What Fresh of package entry returns, over any files; what Use returns of an entry that isn't fresh; memory that was there stays as it was. What Fresh and Entry of the document return, for all files, every entry and every root; memory that was there stays as it was. What Used of the document returns, for all files and every entry: the parts, bound; or the number of the error; memory that was there stays as it was. A row of the call's own stays where its block stays. What stays where only blocks of certain kinds have turned: files, the document's files, rows. What stands while Use of package entry takes an entry's parts, one after another: three rows that grow beside each other, and the objects that were read. What Use of package entry returns, for every entry and all files: the parts as they are laid; the number of the error; memory that was there stays as it was. What LightEntry returns: true, then there are few; memory that was there stays as it was. Plain words: where all lie farther by as much, what is near stays as it is, and all else is farther by as much, but what is tied to nobody. Plain words: parts that are laid lie apart, inside; so a place is had of one part at most. Parts of a call's own, read. Plain words on an image that is bound: what stands at a word that is tied, and at one that isn't. Plain words: what is reckoned for a root hangs only on the files of those who belong to it. Plain words on files that read as they did but for one name. Plain words on the stamps of files that are as they were but for one name; what Make returns over them. Plain words on entries that are fresh, and on such that aren't: files whose names may be names, stamps that tell that a file was written. Plain words: what was made of a root passes for an entry. What Filed returns, for every row of acts that are few and not too long: both files, alike; memory that was there stays as it was. What SameNumbers returns, for every two lists of numbers: whether they are alike; memory stays as it was. What SameParts returns, of two lists of parts that are alike: true; memory stays as it was. -/
import Derived.Test.YthdccmjdbcllkaaGreatDoorRefLoaded
import Derived.OneCell
import Derived.Test.YthdccmjdbcllkaaGreatDoorEntCheck
namespace Go.Proofs.YthdccmjdbcllkaaGreatDoor
open Go.RowKit Go.Maps
structure Stamps (D : DataW Unit) (S : ByteArray -> Int) : Prop where
 is : ∀ s t n,Maps.has D (keyB s) = true -> D.atKey (keyB s) (fileD [] 0) = fileD t n -> n = S s
theorem fileD_stamp {t t' : List UInt8} {n n' : Int} (h : fileD t n = fileD t' n') : n = n' := by
 simp [fileD] at h
 exact h.2
theorem stamps_some (D : DataW Unit) : ∃ S,Stamps D S := by
 have h : ∀ s : ByteArray,∃ S : Int,∀ t n,D.atKey (keyB s) (fileD [] 0) = fileD t n -> n = S := fun s => by
  by_cases e : ∃ t n,D.atKey (keyB s) (fileD [] 0) = fileD t n
  ·obtain ⟨t,n,e⟩ := e
   exact ⟨n,fun t' n' e' => fileD_stamp (e'.symm.trans e)⟩
  ·exact ⟨0,fun t n e' => absurd ⟨t,n,e'⟩ e⟩
 obtain ⟨f,hf⟩ := Classical.axiomOfChoice h
 exact ⟨f,⟨fun s t n _ he => hf s t n he⟩⟩
theorem rd_has {D : DataW Unit} {T : ByteArray -> ByteArray} {x : ByteArray} (h : (rdD D T x).1 = 0) : Maps.has D (keyB x) = true := by
 cases e : Maps.has D (keyB x) with
 | true => rfl
 | false => unfold rdD at h; rw [if_neg (by simp [e])] at h; cases h
def stmC (nm : Nat -> ByteArray) (S : ByteArray -> Int) (B : Nat -> Int) (i : Nat) : List Value := [.string (nm i),.int .i64 (S (nm i)),.int .i64 (B i)]
theorem growStm {B0 : Nat} {w : World} {v : Value} {n : Nat} {xs : List Value} (s : ByteArray) (x y : Int) (hB : B0 <= w.heap.size) (h : w.ownsRow B0 69 3 v n xs) (hn : n < 1000) :
 ∃ v' W,(Builtin.append_ #[23,23] 23 #[v,.slice (some ⟨w.heap.size,0,none⟩) 1 1]).run Tryz.prog (w.alloc (.cells #[.string s,.int .i64 x,.int .i64 y] 69)) = .ok v' W /\ Grown B0 69 3 (w.alloc (.cells #[.string s,.int .i64 x,.int .i64 y] 69)) v (n + 1) (xs ++ [.string s,.int .i64 x,.int .i64 y]) v' W :=
 append_from 23 69 3 32 (.agg #[.string ⟨#[]⟩,.int .i64 0,.int .i64 0]) (by kernel_rfl) (by kernel_rfl) (by rfl) (by decide) B0 _ v n _ (h.alloc _) (some ⟨w.heap.size,0,none⟩) 1 1 [.string s,.int .i64 x,.int .i64 y] rfl
  (.inr ⟨_,_,rfl,fun j u hj => by
    match j,hj with
    | 0,hj => simp at hj; subst hj; simp [go_sem]
    | 1,hj => simp at hj; subst hj; simp [go_sem]
    | 2,hj => simp at hj; subst hj; simp [go_sem]
    | j + 3,hj => simp at hj⟩) (fun u hu => by simp at hu; rcases hu with rfl | rfl | rfl <;> rfl) (by simp; omega) (by omega) (by decide)
structure MakeSt (w4 wr : World) (be : Nat) (root : ByteArray) (q : Value) (nm : Nat -> ByteArray) (S : ByteArray -> Int) (B : Nat -> Int) (i : Nat) (v : Value) : Prop where
 blk : wr.heap[be]? = some (.cells #[.string root,v,q] 26 (0,0))
 own : wr.ownsRow (be + 1) 69 3 v i (joinC (stmC nm S B) i)
 below : Below be w4 wr
theorem MakeSt.later {w4 wr w' : World} {be : Nat} {root : ByteArray} {q : Value} {nm : Nat -> ByteArray} {S : ByteArray -> Int} {B : Nat -> Int} {i : Nat} {v : Value} (h : MakeSt w4 wr be root q nm S B i v) (hb : Below wr.heap.size wr w') : MakeSt w4 w' be root q nm S B i v :=
 ⟨(hb.block be (Array.getElem?_eq_some_iff.1 h.blk).1).trans h.blk,owns_below h.own hb,h.below.trans (hb.mono (Nat.le_of_lt (Array.getElem?_eq_some_iff.1 h.blk).1))⟩
theorem MakeSt.grow {w4 wr : World} {be : Nat} {root : ByteArray} {q : Value} {nm : Nat -> ByteArray} {S : ByteArray -> Int} {B : Nat -> Int} {i : Nat} {v : Value} (h : MakeSt w4 wr be root q nm S B i v) (hi : i < 1000) :
 ∃ v' W,(Builtin.append_ #[23,23] 23 #[v,.slice (some ⟨wr.heap.size,0,none⟩) 1 1]).run Tryz.prog (wr.alloc (.cells #[.string (nm i),.int .i64 (S (nm i)),.int .i64 (B i)] 69)) = .ok v' W /\ W.cell? ⟨be,1,none⟩ = some v /\ W.frozen? ⟨be,1,none⟩ = false /\ MakeSt w4 (W.setCell ⟨be,1,none⟩ v') be root q nm S B (i + 1) v' := by
 have hlt := (Array.getElem?_eq_some_iff.1 h.blk).1
 obtain ⟨v',W,happ,hG⟩ := growStm (nm i) (S (nm i)) (B i) (by omega) h.own hi
 have hb2 : Below (be + 1) wr W := ((Below.refl (be + 1) wr).alloc (by omega) _).trans hG.below
 have hW : W.heap[be]? = some (.cells #[.string root,v,q] 26 (0,0)) := (hb2.block be (by omega)).trans h.blk
 refine ⟨v',W,happ,by simp [World.cell?,hW],by simp [World.frozen?,hW],heap_setCell W be 1 _ _ v' hW,kept_set hG.own hW (by decide),?_⟩
 exact (h.below.trans (hb2.mono (by omega))).trans ⟨rfl,rfl,rfl,by simp [World.setCell],fun k hk => Below.heap_setCell _ _ _ _ (Nat.ne_of_lt hk)⟩
inductive MadeEnd (w : World) (B0 : Nat) (rd : ByteArray -> Nat × ObjF) (S : ByteArray -> Int) (root : ByteArray) : Ending -> Prop
 | bad (F : Nat) (h : ReckIs rd root F) (hf : F ≠ 0) : MadeEnd w B0 rd S root (.returned (.tuple #[.agg #[.string ⟨#[]⟩,.slice none 0 0,.slice none 0 0],errV F]))
 | ok (m : Nat) (B : Nat -> Int) (P Q : ByteArray -> Int) (aP aQ : Option Addr) (cP cQ : Nat) (h : Reckoned rd root m B P Q) (hp : w.ownsRow B0 69 3 (.slice aP m cP) m (joinC (stmC (nmAt rd root) S B) m))
  (hq : w.ownsRow B0 67 3 (.slice aQ (patsAt rd root m B P Q).length cQ) (patsAt rd root m B P Q).length (patsC (patsAt rd root m B P Q))) : MadeEnd w B0 rd S root (.returned (.tuple #[.agg #[.string root,.slice aP m cP,.slice aQ (patsAt rd root m B P Q).length cQ],.nilIface]))
theorem below_store3 {B g : Nat} {w w' : World} (h : Below B w w') (hg : B <= g) (a0 a1 a2 : Value) : Below B w (((w'.setCell ⟨g,0,none⟩ a0).setCell ⟨g,1,none⟩ a1).setCell ⟨g,2,none⟩ a2) :=
 h.trans ⟨rfl,rfl,rfl,by simp [World.setCell],fun k hk => ((Below.heap_setCell _ _ _ _ (Nat.ne_of_lt (Nat.lt_of_lt_of_le hk hg))).trans (Below.heap_setCell _ _ _ _ (Nat.ne_of_lt (Nat.lt_of_lt_of_le hk hg)))).trans (Below.heap_setCell _ _ _ _ (Nat.ne_of_lt (Nat.lt_of_lt_of_le hk hg)))⟩
theorem owns_store3 {w : World} {B s n g : Nat} {e t : TypeId} {v : Value} {xs : List Value} {c : Array Value} (h : w.ownsRow B e s v n xs) (hb : w.heap[g]? = some (.cells c t (0,0))) (hne : e ≠ t) (a0 a1 a2 : Value) : (((w.setCell ⟨g,0,none⟩ a0).setCell ⟨g,1,none⟩ a1).setCell ⟨g,2,none⟩ a2).ownsRow B e s v n xs :=
 have h0 := heap_setCell w g 0 c t a0 hb
 have h1 := heap_setCell _ g 1 _ t a1 h0
 kept_set (kept_set (kept_set h hb hne) h0 hne) h1 hne
set_option maxRecDepth 100000 in
set_option maxHeartbeats 4000000 in
theorem make_any (w : World) (p bm : Nat) (D : DataW Unit) (k : Nat) (T : ByteArray -> ByteArray) (S : ByteArray -> Int) (root : ByteArray) (h : FilesAt w p bm D k) (hI : Inv D k) (hT : Texts D T) (hSt : Stamps D S) (hE : Env w) (hroot : root.size <= maxLen) :
 Calls Tryz.prog 16 #[.pointer (some ⟨p,0,none⟩),.string root] w fun e w' => MadeEnd w' w.heap.size (rdD D T) S root e /\ Below w.heap.size w w' := by
 have hb0 : Below w.heap.size w (w.alloc (.cells #[.string ⟨#[]⟩,.slice none 0 0,.slice none 0 0] 26)) := (Below.refl _ _).alloc (Nat.le_refl _) _
 have HR := reckon_any (w.alloc (.cells #[.string ⟨#[]⟩,.slice none 0 0,.slice none 0 0] 26)) p bm D k T root (h.later hb0) hI hT (hE.later hb0) hroot
 have hfew := rd_few (T := T) hI
 have hres0 : (w.alloc (.cells #[.string ⟨#[]⟩,.slice none 0 0,.slice none 0 0] 26)).heap[w.heap.size]? = some (.cells #[.string ⟨#[]⟩,.slice none 0 0,.slice none 0 0] 26 (0,0)) := by
  show (w.heap.push _)[w.heap.size]? = _
  rw [Array.getElem?_push_size]
 have hsz0 : (w.alloc (.cells #[.string ⟨#[]⟩,.slice none 0 0,.slice none 0 0] 26)).heap.size = w.heap.size + 1 := by simp
 go_enter Tryz.func16,Tryz.ntmps16
 go_wp2_with fail
 refine HR.mono ?_
 rintro e w1 ⟨he,hb1⟩
 rw [hsz0] at he hb1
 have hbw := hb0.trans (hb1.mono (by omega))
 have hres1 : w1.heap[w.heap.size]? = some (.cells #[.string ⟨#[]⟩,.slice none 0 0,.slice none 0 0] 26 (0,0)) := (hb1.block _ (by omega)).trans hres0
 clear HR hE hb0 hres0 hsz0
 cases he with
 | bad F hR hf =>
  obtain ⟨z,hz⟩ := errV_pos hf
  rw [hz]
  have q0 : w1.cell? ⟨w.heap.size,0,none⟩ = some (.string ⟨#[]⟩) := by simp [World.cell?,hres1]
  have q1 : w1.cell? ⟨w.heap.size,1,none⟩ = some (.slice none 0 0) := by simp [World.cell?,hres1]
  have q2 : w1.cell? ⟨w.heap.size,2,none⟩ = some (.slice none 0 0) := by simp [World.cell?,hres1]
  have f0 : w1.frozen? ⟨w.heap.size,0,none⟩ = false := by simp [World.frozen?,hres1]
  have f1 : w1.frozen? ⟨w.heap.size,1,none⟩ = false := by simp [World.frozen?,hres1]
  have f2 : w1.frozen? ⟨w.heap.size,2,none⟩ = false := by simp [World.frozen?,hres1]
  have hNB := below_store3 hbw (Nat.le_refl w.heap.size) (.string ⟨#[]⟩) (.slice none 0 0) (.slice none 0 0)
  go_wp2
  refine bodyPost_ret (v := .tuple #[.agg #[.string ⟨#[]⟩,.slice none 0 0,.slice none 0 0],.iface 74 (.int .i64 z)]) (by simp [results,Tryz.results16,go_sem,q0,q1,q2]) rfl ?_
  rw [<- hz]
  exact ⟨.bad F hR hf,hNB⟩
 | ok m B P Q u x b pv V hR hu hx hb hp =>
  obtain ⟨hS,hlen,hnm⟩ := scope_of hR.of hfew
  have hm6 := hS.few
  have hok : ∀ j,j < m -> ObjOk (obAt (rdD D T) root j) := fun j hj => rd_ok (by rw [hS.read j hj])
  have hnz : ∀ j,j < m -> (nmAt (rdD D T) root j).size <= maxLen := fun j hj => by
   by_cases h0 : j = 0
   ·subst h0; rw [hS.root]; exact hroot
   ·obtain ⟨q,z,hq,hz,e⟩ := hS.want j (by omega) hj
    have h1 := nameF_len ((hok q (by omega)).needs z hz)
    rw [e] at h1
    have : (nmAt (rdD D T) root j).data.toList.length = (nmAt (rdD D T) root j).size := by simp
    simp only [maxLen]
    omega
  have hhas : ∀ j,j < m -> Maps.has D (keyB (nmAt (rdD D T) root j)) = true := fun j hj => rd_has (by rw [hS.read j hj])
  obtain ⟨ua,uc,rfl,_,hur⟩ := ownTx_row hu
  obtain ⟨ba,bc,rfl,_,hbr⟩ := rows_int hb
  obtain ⟨pa,pc,rfl,_⟩ := owns_shape hp
  rw [hlen] at hur ⊢
  have hur2 : RowAt w1 ua m fun i => .string (nmAt (rdD D T) root i) := by
   rcases hur with h0 | ⟨bk,o,ha,hc⟩
   ·exact .inl h0
   ·exact .inr ⟨bk,o,ha,fun i hi => by rw [hc i hi]; show some (Value.string _) = _; rw [hnm i hi]⟩
  have hF1 := h.later hbw
  have hsz1 : w.heap.size < w1.heap.size := (Array.getElem?_eq_some_iff.1 hres1).1
  have hb4 : Below w1.heap.size w1 (w1.alloc (.cells #[.string root,.slice none 0 0,.slice pa (patsAt (rdD D T) root m B P Q).length pc] 26)) := (Below.refl _ _).alloc (Nat.le_refl _) _
  have hM0 : MakeSt (w1.alloc (.cells #[.string root,.slice none 0 0,.slice pa (patsAt (rdD D T) root m B P Q).length pc] 26)) (w1.alloc (.cells #[.string root,.slice none 0 0,.slice pa (patsAt (rdD D T) root m B P Q).length pc] 26)) w1.heap.size root (.slice pa (patsAt (rdD D T) root m B P Q).length pc) (nmAt (rdD D T) root) S B 0 (.slice none 0 0) := ⟨by
   show (w1.heap.push _)[w1.heap.size]? = _
   rw [Array.getElem?_push_size],World.ownsRow_nil _ _ _ _,Below.refl _ _⟩
  generalize hlE : patsAt (rdD D T) root m B P Q = l at *
  generalize hnE : nmAt (rdD D T) root = nm at *
  have HLE : Hid (patsAt (rdD D T) root m B P Q = l) := hlE
  have HNE : Hid (nmAt (rdD D T) root = nm) := hnE
  clear hlE hnE
  clear hS hlen hnm hur hu hb hx h hfew hok
  go_wp2
  generalize w1.alloc (.cells #[.string root,.slice none 0 0,.slice pa l.length pc] 26) = w4 at *
  go_loopw [34] (fun y wr => ∃ (i : Nat) (v : Value),i <= m /\ y = .int .i64 i /\ MakeSt w4 wr w1.heap.size root (.slice pa l.length pc) nm S B i v) (fun y _ => m - (intOf y).toNat)
  case atStart => exact ⟨0,_,Nat.zero_le _,rfl,hM0⟩
  case round =>
   obtain ⟨i,v,hi,rfl,hM⟩ := hrel
   obtain ⟨av,cv,rfl,_⟩ := owns_shape hM.own
   have hbr4 : Below w1.heap.size w1 wr := hb4.trans (hM.below)
   by_cases hlt : i < m
   ·have hni : ∃ bu ou,ua = some ⟨bu,ou,none⟩ /\ w1.cell? ⟨bu,ou + i,none⟩ = some (.string (nm i)) := by
     rcases hur2 with h0 | ⟨bu,ou,ha,hc⟩
     ·omega
     ·exact ⟨bu,ou,ha,hc i hlt⟩
    have hbi : ∃ bv ov,ba = some ⟨bv,ov,none⟩ /\ w1.cell? ⟨bv,ov + i,none⟩ = some (.int .i64 (B i)) := by
     rcases hbr with h0 | ⟨bu,ou,ha,hc⟩
     ·omega
     ·exact ⟨bu,ou,ha,hc i hlt⟩
    obtain ⟨bu,ou,rfl,hn1⟩ := hni
    obtain ⟨bv,ov,rfl,hv1⟩ := hbi
    have hn2 := cell_later hbr4 hn1
    have HRd := fileRead_any wr p bm D k (nm i) (hF1.later hbr4) (hnz i hlt)
    clear hur2 hbr
    go_wp2_with fail
    refine HRd.mono ?_
    rintro e w9 ⟨⟨t,nst,f,rfl,hRI⟩,hb9⟩
    obtain ⟨rfl,ht⟩ := hRI.yes (hhas i hlt)
    obtain rfl := hSt.is (nm i) _ nst (hhas i hlt) ht
    have hM9 := hM.later hb9
    have hn9 := cell_later hb9 hn2
    have hv9 := cell_later hb9 (cell_later hbr4 hv1)
    have hMd : MakeSt w4 w9.drew w1.heap.size root (.slice pa l.length pc) nm S B i (.slice av i cv) := hM9.later (Below.refl _ _).drew
    obtain ⟨v',W,happ,g0,gz,hMn⟩ := hMd.grow (by omega)
    obtain ⟨av2,cv2,rfl,_⟩ := owns_shape hMn.own
    have hC : w9.cell? ⟨w1.heap.size,1,none⟩ = some (.slice av i cv) := by simp [World.cell?,hM9.blk]
    have hlt9 : w1.heap.size < w9.heap.size := (Array.getElem?_eq_some_iff.1 hM9.blk).1
    have q0 : errV 0 = .nilIface := rfl
    rw [q0]
    clear HRd hRI ht hM hMd hM9 hn1 hv1 hn2 q0 hhas hnz
    go_wp2
    go_region_law (refine step_run rfl (.tmp 52) (.tmp 63) 23 rfl (.slice av i cv) (.slice (some ⟨w9.heap.size,0,none⟩) 1 1) _ rfl rfl happ ?_)
    all_goals
     go_wp2
     go_roundw
     case rel => exact ⟨i + 1,_,by omega,by go_num,hMn⟩
     case measure => simp [intOf]; omega
   ·have e : i = m := by omega
    subst e
    have hres : wr.heap[w.heap.size]? = some (.cells #[.string ⟨#[]⟩,.slice none 0 0,.slice none 0 0] 26 (0,0)) := (hbr4.block _ hsz1).trans hres1
    have q0 : wr.cell? ⟨w.heap.size,0,none⟩ = some (.string ⟨#[]⟩) := by simp [World.cell?,hres]
    have q1 : wr.cell? ⟨w.heap.size,1,none⟩ = some (.slice none 0 0) := by simp [World.cell?,hres]
    have q2 : wr.cell? ⟨w.heap.size,2,none⟩ = some (.slice none 0 0) := by simp [World.cell?,hres]
    have f0 : wr.frozen? ⟨w.heap.size,0,none⟩ = false := by simp [World.frozen?,hres]
    have f1 : wr.frozen? ⟨w.heap.size,1,none⟩ = false := by simp [World.frozen?,hres]
    have f2 : wr.frozen? ⟨w.heap.size,2,none⟩ = false := by simp [World.frozen?,hres]
    have e0 : wr.cell? ⟨w1.heap.size,0,none⟩ = some (.string root) := by simp [World.cell?,hM.blk]
    have e1 : wr.cell? ⟨w1.heap.size,1,none⟩ = some (.slice av i cv) := by simp [World.cell?,hM.blk]
    have e2 : wr.cell? ⟨w1.heap.size,2,none⟩ = some (.slice pa l.length pc) := by simp [World.cell?,hM.blk]
    have hNB := below_store3 (hbw.trans (hbr4.mono hbw.size)) (Nat.le_refl w.heap.size) (.string root) (.slice av i cv) (.slice pa l.length pc)
    have hO1 := owns_store3 (World.ownsRow.mono hM.own (show w.heap.size <= w1.heap.size + 1 by omega)) hres (by decide) (.string root) (.slice av i cv) (.slice pa l.length pc)
    have hO2 := owns_store3 (World.ownsRow.mono (owns_below hp hbr4) (Nat.le_succ w.heap.size)) hres (by decide) (.string root) (.slice av i cv) (.slice pa l.length pc)
    clear hM hres hur2 hbr hp
    go_wp2
    refine bodyPost_ret (v := .tuple #[.agg #[.string root,.slice av i cv,.slice pa l.length pc],.nilIface]) (by simp [results,Tryz.results16,go_sem,q0,q1,q2]) rfl ?_
    have hl1 := HLE.out
    have hn1 := HNE.out
    subst hl1
    subst hn1
    exact ⟨.ok i B P Q av pa cv pc hR hO1 hO2,hNB⟩
end Go.Proofs.YthdccmjdbcllkaaGreatDoor
namespace Go.Proofs.YthdccmjdbcllkaaGreatDoor
open Go.RowKit Go.Maps
def StmRow (w : World) (a : Option Addr) (n : Nat) (s : Nat -> ByteArray) (k b : Nat -> Int) : Prop :=
 n = 0 ∨ ∃ bk o,a = some ⟨bk,o,none⟩ /\ ∀ i,i < n -> w.cell? ⟨bk,o + i * 3,none⟩ = some (.string (s i)) /\ w.cell? ⟨bk,o + i * 3 + 1,none⟩ = some (.int .i64 (k i)) /\ w.cell? ⟨bk,o + i * 3 + 2,none⟩ = some (.int .i64 (b i))
theorem StmRow.later {w w' : World} {a : Option Addr} {n : Nat} {s : Nat -> ByteArray} {k b : Nat -> Int} (h : StmRow w a n s k b) (hb : Below w.heap.size w w') : StmRow w' a n s k b := by
 rcases h with h | ⟨bk,o,ha,hc⟩
 ·exact .inl h
 ·exact .inr ⟨bk,o,ha,fun i hi => ⟨cell_later hb (hc i hi).1,cell_later hb (hc i hi).2.1,cell_later hb (hc i hi).2.2⟩⟩
theorem rows_stm {w : World} {B0 : Nat} {e : TypeId} {a : Option Addr} {n c : Nat} {nm : Nat -> ByteArray} {S : ByteArray -> Int} {B : Nat -> Int} (h : w.ownsRow B0 e 3 (.slice a n c) n (joinC (stmC nm S B) n)) : StmRow w a n nm (fun i => S (nm i)) B := by
 by_cases h0 : n = 0
 ·exact .inl h0
 ·have key : ∀ i,i < n -> ∀ j u,(stmC nm S B i)[j]? = some u -> j < 3 -> ∃ g,a = some ⟨g,0,none⟩ /\ B0 <= g /\ w.cell? ⟨g,i * 3 + j,none⟩ = some u := fun i hi j u hu hj =>
   owns_cell h (by rw [joinC_at (s := 3) (fun i _ => rfl) hi hj]; exact hu)
  obtain ⟨g0,ha,_,_⟩ := key 0 (by omega) 0 _ rfl (by omega)
  refine .inr ⟨g0,0,ha,fun i hi => ?_⟩
  have get : ∀ j u,(stmC nm S B i)[j]? = some u -> j < 3 -> w.cell? ⟨g0,i * 3 + j,none⟩ = some u := fun j u hu hj => by
   obtain ⟨g',ha',_,hc'⟩ := key i hi j u hu hj
   rw [ha] at ha'
   injection ha' with ha'
   injection ha' with ha'
   subst ha'
   exact hc'
  exact ⟨by rw [Nat.zero_add]; exact get 0 _ rfl (by omega),by rw [Nat.zero_add]; exact get 1 _ rfl (by omega),by rw [Nat.zero_add]; exact get 2 _ rfl (by omega)⟩
end Go.Proofs.YthdccmjdbcllkaaGreatDoor
namespace Go.Proofs.YthdccmjdbcllkaaGreatDoor
open Go.RowKit Go.Maps
def staleTo (D : DataW Unit) (S : ByteArray -> Int) (s : Nat -> ByteArray) (st : Nat -> Int) : Nat -> Bool := anyTo fun i => !(Maps.has D (keyB (s i)) && decide (S (s i) = st i))
set_option maxRecDepth 100000 in
set_option maxHeartbeats 2000000 in
theorem fresh_any (w : World) (p bm : Nat) (D : DataW Unit) (k : Nat) (S : ByteArray -> Int) (root : ByteArray) (n nq : Nat) (s : Nat -> ByteArray) (st b : Nat -> Int) (aP aQ : Option Addr) (cP cQ : Nat) (h : FilesAt w p bm D k) (hS : Stamps D S) (hn : n <= 1000) (hs : ∀ i,i < n -> (s i).size <= maxLen) (hr : StmRow w aP n s st b) :
 Calls Tryz.prog 24 #[.agg #[.string root,.slice aP n cP,.slice aQ nq cQ],.pointer (some ⟨p,0,none⟩)] w fun e w' => e = .returned (.bool (!staleTo D S s st n && decide (0 < n))) /\ Below w.heap.size w w' := by
 generalize hF : staleTo D S s st n = F
 have HF : Hid (staleTo D S s st n = F) := hF
 clear hF
 have hb0 : Below w.heap.size w (w.alloc (.cells #[.string root,.slice aP n cP,.slice aQ nq cQ] 26)) := (Below.refl _ _).alloc (Nat.le_refl _) _
 have e1 : (w.alloc (.cells #[.string root,.slice aP n cP,.slice aQ nq cQ] 26)).cell? ⟨w.heap.size,1,none⟩ = some (.slice aP n cP) := by simp [go_sem]
 have h1 := h.later hb0
 have hr1 := hr.later hb0
 clear h hr
 go_enter Tryz.func24,Tryz.ntmps24
 go_wp2
 generalize w.alloc (.cells #[.string root,.slice aP n cP,.slice aQ nq cQ] 26) = W at *
 go_loopw [12] (fun y wr => ∃ i : Nat,i <= n /\ y = .int .i64 i /\ Hid (staleTo D S s st i = false) /\ Below W.heap.size W wr) (fun y _ => n - (intOf y).toNat)
 case atStart => exact ⟨0,Nat.zero_le _,rfl,rfl,Below.refl _ _⟩
 case round =>
  obtain ⟨i,hi,rfl,HK,hb⟩ := hrel
  have hb2 : Below w.heap.size w wr := hb0.trans (hb.mono hb0.size)
  have e1r := cell_later hb e1
  by_cases hlt : i < n
  ·have hr2 := hr1.later hb
   rcases hr2 with h0 | ⟨bk,o,rfl,hc⟩
   ·omega
   obtain ⟨x0,x1,x2⟩ := hc i hlt
   have HR := fileRead_any wr p bm D k (s i) (h1.later hb) (hs i hlt)
   clear hc hr1
   go_wp2_with fail
   refine HR.mono ?_
   rintro e w2 ⟨⟨t,nst,f,rfl,hRI⟩,hb3⟩
   replace e1r := cell_later hb3 e1r
   replace x1 := cell_later hb3 x1
   have hb4 := hb2.trans (hb3.mono hb2.size)
   have hb5 := hb.trans (hb3.mono hb.size)
   clear HR x0 x2
   cases hh : Maps.has D (keyB (s i)) with
   | false =>
    obtain ⟨rfl,rfl,rfl⟩ := hRI.no hh
    have HE : Hid (F = true) := HF.out.symm.trans (anyTo_yes hlt (by rw [hh]; rfl))
    have q5 : errV 5 = .iface 74 (.int .i64 5) := rfl
    rw [q5]
    clear hRI hh
    go_wp2
    go_ret
    exact ⟨ret_bool (by rw [HE.out]; rfl),hb4⟩
   | true =>
    obtain ⟨rfl,hat⟩ := hRI.yes hh
    obtain rfl := hS.is (s i) _ nst hh hat
    have q0 : errV 0 = .nilIface := rfl
    rw [q0]
    by_cases he : S (s i) = st i
    ·have hne : (S (s i) != st i) = false := by rw [bne_eq_false_iff_eq]; exact he
     have HE : Hid (staleTo D S s st (i + 1) = false) := anyTo_no HK.out (by rw [hh,decide_eq_true he]; rfl)
     clear hRI hh hat he HK
     go_wp2
     go_roundw
     case rel => exact ⟨i + 1,by omega,by go_num,HE,hb5⟩
     case measure => simp [intOf]; omega
    ·have hne : (S (s i) != st i) = true := by rw [bne_iff_ne]; exact he
     have HE : Hid (F = true) := HF.out.symm.trans (anyTo_yes hlt (by rw [hh,decide_eq_false he]; rfl))
     clear hRI hh hat he HK
     go_wp2
     go_ret
     exact ⟨ret_bool (by rw [HE.out]; rfl),hb4⟩
  ·have HE : Hid (F = false) := by
    have e : i = n := by omega
    subst e
    exact HF.out.symm.trans HK.out
   clear hr1 HK
   go_wp2
   go_ret
   exact ⟨ret_bool (by rw [HE.out]; simp),hb2⟩
set_option maxRecDepth 100000 in
set_option maxHeartbeats 2000000 in
theorem refFresh_any (B0 : Nat) (w : World) (q : Nat) (L : List FileR) (k : Nat) (D : DataW Unit) (S : ByteArray -> Int) (root : ByteArray) (n nq : Nat) (s : Nat -> ByteArray) (st b : Nat -> Int) (aP aQ : Option Addr) (cP cQ : Nat) (h : RAt B0 w q L k) (hL : L.length <= 1000) (hA : Agree D L) (hI : Inv D k) (hS : Stamps D S) (hn : n <= 1000) (hr : StmRow w aP n s st b) :
 Calls Tryz.prog 25 #[.agg #[.string root,.slice aP n cP,.slice aQ nq cQ],.pointer (some ⟨q,0,none⟩)] w fun e w' => e = .returned (.bool (!staleTo D S s st n && decide (0 < n))) /\ Below w.heap.size w w' := by
 generalize hF : staleTo D S s st n = F
 have HF : Hid (staleTo D S s st n = F) := hF
 clear hF
 have hb0 : Below w.heap.size w (w.alloc (.cells #[.string root,.slice aP n cP,.slice aQ nq cQ] 26)) := (Below.refl _ _).alloc (Nat.le_refl _) _
 have e1 : (w.alloc (.cells #[.string root,.slice aP n cP,.slice aQ nq cQ] 26)).cell? ⟨w.heap.size,1,none⟩ = some (.slice aP n cP) := by simp [go_sem]
 have h1 := h.later hb0
 have hr1 := hr.later hb0
 clear h hr
 go_enter Tryz.func25,Tryz.ntmps25
 go_wp2
 generalize w.alloc (.cells #[.string root,.slice aP n cP,.slice aQ nq cQ] 26) = W at *
 go_loopw [5,6,7,8] (fun y _ _ _ wr => ∃ i : Nat,i <= n /\ y = .int .i64 i /\ Hid (staleTo D S s st i = false) /\ Below W.heap.size W wr) (fun y _ _ _ _ => n - (intOf y).toNat)
 case atStart => exact ⟨0,Nat.zero_le _,rfl,rfl,Below.refl _ _⟩
 case round =>
  obtain ⟨i,hi,rfl,HK,hb⟩ := hrel
  have hb2 : Below w.heap.size w wr := hb0.trans (hb.mono hb0.size)
  have e1r := cell_later hb e1
  by_cases hlt : i < n
  ·have hr2 := hr1.later hb
   rcases hr2 with h0 | ⟨bk,o,rfl,hc⟩
   ·omega
   obtain ⟨x0,x1,x2⟩ := hc i hlt
   have hi0 : (0 : Int) <= (i : Int) := by omega
   have hi1 : (i : Int) < (n : Int) := by omega
   have HR := readR_is B0 wr q L k D (s i) (h1.later hb) hL hA hI
   clear hc hr1
   go_wp2_with fail
   refine (show Calls _ _ _ _ _ from HR).mono ?_
   rintro e w2 ⟨⟨t,nst,f,rfl,hRI⟩,hb3⟩
   replace e1r := cell_later hb3 e1r
   replace x1 := cell_later hb3 x1
   have hb4 := hb2.trans (hb3.mono hb2.size)
   have hb5 := hb.trans (hb3.mono hb.size)
   clear HR x0 x2
   cases hh : Maps.has D (keyB (s i)) with
   | false =>
    obtain ⟨rfl,rfl,rfl⟩ := hRI.no hh
    have HE : Hid (F = true) := HF.out.symm.trans (anyTo_yes hlt (by rw [hh]; rfl))
    clear hRI hh
    go_wp2
    go_ret
    exact ⟨ret_bool (by rw [HE.out]; rfl),hb4⟩
   | true =>
    obtain ⟨rfl,hat⟩ := hRI.yes hh
    obtain rfl := hS.is (s i) _ nst hh hat
    by_cases he : S (s i) = st i
    ·have hne : (S (s i) != st i) = false := by rw [bne_eq_false_iff_eq]; exact he
     have HE : Hid (staleTo D S s st (i + 1) = false) := anyTo_no HK.out (by rw [hh,decide_eq_true he]; rfl)
     clear hRI hh hat he HK
     go_wp2
     go_roundw
     case rel => exact ⟨i + 1,by omega,by go_num,HE,hb5⟩
     case measure => simp [intOf]; omega
    ·have hne : (S (s i) != st i) = true := by rw [bne_iff_ne]; exact he
     have HE : Hid (F = true) := HF.out.symm.trans (anyTo_yes hlt (by rw [hh,decide_eq_false he]; rfl))
     clear hRI hh hat he HK
     go_wp2
     go_ret
     exact ⟨ret_bool (by rw [HE.out]; rfl),hb4⟩
  ·have HE : Hid (F = false) := by
    have e : i = n := by omega
    subst e
    exact HF.out.symm.trans HK.out
   clear hr1 HK
   go_wp2
   go_ret
   exact ⟨ret_bool (by rw [HE.out]; simp),hb2⟩
inductive RMadeEnd (w : World) (B0 : Nat) (rd : ByteArray -> Nat × ObjF) (S : ByteArray -> Int) (root : ByteArray) : Ending -> Prop
 | bad (F : Nat) (h : ReckIs rd root F) (hf : F ≠ 0) : RMadeEnd w B0 rd S root (.returned (.tuple #[.agg #[.string ⟨#[]⟩,.slice none 0 0,.slice none 0 0],.int .i64 (F : Int)]))
 | ok (m : Nat) (B : Nat -> Int) (P Q : ByteArray -> Int) (aP aQ : Option Addr) (cP cQ : Nat) (h : Reckoned rd root m B P Q) (hp : w.ownsRow B0 69 3 (.slice aP m cP) m (joinC (stmC (nmAt rd root) S B) m))
  (hq : w.ownsRow B0 67 3 (.slice aQ (patsAt rd root m B P Q).length cQ) (patsAt rd root m B P Q).length (patsC (patsAt rd root m B P Q))) : RMadeEnd w B0 rd S root (.returned (.tuple #[.agg #[.string root,.slice aP m cP,.slice aQ (patsAt rd root m B P Q).length cQ],.int .i64 0]))
set_option maxRecDepth 100000 in
set_option maxHeartbeats 4000000 in
theorem refEntry_any (B0 : Nat) (w : World) (q : Nat) (L : List FileR) (k : Nat) (D : DataW Unit) (T : ByteArray -> ByteArray) (S : ByteArray -> Int) (root : ByteArray) (h : RAt B0 w q L k) (hL : L.length <= 1000) (hA : Agree D L) (hI : Inv D k) (hT : Texts D T) (hSt : Stamps D S) :
 Calls Tryz.prog 17 #[.pointer (some ⟨q,0,none⟩),.string root] w fun e w' => RMadeEnd w' w.heap.size (rdD D T) S root e /\ Below w.heap.size w w' := by
 have hb0 : Below w.heap.size w (w.alloc (.cells #[.string ⟨#[]⟩,.slice none 0 0,.slice none 0 0] 26)) := (Below.refl _ _).alloc (Nat.le_refl _) _
 have HR := refLoaded_any B0 (w.alloc (.cells #[.string ⟨#[]⟩,.slice none 0 0,.slice none 0 0] 26)) q L k D T root (h.later hb0) hL hA hI hT
 have hfew := rd_few (T := T) hI
 have hres0 : (w.alloc (.cells #[.string ⟨#[]⟩,.slice none 0 0,.slice none 0 0] 26)).heap[w.heap.size]? = some (.cells #[.string ⟨#[]⟩,.slice none 0 0,.slice none 0 0] 26 (0,0)) := by
  show (w.heap.push _)[w.heap.size]? = _
  rw [Array.getElem?_push_size]
 have hsz0 : (w.alloc (.cells #[.string ⟨#[]⟩,.slice none 0 0,.slice none 0 0] 26)).heap.size = w.heap.size + 1 := by simp
 go_enter Tryz.func17,Tryz.ntmps17
 go_wp2_with fail
 refine (show Calls _ _ _ _ _ from HR).mono ?_
 rintro e w1 ⟨he,hb1⟩
 rw [hsz0] at he hb1
 have hbw := hb0.trans (hb1.mono (by omega))
 have hres1 : w1.heap[w.heap.size]? = some (.cells #[.string ⟨#[]⟩,.slice none 0 0,.slice none 0 0] 26 (0,0)) := (hb1.block _ (by omega)).trans hres0
 clear HR hb0 hres0 hsz0
 cases he with
 | bad F hR hf =>
  have hpos : (0 : Int) < (F : Int) := by omega
  have q0 : w1.cell? ⟨w.heap.size,0,none⟩ = some (.string ⟨#[]⟩) := by simp [World.cell?,hres1]
  have q1 : w1.cell? ⟨w.heap.size,1,none⟩ = some (.slice none 0 0) := by simp [World.cell?,hres1]
  have q2 : w1.cell? ⟨w.heap.size,2,none⟩ = some (.slice none 0 0) := by simp [World.cell?,hres1]
  have f0 : w1.frozen? ⟨w.heap.size,0,none⟩ = false := by simp [World.frozen?,hres1]
  have f1 : w1.frozen? ⟨w.heap.size,1,none⟩ = false := by simp [World.frozen?,hres1]
  have f2 : w1.frozen? ⟨w.heap.size,2,none⟩ = false := by simp [World.frozen?,hres1]
  have hNB := below_store3 hbw (Nat.le_refl w.heap.size) (.string ⟨#[]⟩) (.slice none 0 0) (.slice none 0 0)
  have HRR : Hid (ReckIs (rdD D T) root F) := hR
  clear hR hT hSt hfew
  go_wp2
  refine bodyPost_ret (v := .tuple #[.agg #[.string ⟨#[]⟩,.slice none 0 0,.slice none 0 0],.int .i64 (F : Int)]) (by simp [results,Tryz.results17,go_sem,q0,q1,q2]) rfl ?_
  exact ⟨.bad F HRR.out hf,hNB⟩
 | ok m B P Q u pv A C hR hu hp =>
  obtain ⟨hS,hlen,hnm⟩ := scope_of hR.of hfew
  have hm6 := hS.few
  have hhas : ∀ j,j < m -> Maps.has D (keyB (nmAt (rdD D T) root j)) = true := fun j hj => rd_has (by rw [hS.read j hj])
  obtain ⟨ua,uc,rfl,_,hur⟩ := hu.rows
  obtain ⟨pa,pc,rfl,_⟩ := owns_shape hp
  have hF1 := h.later hbw
  have hsz1 : w.heap.size < w1.heap.size := (Array.getElem?_eq_some_iff.1 hres1).1
  have hb4 : Below w1.heap.size w1 (w1.alloc (.cells #[.string root,.slice none 0 0,.slice pa (patsAt (rdD D T) root m B P Q).length pc] 26)) := (Below.refl _ _).alloc (Nat.le_refl _) _
  have hM0 : MakeSt (w1.alloc (.cells #[.string root,.slice none 0 0,.slice pa (patsAt (rdD D T) root m B P Q).length pc] 26)) (w1.alloc (.cells #[.string root,.slice none 0 0,.slice pa (patsAt (rdD D T) root m B P Q).length pc] 26)) w1.heap.size root (.slice pa (patsAt (rdD D T) root m B P Q).length pc) (nmAt (rdD D T) root) S B 0 (.slice none 0 0) := ⟨by
   show (w1.heap.push _)[w1.heap.size]? = _
   rw [Array.getElem?_push_size],World.ownsRow_nil _ _ _ _,Below.refl _ _⟩
  generalize hlE : patsAt (rdD D T) root m B P Q = l at *
  generalize hnE : nmAt (rdD D T) root = nm at *
  have HLE : Hid (patsAt (rdD D T) root m B P Q = l) := hlE
  have HNE : Hid (nmAt (rdD D T) root = nm) := hnE
  clear hlE hnE
  clear hS hlen hnm hu h hfew
  go_wp2
  generalize w1.alloc (.cells #[.string root,.slice none 0 0,.slice pa l.length pc] 26) = w4 at *
  go_loopw [10,11,12,13] (fun y _ _ _ wr => ∃ (i : Nat) (v : Value),i <= m /\ y = .int .i64 i /\ MakeSt w4 wr w1.heap.size root (.slice pa l.length pc) nm S B i v) (fun y _ _ _ _ => m - (intOf y).toNat)
  case atStart => exact ⟨0,_,Nat.zero_le _,rfl,hM0⟩
  case round =>
   obtain ⟨i,v,hi,rfl,hM⟩ := hrel
   obtain ⟨av,cv,rfl,_⟩ := owns_shape hM.own
   have hbr4 : Below w1.heap.size w1 wr := hb4.trans (hM.below)
   by_cases hlt : i < m
   ·rcases hur.later hbr4 with h0 | ⟨bu,ou,rfl,hcu⟩
    ·omega
    obtain ⟨hn2,hv2,_,_⟩ := hcu i hlt
    have hi0 : (0 : Int) <= (i : Int) := by omega
    have hi1 : (i : Int) < (m : Int) := by omega
    have HRd := readR_is B0 wr q L k D (nm i) (hF1.later hbr4) hL hA hI
    clear hur hcu
    go_wp2_with fail
    refine (show Calls _ _ _ _ _ from HRd).mono ?_
    rintro e w9 ⟨⟨t,nst,f,rfl,hRI⟩,hb9⟩
    obtain ⟨rfl,ht⟩ := hRI.yes (hhas i hlt)
    obtain rfl := hSt.is (nm i) _ nst (hhas i hlt) ht
    have hM9 := hM.later hb9
    have hn9 := cell_later hb9 hn2
    have hv9 := cell_later hb9 hv2
    have hMd : MakeSt w4 w9.drew w1.heap.size root (.slice pa l.length pc) nm S B i (.slice av i cv) := hM9.later (Below.refl _ _).drew
    obtain ⟨v',W,happ,g0,gz,hMn⟩ := hMd.grow (by omega)
    obtain ⟨av2,cv2,rfl,_⟩ := owns_shape hMn.own
    have hC : w9.cell? ⟨w1.heap.size,1,none⟩ = some (.slice av i cv) := by simp [World.cell?,hM9.blk]
    have hlt9 : w1.heap.size < w9.heap.size := (Array.getElem?_eq_some_iff.1 hM9.blk).1
    clear HRd hRI ht hM hMd hM9 hn2 hv2 hhas hb9
    go_wp2
    go_region_law (refine step_run rfl (.tmp 46) (.tmp 59) 23 rfl (.slice av i cv) (.slice (some ⟨w9.heap.size,0,none⟩) 1 1) _ rfl rfl happ ?_)
    all_goals
     go_wp2
     go_roundw
     case rel => exact ⟨i + 1,_,by omega,by go_num,hMn⟩
     case measure => simp [intOf]; omega
   ·have e : i = m := by omega
    subst e
    have hres : wr.heap[w.heap.size]? = some (.cells #[.string ⟨#[]⟩,.slice none 0 0,.slice none 0 0] 26 (0,0)) := (hbr4.block _ hsz1).trans hres1
    have q0 : wr.cell? ⟨w.heap.size,0,none⟩ = some (.string ⟨#[]⟩) := by simp [World.cell?,hres]
    have q1 : wr.cell? ⟨w.heap.size,1,none⟩ = some (.slice none 0 0) := by simp [World.cell?,hres]
    have q2 : wr.cell? ⟨w.heap.size,2,none⟩ = some (.slice none 0 0) := by simp [World.cell?,hres]
    have f0 : wr.frozen? ⟨w.heap.size,0,none⟩ = false := by simp [World.frozen?,hres]
    have f1 : wr.frozen? ⟨w.heap.size,1,none⟩ = false := by simp [World.frozen?,hres]
    have f2 : wr.frozen? ⟨w.heap.size,2,none⟩ = false := by simp [World.frozen?,hres]
    have e0 : wr.cell? ⟨w1.heap.size,0,none⟩ = some (.string root) := by simp [World.cell?,hM.blk]
    have e1 : wr.cell? ⟨w1.heap.size,1,none⟩ = some (.slice av i cv) := by simp [World.cell?,hM.blk]
    have e2 : wr.cell? ⟨w1.heap.size,2,none⟩ = some (.slice pa l.length pc) := by simp [World.cell?,hM.blk]
    have hNB := below_store3 (hbw.trans (hbr4.mono hbw.size)) (Nat.le_refl w.heap.size) (.string root) (.slice av i cv) (.slice pa l.length pc)
    have hO1 := owns_store3 (World.ownsRow.mono hM.own (show w.heap.size <= w1.heap.size + 1 by omega)) hres (by decide) (.string root) (.slice av i cv) (.slice pa l.length pc)
    have hO2 := owns_store3 (World.ownsRow.mono (owns_below hp hbr4) (Nat.le_succ w.heap.size)) hres (by decide) (.string root) (.slice av i cv) (.slice pa l.length pc)
    clear hM hres hur hp
    go_wp2
    refine bodyPost_ret (v := .tuple #[.agg #[.string root,.slice av i cv,.slice pa l.length pc],.int .i64 0]) (by simp [results,Tryz.results17,go_sem,q0,q1,q2]) rfl ?_
    have hl1 := HLE.out
    have hn1 := HNE.out
    subst hl1
    subst hn1
    exact ⟨.ok i B P Q av pa cv pc hR hO1 hO2,hNB⟩
def Aloof (A : Nat -> Option Addr) (n : Nat) : Prop := ∀ i j g,i < n -> j < n -> i ≠ j -> A i = some ⟨g,0,none⟩ -> A j ≠ some ⟨g,0,none⟩
inductive RUsedEnd (w : World) (B0 : Nat) (D : DataW Unit) (S : ByteArray -> Int) (rd : ByteArray -> Nat × ObjF) (n : Nat) (s : Nat -> ByteArray) (st b : Nat -> Int) (np : Nat) (p t v : Nat -> Int) : Ending -> Prop
 | stale (h : (!staleTo D S s st n && decide (0 < n)) = false) : RUsedEnd w B0 D S rd n s st b np p t v (.returned (.tuple #[.slice none 0 0,.int .i64 10]))
 | bad (i : Nat) (hi : i < n) (hq : (!staleTo D S s st n && decide (0 < n)) = true) (h0 : ∀ j,j < i -> (rd (s j)).1 = 0) (hf : (rd (s i)).1 ≠ 0) : RUsedEnd w B0 D S rd n s st b np p t v (.returned (.tuple #[.slice none 0 0,.int .i64 (((rd (s i)).1 : Nat) : Int)]))
 | out (hq : (!staleTo D S s st n && decide (0 < n)) = true) (h0 : ∀ j,j < n -> (rd (s j)).1 = 0) (h : BadAt (fun k => patOk n (fun i => (rd (s i)).2.nW) (p k) (t k)) np) : RUsedEnd w B0 D S rd n s st b np p t v (.returned (.tuple #[.slice none 0 0,.int .i64 1]))
 | ok (u : Value) (A : Nat -> Option Addr) (C : Nat -> Nat) (hq : (!staleTo D S s st n && decide (0 < n)) = true) (h0 : ∀ j,j < n -> (rd (s j)).1 = 0) (h : AllOk (fun k => patOk n (fun i => (rd (s i)).2.nW) (p k) (t k)) np)
  (hu : RPs w B0 u n s b A (fun i => (rd (s i)).2.nW) C (putF (fun i j => (rd (s i)).2.words j) p t v np)) : RUsedEnd w B0 D S rd n s st b np p t v (.returned (.tuple #[u,.int .i64 0]))
theorem RPs.put {w : World} {B : Nat} {u : Value} {n : Nat} {nm : Nat -> ByteArray} {Bs : Nat -> Int} {A : Nat -> Option Addr} {M C : Nat -> Nat} {X X' : Nat -> Nat -> Int} {x y g : Nat} (h : RPs w B u n nm Bs A M C X) (ha : Aloof A n) (hx : x < n) (hy : y < M x) (hg : A x = some ⟨g,0,none⟩) (v : Int)
 (e : ∀ i j,X' i j = if i = x /\ j = y then v else X i j) : RPs (w.setCell ⟨g,y,none⟩ (.int .i64 v)) B u n nm Bs A M C X' where
 own := by
  refine ownsRow_setCell_other h.own (fun e => ?_) _
  have h1 := h.row x hx
  rw [hg] at h1
  rcases ownsSep h1 h.own (by decide) with e1 | e1
  ·cases e1
  ·exact e1 e.symm
 row := fun i hi => by
  by_cases ei : i = x
  ·subst ei
   have h1 := h.row i hi
   rw [hg] at h1 ⊢
   exact ownInt_put h1 hy v fun j => by rw [e]; by_cases q : j = y <;> simp [q]
  ·rw [joinC_congr (h := intC (X i)) (fun j _ => by unfold intC; rw [e,if_neg (fun h => ei h.1)])]
   refine ownsRow_setCell_other (h.row i hi) (fun e => ?_) _
   rcases (h.row i hi).2 with ⟨e0,_⟩ | ⟨g',cap,cur,hv,_⟩
   ·rw [e0] at e; cases e
   ·injection hv with hv1 _ _
    rw [hv1] at e
    injection e with e
    have e' : g' = g := e
    subst e'
    exact ha x i g' hx hi (fun h => ei h.symm) hg hv1
theorem RPs.word {w : World} {B : Nat} {u : Value} {n : Nat} {nm : Nat -> ByteArray} {Bs : Nat -> Int} {A : Nat -> Option Addr} {M C : Nat -> Nat} {X : Nat -> Nat -> Int} {x y : Nat} (h : RPs w B u n nm Bs A M C X) (hx : x < n) (hy : y < M x) :
 ∃ g,A x = some ⟨g,0,none⟩ /\ B <= g /\ w.cell? ⟨g,y,none⟩ = some (.int .i64 (X x y)) /\ w.frozen? ⟨g,y,none⟩ = false := by
 obtain ⟨g,hg,hB,hc⟩ := owns_cell (h.row x hx) (j := y) (u := .int .i64 (X x y)) (by rw [joinInt_map,List.getElem?_map,List.getElem?_eq_getElem (by simpa using hy)]; simp)
 refine ⟨g,hg,hB,hc,?_⟩
 have h1 := h.row x hx
 rw [hg] at h1
 rcases h1.2 with ⟨e0,_⟩ | ⟨g',cap,cur,hv,_,hh,_⟩
 ·cases e0
 ·injection hv with hv1 _ _
  injection hv1 with hv1
  injection hv1 with hv1
  subst hv1
  simp [World.frozen?,hh]
theorem Aloof.next {w : World} {B m : Nat} {A : Nat -> Option Addr} {aw : Option Addr} {M C : Nat -> Nat} {X : Nat -> Nat -> Int} (h : Aloof A m) (hr : ∀ j,j < m -> w.ownsRow B 3 1 (.slice (A j) (M j) (C j)) (M j) (joinC (intC (X j)) (M j)))
 (hn : ∀ g,aw = some ⟨g,0,none⟩ -> w.heap.size <= g) : Aloof (fun j => if j = m then aw else A j) (m + 1) := fun i j g hi hj hij e1 e2 => by
 have low : ∀ i,i < m -> A i = some ⟨g,0,none⟩ -> g < w.heap.size := fun i hi e => by
  have h1 := hr i hi
  rw [e] at h1
  exact (h1.lt g rfl).2
 by_cases q1 : i = m
 ·have q2 : j ≠ m := fun h => hij (q1.trans h.symm)
  simp only [if_pos q1] at e1
  simp only [if_neg q2] at e2
  have := hn g e1
  have := low j (by omega) e2
  omega
 ·simp only [if_neg q1] at e1
  by_cases q2 : j = m
  ·simp only [if_pos q2] at e2
   have := hn g e2
   have := low i (by omega) e1
   omega
  ·simp only [if_neg q2] at e2
   exact h i j g (by omega) (by omega) hij e1 e2
set_option maxRecDepth 100000 in
set_option maxHeartbeats 8000000 in
theorem refUsed_any (B0 : Nat) (w : World) (q : Nat) (L : List FileR) (k : Nat) (D : DataW Unit) (T : ByteArray -> ByteArray) (S : ByteArray -> Int) (root : ByteArray) (n nq : Nat) (s : Nat -> ByteArray) (st b : Nat -> Int) (qp qt qv : Nat -> Int) (aP aQ : Option Addr) (cP cQ : Nat) (h : RAt B0 w q L k) (hL : L.length <= 1000) (hA : Agree D L) (hI : Inv D k) (hS : Stamps D S) (hT : Texts D T) (hn : n <= 900) (hnq : nq <= 900)
 (hr : StmRow w aP n s st b) (hq : PatRow w aQ nq qp qt qv) :
 Calls Tryz.prog 23 #[.agg #[.string root,.slice aP n cP,.slice aQ nq cQ],.pointer (some ⟨q,0,none⟩)] w fun e w' => RUsedEnd w' w.heap.size D S (rdD D T) n s st b nq qp qt qv e /\ Below w.heap.size w w' := by
 have hb0 : Below w.heap.size w (w.alloc (.cells #[.string root,.slice aP n cP,.slice aQ nq cQ] 26)) := (Below.refl _ _).alloc (Nat.le_refl _) _
 have HF := refFresh_any B0 _ q L k D S root n nq s st b aP aQ cP cQ (h.later hb0) hL hA hI hS (by omega) (hr.later hb0)
 have e0 : (w.alloc (.cells #[.string root,.slice aP n cP,.slice aQ nq cQ] 26)).cell? ⟨w.heap.size,0,none⟩ = some (.string root) := by simp [go_sem]
 have e1 : (w.alloc (.cells #[.string root,.slice aP n cP,.slice aQ nq cQ] 26)).cell? ⟨w.heap.size,1,none⟩ = some (.slice aP n cP) := by simp [go_sem]
 have e2 : (w.alloc (.cells #[.string root,.slice aP n cP,.slice aQ nq cQ] 26)).cell? ⟨w.heap.size,2,none⟩ = some (.slice aQ nq cQ) := by simp [go_sem]
 have HRD : Hid (∀ x,Maps.has D (keyB x) = true -> rdD D T x = parseF (T x)) := fun x hx => by unfold rdD; rw [if_pos hx]
 have HOK : Hid (∀ s,(rdD D T s).1 = 0 -> ObjOk (rdD D T s).2) := fun s h => rd_ok h
 generalize rdD D T = rd at *
 cases hst : (!staleTo D S s st n && decide (0 < n)) with
 | false =>
  rw [hst] at HF
  go_enter Tryz.func23,Tryz.ntmps23
  go_wp2_with fail
  refine (show Calls _ _ _ _ _ from HF).mono ?_
  rintro e w1 ⟨rfl,hb1⟩
  have hb2 := hb0.trans (hb1.mono hb0.size)
  clear HF e0 e1 e2 HRD HOK
  go_wp2
  go_ret2
  exact ⟨.stale hst,hb2⟩
 | true =>
  rw [hst] at HF
  have HST : Hid ((!staleTo D S s st n && decide (0 < n)) = true) := hst
  have hfr : ∀ i,i < n -> Maps.has D (keyB (s i)) = true := fun i hi => by
   cases hh : Maps.has D (keyB (s i)) with
   | true => rfl
   | false =>
    have := anyTo_yes (p := fun i => !(Maps.has D (keyB (s i)) && decide (S (s i) = st i))) hi (by rw [hh]; rfl)
    unfold staleTo at hst
    rw [this] at hst
    cases hst
  clear hst
  have h1 := h.later hb0
  have hr1 := hr.later hb0
  have hq1 := hq.later hb0
  go_enter Tryz.func23,Tryz.ntmps23
  go_wp2_with fail
  refine (show Calls _ _ _ _ _ from HF).mono ?_
  rintro e W ⟨rfl,hb1⟩
  have hbW := hb0.trans (hb1.mono hb0.size)
  replace e1 := cell_later hb1 e1
  replace e2 := cell_later hb1 e2
  replace h1 := h1.later hb1
  replace hr1 := hr1.later hb1
  replace hq1 := hq1.later hb1
  clear HF hb1 hb0 h hr hq e0
  have HFR : Hid (∀ i,i < n -> Maps.has D (keyB (s i)) = true) := hfr
  clear hfr
  go_wp2
  go_loopw [7,8,9,10,11,12,13] (fun y7 y8 _ _ _ _ _ wr => ∃ (i : Nat) (v : Value) (A : Nat -> Option Addr) (C : Nat -> Nat),i <= n /\ y8 = .int .i64 i /\ y7 = v /\ Hid (∀ j,j < i -> (rd (s j)).1 = 0) /\ RPs wr W.heap.size v i s b A (fun j => (rd (s j)).2.nW) C (fun j x => (rd (s j)).2.words x) /\ Aloof A i /\ Below W.heap.size W wr) (fun _ y8 _ _ _ _ _ _ => n - (intOf y8).toNat)
  case atStart => exact ⟨0,.slice none 0 0,fun _ => none,fun _ => 0,Nat.zero_le _,rfl,rfl,(fun j hj => absurd hj (Nat.not_lt_zero _)),⟨World.ownsRow_nil _ _ _ _,fun j hj => absurd hj (Nat.not_lt_zero _)⟩,(fun i j g hi => absurd hi (Nat.not_lt_zero _)),Below.refl _ _⟩
  case round =>
   obtain ⟨i,v,A,C,hi,rfl,rfl,HK,hRP,hAl,hb⟩ := hrel
   have e1r := cell_later hb e1
   by_cases hlt : i < n
   ·have hr2 := hr1.later hb
    rcases hr2 with h0 | ⟨bk,o,rfl,hc⟩
    ·omega
    obtain ⟨x0,x1,x2⟩ := hc i hlt
    have HR := readR_is B0 wr q L k D (s i) (h1.later hb) hL hA hI
    have hi0 : (0 : Int) <= (i : Int) := by omega
    have hi1 : (i : Int) < (n : Int) := by omega
    have hbw := hbW.trans (hb.mono hbW.size)
    clear hc x1
    go_wp2_with fail
    refine (show Calls _ _ _ _ _ from HR).mono ?_
    rintro e w2 ⟨⟨t,nst,f,rfl,hRI⟩,hb2⟩
    obtain ⟨rfl,hat⟩ := hRI.yes (HFR.out i hlt)
    obtain rfl := hT.is _ _ _ (HFR.out i hlt) hat
    have HRi := HRD.out (s i) (HFR.out i hlt)
    have HOb := objectOf_parse (T (s i)) w2
    rw [<- HRi] at HOb
    have hRP2 := hRP.later hb2
    have hb02 := hb.trans (hb2.mono hb.size)
    replace e1r := cell_later hb2 e1r
    replace x0 := cell_later hb2 x0
    replace x2 := cell_later hb2 x2
    have hbw2 := hbw.trans (hb2.mono hbw.size)
    clear HR hRI hat HRi hRP hb hb2 hbw
    by_cases hF : (rd (s i)).1 = 0
    ·have HK2 : Hid (∀ j,j < i + 1 -> (rd (s j)).1 = 0) := fun j hj => by
      by_cases e : j = i
      ·subst e; exact hF
      ·exact HK.out j (by omega)
     have hok : (rd (s i)).2.nW <= 40 := (HOK.out _ hF).nW
     rw [hF] at HOb
     clear hF HK
     go_wp2_with fail
     refine (show Calls _ _ _ _ _ from HOb).mono ?_
     rintro e w3 ⟨⟨vo,rfl,hAt,_⟩,hb3⟩
     clear HOb
     have hRP3 := hRP2.later hb3
     have hb03 := hb02.trans (hb3.mono hb02.size)
     replace e1r := cell_later hb3 e1r
     replace x0 := cell_later hb3 x0
     replace x2 := cell_later hb3 x2
     obtain ⟨aN,cN,aW,cW,aS,cS,aT,cT⟩ := vo
     have hwords : RowAt w3 aW (rd (s i)).2.nW fun j => .int .i64 ((rd (s i)).2.words j) := hAt.words
     unfold ObjV.cells
     dsimp only
     have hX : Below w3.heap.size w3 (w3.alloc (.cells #[.slice aN (rd (s i)).2.nN cN,.slice aW (rd (s i)).2.nW cW,.slice aS (rd (s i)).2.nS cS,.slice aT (rd (s i)).2.nT cT] 116)).drew := ((Below.refl _ _).alloc (Nat.le_refl _) _).drew
     have x3 : (w3.alloc (.cells #[.slice aN (rd (s i)).2.nN cN,.slice aW (rd (s i)).2.nW cW,.slice aS (rd (s i)).2.nS cS,.slice aT (rd (s i)).2.nT cT] 116)).drew.cell? ⟨w3.heap.size,1,none⟩ = some (.slice aW (rd (s i)).2.nW cW) := by simp [go_sem]
     have hRP4 := hRP3.later hX
     have hb04 := hb03.trans (hX.mono hb03.size)
     have hwd4 := hwords.later hX
     replace e1r := cell_later hX e1r
     replace x0 := cell_later hX x0
     replace x2 := cell_later hX x2
     clear hRP2 hRP3 hAt hb3 hb02 hb03 hwords hX
     go_upto_region 12 with fail
     have hSS : (fun w' : World => w'.cell? ⟨w.heap.size,1,none⟩ = some (.slice (some ⟨bk,o,none⟩) n cP) /\ w'.cell? ⟨bk,o + i * 3,none⟩ = some (.string (s i)) /\ w'.cell? ⟨bk,o + i * 3 + 2,none⟩ = some (.int .i64 (b i)) /\ w'.cell? ⟨w3.heap.size,1,none⟩ = some (.slice aW (rd (s i)).2.nW cW)) (w3.alloc (.cells #[.slice aN (rd (s i)).2.nN cN,.slice aW (rd (s i)).2.nW cW,.slice aS (rd (s i)).2.nS cS,.slice aT (rd (s i)).2.nT cT] 116)).drew := ⟨e1r,x0,x2,x3⟩
     refine wp_region_G (fun w' : World => w'.cell? ⟨w.heap.size,1,none⟩ = some (.slice (some ⟨bk,o,none⟩) n cP) /\ w'.cell? ⟨bk,o + i * 3,none⟩ = some (.string (s i)) /\ w'.cell? ⟨bk,o + i * 3 + 2,none⟩ = some (.int .i64 (b i)) /\ w'.cell? ⟨w3.heap.size,1,none⟩ = some (.slice aW (rd (s i)).2.nW cW)) 18 20 (by kernel_rfl) rfl ?_
     clear e1r x0 x2 x3
     generalize (w3.alloc (.cells #[.slice aN (rd (s i)).2.nN cN,.slice aW (rd (s i)).2.nW cW,.slice aS (rd (s i)).2.nS cS,.slice aT (rd (s i)).2.nT cT] 116)).drew = wd at *
     obtain ⟨v1,W1,happ1,hO1,hbW1⟩ := ints_new wd aW (rd (s i)).2.nW cW (fun j => (rd (s i)).2.words j) hwd4 (by omega)
     obtain ⟨aw,cw,rfl,_⟩ := owns_shape hO1
     have hRPd := hRP4.later hbW1
     have hb05 := hb04.trans (hbW1.mono hb04.size)
     have hAl2 : Aloof (fun j => if j = i then aw else A j) (i + 1) := hAl.next hRP4.row fun g e => by
      rw [e] at hO1
      exact (hO1.lt g rfl).1
     obtain ⟨v2,W2,happ2,hG2⟩ := growPart (w := W1) (s i) (b i) aw (rd (s i)).2.nW cw hb05.size hRPd.own (by omega)
     have hbal : Below W1.heap.size W1 (W1.alloc (.cells #[.string (s i),.int .i64 (b i),.slice aw (rd (s i)).2.nW cw] 103)) := (Below.refl _ _).alloc (Nat.le_refl _) _
     have hRPn : RPs W2 W.heap.size v2 (i + 1) s b (fun j => if j = i then aw else A j) (fun j => (rd (s j)).2.nW) (fun j => if j = i then cw else C j) (fun j x => (rd (s j)).2.words x) := by
      refine ⟨?_,fun j hj => ?_⟩
      ·show W2.ownsRow W.heap.size 103 3 v2 (i + 1) (joinC (partC s b (fun j => if j = i then aw else A j) (fun j => (rd (s j)).2.nW) (fun j => if j = i then cw else C j)) i ++ partC s b (fun j => if j = i then aw else A j) (fun j => (rd (s j)).2.nW) (fun j => if j = i then cw else C j) i)
       rw [joinC_congr (h := partC s b A (fun j => (rd (s j)).2.nW) C) (fun j hj => by unfold partC; simp only [if_neg (show j ≠ i by omega)])]
       have := hG2.own
       unfold partC
       simp only [if_pos]
       exact this
      ·by_cases e : j = i
       ·subst e
        simp only [if_pos]
        exact World.ownsRow.mono ((hO1.alloc _).kept hG2.grown (ownsSep hO1 hRPd.own (by decide))) hb04.size
       ·simp only [if_neg e]
        exact ((hRPd.row j (by omega)).alloc _).kept hG2.grown (ownsSep (hRPd.row j (by omega)) hRPd.own (by decide))
     have hb06 : Below W.heap.size W W2 := (hb05.trans (hbal.mono hb05.size)).trans hG2.below
     clear hG2 hRPd hRP4 hO1 hAl hwd4 hb04
     refine tW 0 hSS ?_
     refine tW 1 hSS ?_
     refine tW 3 hSS ?_
     refine tW 7 hSS ?_
     refine tW 9 hSS ?_
     refine tW 13 hSS ?_
     refine tR 2 [17,16,6,5,4] hSS ?_
     refine tW 4 hSS ?_
     refine tW 5 hSS ?_
     refine tR 6 [17,16] hSS ?_
     refine tR 8 [17,16,12,11,10] hSS ?_
     refine tW 10 hSS ?_
     refine tW 11 hSS ?_
     refine tR 12 [17,16] hSS ?_
     refine tR 14 [15] hSS ?_
     refine oG 15 fun K hK => ?_
     go_wp2_with (at_builtin; refine list_run rfl (.const (.slice none 0 0)) (.tmp 62) 97 rfl (.slice none 0 0) (.slice aW (rd (s i)).2.nW cW) _ rfl rfl happ1 ?_)
     have hSS1 : (fun w' : World => w'.cell? ⟨w.heap.size,1,none⟩ = some (.slice (some ⟨bk,o,none⟩) n cP) /\ w'.cell? ⟨bk,o + i * 3,none⟩ = some (.string (s i)) /\ w'.cell? ⟨bk,o + i * 3 + 2,none⟩ = some (.int .i64 (b i)) /\ w'.cell? ⟨w3.heap.size,1,none⟩ = some (.slice aW (rd (s i)).2.nW cW)) W1 := ⟨cell_later hbW1 hSS.1,cell_later hbW1 hSS.2.1,cell_later hbW1 hSS.2.2.1,cell_later hbW1 hSS.2.2.2⟩
     refine hK _ _ hSS1 ?_
     clear hK hSS happ1
     have hSS := hSS1
     clear hSS1
     refine tW 16 hSS ?_
     refine oG 17 fun K hK => ?_
     go_wp2_with fail
     refine hK _ _ ⟨cell_later hbal hSS.1,cell_later hbal hSS.2.1,cell_later hbal hSS.2.2.1,cell_later hbal hSS.2.2.2⟩ ?_
     clear hK hSS hbal
     refine lG 18 fun K hK => ?_
     go_wp2_with (at_builtin; refine list_run rfl (.tmp 48) (.tmp 65) 57 rfl _ _ _ rfl rfl happ2 ?_)
     refine hK _ _ ?_
     clear hK happ2
     refine tA 19 ?_
     refine doneG (by kernel_rfl) ?_ _
     go_wp2
     go_roundw
     case rel => exact ⟨i + 1,v2,_,_,by omega,by go_num,rfl,HK2,hRPn,hAl2,hb06⟩
     case measure => simp [intOf]; omega
    ·have hpos : (0 : Int) < (((rd (s i)).1 : Nat) : Int) := by omega
     have HKK := HK
     clear HK
     go_wp2_with fail
     refine (show Calls _ _ _ _ _ from HOb).mono ?_
     rintro e w3 ⟨⟨vo,rfl,_,_⟩,hb3⟩
     clear HOb
     have hb9 := (hbw2.trans (hb3.mono hbw2.size)).alloc (Nat.le_trans hbw2.size hb3.size) (.cells (vo.cells (rd (s i)).2) 116)
     unfold ObjV.cells at *
     have HFIN : Hid (∀ X : World,RUsedEnd X w.heap.size D S rd n s st b nq qp qt qv (.returned (.tuple #[.slice none 0 0,.int .i64 (((rd (s i)).1 : Nat) : Int)]))) := fun X => .bad i hlt HST.out HKK.out hF
     clear HKK hF
     generalize (rd (s i)).1 = F at *
     go_wp2
     go_ret2
     exact ⟨HFIN.out _,hb9⟩
   ·obtain rfl : i = n := by omega
    have e2r := cell_later hb e2
    have hbw := hbW.trans (hb.mono hbW.size)
    have hq2 := hq1.later hb
    have hw40 : ∀ j,j < i -> (rd (s j)).2.nW <= 40 := fun j hj => (HOK.out _ (HK.out j hj)).nW
    have hn0 : (i : Int) < 9223372036854775807 := by omega
    obtain ⟨ub,rfl⟩ : ∃ x,x = wr := ⟨_,rfl⟩
    obtain ⟨vo,rfl⟩ : ∃ x,x = u7 := ⟨_,rfl⟩
    obtain ⟨ua,uc,hue,huc,hrow⟩ := hRP.rows
    subst hue
    have HRPu : Hid (RPs ub W.heap.size (.slice ua i uc) i s b A (fun j => (rd (s j)).2.nW) C (fun j x => (rd (s j)).2.words x)) := hRP
    have HAl : Hid (Aloof A i) := hAl
    clear hr1 hRP hrow hAl hA hI hS hT hL h1 huc hq2 HFR HRD
    go_wp2
    clear e1r
    go_loopw [14,15] (fun y14 _ wx => ∃ z : Nat,z <= nq /\ y14 = .int .i64 z /\ Hid (AllOk (fun k => patOk i (fun j => (rd (s j)).2.nW) (qp k) (qt k)) z) /\ Hid (RPs wx W.heap.size (.slice ua i uc) i s b A (fun j => (rd (s j)).2.nW) C (putF (fun j x => (rd (s j)).2.words x) qp qt qv z)) /\ Below W.heap.size W wx) (fun y14 _ _ => nq - (intOf y14).toNat)
    case atStart => exact ⟨0,Nat.zero_le _,rfl,(fun j hj => absurd hj (Nat.not_lt_zero _)),HRPu,hb⟩
    case round =>
     clear HRPu e2r
     obtain ⟨z,hz,rfl,HO,HRP,hbz⟩ := hrel
     have e2z := cell_later hbz e2
     have hbwz := hbW.trans (hbz.mono hbW.size)
     have hq3 : PatRow wr aQ nq qp qt qv := hq1.later hbz
     by_cases hlz : z < nq
     ·rcases hq3 with h0 | ⟨bp,op,rfl,hcp⟩
      ·omega
      obtain ⟨p0,p1,p2⟩ := hcp z hlz
      have hz0 : (0 : Int) <= (z : Int) := by omega
      have hz1 : (z : Int) < (nq : Int) := by omega
      have hbal : Below wr.heap.size wr (wr.alloc (.cells #[.int .i64 (qp z),.int .i64 (qt z),.int .i64 (qv z)] 67)) := (Below.refl _ _).alloc (Nat.le_refl _) _
      have d0 : (wr.alloc (.cells #[.int .i64 (qp z),.int .i64 (qt z),.int .i64 (qv z)] 67)).cell? ⟨wr.heap.size,0,none⟩ = some (.int .i64 (qp z)) := by simp [go_sem]
      have d1 : (wr.alloc (.cells #[.int .i64 (qp z),.int .i64 (qt z),.int .i64 (qv z)] 67)).cell? ⟨wr.heap.size,1,none⟩ = some (.int .i64 (qt z)) := by simp [go_sem]
      have d2 : (wr.alloc (.cells #[.int .i64 (qp z),.int .i64 (qt z),.int .i64 (qv z)] 67)).cell? ⟨wr.heap.size,2,none⟩ = some (.int .i64 (qv z)) := by simp [go_sem]
      have HBAD : Hid (patOk i (fun j => (rd (s j)).2.nW) (qp z) (qt z) = false -> ∀ X : World,RUsedEnd X w.heap.size D S rd i s st b nq qp qt qv (.returned (.tuple #[.slice none 0 0,.int .i64 1]))) := fun hp X => .out HST.out HK.out ⟨z,hlz,hp⟩
      have hbB := hbwz.trans (hbal.mono hbwz.size)
      have HRPz := HRP.out.later hbal
      have hbzz := hbz.trans (hbal.mono hbz.size)
      clear hcp HRP hbal hbz hbwz
      by_cases z1 : qp z < 0
      ·have z1' : decide (qp z < 0) = true := decide_eq_true z1
       have HE := HBAD.out (by unfold patOk isPlaceF; simp; omega)
       have HEE : Hid (∀ X : World,RUsedEnd X w.heap.size D S rd i s st b nq qp qt qv (.returned (.tuple #[.slice none 0 0,.int .i64 1]))) := HE
       clear HBAD HE HRPz
       go_upto_region 17 with fail
       have hSS : (fun w' : World => w'.cell? ⟨wr.heap.size,0,none⟩ = some (.int .i64 (qp z)) /\ w'.cell? ⟨wr.heap.size,1,none⟩ = some (.int .i64 (qt z))) (wr.alloc (.cells #[.int .i64 (qp z),.int .i64 (qt z),.int .i64 (qv z)] 67)).drew := ⟨d0,d1⟩
       refine wp_region_G (fun w' : World => w'.cell? ⟨wr.heap.size,0,none⟩ = some (.int .i64 (qp z)) /\ w'.cell? ⟨wr.heap.size,1,none⟩ = some (.int .i64 (qt z))) 26 27 (by kernel_rfl) rfl ?_
       clear d0 d1 d2 p0 p1 p2
       refine tW 0 hSS ?_
       refine tR 1 [15,10,3,2] hSS ?_
       refine tW 2 hSS ?_
       refine tW 3 hSS ?_
       refine tS 4 hSS ?_
       refine tS 5 hSS ?_
       refine tS 6 hSS ?_
       refine tS 7 hSS ?_
       refine tS 8 hSS ?_
       refine tW 9 hSS ?_
       refine tW 10 hSS ?_
       refine tS 11 hSS ?_
       refine tS 12 hSS ?_
       refine tS 13 hSS ?_
       refine tW 14 hSS ?_
       refine tW 15 hSS ?_
       refine tS 16 hSS ?_
       refine tS 17 hSS ?_
       refine tS 18 hSS ?_
       refine tS 19 hSS ?_
       refine tS 20 hSS ?_
       refine tS 21 hSS ?_
       refine tS 22 hSS ?_
       refine tS 23 hSS ?_
       refine tS 24 hSS ?_
       refine tS 25 hSS ?_
       refine lG 26 fun K hK => ?_
       go_wp2_with fail
       refine hK _ _ ?_
       clear hK
       refine doneG (by kernel_rfl) ?_ _
       go_wp2
       go_ret2
       exact ⟨HEE.out _,hbB.drew⟩
      have z1' : decide (qp z < 0) = false := decide_eq_false z1
      by_cases z2 : (i : Int) <= qp z
      ·have z2' : decide ((i : Int) <= qp z) = true := decide_eq_true z2
       have HE := HBAD.out (by unfold patOk isPlaceF; simp; omega)
       have HEE : Hid (∀ X : World,RUsedEnd X w.heap.size D S rd i s st b nq qp qt qv (.returned (.tuple #[.slice none 0 0,.int .i64 1]))) := HE
       clear HBAD HE HRPz
       go_upto_region 17 with fail
       have hSS : (fun w' : World => w'.cell? ⟨wr.heap.size,0,none⟩ = some (.int .i64 (qp z)) /\ w'.cell? ⟨wr.heap.size,1,none⟩ = some (.int .i64 (qt z))) (wr.alloc (.cells #[.int .i64 (qp z),.int .i64 (qt z),.int .i64 (qv z)] 67)).drew := ⟨d0,d1⟩
       refine wp_region_G (fun w' : World => w'.cell? ⟨wr.heap.size,0,none⟩ = some (.int .i64 (qp z)) /\ w'.cell? ⟨wr.heap.size,1,none⟩ = some (.int .i64 (qt z))) 26 27 (by kernel_rfl) rfl ?_
       clear d0 d1 d2 p0 p1 p2
       refine tW 0 hSS ?_
       refine tR 1 [15,10,3,2] hSS ?_
       refine tW 2 hSS ?_
       refine tW 3 hSS ?_
       refine tW 4 hSS ?_
       refine tR 5 [15,10,9,8] hSS ?_
       refine tW 6 hSS ?_
       refine tW 7 hSS ?_
       refine tW 8 hSS ?_
       refine tW 9 hSS ?_
       refine tW 10 hSS ?_
       refine tS 11 hSS ?_
       refine tS 12 hSS ?_
       refine tS 13 hSS ?_
       refine tW 14 hSS ?_
       refine tW 15 hSS ?_
       refine tS 16 hSS ?_
       refine tS 17 hSS ?_
       refine tS 18 hSS ?_
       refine tS 19 hSS ?_
       refine tS 20 hSS ?_
       refine tS 21 hSS ?_
       refine tS 22 hSS ?_
       refine tS 23 hSS ?_
       refine tS 24 hSS ?_
       refine tS 25 hSS ?_
       refine lG 26 fun K hK => ?_
       go_wp2_with fail
       refine hK _ _ ?_
       clear hK
       refine doneG (by kernel_rfl) ?_ _
       go_wp2
       go_ret2
       exact ⟨HEE.out _,hbB.drew⟩
      have z2' : decide ((i : Int) <= qp z) = false := decide_eq_false z2
      obtain ⟨x,hx⟩ : ∃ x : Nat,qp z = (x : Int) := ⟨(qp z).toNat,by omega⟩
      have hxi : x < i := by omega
      have hxi' : (x : Int) < (i : Int) := by omega
      have hx0 : (0 : Int) <= (x : Int) := by omega
      have z2n : decide (i <= x) = false := decide_eq_false (by omega)
      have HPX : Hid (qp z = (x : Int)) := hx
      rw [hx] at p0 d0 d1 d2 HRPz hbB hbzz z1' z2' HBAD
      obtain ⟨ga,gc,hge,_,hrow⟩ := HRPz.rows
      cases hge
      rcases hrow with h0 | ⟨bu,ou,rfl,hcu⟩
      ·omega
      have d5 := (hcu x hxi).2.2.1
      clear hcu
      by_cases z3 : qt z < 0
      ·have z3' : decide (qt z < 0) = true := decide_eq_true z3
       have HE := HBAD.out (by unfold patOk isPlaceF; simp; omega)
       have HEE : Hid (∀ X : World,RUsedEnd X w.heap.size D S rd i s st b nq qp qt qv (.returned (.tuple #[.slice none 0 0,.int .i64 1]))) := HE
       clear HBAD HE HRPz
       go_upto_region 17 with fail
       have hSS : (fun w' : World => w'.cell? ⟨wr.heap.size,0,none⟩ = some (.int .i64 (x : Int)) /\ w'.cell? ⟨wr.heap.size,1,none⟩ = some (.int .i64 (qt z)) /\ w'.cell? ⟨bu,ou + x * 3 + 2,none⟩ = some (.slice (A x) (rd (s x)).2.nW (C x))) (wr.alloc (.cells #[.int .i64 (x : Int),.int .i64 (qt z),.int .i64 (qv z)] 67)).drew := ⟨d0,d1,d5⟩
       refine wp_region_G (fun w' : World => w'.cell? ⟨wr.heap.size,0,none⟩ = some (.int .i64 (x : Int)) /\ w'.cell? ⟨wr.heap.size,1,none⟩ = some (.int .i64 (qt z)) /\ w'.cell? ⟨bu,ou + x * 3 + 2,none⟩ = some (.slice (A x) (rd (s x)).2.nW (C x))) 26 27 (by kernel_rfl) rfl ?_
       clear d0 d1 d2 p0 p1 p2
       refine tW 0 hSS ?_
       refine tR 1 [15,10,3,2] hSS ?_
       refine tW 2 hSS ?_
       refine tW 3 hSS ?_
       refine tW 4 hSS ?_
       refine tR 5 [15,10,9,8] hSS ?_
       refine tW 6 hSS ?_
       refine tW 7 hSS ?_
       refine tW 8 hSS ?_
       refine tW 9 hSS ?_
       refine tW 10 hSS ?_
       refine tW 11 hSS ?_
       refine tR 12 [15,14,13] hSS ?_
       refine tW 13 hSS ?_
       refine tW 14 hSS ?_
       refine tW 15 hSS ?_
       refine tS 16 hSS ?_
       refine tS 17 hSS ?_
       refine tS 18 hSS ?_
       refine tS 19 hSS ?_
       refine tS 20 hSS ?_
       refine tS 21 hSS ?_
       refine tS 22 hSS ?_
       refine tS 23 hSS ?_
       refine tS 24 hSS ?_
       refine tS 25 hSS ?_
       refine lG 26 fun K hK => ?_
       go_wp2_with fail
       refine hK _ _ ?_
       clear hK
       refine doneG (by kernel_rfl) ?_ _
       go_wp2
       go_ret2
       exact ⟨HEE.out _,hbB.drew⟩
      have z3' : decide (qt z < 0) = false := decide_eq_false z3
      by_cases z4 : (((rd (s x)).2.nW : Nat) : Int) <= qt z
      ·have z4' : decide ((((rd (s x)).2.nW : Nat) : Int) <= qt z) = true := decide_eq_true z4
       have HE := HBAD.out (by unfold patOk isPlaceF; simp; omega)
       have HEE : Hid (∀ X : World,RUsedEnd X w.heap.size D S rd i s st b nq qp qt qv (.returned (.tuple #[.slice none 0 0,.int .i64 1]))) := HE
       clear HBAD HE HRPz
       go_upto_region 17 with fail
       have hSS : (fun w' : World => w'.cell? ⟨wr.heap.size,0,none⟩ = some (.int .i64 (x : Int)) /\ w'.cell? ⟨wr.heap.size,1,none⟩ = some (.int .i64 (qt z)) /\ w'.cell? ⟨bu,ou + x * 3 + 2,none⟩ = some (.slice (A x) (rd (s x)).2.nW (C x))) (wr.alloc (.cells #[.int .i64 (x : Int),.int .i64 (qt z),.int .i64 (qv z)] 67)).drew := ⟨d0,d1,d5⟩
       refine wp_region_G (fun w' : World => w'.cell? ⟨wr.heap.size,0,none⟩ = some (.int .i64 (x : Int)) /\ w'.cell? ⟨wr.heap.size,1,none⟩ = some (.int .i64 (qt z)) /\ w'.cell? ⟨bu,ou + x * 3 + 2,none⟩ = some (.slice (A x) (rd (s x)).2.nW (C x))) 26 27 (by kernel_rfl) rfl ?_
       clear d0 d1 d2 p0 p1 p2
       refine tW 0 hSS ?_
       refine tR 1 [15,10,3,2] hSS ?_
       refine tW 2 hSS ?_
       refine tW 3 hSS ?_
       refine tW 4 hSS ?_
       refine tR 5 [15,10,9,8] hSS ?_
       refine tW 6 hSS ?_
       refine tW 7 hSS ?_
       refine tW 8 hSS ?_
       refine tW 9 hSS ?_
       refine tW 10 hSS ?_
       refine tW 11 hSS ?_
       refine tR 12 [15,14,13] hSS ?_
       refine tW 13 hSS ?_
       refine tW 14 hSS ?_
       refine tW 15 hSS ?_
       refine tW 16 hSS ?_
       refine tR 17 [25] hSS ?_
       refine tW 18 hSS ?_
       refine tW 19 hSS ?_
       refine tR 20 [25,24,23,22,21] hSS ?_
       refine tW 21 hSS ?_
       refine tW 22 hSS ?_
       refine tR 23 [25,24] hSS ?_
       refine tW 24 hSS ?_
       refine tW 25 hSS ?_
       refine lG 26 fun K hK => ?_
       go_wp2_with fail
       refine hK _ _ ?_
       clear hK
       refine doneG (by kernel_rfl) ?_ _
       go_wp2
       go_ret2
       exact ⟨HEE.out _,hbB.drew⟩
      have z4' : decide ((((rd (s x)).2.nW : Nat) : Int) <= qt z) = false := decide_eq_false z4
      obtain ⟨y,hy⟩ : ∃ y : Nat,qt z = (y : Int) := ⟨(qt z).toNat,by omega⟩
      have hyM : y < (rd (s x)).2.nW := by omega
      have hyM' : (y : Int) < (((rd (s x)).2.nW : Nat) : Int) := by omega
      have hy0 : (0 : Int) <= (y : Int) := by omega
      have z4n : decide ((rd (s x)).2.nW <= y) = false := decide_eq_false (by omega)
      have HOK2 : Hid (AllOk (fun k => patOk i (fun j => (rd (s j)).2.nW) (qp k) (qt k)) (z + 1)) := fun k hk => by
       by_cases e : k = z
       ·subst e
        show patOk i (fun j => (rd (s j)).2.nW) (qp k) (qt k) = true
        rw [hy,HPX.out]
        unfold patOk isPlaceF
        simp
        omega
       ·exact HO.out k (by omega)
      rw [hy] at p1 d0 d1 d2 d5 HRPz hbzz z3' z4'
      obtain ⟨gw,hgw,hgB,hcy,hfz⟩ := HRPz.word hxi hyM
      have hRPn := HRPz.put (X' := putF (fun j x => (rd (s j)).2.words x) qp qt qv (z + 1)) HAl.out hxi hyM hgw (qv z) (fun a c => by
       show (if qp z = (a : Int) /\ qt z = (c : Int) then qv z else putF (fun j x => (rd (s j)).2.words x) qp qt qv z a c) = _
       rw [hy,HPX.out]
       by_cases e : a = x /\ c = y
       ·rw [if_pos e,if_pos ⟨by rw [e.1],by rw [e.2]⟩]
       ·rw [if_neg e,if_neg (fun h => e ⟨by omega,by omega⟩)])
      have HRPn : Hid (RPs _ W.heap.size (.slice (some ⟨bu,ou,none⟩) i uc) i s b A (fun j => (rd (s j)).2.nW) C (putF (fun j x => (rd (s j)).2.words x) qp qt qv (z + 1))) := hRPn
      have hb8 := hbzz.drew.drew.setCell (p := ⟨gw,y,none⟩) hgB (.int .i64 (qv z))
      dsimp only at d5
      rw [hgw] at d5
      clear HBAD HO HRPz hRPn hbzz hbB hx hy z1 z2 z3 z4 hgw
      go_upto_region 17 with fail
      have hSS : (fun w' : World => w'.cell? ⟨wr.heap.size,0,none⟩ = some (.int .i64 (x : Int)) /\ w'.cell? ⟨wr.heap.size,1,none⟩ = some (.int .i64 (y : Int)) /\ w'.cell? ⟨bu,ou + x * 3 + 2,none⟩ = some (.slice (some ⟨gw,0,none⟩) (rd (s x)).2.nW (C x))) (wr.alloc (.cells #[.int .i64 (x : Int),.int .i64 (y : Int),.int .i64 (qv z)] 67)).drew := ⟨d0,d1,d5⟩
      refine wp_region_G (fun w' : World => w'.cell? ⟨wr.heap.size,0,none⟩ = some (.int .i64 (x : Int)) /\ w'.cell? ⟨wr.heap.size,1,none⟩ = some (.int .i64 (y : Int)) /\ w'.cell? ⟨bu,ou + x * 3 + 2,none⟩ = some (.slice (some ⟨gw,0,none⟩) (rd (s x)).2.nW (C x))) 26 27 (by kernel_rfl) rfl ?_
      clear p0 p1 p2
      refine tW 0 hSS ?_
      refine tR 1 [15,10,3,2] hSS ?_
      refine tW 2 hSS ?_
      refine tW 3 hSS ?_
      refine tW 4 hSS ?_
      refine tR 5 [15,10,9,8] hSS ?_
      refine tW 6 hSS ?_
      refine tW 7 hSS ?_
      refine tW 8 hSS ?_
      refine tW 9 hSS ?_
      refine tW 10 hSS ?_
      refine tW 11 hSS ?_
      refine tR 12 [15,14,13] hSS ?_
      refine tW 13 hSS ?_
      refine tW 14 hSS ?_
      refine tW 15 hSS ?_
      refine tW 16 hSS ?_
      refine tR 17 [25] hSS ?_
      refine tW 18 hSS ?_
      refine tW 19 hSS ?_
      refine tR 20 [25,24,23,22,21] hSS ?_
      refine tW 21 hSS ?_
      refine tW 22 hSS ?_
      refine tR 23 [25,24] hSS ?_
      refine tW 24 hSS ?_
      refine tW 25 hSS ?_
      refine lG 26 fun K hK => ?_
      go_wp2_with fail
      refine hK _ _ ?_
      clear hK
      refine doneG (by kernel_rfl) ?_ _
      go_upto_region 19 with fail
      clear hSS
      have hSS : (fun w' : World => w'.cell? ⟨wr.heap.size,0,none⟩ = some (.int .i64 (x : Int)) /\ w'.cell? ⟨wr.heap.size,1,none⟩ = some (.int .i64 (y : Int)) /\ w'.cell? ⟨wr.heap.size,2,none⟩ = some (.int .i64 (qv z)) /\ w'.cell? ⟨bu,ou + x * 3 + 2,none⟩ = some (.slice (some ⟨gw,0,none⟩) (rd (s x)).2.nW (C x))) (wr.alloc (.cells #[.int .i64 (x : Int),.int .i64 (y : Int),.int .i64 (qv z)] 67)).drew.drew := ⟨d0,d1,d2,d5⟩
      refine wp_region_G (fun w' : World => w'.cell? ⟨wr.heap.size,0,none⟩ = some (.int .i64 (x : Int)) /\ w'.cell? ⟨wr.heap.size,1,none⟩ = some (.int .i64 (y : Int)) /\ w'.cell? ⟨wr.heap.size,2,none⟩ = some (.int .i64 (qv z)) /\ w'.cell? ⟨bu,ou + x * 3 + 2,none⟩ = some (.slice (some ⟨gw,0,none⟩) (rd (s x)).2.nW (C x))) 11 12 (by kernel_rfl) rfl ?_
      refine tW 0 hSS ?_
      refine tW 1 hSS ?_
      refine tW 6 hSS ?_
      refine tW 8 hSS ?_
      refine tR 2 [] hSS ?_
      refine tW 3 hSS ?_
      refine tW 4 hSS ?_
      refine tR 5 [] hSS ?_
      refine tR 7 [] hSS ?_
      refine tR 9 [] hSS ?_
      refine tW 10 hSS ?_
      refine lG 11 fun K hK => ?_
      go_wp2_with fail
      refine hK _ _ ?_
      clear hK
      refine doneG (by kernel_rfl) ?_ _
      go_wp2
      go_roundw
      case rel => exact ⟨z + 1,by omega,by go_num,HOK2,⟨HRPn.out.own,HRPn.out.row⟩,hb8⟩
      case measure => simp [intOf]; omega
     ·obtain rfl : z = nq := by omega
      have HFIN : Hid (RUsedEnd wr w.heap.size D S rd i s st b z qp qt qv (.returned (.tuple #[.slice ua i uc,.int .i64 0]))) := .ok _ A C HST.out HK.out HO.out (HRP.out.base hbW.size)
      clear HO HRP hq3
      go_wp2
      go_ret2
      exact ⟨HFIN.out,hbwz⟩
end Go.Proofs.YthdccmjdbcllkaaGreatDoor
namespace Go.Proofs.YthdccmjdbcllkaaGreatDoor
open Go.RowKit
theorem own_type {w : World} {B : Nat} {e : TypeId} {s n : Nat} {v : Value} {xs : List Value} (h : w.ownsRow B e s v n xs) {k : Nat} (hk : v.ownBlock = some k) : ∃ c,w.heap[k]? = some (.cells c e (0,0)) := by
 rcases h.2 with ⟨rfl,_⟩ | ⟨g,cap,cur,rfl,_,hg,_⟩
 ·simp [Value.ownBlock] at hk
 ·simp [Value.ownBlock] at hk
  subst hk
  exact ⟨cur,hg⟩
theorem own_kept {w w' : World} {B : Nat} {e : TypeId} {s n : Nat} {v : Value} {xs : List Value} (h : w.ownsRow B e s v n xs) (hk : ∀ k,v.ownBlock = some k -> w'.heap[k]? = w.heap[k]?) : w'.ownsRow B e s v n xs := by
 refine ⟨h.1,?_⟩
 rcases h.2 with ⟨rfl,h0⟩ | ⟨g,cap,cur,rfl,h1,hg,h2⟩
 ·exact .inl ⟨rfl,h0⟩
 ·exact .inr ⟨g,cap,cur,rfl,h1,(hk g rfl).trans hg,h2⟩
end Go.Proofs.YthdccmjdbcllkaaGreatDoor
namespace Go.Proofs.YthdccmjdbcllkaaGreatDoor
open Go.RowKit Go.Maps
def kindO : Obj -> Option TypeId
 | .cells _ t _ => some t
 | _ => none
structure Only (ts : List (Option TypeId)) (w w' : World) : Prop where
 block : ∀ (k : Nat) (o : Obj),w.heap[k]? = some o -> kindO o ∉ ts -> w'.heap[k]? = some o
abbrev tsFiles : List (Option TypeId) := [some 106,none]
abbrev tsRF : List (Option TypeId) := [some 89]
theorem Only.of_turned {p bm : Nat} {w w' : World} {D : DataW Unit} {k : Nat} (h : Turned p bm w w') (hF : FilesAt w p bm D k) : Only tsFiles w w' := ⟨fun q o hq ho => (h.block q (Array.getElem?_eq_some_iff.1 hq).1
 (fun e => ho (by
   subst e
   rw [hF.blk] at hq
   injection hq with hq
   subst hq
   simp [kindO,tsFiles]))
 (fun e => ho (by
   subst e
   obtain ⟨es,clock,hb,_⟩ := hF.own
   rw [hb] at hq
   injection hq with hq
   subst hq
   simp [kindO,tsFiles]))).trans hq⟩
theorem Only.of_turnedQ {B q : Nat} {w w' : World} {L : List FileR} {k : Nat} (h : Turned q q w w') (hR : RAt B w q L k) : Only tsRF w w' := by
 obtain ⟨v,hv,_⟩ := hR.blk
 have key : ∀ (j : Nat) (o : Obj),w.heap[j]? = some o -> kindO o ∉ tsRF -> j ≠ q := fun j o hj ho e => ho (by
  subst e
  rw [hv] at hj
  injection hj with hj
  subst hj
  simp [kindO,tsRF])
 exact ⟨fun j o hj ho => (h.block j (Array.getElem?_eq_some_iff.1 hj).1 (key j o hj ho) (key j o hj ho)).trans hj⟩
theorem Only.of_below {w w' : World} (h : Below w.heap.size w w') : Only [] w w' := ⟨fun j _ hj _ => (h.block j (Array.getElem?_eq_some_iff.1 hj).1).trans hj⟩
theorem FilesAt.only {w w' : World} {p bm : Nat} {D : DataW Unit} {k : Nat} {ts : List (Option TypeId)} (h : FilesAt w p bm D k) (hs : Only ts w w') (h1 : some 106 ∉ ts) (h2 : none ∉ ts) : FilesAt w' p bm D k := by
 refine ⟨hs.block _ _ h.blk h1,?_⟩
 obtain ⟨es,clock,hb,F,hn,hD⟩ := h.own
 exact ⟨es,clock,hs.block _ _ hb h2,F,hn,hD⟩
theorem owns_only {w w' : World} {B s n : Nat} {e : TypeId} {v : Value} {xs : List Value} {ts : List (Option TypeId)} (h : w.ownsRow B e s v n xs) (hs : Only ts w w') (h1 : some e ∉ ts) : w'.ownsRow B e s v n xs := own_kept h fun k hk => by
 obtain ⟨c,hc⟩ := own_type h hk
 rw [hc]
 exact hs.block k _ hc h1
theorem RAt.only {B q : Nat} {w w' : World} {L : List FileR} {k : Nat} {ts : List (Option TypeId)} (h : RAt B w q L k) (hs : Only ts w w') (h1 : some 89 ∉ ts) (h2 : some 111 ∉ ts) : RAt B w' q L k := by
 obtain ⟨v,hv,hr⟩ := h.blk
 exact ⟨h.lo,v,hs.block _ _ hv h1,owns_only hr hs h2⟩
theorem Only.trans {ts : List (Option TypeId)} {w w' w2 : World} (h : Only ts w w') (h2 : Only ts w' w2) : Only ts w w2 := ⟨fun k o hk ho => h2.block k o (h.block k o hk ho) ho⟩
theorem Only.set {w : World} {g : Nat} {c : Array Value} {t : TypeId} {f : Nat × Nat} (h : w.heap[g]? = some (.cells c t f)) (i : Nat) (v : Value) : Only [some t] w (w.setCell ⟨g,i,none⟩ v) := ⟨fun k o hk ho => by
 have hne : k ≠ g := fun e => ho (by
  subst e
  rw [h] at hk
  injection hk with hk
  subst hk
  simp [kindO])
 exact (Below.heap_setCell _ _ _ _ hne).trans hk⟩
end Go.Proofs.YthdccmjdbcllkaaGreatDoor
namespace Go.Proofs.YthdccmjdbcllkaaGreatDoor
open Go.RowKit
def Fr (W : World) (g : Nat) (e : TypeId) (c : Array Value) : Prop := W.heap[g]? = some (.cells c e (0,0))
theorem Fr.new (W : World) (e : TypeId) (c : Array Value) : Fr (W.alloc (.cells c e)) W.heap.size e c := Array.getElem?_push_size
theorem Fr.later {W W' : World} {g : Nat} {e : TypeId} {c : Array Value} (h : Fr W g e c) (hb : Below W.heap.size W W') : Fr W' g e c := (hb.block g (Array.getElem?_eq_some_iff.1 h).1).trans h
theorem Fr.cell {W : World} {g : Nat} {e : TypeId} {c : Array Value} (h : Fr W g e c) {j : Nat} {u : Value} (hj : c[j]? = some u) : W.cell? ⟨g,j,none⟩ = some u := by
 unfold Fr at h
 simp [World.cell?,h,hj]
theorem Fr.grown {W W' : World} {g : Nat} {e : TypeId} {c : Array Value} {B : Nat} {e' : TypeId} {s n : Nat} {v : Value} {xs : List Value} (h : Fr W g e c) (ho : W.ownsRow B e' s v n xs) (hg : W.grownBy W' v.ownBlock) (hne : e ≠ e') : Fr W' g e c := by
 unfold Fr at *
 rw [hg.block g (Array.getElem?_eq_some_iff.1 h).1 ?_]
 ·exact h
 ·intro h2
  rcases ho.2 with ⟨rfl,_⟩ | ⟨g',cap,cur,rfl,_,hg',_⟩
  ·cases h2
  ·simp [Value.ownBlock] at h2
   subst h2
   rw [h] at hg'
   injection hg' with hg'
   injection hg' with _ h3 _
   exact hne h3
def strC1 (s : Nat -> ByteArray) (j : Nat) : List Value := [.string (s j)]
structure UseIn (s : Nat -> ByteArray) (b : Nat -> Int) (O : Nat -> ObjF) (V : Nat -> ObjV) (w0 W : World) (B0 n nN nB nO : Nat) (vN vB vO : Value) : Prop where
 base : B0 <= w0.heap.size
 low : Below B0 w0 W
 names : W.ownsRow B0 9 1 vN nN (joinC (strC1 s) nN)
 bases : W.ownsRow B0 3 1 vB nB (joinC (intC b) nB)
 objs : OwnObjs B0 W vO nO V O
 at' : ∀ j,j < n -> ObjAt W (V j) (O j)
 sN : ∀ j,j < n -> ObjSep (V j) (O j) vN.ownBlock
 sB : ∀ j,j < n -> ObjSep (V j) (O j) vB.ownBlock
 sO : ∀ j,j < n -> ObjSep (V j) (O j) vO.ownBlock
section
variable {s : Nat -> ByteArray} {b : Nat -> Int} {O : Nat -> ObjF} {V : Nat -> ObjV} {w0 W : World} {B0 n nN nB nO : Nat} {vN vB vO : Value}
theorem UseIn.size (h : UseIn s b O V w0 W B0 n nN nB nO vN vB vO) : B0 <= W.heap.size := Nat.le_trans h.base h.low.size
theorem UseIn.later (h : UseIn s b O V w0 W B0 n nN nB nO vN vB vO) {W' : World} (hb : Below W.heap.size W W') : UseIn s b O V w0 W' B0 n nN nB nO vN vB vO :=
 ⟨h.base,h.low.trans (hb.mono h.size),owns_below h.names hb,owns_below h.bases hb,owns_below h.objs hb,fun j hj => (h.at' j hj).later hb,h.sN,h.sB,h.sO⟩
theorem UseIn.alloc (h : UseIn s b O V w0 W B0 n nN nB nO vN vB vO) (ob : Obj) : UseIn s b O V w0 (W.alloc ob) B0 n nN nB nO vN vB vO := h.later ((Below.refl _ _).alloc (Nat.le_refl _) _)
theorem sepNext (hA : ∀ j,j < n -> ObjAt W (V j) (O j)) {u u' : Value} (h : ∀ j,j < n -> ObjSep (V j) (O j) u.ownBlock) (hs : SameOrNew W.heap.size u u') : ∀ j,j < n -> ObjSep (V j) (O j) u'.ownBlock := fun j hj => (h j hj).next (hA j hj) (Nat.le_refl _) hs
theorem sameNew {u u' : Value} (h : u'.ownBlock = u.ownBlock ∨ u'.ownBlock = some W.heap.size) : SameOrNew W.heap.size u u' := h.imp id fun h => ⟨_,h,Nat.le_refl _⟩
theorem UseIn.appN (h : UseIn s b O V w0 W B0 n nN nB nO vN vB vO) {g : Nat} (hg : Fr W g 9 #[.string (s nN)]) (hn : nN < 1000) :
 ∃ v' W',(Builtin.append_ #[72,72] 72 #[vN,.slice (some ⟨g,0,none⟩) 1 1]).run Tryz.prog W = .ok v' W' /\ UseIn s b O V w0 W' B0 n (nN + 1) nB nO v' vB vO /\ (∀ k e c,Fr W k e c -> e ≠ 9 -> Fr W' k e c) /\ Below B0 W W' := by
 have hinfo : (Tryz.prog.info? 9).map (fun i => (i.zero,i.size,i.bytes)) = some (some (.string ⟨#[]⟩),1,16) := by kernel_rfl
 obtain ⟨i,hi,hzz⟩ := Option.map_eq_some_iff.1 hinfo
 simp only [Prod.mk.injEq] at hzz
 obtain ⟨hz,hs,hb⟩ := hzz
 obtain ⟨v',W',h1,h2,h3,_,h5⟩ := run_append_own_at (P := Tryz.prog) W B0 72 72 9 i _ 1 16 Tryz.underlying72 hi hz hs hb rfl (by decide) vN nN _ h.names ⟨g,0,none⟩ 1 1 [.string (s nN)] rfl
  (fun j u hj => by
    match j,hj with
    | 0,hj => simp at hj; subst hj; simpa [Addr.add] using hg.cell (j := 0) rfl
    | j + 1,hj => simp at hj) (fun u hu => by simp at hu; subst hu; rfl) (by simp only [maxLen]; omega) (by omega) h.size
 have hb2 := below_grown h.names h.size h3
 refine ⟨v',W',h1,⟨h.base,h.low.trans hb2,h2,h.bases.kept h3 (ownsSep h.bases h.names (by decide)),h.objs.kept h3 (ownsSep h.objs h.names (by decide)),fun j hj => (h.at' j hj).grown h3 (h.sN j hj),sepNext h.at' h.sN (sameNew h5),h.sB,h.sO⟩,fun k e c hk hne => hk.grown h.names h3 hne,hb2⟩
theorem UseIn.appB (h : UseIn s b O V w0 W B0 n nN nB nO vN vB vO) {g : Nat} (hg : Fr W g 3 #[.int .i64 (b nB)]) (hn : nB < 1000) :
 ∃ v' W',(Builtin.append_ #[97,97] 97 #[vB,.slice (some ⟨g,0,none⟩) 1 1]).run Tryz.prog W = .ok v' W' /\ UseIn s b O V w0 W' B0 n nN (nB + 1) nO vN v' vO /\ (∀ k e c,Fr W k e c -> e ≠ 3 -> Fr W' k e c) /\ Below B0 W W' := by
 have hinfo : (Tryz.prog.info? 3).map (fun i => (i.zero,i.size,i.bytes)) = some (some (.int .i64 0),1,8) := by kernel_rfl
 obtain ⟨i,hi,hzz⟩ := Option.map_eq_some_iff.1 hinfo
 simp only [Prod.mk.injEq] at hzz
 obtain ⟨hz,hs,hb⟩ := hzz
 obtain ⟨v',W',h1,h2,h3,_,h5⟩ := run_append_own_at (P := Tryz.prog) W B0 97 97 3 i _ 1 8 Tryz.underlying97 hi hz hs hb rfl (by decide) vB nB _ h.bases ⟨g,0,none⟩ 1 1 [.int .i64 (b nB)] rfl
  (fun j u hj => by
    match j,hj with
    | 0,hj => simp at hj; subst hj; simpa [Addr.add] using hg.cell (j := 0) rfl
    | j + 1,hj => simp at hj) (fun u hu => by simp at hu; subst hu; rfl) (by simp only [maxLen]; omega) (by omega) h.size
 have hb2 := below_grown h.bases h.size h3
 refine ⟨v',W',h1,⟨h.base,h.low.trans hb2,h.names.kept h3 (ownsSep h.names h.bases (by decide)),h2,h.objs.kept h3 (ownsSep h.objs h.bases (by decide)),fun j hj => (h.at' j hj).grown h3 (h.sB j hj),h.sN,sepNext h.at' h.sB (sameNew h5),h.sO⟩,fun k e c hk hne => hk.grown h.bases h3 hne,hb2⟩
theorem UseIn.appO (h : UseIn s b O V w0 W B0 n nN nB nO vN vB vO) {g : Nat} {v : ObjV} {o : ObjF} (hv : V nO = v) (ho : O nO = o) (hg : Fr W g 116 #[.slice v.aN o.nN v.cN,.slice v.aW o.nW v.cW,.slice v.aS o.nS v.cS,.slice v.aT o.nT v.cT]) (hn : nO < 1000) :
 ∃ v' W',(Builtin.append_ #[96,96] 96 #[vO,.slice (some ⟨g,0,none⟩) 1 1]).run Tryz.prog W = .ok v' W' /\ UseIn s b O V w0 W' B0 n nN nB (nO + 1) vN vB v' /\ Below B0 W W' := by
 have hinfo : (Tryz.prog.info? 116).map (fun i => (i.zero,i.size,i.bytes)) = some (some (.agg #[.slice none 0 0,.slice none 0 0,.slice none 0 0,.slice none 0 0]),4,96) := by kernel_rfl
 obtain ⟨i,hi,hzz⟩ := Option.map_eq_some_iff.1 hinfo
 simp only [Prod.mk.injEq] at hzz
 obtain ⟨hz,hs,hb⟩ := hzz
 obtain ⟨v',W',h1,h2,h3,_,h5⟩ := run_append_own_at (P := Tryz.prog) W B0 96 96 116 i _ 4 96 Tryz.underlying96 hi hz hs hb rfl (by decide) vO nO _ h.objs ⟨g,0,none⟩ 1 1 (objC V O nO) rfl
  (fun j u hj => by
    simp only [objC,hv,ho] at hj
    match j,hj with
    | 0,hj => simp at hj; subst hj; simpa [Addr.add] using hg.cell (j := 0) rfl
    | 1,hj => simp at hj; subst hj; simpa [Addr.add] using hg.cell (j := 1) rfl
    | 2,hj => simp at hj; subst hj; simpa [Addr.add] using hg.cell (j := 2) rfl
    | 3,hj => simp at hj; subst hj; simpa [Addr.add] using hg.cell (j := 3) rfl
    | j + 4,hj => simp at hj) (fun u hu => objs_one (n := nO + 1) (V := V) (O := O) (by show u ∈ joinC (objC V O) nO ++ objC V O nO; exact List.mem_append_right _ hu)) (by simp only [maxLen]; omega) (by omega) h.size
 have hb2 := below_grown h.objs h.size h3
 refine ⟨v',W',h1,⟨h.base,h.low.trans hb2,h.names.kept h3 (ownsSep h.names h.objs (by decide)),h.bases.kept h3 (ownsSep h.bases h.objs (by decide)),h2,fun j hj => (h.at' j hj).grown h3 (h.sO j hj),h.sN,h.sB,sepNext h.at' h.sO (sameNew h5)⟩,hb2⟩
theorem UseIn.next {i : Nat} (h : UseIn s b O V w0 W B0 i i i i vN vB vO) {W' : World} {v : ObjV} (hb : Below W.heap.size W W') (hA : ObjAt W' v (O i)) (hN : ObjNew W.heap.size v (O i)) :
 ∃ V',V' i = v /\ UseIn s b O V' w0 W' B0 (i + 1) i i i vN vB vO := by
 have h2 := h.later hb
 have e : ∀ j,j < i -> (fun j => if j = i then v else V j) j = V j := fun j hj => if_neg (Nat.ne_of_lt hj)
 have ev : (fun j => if j = i then v else V j) i = v := if_pos rfl
 refine ⟨fun j => if j = i then v else V j,ev,h2.base,h2.low,h2.names,h2.bases,?_,fun j hj => ?_,fun j hj => ?_,fun j hj => ?_,fun j hj => ?_⟩
 ·show W'.ownsRow B0 116 4 vO i (joinC (objC (fun j => if j = i then v else V j) O) i)
  rw [joinC_congr (h := objC V O) (fun j hj => by unfold objC; rw [e j hj])]
  exact h2.objs
 all_goals
  by_cases hji : j = i
  ·subst hji
   rw [if_pos rfl]
   first
    | exact hA
    | exact hN.sep (fun k hk => (h.names.lt k hk).2)
    | exact hN.sep (fun k hk => (h.bases.lt k hk).2)
    | exact hN.sep (fun k hk => (h.objs.lt k hk).2)
  ·rw [if_neg hji]
   first
    | exact h2.at' j (by omega)
    | exact h2.sN j (by omega)
    | exact h2.sB j (by omega)
    | exact h2.sO j (by omega)
end
end Go.Proofs.YthdccmjdbcllkaaGreatDoor
namespace Go.Proofs.YthdccmjdbcllkaaGreatDoor
open Go.RowKit Go.Maps
inductive UseEnd (w : World) (B0 : Nat) (D : DataW Unit) (S : ByteArray -> Int) (rd : ByteArray -> Nat × ObjF) (n : Nat) (s : Nat -> ByteArray) (st b : Nat -> Int) (np : Nat) (p t v : Nat -> Int) : Ending -> Prop
 | stale (h : (!staleTo D S s st n && decide (0 < n)) = false) : UseEnd w B0 D S rd n s st b np p t v (.returned (.tuple #[.slice none 0 0,errV 10]))
 | bad (i : Nat) (hi : i < n) (h0 : ∀ j,j < i -> (rd (s j)).1 = 0) (hf : (rd (s i)).1 ≠ 0) (hq : (!staleTo D S s st n && decide (0 < n)) = true) : UseEnd w B0 D S rd n s st b np p t v (.returned (.tuple #[.slice none 0 0,errV (rd (s i)).1]))
 | lay (e : Ending) (h : (!staleTo D S s st n && decide (0 < n)) = true) (h0 : ∀ j,j < n -> (rd (s j)).1 = 0) (hl : LayEnd w B0 n s b (fun j => (rd (s j)).2) np p t v e) : UseEnd w B0 D S rd n s st b np p t v e
theorem rows1 {w : World} {B n : Nat} {e : TypeId} {v : Value} {f : Nat -> Value} (h : w.ownsRow B e 1 v n (joinC (fun i => [f i]) n)) : ∃ a c,v = .slice a n c /\ RowAt w a n f := by
 obtain ⟨a,c,rfl,hc⟩ := owns_shape h
 refine ⟨a,c,rfl,?_⟩
 by_cases h0 : n = 0
 ·exact .inl h0
 ·have key : ∀ i,i < n -> ∃ k,a = some ⟨k,0,none⟩ /\ B <= k /\ w.cell? ⟨k,i,none⟩ = some (f i) := fun i hi => by
   have := owns_cell (j := i) (u := f i) h (by
    have := joinC_at (g := fun i => [f i]) (s := 1) (n := n) (i := i) (j := 0) (fun i _ => rfl) hi (by decide)
    simpa using this)
   simpa using this
  obtain ⟨k,ha,_,_⟩ := key 0 (by omega)
  refine .inr ⟨k,0,ha,fun i hi => ?_⟩
  obtain ⟨k',ha',_,hc'⟩ := key i hi
  rw [ha] at ha'
  injection ha' with ha'
  injection ha' with ha'
  subst ha'
  simpa using hc'
theorem OutAt.base {w : World} {B B' g n : Nat} {M : Nat -> Nat} {A : Nat -> Option Addr} {C G : Nat -> Nat} {X : Nat -> Nat -> Int} (h : OutAt w B g n M A C G X) (hB : B' <= B) : OutAt w B' g n M A C G X :=
 ⟨Nat.le_trans hB h.hB,h.lt,h.top,h.free,h.adr,fun i hi h0 => Nat.le_trans hB (h.own i hi h0),h.ne,h.row,h.rfree,h.apart⟩
theorem LayEnd.base {w : World} {B B' n : Nat} {nm : Nat -> ByteArray} {b : Nat -> Int} {O : Nat -> ObjF} {np : Nat} {p t v : Nat -> Int} {e : Ending} (h : LayEnd w B n nm b O np p t v e) (hB : B' <= B) : LayEnd w B' n nm b O np p t v e := by
 cases h with
 | bad h => exact .bad h
 | ok u g A C G h ho hu => exact .ok u g A C G h (ho.base hB) (owns_base hu hB)
set_option maxRecDepth 100000 in
set_option maxHeartbeats 16000000 in
theorem use_any (w : World) (p bm : Nat) (D : DataW Unit) (k : Nat) (T : ByteArray -> ByteArray) (S : ByteArray -> Int) (root : ByteArray) (n nq : Nat) (s : Nat -> ByteArray) (st b : Nat -> Int) (qp qt qv : Nat -> Int) (aP aQ : Option Addr) (cP cQ : Nat) (h : FilesAt w p bm D k) (hS : Stamps D S) (hT : Texts D T) (hE : Env w) (hn : n <= 900) (hnq : nq <= 900) (hs : ∀ i,i < n -> (s i).size <= maxLen)
 (hr : StmRow w aP n s st b) (hq : PatRow w aQ nq qp qt qv) :
 Calls Tryz.prog 22 #[.agg #[.string root,.slice aP n cP,.slice aQ nq cQ],.pointer (some ⟨p,0,none⟩)] w fun e w' => UseEnd w' w.heap.size D S (rdD D T) n s st b nq qp qt qv e /\ Below w.heap.size w w' := by
 have hb0 : Below w.heap.size w (w.alloc (.cells #[.string root,.slice aP n cP,.slice aQ nq cQ] 26)) := (Below.refl _ _).alloc (Nat.le_refl _) _
 have HF := fresh_any _ p bm D k S root n nq s st b aP aQ cP cQ (h.later hb0) hS (by omega) hs (hr.later hb0)
 have e0 : (w.alloc (.cells #[.string root,.slice aP n cP,.slice aQ nq cQ] 26)).cell? ⟨w.heap.size,0,none⟩ = some (.string root) := by simp [go_sem]
 have e1 : (w.alloc (.cells #[.string root,.slice aP n cP,.slice aQ nq cQ] 26)).cell? ⟨w.heap.size,1,none⟩ = some (.slice aP n cP) := by simp [go_sem]
 have e2 : (w.alloc (.cells #[.string root,.slice aP n cP,.slice aQ nq cQ] 26)).cell? ⟨w.heap.size,2,none⟩ = some (.slice aQ nq cQ) := by simp [go_sem]
 cases hst : (!staleTo D S s st n && decide (0 < n)) with
 | false =>
  rw [hst] at HF
  go_enter Tryz.func22,Tryz.ntmps22
  go_wp2_with fail
  refine HF.mono ?_
  rintro e w1 ⟨rfl,hb1⟩
  have hb2 := hb0.trans (hb1.mono hb0.size)
  clear HF e0 e1 e2
  go_wp2
  go_ret2
  exact ⟨.stale hst,hb2⟩
 | true =>
  rw [hst] at HF
  have HST : Hid ((!staleTo D S s st n && decide (0 < n)) = true) := hst
  have hfr : ∀ i,i < n -> Maps.has D (keyB (s i)) = true := fun i hi => by
   cases hh : Maps.has D (keyB (s i)) with
   | true => rfl
   | false =>
    have := anyTo_yes (p := fun i => !(Maps.has D (keyB (s i)) && decide (S (s i) = st i))) hi (by rw [hh]; rfl)
    unfold staleTo at hst
    rw [this] at hst
    cases hst
  clear hst
  have h1 := h.later hb0
  have hr1 := hr.later hb0
  have hq1 := hq.later hb0
  have hE1 := hE.later hb0
  have hz1 : w.heap.size < (w.alloc (.cells #[.string root,.slice aP n cP,.slice aQ nq cQ] 26)).heap.size := by simp
  generalize hW0 : w.alloc (.cells #[.string root,.slice aP n cP,.slice aQ nq cQ] 26) = W0 at *
  go_enter Tryz.func22,Tryz.ntmps22
  go_wp2_with fail
  refine HF.mono ?_
  rintro e W ⟨rfl,hb1⟩
  have hbW := hb0.trans (hb1.mono hb0.size)
  have hzW : w.heap.size < W.heap.size := Nat.lt_of_lt_of_le hz1 hb1.size
  replace e1 := cell_later hb1 e1
  replace e2 := cell_later hb1 e2
  replace h1 := h1.later hb1
  replace hr1 := hr1.later hb1
  replace hq1 := hq1.later hb1
  replace hE1 := hE1.later hb1
  clear HF hb1 hb0 hz1 h hr hq hE e0
  go_wp2
  go_loopw [6,7,8,22] (fun y6 y7 y8 y22 wr => ∃ (i : Nat) (vN vB vO : Value) (V : Nat -> ObjV),i <= n /\ y22 = .int .i64 i /\ y6 = vN /\ y7 = vB /\ y8 = vO /\ Hid (∀ j,j < i -> (rdD D T (s j)).1 = 0) /\ UseIn s b (fun j => (rdD D T (s j)).2) V W wr W.heap.size i i i i vN vB vO) (fun _ _ _ y22 _ => n - (intOf y22).toNat)
  case atStart => exact ⟨0,_,_,_,fun _ => ⟨none,0,none,0,none,0,none,0⟩,Nat.zero_le _,rfl,rfl,rfl,rfl,(fun j hj => absurd hj (Nat.not_lt_zero _)),⟨Nat.le_refl _,Below.refl _ _,World.ownsRow_nil _ _ _ _,World.ownsRow_nil _ _ _ _,ownObjs_nil _ _ _ _,fun j hj => absurd hj (Nat.not_lt_zero _),fun j hj => absurd hj (Nat.not_lt_zero _),fun j hj => absurd hj (Nat.not_lt_zero _),fun j hj => absurd hj (Nat.not_lt_zero _)⟩⟩
  case round =>
   obtain ⟨i,vN,vB,vO,V,hi,rfl,rfl,rfl,rfl,HK,hU⟩ := hrel
   have hlow := hU.low
   have e1r := cell_later hlow e1
   have e2r := cell_later hlow e2
   by_cases hlt : i < n
   ·have hr2 := hr1
    rcases hr2 with h0 | ⟨bk,o,rfl,hc⟩
    ·omega
    obtain ⟨x0,x1,x2⟩ := hc i hlt
    have y0 := cell_later hlow x0
    have HR := fileRead_any wr p bm D k (s i) (h1.later hlow) (hs i hlt)
    have hi0 : (0 : Int) <= (i : Int) := by omega
    have hi1 : (i : Int) < (n : Int) := by omega
    clear hc hr1 x1
    go_wp2_with fail
    refine HR.mono ?_
    rintro e w2 ⟨⟨t,nst,f,rfl,hRI⟩,hb3⟩
    obtain ⟨rfl,hat⟩ := hRI.yes (hfr i hlt)
    have htT := hT.is (s i) t nst (hfr i hlt) hat
    have HIS : Hid (rdD D T (s i) = parseF t) := by unfold rdD; rw [if_pos (hfr i hlt),<- htT]; exact rfl
    have q0 : errV 0 = .nilIface := rfl
    rw [q0]
    have hU2 := hU.later hb3
    have HP := parse_new t w2 (hE1.later hU2.low)
    clear HR hRI hat htT hU y0
    go_wp2_with fail
    refine HP.mono ?_
    rintro e w3 ⟨⟨vo,rfl,hOA,hON⟩,hbP⟩
    clear HP
    by_cases hF : (parseF t).1 = 0
    ·have HK2 : Hid (∀ j,j < i + 1 -> (rdD D T (s j)).1 = 0) := fun j hj => by
      by_cases hji : j = i
      ·subst hji; rw [HIS.out]; exact hF
      ·exact HK.out j (by omega)
     rw [hF,q0]
     have HO : Hid ((parseF t).2 = (fun j => (rdD D T (s j)).2) i) := by show _ = (rdD D T (s i)).2; rw [HIS.out]
     rw [HO.out] at hOA hON
     obtain ⟨V2,hVi,hU3⟩ := hU2.next hbP hOA hON
     have eoo : (parseF t).2 = (rdD D T (s i)).2 := HO.out
     rw [eoo]
     have hoo : (fun j => (rdD D T (s j)).2) i = (rdD D T (s i)).2 := rfl
     generalize hO : (fun j => (rdD D T (s j)).2) = O at *
     generalize (rdD D T (s i)).2 = oo at *
     have hX4 := Fr.new w3 116 #[.slice vo.aN oo.nN vo.cN,.slice vo.aW oo.nW vo.cW,.slice vo.aS oo.nS vo.cS,.slice vo.aT oo.nT vo.cT]
     have hU4 := hU3.alloc (.cells #[.slice vo.aN oo.nN vo.cN,.slice vo.aW oo.nW vo.cW,.slice vo.aS oo.nS vo.cS,.slice vo.aT oo.nT vo.cT] 116)
     unfold ObjV.cells
     clear hU2 hU3 hOA hON hbP hF HIS HO eoo hb3
     have HVi : Hid (V2 i = vo) := hVi
     have Hoo : Hid (O i = oo) := hoo
     have HO2 : Hid ((fun j => (rdD D T (s j)).2) = O) := hO
     clear hVi hoo hO
     go_wp2
     generalize w3.alloc (.cells #[.slice vo.aN oo.nN vo.cN,.slice vo.aW oo.nW vo.cW,.slice vo.aS oo.nS vo.cS,.slice vo.aT oo.nT vo.cT] 116) = w4 at *
     generalize w3.heap.size = bx at *
     have mkS : ∀ ww : World,Below W.heap.size W ww -> Fr ww bx 116 #[.slice vo.aN oo.nN vo.cN,.slice vo.aW oo.nW vo.cW,.slice vo.aS oo.nS vo.cS,.slice vo.aT oo.nT vo.cT] -> (fun w' : World => w'.cell? ⟨w.heap.size,1,none⟩ = some (.slice (some ⟨bk,o,none⟩) n cP) /\ w'.cell? ⟨bk,o + i * 3,none⟩ = some (.string (s i)) /\ w'.cell? ⟨bk,o + i * 3 + 2,none⟩ = some (.int .i64 (b i)) /\ w'.cell? ⟨bx,0,none⟩ = some (.slice vo.aN oo.nN vo.cN) /\ w'.cell? ⟨bx,1,none⟩ = some (.slice vo.aW oo.nW vo.cW) /\ w'.cell? ⟨bx,2,none⟩ = some (.slice vo.aS oo.nS vo.cS) /\ w'.cell? ⟨bx,3,none⟩ = some (.slice vo.aT oo.nT vo.cT)) ww := fun ww hb hX => ⟨cell_later hb e1,cell_later hb x0,cell_later hb x2,hX.cell (j := 0) rfl,hX.cell (j := 1) rfl,hX.cell (j := 2) rfl,hX.cell (j := 3) rfl⟩
     have hU5 := hU4.later (Below.refl _ _).drew
     have hX5 := hX4.later (Below.refl _ _).drew
     have hSS := mkS _ hU5.low hX5
     clear hU4 hX4 e1r e2r
     refine wp_region_G (fun w' : World => w'.cell? ⟨w.heap.size,1,none⟩ = some (.slice (some ⟨bk,o,none⟩) n cP) /\ w'.cell? ⟨bk,o + i * 3,none⟩ = some (.string (s i)) /\ w'.cell? ⟨bk,o + i * 3 + 2,none⟩ = some (.int .i64 (b i)) /\ w'.cell? ⟨bx,0,none⟩ = some (.slice vo.aN oo.nN vo.cN) /\ w'.cell? ⟨bx,1,none⟩ = some (.slice vo.aW oo.nW vo.cW) /\ w'.cell? ⟨bx,2,none⟩ = some (.slice vo.aS oo.nS vo.cS) /\ w'.cell? ⟨bx,3,none⟩ = some (.slice vo.aT oo.nT vo.cT)) 21 25 (by kernel_rfl) rfl ?_
     generalize w4.drew = w5 at *
     refine tW 0 hSS ?_
     refine tW 1 hSS ?_
     refine tW 3 hSS ?_
     refine tW 9 hSS ?_
     refine tW 10 hSS ?_
     refine tW 12 hSS ?_
     refine tW 18 hSS ?_
     refine tR 2 [17,8,7,6,5,4] hSS ?_
     refine tW 4 hSS ?_
     refine tW 5 hSS ?_
     refine tR 6 [17,8,7] hSS ?_
     refine tR 11 [17,16,15,14,13] hSS ?_
     refine tW 13 hSS ?_
     refine tW 14 hSS ?_
     refine tR 15 [17,16] hSS ?_
     refine tR 19 [20] hSS ?_
     have hSS5 := hSS
     clear hSS
     refine readyG [7,16,20] (by kernel_rfl) (by simp) (allG_cons 7 rfl (fun K hK => ?_) (allG_cons 16 rfl (fun K hK => ?_) (allG_cons 20 rfl (fun K hK => ?_) allG_nil)))
     ·go_wp2_with fail
      have hU6 := hU5.alloc (.cells #[.string (s i)] 9)
      have hX6 := hX5.later ((Below.refl _ _).alloc (Nat.le_refl _) (.cells #[.string (s i)] 9))
      have f7_6 := Fr.new w5 9 #[.string (s i)]
      have hSS6 := mkS _ hU6.low hX6
      refine hK _ _ hSS6 ?_
      clear hK hU5 hX5  hSS5
      generalize w5.alloc (.cells #[.string (s i)] 9) = w6 at *
      generalize w5.heap.size = g7 at *
      refine readyG [8,16,20] (by kernel_rfl) (by simp) (allG_cons 8 rfl (fun K hK => ?_) (allG_cons 16 rfl (fun K hK => ?_) (allG_cons 20 rfl (fun K hK => ?_) allG_nil)))
      ·obtain ⟨v8,w7,hr,hU7,hk,_⟩ := hU6.appN f7_6 (by omega)
       go_wp2_with (at_builtin; refine list_run rfl (.tmp 48) (.tmp 55) 72 rfl _ _ _ rfl rfl hr ?_)
       have hX7 := hk _ _ _ hX6 (by decide)
       have hSS7 := mkS _ hU7.low hX7
       refine hK _ _ hSS7 ?_
       clear hK hr hk hU6 hX6 hSS6 f7_6
       refine readyG [16,20] (by kernel_rfl) (by simp) (allG_cons 16 rfl (fun K hK => ?_) (allG_cons 20 rfl (fun K hK => ?_) allG_nil))
       ·go_wp2_with fail
        have hU8 := hU7.alloc (.cells #[.int .i64 (b i)] 3)
        have hX8 := hX7.later ((Below.refl _ _).alloc (Nat.le_refl _) (.cells #[.int .i64 (b i)] 3))
        have f16_8 := Fr.new w7 3 #[.int .i64 (b i)]
        have hSS8 := mkS _ hU8.low hX8
        refine hK _ _ hSS8 ?_
        clear hK hU7 hX7  hSS7
        generalize w7.alloc (.cells #[.int .i64 (b i)] 3) = w8 at *
        generalize w7.heap.size = g16 at *
        refine readyG [17,20] (by kernel_rfl) (by simp) (allG_cons 17 rfl (fun K hK => ?_) (allG_cons 20 rfl (fun K hK => ?_) allG_nil))
        ·obtain ⟨v17,w9,hr,hU9,hk,_⟩ := hU8.appB f16_8 (by omega)
         go_wp2_with (at_builtin; refine list_run rfl (.tmp 57) (.tmp 64) 97 rfl _ _ _ rfl rfl hr ?_)
         have hX9 := hk _ _ _ hX8 (by decide)
         have hSS9 := mkS _ hU9.low hX9
         refine hK _ _ hSS9 ?_
         clear hK hr hk hU8 hX8 hSS8 f16_8
         refine oG 20 fun K hK => ?_
         go_wp2_with fail
         have hU10 := hU9.alloc (.cells #[.slice vo.aN oo.nN vo.cN,.slice vo.aW oo.nW vo.cW,.slice vo.aS oo.nS vo.cS,.slice vo.aT oo.nT vo.cT] 116)
         have hX10 := hX9.later ((Below.refl _ _).alloc (Nat.le_refl _) (.cells #[.slice vo.aN oo.nN vo.cN,.slice vo.aW oo.nW vo.cW,.slice vo.aS oo.nS vo.cS,.slice vo.aT oo.nT vo.cT] 116))
         have f20_10 := Fr.new w9 116 #[.slice vo.aN oo.nN vo.cN,.slice vo.aW oo.nW vo.cW,.slice vo.aS oo.nS vo.cS,.slice vo.aT oo.nT vo.cT]
         have hSS10 := mkS _ hU10.low hX10
         refine hK _ _ hSS10 ?_
         clear hK hU9 hX9  hSS9
         generalize w9.alloc (.cells #[.slice vo.aN oo.nN vo.cN,.slice vo.aW oo.nW vo.cW,.slice vo.aS oo.nS vo.cS,.slice vo.aT oo.nT vo.cT] 116) = w10 at *
         generalize w9.heap.size = g20 at *
         refine lG 21 fun K hK => ?_
         obtain ⟨v21,w11,hr,hU11,_⟩ := hU10.appO HVi.out Hoo.out f20_10 (by omega)
         go_wp2_with (at_builtin; refine list_run rfl (.tmp 66) (.tmp 68) 96 rfl _ _ _ rfl rfl hr ?_)
         refine hK _ _ ?_
         clear hK hr hU10 hX10 f20_10 hSS10
         refine tA 22 ?_
         refine tA 23 ?_
         refine tA 24 ?_
         refine doneG (by kernel_rfl) ?_ _
         go_wp2
         go_roundw
         case rel => exact ⟨i + 1,_,_,_,V2,by omega,by go_num,rfl,rfl,rfl,HK2,by rw [HO2.out]; exact hU11⟩
         case measure => simp [intOf]; omega
        ·go_wp2_with fail
         have hU9 := hU8.alloc (.cells #[.slice vo.aN oo.nN vo.cN,.slice vo.aW oo.nW vo.cW,.slice vo.aS oo.nS vo.cS,.slice vo.aT oo.nT vo.cT] 116)
         have hX9 := hX8.later ((Below.refl _ _).alloc (Nat.le_refl _) (.cells #[.slice vo.aN oo.nN vo.cN,.slice vo.aW oo.nW vo.cW,.slice vo.aS oo.nS vo.cS,.slice vo.aT oo.nT vo.cT] 116))
         have f16_9 := f16_8.later ((Below.refl _ _).alloc (Nat.le_refl _) (.cells #[.slice vo.aN oo.nN vo.cN,.slice vo.aW oo.nW vo.cW,.slice vo.aS oo.nS vo.cS,.slice vo.aT oo.nT vo.cT] 116))
         have f20_9 := Fr.new w8 116 #[.slice vo.aN oo.nN vo.cN,.slice vo.aW oo.nW vo.cW,.slice vo.aS oo.nS vo.cS,.slice vo.aT oo.nT vo.cT]
         have hSS9 := mkS _ hU9.low hX9
         refine hK _ _ hSS9 ?_
         clear hK hU8 hX8 f16_8 hSS8
         generalize w8.alloc (.cells #[.slice vo.aN oo.nN vo.cN,.slice vo.aW oo.nW vo.cW,.slice vo.aS oo.nS vo.cS,.slice vo.aT oo.nT vo.cT] 116) = w9 at *
         generalize w8.heap.size = g20 at *
         refine oG 17 fun K hK => ?_
         obtain ⟨v17,w10,hr,hU10,hk,_⟩ := hU9.appB f16_9 (by omega)
         go_wp2_with (at_builtin; refine list_run rfl (.tmp 57) (.tmp 64) 97 rfl _ _ _ rfl rfl hr ?_)
         have hX10 := hk _ _ _ hX9 (by decide)
         have f20_10 := hk _ _ _ f20_9 (by decide)
         have hSS10 := mkS _ hU10.low hX10
         refine hK _ _ hSS10 ?_
         clear hK hr hk hU9 hX9 hSS9 f16_9 f20_9
         refine lG 21 fun K hK => ?_
         obtain ⟨v21,w11,hr,hU11,_⟩ := hU10.appO HVi.out Hoo.out f20_10 (by omega)
         go_wp2_with (at_builtin; refine list_run rfl (.tmp 66) (.tmp 68) 96 rfl _ _ _ rfl rfl hr ?_)
         refine hK _ _ ?_
         clear hK hr hU10 hX10 f20_10 hSS10
         refine tA 22 ?_
         refine tA 23 ?_
         refine tA 24 ?_
         refine doneG (by kernel_rfl) ?_ _
         go_wp2
         go_roundw
         case rel => exact ⟨i + 1,_,_,_,V2,by omega,by go_num,rfl,rfl,rfl,HK2,by rw [HO2.out]; exact hU11⟩
         case measure => simp [intOf]; omega
       ·go_wp2_with fail
        have hU8 := hU7.alloc (.cells #[.slice vo.aN oo.nN vo.cN,.slice vo.aW oo.nW vo.cW,.slice vo.aS oo.nS vo.cS,.slice vo.aT oo.nT vo.cT] 116)
        have hX8 := hX7.later ((Below.refl _ _).alloc (Nat.le_refl _) (.cells #[.slice vo.aN oo.nN vo.cN,.slice vo.aW oo.nW vo.cW,.slice vo.aS oo.nS vo.cS,.slice vo.aT oo.nT vo.cT] 116))
        have f20_8 := Fr.new w7 116 #[.slice vo.aN oo.nN vo.cN,.slice vo.aW oo.nW vo.cW,.slice vo.aS oo.nS vo.cS,.slice vo.aT oo.nT vo.cT]
        have hSS8 := mkS _ hU8.low hX8
        refine hK _ _ hSS8 ?_
        clear hK hU7 hX7  hSS7
        generalize w7.alloc (.cells #[.slice vo.aN oo.nN vo.cN,.slice vo.aW oo.nW vo.cW,.slice vo.aS oo.nS vo.cS,.slice vo.aT oo.nT vo.cT] 116) = w8 at *
        generalize w7.heap.size = g20 at *
        refine oG 16 fun K hK => ?_
        go_wp2_with fail
        have hU9 := hU8.alloc (.cells #[.int .i64 (b i)] 3)
        have hX9 := hX8.later ((Below.refl _ _).alloc (Nat.le_refl _) (.cells #[.int .i64 (b i)] 3))
        have f20_9 := f20_8.later ((Below.refl _ _).alloc (Nat.le_refl _) (.cells #[.int .i64 (b i)] 3))
        have f16_9 := Fr.new w8 3 #[.int .i64 (b i)]
        have hSS9 := mkS _ hU9.low hX9
        refine hK _ _ hSS9 ?_
        clear hK hU8 hX8 f20_8 hSS8
        generalize w8.alloc (.cells #[.int .i64 (b i)] 3) = w9 at *
        generalize w8.heap.size = g16 at *
        refine oG 17 fun K hK => ?_
        obtain ⟨v17,w10,hr,hU10,hk,_⟩ := hU9.appB f16_9 (by omega)
        go_wp2_with (at_builtin; refine list_run rfl (.tmp 57) (.tmp 64) 97 rfl _ _ _ rfl rfl hr ?_)
        have hX10 := hk _ _ _ hX9 (by decide)
        have f20_10 := hk _ _ _ f20_9 (by decide)
        have hSS10 := mkS _ hU10.low hX10
        refine hK _ _ hSS10 ?_
        clear hK hr hk hU9 hX9 hSS9 f16_9 f20_9
        refine lG 21 fun K hK => ?_
        obtain ⟨v21,w11,hr,hU11,_⟩ := hU10.appO HVi.out Hoo.out f20_10 (by omega)
        go_wp2_with (at_builtin; refine list_run rfl (.tmp 66) (.tmp 68) 96 rfl _ _ _ rfl rfl hr ?_)
        refine hK _ _ ?_
        clear hK hr hU10 hX10 f20_10 hSS10
        refine tA 22 ?_
        refine tA 23 ?_
        refine tA 24 ?_
        refine doneG (by kernel_rfl) ?_ _
        go_wp2
        go_roundw
        case rel => exact ⟨i + 1,_,_,_,V2,by omega,by go_num,rfl,rfl,rfl,HK2,by rw [HO2.out]; exact hU11⟩
        case measure => simp [intOf]; omega
      ·go_wp2_with fail
       have hU7 := hU6.alloc (.cells #[.int .i64 (b i)] 3)
       have hX7 := hX6.later ((Below.refl _ _).alloc (Nat.le_refl _) (.cells #[.int .i64 (b i)] 3))
       have f7_7 := f7_6.later ((Below.refl _ _).alloc (Nat.le_refl _) (.cells #[.int .i64 (b i)] 3))
       have f16_7 := Fr.new w6 3 #[.int .i64 (b i)]
       have hSS7 := mkS _ hU7.low hX7
       refine hK _ _ hSS7 ?_
       clear hK hU6 hX6 f7_6 hSS6
       generalize w6.alloc (.cells #[.int .i64 (b i)] 3) = w7 at *
       generalize w6.heap.size = g16 at *
       refine readyG [8,20] (by kernel_rfl) (by simp) (allG_cons 8 rfl (fun K hK => ?_) (allG_cons 20 rfl (fun K hK => ?_) allG_nil))
       ·obtain ⟨v8,w8,hr,hU8,hk,_⟩ := hU7.appN f7_7 (by omega)
        go_wp2_with (at_builtin; refine list_run rfl (.tmp 48) (.tmp 55) 72 rfl _ _ _ rfl rfl hr ?_)
        have hX8 := hk _ _ _ hX7 (by decide)
        have f16_8 := hk _ _ _ f16_7 (by decide)
        have hSS8 := mkS _ hU8.low hX8
        refine hK _ _ hSS8 ?_
        clear hK hr hk hU7 hX7 hSS7 f7_7 f16_7
        refine readyG [17,20] (by kernel_rfl) (by simp) (allG_cons 17 rfl (fun K hK => ?_) (allG_cons 20 rfl (fun K hK => ?_) allG_nil))
        ·obtain ⟨v17,w9,hr,hU9,hk,_⟩ := hU8.appB f16_8 (by omega)
         go_wp2_with (at_builtin; refine list_run rfl (.tmp 57) (.tmp 64) 97 rfl _ _ _ rfl rfl hr ?_)
         have hX9 := hk _ _ _ hX8 (by decide)
         have hSS9 := mkS _ hU9.low hX9
         refine hK _ _ hSS9 ?_
         clear hK hr hk hU8 hX8 hSS8 f16_8
         refine oG 20 fun K hK => ?_
         go_wp2_with fail
         have hU10 := hU9.alloc (.cells #[.slice vo.aN oo.nN vo.cN,.slice vo.aW oo.nW vo.cW,.slice vo.aS oo.nS vo.cS,.slice vo.aT oo.nT vo.cT] 116)
         have hX10 := hX9.later ((Below.refl _ _).alloc (Nat.le_refl _) (.cells #[.slice vo.aN oo.nN vo.cN,.slice vo.aW oo.nW vo.cW,.slice vo.aS oo.nS vo.cS,.slice vo.aT oo.nT vo.cT] 116))
         have f20_10 := Fr.new w9 116 #[.slice vo.aN oo.nN vo.cN,.slice vo.aW oo.nW vo.cW,.slice vo.aS oo.nS vo.cS,.slice vo.aT oo.nT vo.cT]
         have hSS10 := mkS _ hU10.low hX10
         refine hK _ _ hSS10 ?_
         clear hK hU9 hX9  hSS9
         generalize w9.alloc (.cells #[.slice vo.aN oo.nN vo.cN,.slice vo.aW oo.nW vo.cW,.slice vo.aS oo.nS vo.cS,.slice vo.aT oo.nT vo.cT] 116) = w10 at *
         generalize w9.heap.size = g20 at *
         refine lG 21 fun K hK => ?_
         obtain ⟨v21,w11,hr,hU11,_⟩ := hU10.appO HVi.out Hoo.out f20_10 (by omega)
         go_wp2_with (at_builtin; refine list_run rfl (.tmp 66) (.tmp 68) 96 rfl _ _ _ rfl rfl hr ?_)
         refine hK _ _ ?_
         clear hK hr hU10 hX10 f20_10 hSS10
         refine tA 22 ?_
         refine tA 23 ?_
         refine tA 24 ?_
         refine doneG (by kernel_rfl) ?_ _
         go_wp2
         go_roundw
         case rel => exact ⟨i + 1,_,_,_,V2,by omega,by go_num,rfl,rfl,rfl,HK2,by rw [HO2.out]; exact hU11⟩
         case measure => simp [intOf]; omega
        ·go_wp2_with fail
         have hU9 := hU8.alloc (.cells #[.slice vo.aN oo.nN vo.cN,.slice vo.aW oo.nW vo.cW,.slice vo.aS oo.nS vo.cS,.slice vo.aT oo.nT vo.cT] 116)
         have hX9 := hX8.later ((Below.refl _ _).alloc (Nat.le_refl _) (.cells #[.slice vo.aN oo.nN vo.cN,.slice vo.aW oo.nW vo.cW,.slice vo.aS oo.nS vo.cS,.slice vo.aT oo.nT vo.cT] 116))
         have f16_9 := f16_8.later ((Below.refl _ _).alloc (Nat.le_refl _) (.cells #[.slice vo.aN oo.nN vo.cN,.slice vo.aW oo.nW vo.cW,.slice vo.aS oo.nS vo.cS,.slice vo.aT oo.nT vo.cT] 116))
         have f20_9 := Fr.new w8 116 #[.slice vo.aN oo.nN vo.cN,.slice vo.aW oo.nW vo.cW,.slice vo.aS oo.nS vo.cS,.slice vo.aT oo.nT vo.cT]
         have hSS9 := mkS _ hU9.low hX9
         refine hK _ _ hSS9 ?_
         clear hK hU8 hX8 f16_8 hSS8
         generalize w8.alloc (.cells #[.slice vo.aN oo.nN vo.cN,.slice vo.aW oo.nW vo.cW,.slice vo.aS oo.nS vo.cS,.slice vo.aT oo.nT vo.cT] 116) = w9 at *
         generalize w8.heap.size = g20 at *
         refine oG 17 fun K hK => ?_
         obtain ⟨v17,w10,hr,hU10,hk,_⟩ := hU9.appB f16_9 (by omega)
         go_wp2_with (at_builtin; refine list_run rfl (.tmp 57) (.tmp 64) 97 rfl _ _ _ rfl rfl hr ?_)
         have hX10 := hk _ _ _ hX9 (by decide)
         have f20_10 := hk _ _ _ f20_9 (by decide)
         have hSS10 := mkS _ hU10.low hX10
         refine hK _ _ hSS10 ?_
         clear hK hr hk hU9 hX9 hSS9 f16_9 f20_9
         refine lG 21 fun K hK => ?_
         obtain ⟨v21,w11,hr,hU11,_⟩ := hU10.appO HVi.out Hoo.out f20_10 (by omega)
         go_wp2_with (at_builtin; refine list_run rfl (.tmp 66) (.tmp 68) 96 rfl _ _ _ rfl rfl hr ?_)
         refine hK _ _ ?_
         clear hK hr hU10 hX10 f20_10 hSS10
         refine tA 22 ?_
         refine tA 23 ?_
         refine tA 24 ?_
         refine doneG (by kernel_rfl) ?_ _
         go_wp2
         go_roundw
         case rel => exact ⟨i + 1,_,_,_,V2,by omega,by go_num,rfl,rfl,rfl,HK2,by rw [HO2.out]; exact hU11⟩
         case measure => simp [intOf]; omega
       ·go_wp2_with fail
        have hU8 := hU7.alloc (.cells #[.slice vo.aN oo.nN vo.cN,.slice vo.aW oo.nW vo.cW,.slice vo.aS oo.nS vo.cS,.slice vo.aT oo.nT vo.cT] 116)
        have hX8 := hX7.later ((Below.refl _ _).alloc (Nat.le_refl _) (.cells #[.slice vo.aN oo.nN vo.cN,.slice vo.aW oo.nW vo.cW,.slice vo.aS oo.nS vo.cS,.slice vo.aT oo.nT vo.cT] 116))
        have f7_8 := f7_7.later ((Below.refl _ _).alloc (Nat.le_refl _) (.cells #[.slice vo.aN oo.nN vo.cN,.slice vo.aW oo.nW vo.cW,.slice vo.aS oo.nS vo.cS,.slice vo.aT oo.nT vo.cT] 116))
        have f16_8 := f16_7.later ((Below.refl _ _).alloc (Nat.le_refl _) (.cells #[.slice vo.aN oo.nN vo.cN,.slice vo.aW oo.nW vo.cW,.slice vo.aS oo.nS vo.cS,.slice vo.aT oo.nT vo.cT] 116))
        have f20_8 := Fr.new w7 116 #[.slice vo.aN oo.nN vo.cN,.slice vo.aW oo.nW vo.cW,.slice vo.aS oo.nS vo.cS,.slice vo.aT oo.nT vo.cT]
        have hSS8 := mkS _ hU8.low hX8
        refine hK _ _ hSS8 ?_
        clear hK hU7 hX7 f7_7 f16_7 hSS7
        generalize w7.alloc (.cells #[.slice vo.aN oo.nN vo.cN,.slice vo.aW oo.nW vo.cW,.slice vo.aS oo.nS vo.cS,.slice vo.aT oo.nT vo.cT] 116) = w8 at *
        generalize w7.heap.size = g20 at *
        refine oG 8 fun K hK => ?_
        obtain ⟨v8,w9,hr,hU9,hk,_⟩ := hU8.appN f7_8 (by omega)
        go_wp2_with (at_builtin; refine list_run rfl (.tmp 48) (.tmp 55) 72 rfl _ _ _ rfl rfl hr ?_)
        have hX9 := hk _ _ _ hX8 (by decide)
        have f16_9 := hk _ _ _ f16_8 (by decide)
        have f20_9 := hk _ _ _ f20_8 (by decide)
        have hSS9 := mkS _ hU9.low hX9
        refine hK _ _ hSS9 ?_
        clear hK hr hk hU8 hX8 hSS8 f7_8 f16_8 f20_8
        refine oG 17 fun K hK => ?_
        obtain ⟨v17,w10,hr,hU10,hk,_⟩ := hU9.appB f16_9 (by omega)
        go_wp2_with (at_builtin; refine list_run rfl (.tmp 57) (.tmp 64) 97 rfl _ _ _ rfl rfl hr ?_)
        have hX10 := hk _ _ _ hX9 (by decide)
        have f20_10 := hk _ _ _ f20_9 (by decide)
        have hSS10 := mkS _ hU10.low hX10
        refine hK _ _ hSS10 ?_
        clear hK hr hk hU9 hX9 hSS9 f16_9 f20_9
        refine lG 21 fun K hK => ?_
        obtain ⟨v21,w11,hr,hU11,_⟩ := hU10.appO HVi.out Hoo.out f20_10 (by omega)
        go_wp2_with (at_builtin; refine list_run rfl (.tmp 66) (.tmp 68) 96 rfl _ _ _ rfl rfl hr ?_)
        refine hK _ _ ?_
        clear hK hr hU10 hX10 f20_10 hSS10
        refine tA 22 ?_
        refine tA 23 ?_
        refine tA 24 ?_
        refine doneG (by kernel_rfl) ?_ _
        go_wp2
        go_roundw
        case rel => exact ⟨i + 1,_,_,_,V2,by omega,by go_num,rfl,rfl,rfl,HK2,by rw [HO2.out]; exact hU11⟩
        case measure => simp [intOf]; omega
      ·go_wp2_with fail
       have hU7 := hU6.alloc (.cells #[.slice vo.aN oo.nN vo.cN,.slice vo.aW oo.nW vo.cW,.slice vo.aS oo.nS vo.cS,.slice vo.aT oo.nT vo.cT] 116)
       have hX7 := hX6.later ((Below.refl _ _).alloc (Nat.le_refl _) (.cells #[.slice vo.aN oo.nN vo.cN,.slice vo.aW oo.nW vo.cW,.slice vo.aS oo.nS vo.cS,.slice vo.aT oo.nT vo.cT] 116))
       have f7_7 := f7_6.later ((Below.refl _ _).alloc (Nat.le_refl _) (.cells #[.slice vo.aN oo.nN vo.cN,.slice vo.aW oo.nW vo.cW,.slice vo.aS oo.nS vo.cS,.slice vo.aT oo.nT vo.cT] 116))
       have f20_7 := Fr.new w6 116 #[.slice vo.aN oo.nN vo.cN,.slice vo.aW oo.nW vo.cW,.slice vo.aS oo.nS vo.cS,.slice vo.aT oo.nT vo.cT]
       have hSS7 := mkS _ hU7.low hX7
       refine hK _ _ hSS7 ?_
       clear hK hU6 hX6 f7_6 hSS6
       generalize w6.alloc (.cells #[.slice vo.aN oo.nN vo.cN,.slice vo.aW oo.nW vo.cW,.slice vo.aS oo.nS vo.cS,.slice vo.aT oo.nT vo.cT] 116) = w7 at *
       generalize w6.heap.size = g20 at *
       refine readyG [8,16] (by kernel_rfl) (by simp) (allG_cons 8 rfl (fun K hK => ?_) (allG_cons 16 rfl (fun K hK => ?_) allG_nil))
       ·obtain ⟨v8,w8,hr,hU8,hk,_⟩ := hU7.appN f7_7 (by omega)
        go_wp2_with (at_builtin; refine list_run rfl (.tmp 48) (.tmp 55) 72 rfl _ _ _ rfl rfl hr ?_)
        have hX8 := hk _ _ _ hX7 (by decide)
        have f20_8 := hk _ _ _ f20_7 (by decide)
        have hSS8 := mkS _ hU8.low hX8
        refine hK _ _ hSS8 ?_
        clear hK hr hk hU7 hX7 hSS7 f7_7 f20_7
        refine oG 16 fun K hK => ?_
        go_wp2_with fail
        have hU9 := hU8.alloc (.cells #[.int .i64 (b i)] 3)
        have hX9 := hX8.later ((Below.refl _ _).alloc (Nat.le_refl _) (.cells #[.int .i64 (b i)] 3))
        have f20_9 := f20_8.later ((Below.refl _ _).alloc (Nat.le_refl _) (.cells #[.int .i64 (b i)] 3))
        have f16_9 := Fr.new w8 3 #[.int .i64 (b i)]
        have hSS9 := mkS _ hU9.low hX9
        refine hK _ _ hSS9 ?_
        clear hK hU8 hX8 f20_8 hSS8
        generalize w8.alloc (.cells #[.int .i64 (b i)] 3) = w9 at *
        generalize w8.heap.size = g16 at *
        refine oG 17 fun K hK => ?_
        obtain ⟨v17,w10,hr,hU10,hk,_⟩ := hU9.appB f16_9 (by omega)
        go_wp2_with (at_builtin; refine list_run rfl (.tmp 57) (.tmp 64) 97 rfl _ _ _ rfl rfl hr ?_)
        have hX10 := hk _ _ _ hX9 (by decide)
        have f20_10 := hk _ _ _ f20_9 (by decide)
        have hSS10 := mkS _ hU10.low hX10
        refine hK _ _ hSS10 ?_
        clear hK hr hk hU9 hX9 hSS9 f16_9 f20_9
        refine lG 21 fun K hK => ?_
        obtain ⟨v21,w11,hr,hU11,_⟩ := hU10.appO HVi.out Hoo.out f20_10 (by omega)
        go_wp2_with (at_builtin; refine list_run rfl (.tmp 66) (.tmp 68) 96 rfl _ _ _ rfl rfl hr ?_)
        refine hK _ _ ?_
        clear hK hr hU10 hX10 f20_10 hSS10
        refine tA 22 ?_
        refine tA 23 ?_
        refine tA 24 ?_
        refine doneG (by kernel_rfl) ?_ _
        go_wp2
        go_roundw
        case rel => exact ⟨i + 1,_,_,_,V2,by omega,by go_num,rfl,rfl,rfl,HK2,by rw [HO2.out]; exact hU11⟩
        case measure => simp [intOf]; omega
       ·go_wp2_with fail
        have hU8 := hU7.alloc (.cells #[.int .i64 (b i)] 3)
        have hX8 := hX7.later ((Below.refl _ _).alloc (Nat.le_refl _) (.cells #[.int .i64 (b i)] 3))
        have f7_8 := f7_7.later ((Below.refl _ _).alloc (Nat.le_refl _) (.cells #[.int .i64 (b i)] 3))
        have f20_8 := f20_7.later ((Below.refl _ _).alloc (Nat.le_refl _) (.cells #[.int .i64 (b i)] 3))
        have f16_8 := Fr.new w7 3 #[.int .i64 (b i)]
        have hSS8 := mkS _ hU8.low hX8
        refine hK _ _ hSS8 ?_
        clear hK hU7 hX7 f7_7 f20_7 hSS7
        generalize w7.alloc (.cells #[.int .i64 (b i)] 3) = w8 at *
        generalize w7.heap.size = g16 at *
        refine oG 8 fun K hK => ?_
        obtain ⟨v8,w9,hr,hU9,hk,_⟩ := hU8.appN f7_8 (by omega)
        go_wp2_with (at_builtin; refine list_run rfl (.tmp 48) (.tmp 55) 72 rfl _ _ _ rfl rfl hr ?_)
        have hX9 := hk _ _ _ hX8 (by decide)
        have f16_9 := hk _ _ _ f16_8 (by decide)
        have f20_9 := hk _ _ _ f20_8 (by decide)
        have hSS9 := mkS _ hU9.low hX9
        refine hK _ _ hSS9 ?_
        clear hK hr hk hU8 hX8 hSS8 f7_8 f16_8 f20_8
        refine oG 17 fun K hK => ?_
        obtain ⟨v17,w10,hr,hU10,hk,_⟩ := hU9.appB f16_9 (by omega)
        go_wp2_with (at_builtin; refine list_run rfl (.tmp 57) (.tmp 64) 97 rfl _ _ _ rfl rfl hr ?_)
        have hX10 := hk _ _ _ hX9 (by decide)
        have f20_10 := hk _ _ _ f20_9 (by decide)
        have hSS10 := mkS _ hU10.low hX10
        refine hK _ _ hSS10 ?_
        clear hK hr hk hU9 hX9 hSS9 f16_9 f20_9
        refine lG 21 fun K hK => ?_
        obtain ⟨v21,w11,hr,hU11,_⟩ := hU10.appO HVi.out Hoo.out f20_10 (by omega)
        go_wp2_with (at_builtin; refine list_run rfl (.tmp 66) (.tmp 68) 96 rfl _ _ _ rfl rfl hr ?_)
        refine hK _ _ ?_
        clear hK hr hU10 hX10 f20_10 hSS10
        refine tA 22 ?_
        refine tA 23 ?_
        refine tA 24 ?_
        refine doneG (by kernel_rfl) ?_ _
        go_wp2
        go_roundw
        case rel => exact ⟨i + 1,_,_,_,V2,by omega,by go_num,rfl,rfl,rfl,HK2,by rw [HO2.out]; exact hU11⟩
        case measure => simp [intOf]; omega
     ·go_wp2_with fail
      have hU6 := hU5.alloc (.cells #[.int .i64 (b i)] 3)
      have hX6 := hX5.later ((Below.refl _ _).alloc (Nat.le_refl _) (.cells #[.int .i64 (b i)] 3))
      have f16_6 := Fr.new w5 3 #[.int .i64 (b i)]
      have hSS6 := mkS _ hU6.low hX6
      refine hK _ _ hSS6 ?_
      clear hK hU5 hX5  hSS5
      generalize w5.alloc (.cells #[.int .i64 (b i)] 3) = w6 at *
      generalize w5.heap.size = g16 at *
      refine readyG [7,20] (by kernel_rfl) (by simp) (allG_cons 7 rfl (fun K hK => ?_) (allG_cons 20 rfl (fun K hK => ?_) allG_nil))
      ·go_wp2_with fail
       have hU7 := hU6.alloc (.cells #[.string (s i)] 9)
       have hX7 := hX6.later ((Below.refl _ _).alloc (Nat.le_refl _) (.cells #[.string (s i)] 9))
       have f16_7 := f16_6.later ((Below.refl _ _).alloc (Nat.le_refl _) (.cells #[.string (s i)] 9))
       have f7_7 := Fr.new w6 9 #[.string (s i)]
       have hSS7 := mkS _ hU7.low hX7
       refine hK _ _ hSS7 ?_
       clear hK hU6 hX6 f16_6 hSS6
       generalize w6.alloc (.cells #[.string (s i)] 9) = w7 at *
       generalize w6.heap.size = g7 at *
       refine readyG [8,20] (by kernel_rfl) (by simp) (allG_cons 8 rfl (fun K hK => ?_) (allG_cons 20 rfl (fun K hK => ?_) allG_nil))
       ·obtain ⟨v8,w8,hr,hU8,hk,_⟩ := hU7.appN f7_7 (by omega)
        go_wp2_with (at_builtin; refine list_run rfl (.tmp 48) (.tmp 55) 72 rfl _ _ _ rfl rfl hr ?_)
        have hX8 := hk _ _ _ hX7 (by decide)
        have f16_8 := hk _ _ _ f16_7 (by decide)
        have hSS8 := mkS _ hU8.low hX8
        refine hK _ _ hSS8 ?_
        clear hK hr hk hU7 hX7 hSS7 f7_7 f16_7
        refine readyG [17,20] (by kernel_rfl) (by simp) (allG_cons 17 rfl (fun K hK => ?_) (allG_cons 20 rfl (fun K hK => ?_) allG_nil))
        ·obtain ⟨v17,w9,hr,hU9,hk,_⟩ := hU8.appB f16_8 (by omega)
         go_wp2_with (at_builtin; refine list_run rfl (.tmp 57) (.tmp 64) 97 rfl _ _ _ rfl rfl hr ?_)
         have hX9 := hk _ _ _ hX8 (by decide)
         have hSS9 := mkS _ hU9.low hX9
         refine hK _ _ hSS9 ?_
         clear hK hr hk hU8 hX8 hSS8 f16_8
         refine oG 20 fun K hK => ?_
         go_wp2_with fail
         have hU10 := hU9.alloc (.cells #[.slice vo.aN oo.nN vo.cN,.slice vo.aW oo.nW vo.cW,.slice vo.aS oo.nS vo.cS,.slice vo.aT oo.nT vo.cT] 116)
         have hX10 := hX9.later ((Below.refl _ _).alloc (Nat.le_refl _) (.cells #[.slice vo.aN oo.nN vo.cN,.slice vo.aW oo.nW vo.cW,.slice vo.aS oo.nS vo.cS,.slice vo.aT oo.nT vo.cT] 116))
         have f20_10 := Fr.new w9 116 #[.slice vo.aN oo.nN vo.cN,.slice vo.aW oo.nW vo.cW,.slice vo.aS oo.nS vo.cS,.slice vo.aT oo.nT vo.cT]
         have hSS10 := mkS _ hU10.low hX10
         refine hK _ _ hSS10 ?_
         clear hK hU9 hX9  hSS9
         generalize w9.alloc (.cells #[.slice vo.aN oo.nN vo.cN,.slice vo.aW oo.nW vo.cW,.slice vo.aS oo.nS vo.cS,.slice vo.aT oo.nT vo.cT] 116) = w10 at *
         generalize w9.heap.size = g20 at *
         refine lG 21 fun K hK => ?_
         obtain ⟨v21,w11,hr,hU11,_⟩ := hU10.appO HVi.out Hoo.out f20_10 (by omega)
         go_wp2_with (at_builtin; refine list_run rfl (.tmp 66) (.tmp 68) 96 rfl _ _ _ rfl rfl hr ?_)
         refine hK _ _ ?_
         clear hK hr hU10 hX10 f20_10 hSS10
         refine tA 22 ?_
         refine tA 23 ?_
         refine tA 24 ?_
         refine doneG (by kernel_rfl) ?_ _
         go_wp2
         go_roundw
         case rel => exact ⟨i + 1,_,_,_,V2,by omega,by go_num,rfl,rfl,rfl,HK2,by rw [HO2.out]; exact hU11⟩
         case measure => simp [intOf]; omega
        ·go_wp2_with fail
         have hU9 := hU8.alloc (.cells #[.slice vo.aN oo.nN vo.cN,.slice vo.aW oo.nW vo.cW,.slice vo.aS oo.nS vo.cS,.slice vo.aT oo.nT vo.cT] 116)
         have hX9 := hX8.later ((Below.refl _ _).alloc (Nat.le_refl _) (.cells #[.slice vo.aN oo.nN vo.cN,.slice vo.aW oo.nW vo.cW,.slice vo.aS oo.nS vo.cS,.slice vo.aT oo.nT vo.cT] 116))
         have f16_9 := f16_8.later ((Below.refl _ _).alloc (Nat.le_refl _) (.cells #[.slice vo.aN oo.nN vo.cN,.slice vo.aW oo.nW vo.cW,.slice vo.aS oo.nS vo.cS,.slice vo.aT oo.nT vo.cT] 116))
         have f20_9 := Fr.new w8 116 #[.slice vo.aN oo.nN vo.cN,.slice vo.aW oo.nW vo.cW,.slice vo.aS oo.nS vo.cS,.slice vo.aT oo.nT vo.cT]
         have hSS9 := mkS _ hU9.low hX9
         refine hK _ _ hSS9 ?_
         clear hK hU8 hX8 f16_8 hSS8
         generalize w8.alloc (.cells #[.slice vo.aN oo.nN vo.cN,.slice vo.aW oo.nW vo.cW,.slice vo.aS oo.nS vo.cS,.slice vo.aT oo.nT vo.cT] 116) = w9 at *
         generalize w8.heap.size = g20 at *
         refine oG 17 fun K hK => ?_
         obtain ⟨v17,w10,hr,hU10,hk,_⟩ := hU9.appB f16_9 (by omega)
         go_wp2_with (at_builtin; refine list_run rfl (.tmp 57) (.tmp 64) 97 rfl _ _ _ rfl rfl hr ?_)
         have hX10 := hk _ _ _ hX9 (by decide)
         have f20_10 := hk _ _ _ f20_9 (by decide)
         have hSS10 := mkS _ hU10.low hX10
         refine hK _ _ hSS10 ?_
         clear hK hr hk hU9 hX9 hSS9 f16_9 f20_9
         refine lG 21 fun K hK => ?_
         obtain ⟨v21,w11,hr,hU11,_⟩ := hU10.appO HVi.out Hoo.out f20_10 (by omega)
         go_wp2_with (at_builtin; refine list_run rfl (.tmp 66) (.tmp 68) 96 rfl _ _ _ rfl rfl hr ?_)
         refine hK _ _ ?_
         clear hK hr hU10 hX10 f20_10 hSS10
         refine tA 22 ?_
         refine tA 23 ?_
         refine tA 24 ?_
         refine doneG (by kernel_rfl) ?_ _
         go_wp2
         go_roundw
         case rel => exact ⟨i + 1,_,_,_,V2,by omega,by go_num,rfl,rfl,rfl,HK2,by rw [HO2.out]; exact hU11⟩
         case measure => simp [intOf]; omega
       ·go_wp2_with fail
        have hU8 := hU7.alloc (.cells #[.slice vo.aN oo.nN vo.cN,.slice vo.aW oo.nW vo.cW,.slice vo.aS oo.nS vo.cS,.slice vo.aT oo.nT vo.cT] 116)
        have hX8 := hX7.later ((Below.refl _ _).alloc (Nat.le_refl _) (.cells #[.slice vo.aN oo.nN vo.cN,.slice vo.aW oo.nW vo.cW,.slice vo.aS oo.nS vo.cS,.slice vo.aT oo.nT vo.cT] 116))
        have f7_8 := f7_7.later ((Below.refl _ _).alloc (Nat.le_refl _) (.cells #[.slice vo.aN oo.nN vo.cN,.slice vo.aW oo.nW vo.cW,.slice vo.aS oo.nS vo.cS,.slice vo.aT oo.nT vo.cT] 116))
        have f16_8 := f16_7.later ((Below.refl _ _).alloc (Nat.le_refl _) (.cells #[.slice vo.aN oo.nN vo.cN,.slice vo.aW oo.nW vo.cW,.slice vo.aS oo.nS vo.cS,.slice vo.aT oo.nT vo.cT] 116))
        have f20_8 := Fr.new w7 116 #[.slice vo.aN oo.nN vo.cN,.slice vo.aW oo.nW vo.cW,.slice vo.aS oo.nS vo.cS,.slice vo.aT oo.nT vo.cT]
        have hSS8 := mkS _ hU8.low hX8
        refine hK _ _ hSS8 ?_
        clear hK hU7 hX7 f7_7 f16_7 hSS7
        generalize w7.alloc (.cells #[.slice vo.aN oo.nN vo.cN,.slice vo.aW oo.nW vo.cW,.slice vo.aS oo.nS vo.cS,.slice vo.aT oo.nT vo.cT] 116) = w8 at *
        generalize w7.heap.size = g20 at *
        refine oG 8 fun K hK => ?_
        obtain ⟨v8,w9,hr,hU9,hk,_⟩ := hU8.appN f7_8 (by omega)
        go_wp2_with (at_builtin; refine list_run rfl (.tmp 48) (.tmp 55) 72 rfl _ _ _ rfl rfl hr ?_)
        have hX9 := hk _ _ _ hX8 (by decide)
        have f16_9 := hk _ _ _ f16_8 (by decide)
        have f20_9 := hk _ _ _ f20_8 (by decide)
        have hSS9 := mkS _ hU9.low hX9
        refine hK _ _ hSS9 ?_
        clear hK hr hk hU8 hX8 hSS8 f7_8 f16_8 f20_8
        refine oG 17 fun K hK => ?_
        obtain ⟨v17,w10,hr,hU10,hk,_⟩ := hU9.appB f16_9 (by omega)
        go_wp2_with (at_builtin; refine list_run rfl (.tmp 57) (.tmp 64) 97 rfl _ _ _ rfl rfl hr ?_)
        have hX10 := hk _ _ _ hX9 (by decide)
        have f20_10 := hk _ _ _ f20_9 (by decide)
        have hSS10 := mkS _ hU10.low hX10
        refine hK _ _ hSS10 ?_
        clear hK hr hk hU9 hX9 hSS9 f16_9 f20_9
        refine lG 21 fun K hK => ?_
        obtain ⟨v21,w11,hr,hU11,_⟩ := hU10.appO HVi.out Hoo.out f20_10 (by omega)
        go_wp2_with (at_builtin; refine list_run rfl (.tmp 66) (.tmp 68) 96 rfl _ _ _ rfl rfl hr ?_)
        refine hK _ _ ?_
        clear hK hr hU10 hX10 f20_10 hSS10
        refine tA 22 ?_
        refine tA 23 ?_
        refine tA 24 ?_
        refine doneG (by kernel_rfl) ?_ _
        go_wp2
        go_roundw
        case rel => exact ⟨i + 1,_,_,_,V2,by omega,by go_num,rfl,rfl,rfl,HK2,by rw [HO2.out]; exact hU11⟩
        case measure => simp [intOf]; omega
      ·go_wp2_with fail
       have hU7 := hU6.alloc (.cells #[.slice vo.aN oo.nN vo.cN,.slice vo.aW oo.nW vo.cW,.slice vo.aS oo.nS vo.cS,.slice vo.aT oo.nT vo.cT] 116)
       have hX7 := hX6.later ((Below.refl _ _).alloc (Nat.le_refl _) (.cells #[.slice vo.aN oo.nN vo.cN,.slice vo.aW oo.nW vo.cW,.slice vo.aS oo.nS vo.cS,.slice vo.aT oo.nT vo.cT] 116))
       have f16_7 := f16_6.later ((Below.refl _ _).alloc (Nat.le_refl _) (.cells #[.slice vo.aN oo.nN vo.cN,.slice vo.aW oo.nW vo.cW,.slice vo.aS oo.nS vo.cS,.slice vo.aT oo.nT vo.cT] 116))
       have f20_7 := Fr.new w6 116 #[.slice vo.aN oo.nN vo.cN,.slice vo.aW oo.nW vo.cW,.slice vo.aS oo.nS vo.cS,.slice vo.aT oo.nT vo.cT]
       have hSS7 := mkS _ hU7.low hX7
       refine hK _ _ hSS7 ?_
       clear hK hU6 hX6 f16_6 hSS6
       generalize w6.alloc (.cells #[.slice vo.aN oo.nN vo.cN,.slice vo.aW oo.nW vo.cW,.slice vo.aS oo.nS vo.cS,.slice vo.aT oo.nT vo.cT] 116) = w7 at *
       generalize w6.heap.size = g20 at *
       refine oG 7 fun K hK => ?_
       go_wp2_with fail
       have hU8 := hU7.alloc (.cells #[.string (s i)] 9)
       have hX8 := hX7.later ((Below.refl _ _).alloc (Nat.le_refl _) (.cells #[.string (s i)] 9))
       have f16_8 := f16_7.later ((Below.refl _ _).alloc (Nat.le_refl _) (.cells #[.string (s i)] 9))
       have f20_8 := f20_7.later ((Below.refl _ _).alloc (Nat.le_refl _) (.cells #[.string (s i)] 9))
       have f7_8 := Fr.new w7 9 #[.string (s i)]
       have hSS8 := mkS _ hU8.low hX8
       refine hK _ _ hSS8 ?_
       clear hK hU7 hX7 f16_7 f20_7 hSS7
       generalize w7.alloc (.cells #[.string (s i)] 9) = w8 at *
       generalize w7.heap.size = g7 at *
       refine oG 8 fun K hK => ?_
       obtain ⟨v8,w9,hr,hU9,hk,_⟩ := hU8.appN f7_8 (by omega)
       go_wp2_with (at_builtin; refine list_run rfl (.tmp 48) (.tmp 55) 72 rfl _ _ _ rfl rfl hr ?_)
       have hX9 := hk _ _ _ hX8 (by decide)
       have f16_9 := hk _ _ _ f16_8 (by decide)
       have f20_9 := hk _ _ _ f20_8 (by decide)
       have hSS9 := mkS _ hU9.low hX9
       refine hK _ _ hSS9 ?_
       clear hK hr hk hU8 hX8 hSS8 f7_8 f16_8 f20_8
       refine oG 17 fun K hK => ?_
       obtain ⟨v17,w10,hr,hU10,hk,_⟩ := hU9.appB f16_9 (by omega)
       go_wp2_with (at_builtin; refine list_run rfl (.tmp 57) (.tmp 64) 97 rfl _ _ _ rfl rfl hr ?_)
       have hX10 := hk _ _ _ hX9 (by decide)
       have f20_10 := hk _ _ _ f20_9 (by decide)
       have hSS10 := mkS _ hU10.low hX10
       refine hK _ _ hSS10 ?_
       clear hK hr hk hU9 hX9 hSS9 f16_9 f20_9
       refine lG 21 fun K hK => ?_
       obtain ⟨v21,w11,hr,hU11,_⟩ := hU10.appO HVi.out Hoo.out f20_10 (by omega)
       go_wp2_with (at_builtin; refine list_run rfl (.tmp 66) (.tmp 68) 96 rfl _ _ _ rfl rfl hr ?_)
       refine hK _ _ ?_
       clear hK hr hU10 hX10 f20_10 hSS10
       refine tA 22 ?_
       refine tA 23 ?_
       refine tA 24 ?_
       refine doneG (by kernel_rfl) ?_ _
       go_wp2
       go_roundw
       case rel => exact ⟨i + 1,_,_,_,V2,by omega,by go_num,rfl,rfl,rfl,HK2,by rw [HO2.out]; exact hU11⟩
       case measure => simp [intOf]; omega
     ·go_wp2_with fail
      have hU6 := hU5.alloc (.cells #[.slice vo.aN oo.nN vo.cN,.slice vo.aW oo.nW vo.cW,.slice vo.aS oo.nS vo.cS,.slice vo.aT oo.nT vo.cT] 116)
      have hX6 := hX5.later ((Below.refl _ _).alloc (Nat.le_refl _) (.cells #[.slice vo.aN oo.nN vo.cN,.slice vo.aW oo.nW vo.cW,.slice vo.aS oo.nS vo.cS,.slice vo.aT oo.nT vo.cT] 116))
      have f20_6 := Fr.new w5 116 #[.slice vo.aN oo.nN vo.cN,.slice vo.aW oo.nW vo.cW,.slice vo.aS oo.nS vo.cS,.slice vo.aT oo.nT vo.cT]
      have hSS6 := mkS _ hU6.low hX6
      refine hK _ _ hSS6 ?_
      clear hK hU5 hX5  hSS5
      generalize w5.alloc (.cells #[.slice vo.aN oo.nN vo.cN,.slice vo.aW oo.nW vo.cW,.slice vo.aS oo.nS vo.cS,.slice vo.aT oo.nT vo.cT] 116) = w6 at *
      generalize w5.heap.size = g20 at *
      refine readyG [7,16] (by kernel_rfl) (by simp) (allG_cons 7 rfl (fun K hK => ?_) (allG_cons 16 rfl (fun K hK => ?_) allG_nil))
      ·go_wp2_with fail
       have hU7 := hU6.alloc (.cells #[.string (s i)] 9)
       have hX7 := hX6.later ((Below.refl _ _).alloc (Nat.le_refl _) (.cells #[.string (s i)] 9))
       have f20_7 := f20_6.later ((Below.refl _ _).alloc (Nat.le_refl _) (.cells #[.string (s i)] 9))
       have f7_7 := Fr.new w6 9 #[.string (s i)]
       have hSS7 := mkS _ hU7.low hX7
       refine hK _ _ hSS7 ?_
       clear hK hU6 hX6 f20_6 hSS6
       generalize w6.alloc (.cells #[.string (s i)] 9) = w7 at *
       generalize w6.heap.size = g7 at *
       refine readyG [8,16] (by kernel_rfl) (by simp) (allG_cons 8 rfl (fun K hK => ?_) (allG_cons 16 rfl (fun K hK => ?_) allG_nil))
       ·obtain ⟨v8,w8,hr,hU8,hk,_⟩ := hU7.appN f7_7 (by omega)
        go_wp2_with (at_builtin; refine list_run rfl (.tmp 48) (.tmp 55) 72 rfl _ _ _ rfl rfl hr ?_)
        have hX8 := hk _ _ _ hX7 (by decide)
        have f20_8 := hk _ _ _ f20_7 (by decide)
        have hSS8 := mkS _ hU8.low hX8
        refine hK _ _ hSS8 ?_
        clear hK hr hk hU7 hX7 hSS7 f7_7 f20_7
        refine oG 16 fun K hK => ?_
        go_wp2_with fail
        have hU9 := hU8.alloc (.cells #[.int .i64 (b i)] 3)
        have hX9 := hX8.later ((Below.refl _ _).alloc (Nat.le_refl _) (.cells #[.int .i64 (b i)] 3))
        have f20_9 := f20_8.later ((Below.refl _ _).alloc (Nat.le_refl _) (.cells #[.int .i64 (b i)] 3))
        have f16_9 := Fr.new w8 3 #[.int .i64 (b i)]
        have hSS9 := mkS _ hU9.low hX9
        refine hK _ _ hSS9 ?_
        clear hK hU8 hX8 f20_8 hSS8
        generalize w8.alloc (.cells #[.int .i64 (b i)] 3) = w9 at *
        generalize w8.heap.size = g16 at *
        refine oG 17 fun K hK => ?_
        obtain ⟨v17,w10,hr,hU10,hk,_⟩ := hU9.appB f16_9 (by omega)
        go_wp2_with (at_builtin; refine list_run rfl (.tmp 57) (.tmp 64) 97 rfl _ _ _ rfl rfl hr ?_)
        have hX10 := hk _ _ _ hX9 (by decide)
        have f20_10 := hk _ _ _ f20_9 (by decide)
        have hSS10 := mkS _ hU10.low hX10
        refine hK _ _ hSS10 ?_
        clear hK hr hk hU9 hX9 hSS9 f16_9 f20_9
        refine lG 21 fun K hK => ?_
        obtain ⟨v21,w11,hr,hU11,_⟩ := hU10.appO HVi.out Hoo.out f20_10 (by omega)
        go_wp2_with (at_builtin; refine list_run rfl (.tmp 66) (.tmp 68) 96 rfl _ _ _ rfl rfl hr ?_)
        refine hK _ _ ?_
        clear hK hr hU10 hX10 f20_10 hSS10
        refine tA 22 ?_
        refine tA 23 ?_
        refine tA 24 ?_
        refine doneG (by kernel_rfl) ?_ _
        go_wp2
        go_roundw
        case rel => exact ⟨i + 1,_,_,_,V2,by omega,by go_num,rfl,rfl,rfl,HK2,by rw [HO2.out]; exact hU11⟩
        case measure => simp [intOf]; omega
       ·go_wp2_with fail
        have hU8 := hU7.alloc (.cells #[.int .i64 (b i)] 3)
        have hX8 := hX7.later ((Below.refl _ _).alloc (Nat.le_refl _) (.cells #[.int .i64 (b i)] 3))
        have f7_8 := f7_7.later ((Below.refl _ _).alloc (Nat.le_refl _) (.cells #[.int .i64 (b i)] 3))
        have f20_8 := f20_7.later ((Below.refl _ _).alloc (Nat.le_refl _) (.cells #[.int .i64 (b i)] 3))
        have f16_8 := Fr.new w7 3 #[.int .i64 (b i)]
        have hSS8 := mkS _ hU8.low hX8
        refine hK _ _ hSS8 ?_
        clear hK hU7 hX7 f7_7 f20_7 hSS7
        generalize w7.alloc (.cells #[.int .i64 (b i)] 3) = w8 at *
        generalize w7.heap.size = g16 at *
        refine oG 8 fun K hK => ?_
        obtain ⟨v8,w9,hr,hU9,hk,_⟩ := hU8.appN f7_8 (by omega)
        go_wp2_with (at_builtin; refine list_run rfl (.tmp 48) (.tmp 55) 72 rfl _ _ _ rfl rfl hr ?_)
        have hX9 := hk _ _ _ hX8 (by decide)
        have f16_9 := hk _ _ _ f16_8 (by decide)
        have f20_9 := hk _ _ _ f20_8 (by decide)
        have hSS9 := mkS _ hU9.low hX9
        refine hK _ _ hSS9 ?_
        clear hK hr hk hU8 hX8 hSS8 f7_8 f16_8 f20_8
        refine oG 17 fun K hK => ?_
        obtain ⟨v17,w10,hr,hU10,hk,_⟩ := hU9.appB f16_9 (by omega)
        go_wp2_with (at_builtin; refine list_run rfl (.tmp 57) (.tmp 64) 97 rfl _ _ _ rfl rfl hr ?_)
        have hX10 := hk _ _ _ hX9 (by decide)
        have f20_10 := hk _ _ _ f20_9 (by decide)
        have hSS10 := mkS _ hU10.low hX10
        refine hK _ _ hSS10 ?_
        clear hK hr hk hU9 hX9 hSS9 f16_9 f20_9
        refine lG 21 fun K hK => ?_
        obtain ⟨v21,w11,hr,hU11,_⟩ := hU10.appO HVi.out Hoo.out f20_10 (by omega)
        go_wp2_with (at_builtin; refine list_run rfl (.tmp 66) (.tmp 68) 96 rfl _ _ _ rfl rfl hr ?_)
        refine hK _ _ ?_
        clear hK hr hU10 hX10 f20_10 hSS10
        refine tA 22 ?_
        refine tA 23 ?_
        refine tA 24 ?_
        refine doneG (by kernel_rfl) ?_ _
        go_wp2
        go_roundw
        case rel => exact ⟨i + 1,_,_,_,V2,by omega,by go_num,rfl,rfl,rfl,HK2,by rw [HO2.out]; exact hU11⟩
        case measure => simp [intOf]; omega
      ·go_wp2_with fail
       have hU7 := hU6.alloc (.cells #[.int .i64 (b i)] 3)
       have hX7 := hX6.later ((Below.refl _ _).alloc (Nat.le_refl _) (.cells #[.int .i64 (b i)] 3))
       have f20_7 := f20_6.later ((Below.refl _ _).alloc (Nat.le_refl _) (.cells #[.int .i64 (b i)] 3))
       have f16_7 := Fr.new w6 3 #[.int .i64 (b i)]
       have hSS7 := mkS _ hU7.low hX7
       refine hK _ _ hSS7 ?_
       clear hK hU6 hX6 f20_6 hSS6
       generalize w6.alloc (.cells #[.int .i64 (b i)] 3) = w7 at *
       generalize w6.heap.size = g16 at *
       refine oG 7 fun K hK => ?_
       go_wp2_with fail
       have hU8 := hU7.alloc (.cells #[.string (s i)] 9)
       have hX8 := hX7.later ((Below.refl _ _).alloc (Nat.le_refl _) (.cells #[.string (s i)] 9))
       have f16_8 := f16_7.later ((Below.refl _ _).alloc (Nat.le_refl _) (.cells #[.string (s i)] 9))
       have f20_8 := f20_7.later ((Below.refl _ _).alloc (Nat.le_refl _) (.cells #[.string (s i)] 9))
       have f7_8 := Fr.new w7 9 #[.string (s i)]
       have hSS8 := mkS _ hU8.low hX8
       refine hK _ _ hSS8 ?_
       clear hK hU7 hX7 f16_7 f20_7 hSS7
       generalize w7.alloc (.cells #[.string (s i)] 9) = w8 at *
       generalize w7.heap.size = g7 at *
       refine oG 8 fun K hK => ?_
       obtain ⟨v8,w9,hr,hU9,hk,_⟩ := hU8.appN f7_8 (by omega)
       go_wp2_with (at_builtin; refine list_run rfl (.tmp 48) (.tmp 55) 72 rfl _ _ _ rfl rfl hr ?_)
       have hX9 := hk _ _ _ hX8 (by decide)
       have f16_9 := hk _ _ _ f16_8 (by decide)
       have f20_9 := hk _ _ _ f20_8 (by decide)
       have hSS9 := mkS _ hU9.low hX9
       refine hK _ _ hSS9 ?_
       clear hK hr hk hU8 hX8 hSS8 f7_8 f16_8 f20_8
       refine oG 17 fun K hK => ?_
       obtain ⟨v17,w10,hr,hU10,hk,_⟩ := hU9.appB f16_9 (by omega)
       go_wp2_with (at_builtin; refine list_run rfl (.tmp 57) (.tmp 64) 97 rfl _ _ _ rfl rfl hr ?_)
       have hX10 := hk _ _ _ hX9 (by decide)
       have f20_10 := hk _ _ _ f20_9 (by decide)
       have hSS10 := mkS _ hU10.low hX10
       refine hK _ _ hSS10 ?_
       clear hK hr hk hU9 hX9 hSS9 f16_9 f20_9
       refine lG 21 fun K hK => ?_
       obtain ⟨v21,w11,hr,hU11,_⟩ := hU10.appO HVi.out Hoo.out f20_10 (by omega)
       go_wp2_with (at_builtin; refine list_run rfl (.tmp 66) (.tmp 68) 96 rfl _ _ _ rfl rfl hr ?_)
       refine hK _ _ ?_
       clear hK hr hU10 hX10 f20_10 hSS10
       refine tA 22 ?_
       refine tA 23 ?_
       refine tA 24 ?_
       refine doneG (by kernel_rfl) ?_ _
       go_wp2
       go_roundw
       case rel => exact ⟨i + 1,_,_,_,V2,by omega,by go_num,rfl,rfl,rfl,HK2,by rw [HO2.out]; exact hU11⟩
       case measure => simp [intOf]; omega
    ·obtain ⟨z,hz⟩ := errV_pos hF
     have HEND : Hid (UseEnd (w3.alloc (.cells (vo.cells (parseF t).2) 116)) w.heap.size D S (rdD D T) n s st b nq qp qt qv (.returned (.tuple #[.slice none 0 0,.iface 74 (.int .i64 z)]))) := by
      have h2 := UseEnd.bad (w := w3.alloc (.cells (vo.cells (parseF t).2) 116)) (B0 := w.heap.size) (D := D) (S := S) (rd := rdD D T) (n := n) (s := s) (st := st) (b := b) (np := nq) (p := qp) (t := qt) (v := qv) i hlt HK.out (by rw [HIS.out]; exact hF) HST.out
      rw [HIS.out,hz] at h2
      exact h2
     have hbE : Below w.heap.size w (w3.alloc (.cells (vo.cells (parseF t).2) 116)) := ((hbW.trans (hU2.low.mono (Nat.le_of_lt hzW))).trans (hbP.mono (Nat.le_trans (Nat.le_of_lt hzW) hU2.low.size))).trans ((Below.refl _ _).alloc (Nat.le_trans (Nat.le_trans (Nat.le_of_lt hzW) hU2.low.size) hbP.size) _)
     rw [hz]
     generalize (parseF t).2 = oo at *
     unfold ObjV.cells at *
     clear hU2 hOA hON hbP hF HIS hb3 hz
     go_wp2
     go_ret2
     exact ⟨HEND.out,hbE⟩
   ·have hin : i = n := by omega
    subst hin
    obtain ⟨an,cn,rfl,rN⟩ := rows1 hU.names
    obtain ⟨ab,cb,rfl,rB⟩ := rows1 hU.bases
    obtain ⟨ao,co,rfl,_,rO⟩ := OwnObjs.row hU.objs hU.at'
    have HL := lay_any an ab ao aQ i cn cb co nq cQ s b V (fun j => (rdD D T (s j)).2) qp qt qv wr (by omega) (fun j hj => by have := (rd_ok (HK.out j hj)).nW; omega) (by omega) rN rB rO (hq1.later hlow)
    have hbE := hbW.trans (hlow.mono (Nat.le_of_lt hzW))
    have hBle : w.heap.size <= wr.heap.size := Nat.le_trans (Nat.le_of_lt hzW) hlow.size
    have hlt' : ¬ (i : Int) < (i : Int) := by omega
    clear rN rB rO hU hr1
    go_wp2_with fail
    refine HL.mono ?_
    rintro e w5 ⟨hl,hb5⟩
    clear HL
    have hbF := hbE.trans (hb5.mono hBle)
    have hl2 := hl.base hBle
    cases hl with
    | bad h =>
     have q1 : errV 1 = .iface 74 (.int .i64 1) := rfl
     rw [q1] at hl2 ⊢
     go_wp2
     go_ret2
     exact ⟨.lay _ HST.out HK.out hl2,hbF⟩
    | ok u g A C G h ho hu =>
     go_wp2
     go_ret2
     exact ⟨.lay _ HST.out HK.out hl2,hbF⟩
end Go.Proofs.YthdccmjdbcllkaaGreatDoor
namespace Go.Proofs.YthdccmjdbcllkaaGreatDoor
open Go.RowKit
def FewBool (pn qn : Nat) (e : Ending) : Prop := ∃ b,e = .returned (.bool b) /\ (b = true -> pn <= 8 /\ qn <= 40)
set_option maxRecDepth 100000 in
set_option maxHeartbeats 1000000 in
theorem lightEntry_few (root : ByteArray) (pa qa : Option Addr) (pn pc qn qc : Nat) (f : Nat -> ByteArray) (w : World) (hp : PartsRow w pa pn f) :
 Calls Tryz.prog 6 #[.agg #[.string root,.slice pa pn pc,.slice qa qn qc]] w fun e w' => FewBool pn qn e /\ Below w.heap.size w w' := by
 have hx : Below w.heap.size w (w.alloc (.cells #[.string root,.slice pa pn pc,.slice qa qn qc] 26)) := (Below.refl _ _).alloc (Nat.le_refl _) _
 have c0 : (w.alloc (.cells #[.string root,.slice pa pn pc,.slice qa qn qc] 26)).cell? ⟨w.heap.size,0,none⟩ = some (.string root) := by simp [go_sem]
 have c1 : (w.alloc (.cells #[.string root,.slice pa pn pc,.slice qa qn qc] 26)).cell? ⟨w.heap.size,1,none⟩ = some (.slice pa pn pc) := by simp [go_sem]
 have c2 : (w.alloc (.cells #[.string root,.slice pa pn pc,.slice qa qn qc] 26)).cell? ⟨w.heap.size,2,none⟩ = some (.slice qa qn qc) := by simp [go_sem]
 by_cases hc : 20 < root.size ∨ 8 < pn ∨ 40 < qn
 ·go_enter Tryz.func6,Tryz.ntmps6
  go_wp2
  all_goals first | (go_ret; exact ⟨⟨false,rfl,fun h => by cases h⟩,hx⟩) | (exfalso; omega)
 ·have g1 : ¬ (20 : Int) < root.size := by omega
  have g2 : ¬ (8 : Int) < pn := by omega
  have g3 : ¬ (40 : Int) < qn := by omega
  have h8 : pn <= 8 := by omega
  have h40 : qn <= 40 := by omega
  have hp' := hp.later hx
  clear hc hp
  go_enter Tryz.func6,Tryz.ntmps6
  go_wp2
  generalize w.alloc (.cells #[.string root,.slice pa pn pc,.slice qa qn qc] 26) = Y at *
  go_loopw [3] (fun x wr => ∃ k : Nat,k <= pn /\ x = .int .i64 k /\ wr = Y) (fun x _ => pn - (intOf x).toNat)
  case atStart => exact ⟨0,Nat.zero_le _,rfl,rfl⟩
  case round =>
   obtain ⟨k,hk,rfl,hw⟩ := hrel
   replace hw := hw.symm
   subst hw
   by_cases hlt : k < pn
   ·rcases hp' with h0 | ⟨b1,o1,rfl,h5⟩
    ·omega
    have p0 := h5 k hlt
    clear h5
    go_wp2
    all_goals first
     | (go_ret; exact ⟨⟨false,rfl,fun h => by cases h⟩,hx⟩)
     | (go_roundw
        case rel => exact ⟨k + 1,by omega,by go_num,trivial⟩
        case measure => simp [intOf]; omega)
   ·go_wp2
    go_ret
    exact ⟨⟨true,rfl,fun _ => ⟨h8,h40⟩⟩,hx⟩
theorem RowE.fewRow {w : World} {a : Option Addr} {n : Nat} {s : Nat -> ByteArray} {k b : Nat -> Int} (h : RowE w a n s k b) : PartsRow w a n s := h.imp id (fun ⟨bk,o,ha,hc⟩ => ⟨bk,o,ha,fun i hi => (hc i hi).1⟩)
end Go.Proofs.YthdccmjdbcllkaaGreatDoor
namespace Go.Proofs.YthdccmjdbcllkaaGreatDoor
end Go.Proofs.YthdccmjdbcllkaaGreatDoor
namespace Go.Proofs.YthdccmjdbcllkaaGreatDoor
open Go.RowKit Go.Maps
theorem parts_row {w : World} {B0 : Nat} {v : Value} {n : Nat} {nm : Nat -> ByteArray} {B : Nat -> Int} {M : Nat -> Nat} {X : Nat -> Nat -> Int} {g : Nat} {A : Nat -> Option Addr} {C G : Nat -> Nat} (h : PartsIn w B0 v n nm B M X g A C G) :
 ∃ a c,v = .slice a n c /\ n <= c /\ PartRow w a n nm B A M C X := by
 obtain ⟨a,c,rfl,hc⟩ := owns_shape h.own
 refine ⟨a,c,rfl,hc,?_⟩
 by_cases h0 : n = 0
 ·exact .inl h0
 ·have key : ∀ i,i < n -> ∀ j u,(partC nm B A M C i)[j]? = some u -> j < 3 -> ∃ g,a = some ⟨g,0,none⟩ /\ B0 <= g /\ w.cell? ⟨g,i * 3 + j,none⟩ = some u := fun i hi j u hu hj =>
   owns_cell h.own (by rw [joinC_at (s := 3) (fun i _ => rfl) hi hj]; exact hu)
  obtain ⟨g0,ha,_,_⟩ := key 0 (by omega) 0 _ rfl (by omega)
  refine .inr ⟨g0,0,ha,fun i hi => ?_⟩
  have get : ∀ j u,(partC nm B A M C i)[j]? = some u -> j < 3 -> w.cell? ⟨g0,i * 3 + j,none⟩ = some u := fun j u hu hj => by
   obtain ⟨g',ha',_,hc'⟩ := key i hi j u hu hj
   rw [ha] at ha'
   injection ha' with ha'
   injection ha' with ha'
   subst ha'
   exact hc'
  refine ⟨by rw [Nat.zero_add]; exact get 0 _ rfl (by omega),by rw [Nat.zero_add]; exact get 1 _ rfl (by omega),by rw [Nat.zero_add]; exact get 2 _ rfl (by omega),?_⟩
  by_cases hm : M i = 0
  ·exact .inl hm
  ·exact .inr ⟨G i,0,h.out.adr i hi (by omega),fun j hj => by rw [Nat.zero_add]; exact h.out.row i hi j hj⟩
end Go.Proofs.YthdccmjdbcllkaaGreatDoor
namespace Go.Proofs.YthdccmjdbcllkaaGreatDoor
open Go.RowKit Go.Maps
section
variable {O : Nat -> ObjF} {P Q : ByteArray -> Int} {B : Nat -> Int} {m : Nat}
end
structure TieIs (O : Nat -> ObjF) (P Q : ByteArray -> Int) (B : Nat -> Int) (m i q : Nat) (p : Int) : Prop where
 word : (tieW O P Q B i q).2 = if (O i).tKind q = 3 then p + (O i).tAdd q - (B i + (O i).tAt q) else p + (O i).tAdd q
 base : (O i).tKind q = 1 -> p = B i
 nobody : (O i).tKind q ≠ 1 -> P ((O i).tName q) < 0 -> p = 0 /\ (O i).tWeak q = true
 found : (O i).tKind q ≠ 1 -> ¬ P ((O i).tName q) < 0 -> ∃ x y : Nat,P ((O i).tName q) = x /\ Q ((O i).tName q) = y /\ x < m /\ y < (O x).nS /\ p = B x + (O x).sAt y
theorem names_same {rd rd' : ByteArray -> Nat × ObjF} {root : ByteArray} {m : Nat} (e : ∀ j,j < m -> rd' (nmAt rd root j) = rd (nmAt rd root j)) : ∀ i,i <= m -> namesAt rd' root i = namesAt rd root i
 | 0,_ => rfl
 | i + 1,hi => by
  have ih := names_same e i (by omega)
  have he : rd' (nmAt rd root i) = rd (nmAt rd root i) := e i (by omega)
  have hn : nmAt rd' root i = nmAt rd root i := by unfold nmAt; rw [ih]
  show joinL (namesAt rd' root i) (needsTo (rd' (nmAt rd' root i)).2 (rd' (nmAt rd' root i)).2.nN) = joinL (namesAt rd root i) (needsTo (rd (nmAt rd root i)).2 (rd (nmAt rd root i)).2.nN)
  rw [ih,hn,he]
theorem nm_same {rd rd' : ByteArray -> Nat × ObjF} {root : ByteArray} {m : Nat} (e : ∀ j,j < m -> rd' (nmAt rd root j) = rd (nmAt rd root j)) {i : Nat} (hi : i <= m) : nmAt rd' root i = nmAt rd root i := by
 unfold nmAt; rw [names_same e i hi]
theorem ob_same {rd rd' : ByteArray -> Nat × ObjF} {root : ByteArray} {m : Nat} (e : ∀ j,j < m -> rd' (nmAt rd root j) = rd (nmAt rd root j)) {i : Nat} (hi : i < m) : obAt rd' root i = obAt rd root i := by
 show (rd' (nmAt rd' root i)).2 = (rd (nmAt rd root i)).2
 rw [nm_same e (by omega),e i hi]
theorem of_same {rd rd' : ByteArray -> Nat × ObjF} {root : ByteArray} {m : Nat} (h : OfIs rd root 0 m) (e : ∀ j,j < m -> rd' (nmAt rd root j) = rd (nmAt rd root j)) : OfIs rd' root 0 m := by
 generalize hF : (0 : Nat) = F at h
 cases h with
 | bad _ _ _ hf => exact absurd hF.symm hf
 | ok _ h hi =>
  refine .ok m (fun j hj => ?_) (by rw [names_same e m (Nat.le_refl _)]; exact hi)
  rw [names_same e j (by omega),nm_same e (by omega),e j hj]
  exact h j hj
theorem bases_same {m : Nat} {sz sz' b : Nat -> Int} {F : Nat} (h : BasesAre m sz 0 (fun _ => 0) (fun _ => 0) F b) (e : ∀ i,i < m -> sz i = sz' i) : BasesAre m sz' 0 (fun _ => 0) (fun _ => 0) F b := by
 have hp : placeF m sz 0 (fun _ => 0) (fun _ => 0) = placeF m sz' 0 (fun _ => 0) (fun _ => 0) := by
  unfold placeF
  rw [anyTo_congr (p := fun i => decide (sz i < 1 ∨ 40 < sz i)) (q := fun i => decide (sz' i < 1 ∨ 40 < sz' i)) fun i hi => by rw [e i hi]]
 have hh : ∀ i,i < m -> ∀ j,j < 0 + i -> heldF (fun _ => 0) 0 b j = heldF (fun _ => 0) 0 b j /\ heldF (fun _ => 0) 0 (fun j => roundF (sz j)) j = heldF (fun _ => 0) 0 (fun j => roundF (sz' j)) j := fun i hi j hj => ⟨rfl,by
  unfold heldF
  rw [if_neg (by omega),if_neg (by omega)]
  show roundF (sz (j - 0)) = roundF (sz' (j - 0))
  rw [e _ (by omega)]⟩
 have hl : ∀ i,i < m -> Laid (fun _ => 0) (fun _ => 0) 0 sz b i -> Laid (fun _ => 0) (fun _ => 0) 0 sz' b i := fun i hi ⟨k,hk,hb⟩ => ⟨k,hk,by rw [<- e i hi]; exact hb.congr (hh i hi)⟩
 cases h with
 | bad _ h => rw [hp] at h ⊢; exact .bad _ h
 | full _ i h hi hl' hn => exact .full _ i (by rw [<- hp]; exact h) hi (fun j hj => hl j (by omega) (hl' j hj)) (by unfold LaidNot; rw [<- e i hi]; exact NoBase.congr hn (hh i hi))
 | ok _ h hl' => exact .ok _ (by rw [<- hp]; exact h) fun j hj => hl j hj (hl' j hj)
theorem hit_same {m : Nat} {O O' : Nat -> ObjF} (e : ∀ i,i < m -> O' i = O i) {s : ByteArray} {i k : Nat} (h : Hit (symsF m O) s i k) : Hit (symsF m O') s i k /\ (symsF m O').wk i k = (symsF m O).wk i k := by
 obtain ⟨h1,h2,h3⟩ := h
 have h1' : i < m := h1
 refine ⟨⟨h1,?_,?_⟩,?_⟩
 ·show k < (O' i).nS
  rw [e i h1']; exact h2
 ·show (O' i).sName k = s
  rw [e i h1']; exact h3
 ·show (O' i).sWeak k = (O i).sWeak k
  rw [e i h1']
theorem found_same {m : Nat} {O O' : Nat -> ObjF} (e : ∀ i,i < m -> O' i = O i) {s : ByteArray} {p q : Int} (h : IsFound (symsF m O) s p q) : IsFound (symsF m O') s p q := by
 have e' : ∀ i,i < m -> O i = O' i := fun i hi => (e i hi).symm
 cases h with
 | strong i k h hw hb => exact .strong i k (hit_same e h).1 (by rw [(hit_same e h).2]; exact hw) fun a b hh hbf => by rw [(hit_same e (hit_same e' hh).1).2]; exact hb a b (hit_same e' hh).1 hbf
 | weak i k h hf hw => exact .weak i k (hit_same e h).1 (fun a b hh => hf a b (hit_same e' hh).1) fun a b hh => by rw [(hit_same e (hit_same e' hh).1).2]; exact hw a b (hit_same e' hh).1
 | none h => exact .none fun a b hh => h a b (hit_same e' hh).1
theorem finds_same {m : Nat} {O O' : Nat -> ObjF} (e : ∀ i,i < m -> O' i = O i) {P Q : ByteArray -> Int} (h : Finds (symsF m O) P Q) : Finds (symsF m O') P Q := ⟨fun s => found_same e (h.is s)⟩
theorem tie_same {m : Nat} {O O' : Nat -> ObjF} (e : ∀ i,i < m -> O' i = O i) {P Q : ByteArray -> Int} (h : Finds (symsF m O) P Q) (B : Nat -> Int) {i : Nat} (hi : i < m) (k : Nat) : tieW O' P Q B i k = tieW O P Q B i k := by
 unfold tieW whereF
 rw [e i hi]
 split
 ·rfl
 ·split
  ·rename_i hp
   rcases h.shape ((O i).tName k) with ⟨h1,_⟩ | ⟨x,y,h1,h2,h3,_,_⟩
   ·rw [h1] at hp; omega
   ·rw [h1,h2,Int.toNat_natCast,e x h3]
  ·rfl
theorem patsOf_same {m : Nat} {O O' : Nat -> ObjF} (e : ∀ i,i < m -> O' i = O i) {P Q : ByteArray -> Int} (h : Finds (symsF m O) P Q) (B : Nat -> Int) {i : Nat} (hi : i < m) (k : Nat) : patsOf O' P Q B i k = patsOf O P Q B i k := by
 induction k with
 | zero => rfl
 | succ k ih => simp only [patsOf]; rw [ih,tie_same e h B hi,e i hi]
theorem patsTo_same {m : Nat} {O O' : Nat -> ObjF} (e : ∀ i,i < m -> O' i = O i) {P Q : ByteArray -> Int} (h : Finds (symsF m O) P Q) (B : Nat -> Int) : ∀ n,n <= m -> patsTo O' P Q B n = patsTo O P Q B n
 | 0,_ => rfl
 | n + 1,hn => by simp only [patsTo]; rw [patsTo_same e h B n (by omega),e n (by omega),patsOf_same e h B (by omega)]
theorem faultTo_same {g h : Nat -> Nat} {n : Nat} (e : ∀ i,i < n -> g i = h i) : faultTo g n = faultTo h n := by
 induction n with
 | zero => rfl
 | succ n ih => simp only [faultTo]; rw [ih fun i hi => e i (by omega),e n (by omega)]
theorem all_same {m : Nat} {O O' : Nat -> ObjF} (e : ∀ i,i < m -> O' i = O i) {P Q : ByteArray -> Int} (h : Finds (symsF m O) P Q) (B : Nat -> Int) : allF m O' P Q m B = allF m O P Q m B := by
 have key : faultTo (fun i => faultTo (fun k => (tieW O' P Q B i k).1) (O' i).nT) m = faultTo (fun i => faultTo (fun k => (tieW O P Q B i k).1) (O i).nT) m := faultTo_same fun i hi => by
  show faultTo (fun k => (tieW O' P Q B i k).1) (O' i).nT = faultTo (fun k => (tieW O P Q B i k).1) (O i).nT
  rw [e i hi]
  exact faultTo_same fun k _ => by rw [tie_same e h B hi]
 unfold allF tiesF
 rw [key]
theorem reckIs_same {rd rd' : ByteArray -> Nat × ObjF} {root : ByteArray} {m F : Nat} (hO : OfIs rd root 0 m) (e : ∀ j,j < m -> rd' (nmAt rd root j) = rd (nmAt rd root j)) (h : ReckIs rd root F) : ReckIs rd' root F := by
 have ho : ∀ i,i < m -> obAt rd' root i = obAt rd root i := fun i hi => ob_same e hi
 cases h with
 | of i h hf => exact absurd (h.unique hO).1 hf
 | bases m' B h hb hf =>
  obtain ⟨_,rfl⟩ := h.unique hO
  exact .bases m' B (of_same hO e) (bases_same hb fun i hi => by show ((obAt rd root i).nW : Int) = ((obAt rd' root i).nW : Int); rw [ho i hi]) hf
 | all m' B P Q h hb hz hP he hf =>
  obtain ⟨_,rfl⟩ := h.unique hO
  exact .all m' B P Q (of_same hO e) (bases_same hb fun i hi => by show ((obAt rd root i).nW : Int) = ((obAt rd' root i).nW : Int); rw [ho i hi]) hz (finds_same ho hP) (by rw [all_same ho hP]; exact he) hf
theorem reckoned_same {rd rd' : ByteArray -> Nat × ObjF} {root : ByteArray} {m : Nat} {B : Nat -> Int} {P Q : ByteArray -> Int} (h : Reckoned rd root m B P Q) (e : ∀ j,j < m -> rd' (nmAt rd root j) = rd (nmAt rd root j)) :
 Reckoned rd' root m B P Q /\ patsAt rd' root m B P Q = patsAt rd root m B P Q /\ (∀ i,i < m -> nmAt rd' root i = nmAt rd root i /\ obAt rd' root i = obAt rd root i) := by
 have ho : ∀ i,i < m -> obAt rd' root i = obAt rd root i := fun i hi => ob_same e hi
 exact ⟨⟨of_same h.of e,bases_same h.bases fun i hi => by show ((obAt rd root i).nW : Int) = ((obAt rd' root i).nW : Int); rw [ho i hi],h.zero,finds_same ho h.finds,by rw [all_same ho h.finds]; exact h.all⟩,patsTo_same ho h.finds B m (Nat.le_refl _),fun i hi => ⟨nm_same e (by omega),ho i hi⟩⟩
theorem putF_same {X X' : Nat -> Nat -> Int} {p t v : Nat -> Int} {i : Nat} (e : ∀ j,X' i j = X i j) (n j : Nat) : putF X' p t v n i j = putF X p t v n i j := by
 induction n with
 | zero => exact e j
 | succ n ih => simp only [putF]; rw [ih]
theorem boundW_same {rd rd' : ByteArray -> Nat × ObjF} {root : ByteArray} {m : Nat} {B : Nat -> Int} {P Q : ByteArray -> Int} (hp : patsAt rd' root m B P Q = patsAt rd root m B P Q) {i : Nat} (ho : obAt rd' root i = obAt rd root i) (j : Nat) : boundW rd' root m B P Q i j = boundW rd root m B P Q i j := by
 unfold boundW
 rw [hp]
 exact putF_same (fun j => by rw [ho]) _ _
theorem PartsIn.congr {w : World} {B0 : Nat} {v : Value} {n : Nat} {nm nm' : Nat -> ByteArray} {B : Nat -> Int} {M M' : Nat -> Nat} {X X' : Nat -> Nat -> Int} {g : Nat} {A : Nat -> Option Addr} {C G : Nat -> Nat} (h : PartsIn w B0 v n nm B M X g A C G)
 (e : ∀ i,i < n -> nm i = nm' i /\ M i = M' i /\ ∀ j,X i j = X' i j) : PartsIn w B0 v n nm' B M' X' g A C G where
 out := { h.out with
  top := fun i hi => by rw [<- (e i hi).2.1]; exact h.out.top i hi
  adr := fun i hi hm => h.out.adr i hi (by rw [(e i hi).2.1]; exact hm)
  own := fun i hi hm => h.out.own i hi (by rw [(e i hi).2.1]; exact hm)
  ne := fun i hi hm => h.out.ne i hi (by rw [(e i hi).2.1]; exact hm)
  row := fun i hi j hj => by rw [<- (e i hi).2.2 j]; exact h.out.row i hi j (by rw [(e i hi).2.1]; exact hj)
  rfree := fun i hi hm => h.out.rfree i hi (by rw [(e i hi).2.1]; exact hm)
  apart := fun i j hi hj hij hmi hmj => h.out.apart i j hi hj hij (by rw [(e i hi).2.1]; exact hmi) (by rw [(e j hj).2.1]; exact hmj) }
 own := by
  have := h.own
  rwa [joinC_congr (g := partC nm B A M C) (h := partC nm' B A M' C) fun i hi => by unfold partC; rw [(e i hi).1,(e i hi).2.1]] at this
theorem LoadEnd.same {w : World} {B0 : Nat} {rd rd' : ByteArray -> Nat × ObjF} {root : ByteArray} {m : Nat} {e : Ending} (h : LoadEnd w B0 rd' root e) (hO : OfIs rd root 0 m) (hs : ∀ j,j < m -> rd' (nmAt rd root j) = rd (nmAt rd root j)) : LoadEnd w B0 rd root e := by
 have hs' : ∀ j,j < m -> rd (nmAt rd' root j) = rd' (nmAt rd' root j) := fun j hj => by rw [nm_same hs (by omega)]; exact (hs j hj).symm
 have hO' := of_same hO hs
 cases h with
 | bad F h hf => exact .bad F (reckIs_same hO' hs' h) hf
 | ok m' B P Q u g A C G h hu =>
  obtain ⟨_,rfl⟩ := h.of.unique hO'
  obtain ⟨h1,h2,h3⟩ := reckoned_same h hs'
  exact .ok m' B P Q u g A C G h1 (hu.congr fun i hi => ⟨(h3 i hi).1.symm,by rw [(h3 i hi).2],fun j => (boundW_same h2 (h3 i hi).2 j).symm⟩)
def Stays (B : Nat) (w w' : World) : Prop := w.heap.size <= w'.heap.size /\ ∀ j,B <= j -> j < w.heap.size -> w'.heap[j]? = w.heap[j]?
theorem Stays.trans {B : Nat} {a b c : World} (h : Stays B a b) (g : Stays B b c) : Stays B a c := ⟨Nat.le_trans h.1 g.1,fun j hB hj => (g.2 j hB (Nat.lt_of_lt_of_le hj h.1)).trans (h.2 j hB hj)⟩
theorem Stays.of {B : Nat} {w w' : World} (h : Below w.heap.size w w') : Stays B w w' := ⟨h.size,fun j _ hj => h.block j hj⟩
theorem Stays.turned {B p bm : Nat} {w w' : World} (h : Turned p bm w w') (hp : p < B) (hbm : bm < B) : Stays B w w' := ⟨h.size,fun j hB hj => h.block j hj (by omega) (by omega)⟩
end Go.Proofs.YthdccmjdbcllkaaGreatDoor
namespace Go.Proofs.YthdccmjdbcllkaaGreatDoor
open Go.RowKit Go.Maps
theorem texts_at {D : DataW Unit} {k : Nat} {T : ByteArray -> ByteArray} (hI : Inv D k) (hT : Texts D T) {x : ByteArray} (h : Maps.has D (keyB x) = true) : ∃ n,D.atKey (keyB x) (fileD [] 0) = fileD (T x).data.toList n := by
 obtain ⟨t,n,h1,_⟩ := hI.st _ h
 have h2 : D.atKey (keyB x) (fileD [] 0) = fileD (⟨t.toArray⟩ : ByteArray).data.toList n := by simpa using h1
 exact ⟨n,by rw [<- hT.is x _ n h h2]; exact h2⟩
theorem rd_del_other {D : DataW Unit} {k : Nat} {T T' : ByteArray -> ByteArray} {s : ByteArray} (hI : Inv D k) (hT : Texts D T) (hT' : Texts (D.del (keyB s)) T') {x : ByteArray} (hx : x ≠ s) : rdD (D.del (keyB s)) T' x = rdD D T x := by
 have hk : keyB x ≠ keyB s := fun e => hx (keyB_inj' e)
 unfold rdD
 rw [has_del_other hk]
 split
 ·rename_i h
  obtain ⟨n,hn⟩ := texts_at hI hT h
  rw [hT'.is x (T x) n (by rw [has_del_other hk]; exact h) (by rw [atKey_del_other hk]; exact hn)]
 ·rfl
structure Else (D : DataW Unit) (T : ByteArray -> ByteArray) (s : ByteArray) (D' : DataW Unit) (k' : Nat) : Prop where
 inv : Inv D' k'
 read : ∀ T',Texts D' T' -> ∀ x,x ≠ s -> rdD D' T' x = rdD D T x
theorem Else.refl {D : DataW Unit} {k : Nat} {T : ByteArray -> ByteArray} {s : ByteArray} (hI : Inv D k) (hT : Texts D T) : Else D T s D k := ⟨hI,fun T' hT' x _ => by
 unfold rdD
 split
 ·rename_i h
  obtain ⟨n,hn⟩ := texts_at hI hT h
  rw [hT'.is x (T x) n h hn]
 ·rfl⟩
theorem Else.del {D D' : DataW Unit} {k' : Nat} {T : ByteArray -> ByteArray} {s : ByteArray} (h : Else D T s D' k') : Else D T s (D'.del (keyB s)) k' := by
 obtain ⟨T1,hT1⟩ := texts_some D'
 exact ⟨h.inv.del,fun T' hT' x hx => (rd_del_other h.inv hT1 hT' hx).trans (h.read T1 hT1 x hx)⟩
theorem MadeEnd.same {w : World} {B0 : Nat} {rd rd' : ByteArray -> Nat × ObjF} {S S' : ByteArray -> Int} {root : ByteArray} {m : Nat} {e : Ending} (h : MadeEnd w B0 rd' S' root e) (hO : OfIs rd root 0 m) (hs : ∀ j,j < m -> rd' (nmAt rd root j) = rd (nmAt rd root j)) (hS : ∀ j,j < m -> S' (nmAt rd root j) = S (nmAt rd root j)) : MadeEnd w B0 rd S root e := by
 have hs' : ∀ j,j < m -> rd (nmAt rd' root j) = rd' (nmAt rd' root j) := fun j hj => by rw [nm_same hs (by omega)]; exact (hs j hj).symm
 have hO' := of_same hO hs
 cases h with
 | bad F h hf => exact .bad F (reckIs_same hO' hs' h) hf
 | ok m' B P Q aP aQ cP cQ h hp hq =>
  obtain ⟨_,rfl⟩ := h.of.unique hO'
  obtain ⟨h1,h2,h3⟩ := reckoned_same h hs'
  rw [<- h2] at hq ⊢
  refine .ok m' B P Q aP aQ cP cQ h1 ?_ hq
  rwa [joinC_congr (g := stmC (nmAt rd' root) S' B) (h := stmC (nmAt rd root) S B) fun i hi => by unfold stmC; rw [<- (h3 i hi).1,hS i hi]] at hp
end Go.Proofs.YthdccmjdbcllkaaGreatDoor
namespace Go.Proofs.YthdccmjdbcllkaaGreatDoor
open Go.RowKit Go.Maps
def NamesOk (D : DataW Unit) : Prop := ∀ s,Maps.has D (keyB s) = true -> nameF s.data.toList = 0
theorem NamesOk.empty : NamesOk (.map []) := fun s h => by simp [Maps.has] at h
theorem writeF_name {D : DataW Unit} {k : Nat} {s t : ByteArray} (h : writeF D k s t = 0) : nameF s.data.toList = 0 := by
 unfold writeF at h
 exact (seqF_zero_iff.1 h).1
theorem NamesOk.put {D : DataW Unit} {k : Nat} {s t : ByteArray} {d : DataW Unit} (h : NamesOk D) (hF : writeF D k s t = 0) : NamesOk (D.put (keyB s) d) := fun x hx => by
 by_cases e : x = s
 ·subst e; exact writeF_name hF
 ·rw [has_put_other (fun q => e (keyB_inj' q))] at hx
  exact h x hx
theorem NamesOk.del {D : DataW Unit} {s : ByteArray} (h : NamesOk D) : NamesOk (D.del (keyB s)) := fun x hx => by
 by_cases e : x = s
 ·subst e; rw [has_del_same] at hx; cases hx
 ·rw [has_del_other (fun q => e (keyB_inj' q))] at hx
  exact h x hx
theorem FilesAt.set {w : World} {p bm be i : Nat} {D : DataW Unit} {k : Nat} {v : Value} (h : FilesAt w p bm D k) (hp : be ≠ p) (hbm : be ≠ bm) : FilesAt (w.setCell ⟨be,i,none⟩ v) p bm D k :=
 ⟨(Below.heap_setCell _ _ _ _ (Ne.symm hp)).trans h.blk,h.own.kept (row := some be) (grownBy_setCell w be i v) (fun e => hbm (Option.some.inj e).symm)⟩
def StampsPos (D : DataW Unit) : Prop := ∀ s t n,Maps.has D (keyB s) = true -> D.atKey (keyB s) (fileD [] 0) = fileD t n -> 1 <= n
theorem StampsPos.empty : StampsPos (.map []) := fun s t n h _ => by simp [Maps.has] at h
theorem StampsPos.put {D : DataW Unit} {k : Nat} {s : ByteArray} {t : List UInt8} (hI : Inv D k) (h : StampsPos D) : StampsPos (D.put (keyB s) (fileD t ((k : Int) + 1))) := fun x t' n hx ha => by
 by_cases e : x = s
 ·subst e
  rw [atKey_put_same hI.tidy.isMap (keyB_key x)] at ha
  have := fileD_stamp ha
  omega
 ·rw [has_put_other (fun q => e (keyB_inj' q))] at hx
  rw [atKey_put_other (fun q => e (keyB_inj' q))] at ha
  exact h x t' n hx ha
theorem StampsPos.del {D : DataW Unit} {s : ByteArray} (h : StampsPos D) : StampsPos (D.del (keyB s)) := fun x t' n hx ha => by
 by_cases e : x = s
 ·subst e; rw [has_del_same] at hx; cases hx
 ·rw [has_del_other (fun q => e (keyB_inj' q))] at hx
  rw [atKey_del_other (fun q => e (keyB_inj' q))] at ha
  exact h x t' n hx ha
theorem same_self (F : Nat) (w : World) : Calls Tryz.prog 9 #[errV F,.int .i64 (F : Int)] w fun e w' => e = .returned (.bool true) /\ w = w' :=
 (same_errV F F w).mono fun _ _ ⟨h,h2⟩ => ⟨by rw [h]; simp,h2⟩
theorem undrewT {p bm : Nat} {w w' : World} (h : Turned p bm w.drew w') : Turned p bm w w' := ⟨h.os,h.tape,h.output,h.size,h.block⟩
theorem both_write {B p bm q k : Nat} {w w' : World} {D : DataW Unit} {L : List FileR} {s t : ByteArray} {F : Nat} (h : Both B w p bm q D L k) (hF : writeF D k s t = F)
 (f1 : F = 0 -> FilesAt w' p bm (D.put (keyB s) (fileD t.data.toList ((k : Int) + 1))) (k + 1)) (f2 : F ≠ 0 -> FilesAt w' p bm D k) (r1 : F = 0 -> RAt B w' q (putR ⟨s,t,(k : Int) + 1⟩ L) (k + 1)) (r2 : F ≠ 0 -> RAt B w' q L k) : ∃ D' L' k',Both B w' p bm q D' L' k' := by
 by_cases h0 : F = 0
 ·have hF0 : writeF D k s t = 0 := hF.trans h0
  exact ⟨_,_,_,f1 h0,r1 h0,h.inv.put hF0,h.agree.put h.inv s t _,by have := (writeF_ok hF0).2.2; omega⟩
 ·exact ⟨_,_,_,f2 h0,r2 h0,h.inv,h.agree,h.most⟩
def FiledEnd (B : Nat) (_ : World) (e : Ending) (w' : World) : Prop := ∃ p bm q D L k,e = .returned (.tuple #[.pointer (some ⟨p,0,none⟩),.pointer (some ⟨q,0,none⟩),.bool true]) /\ Both B w' p bm q D L k /\ B <= p /\ B <= bm
set_option maxRecDepth 100000 in
set_option maxHeartbeats 8000000 in
theorem filed_any (a : Option Addr) (n c : Nat) (X : Nat -> ActF) (w : World) (hr : ActsRow w a n X) (hn : n <= 1000) (hs : ∀ i,i < n -> (X i).s.size <= 100 /\ (X i).t.size <= 1300) :
 Calls Tryz.prog 15 #[.slice a n c] w fun e w' => FiledEnd w.heap.size w e w' /\ Below w.heap.size w w' := by
 have HN := new_any w
 go_enter Tryz.func15,Tryz.ntmps15
 go_wp2_with fail
 refine HN.mono ?_
 rintro e w1 ⟨p,bm,rfl,hp,hbm,hF,hb⟩
 clear HN
 have hb1 : Below w1.heap.size w1 (w1.alloc (.cells #[.slice none 0 0,.int .i64 0] 89)) := (Below.refl _ _).alloc (Nat.le_refl _) _
 have hBoth : Both w.heap.size (w1.alloc (.cells #[.slice none 0 0,.int .i64 0] 89)) p bm w1.heap.size (.map []) [] 0 := by
  refine ⟨hF.later hb1,⟨hb.size,.slice none 0 0,?_,World.ownsRow_nil _ _ _ _⟩,Inv.empty,Agree.empty,by omega⟩
  show (w1.heap.push _)[w1.heap.size]? = _
  rw [Array.getElem?_push_size]
  rfl
 have hB1 := hb.trans (hb1.mono hb.size)
 obtain ⟨q,hq⟩ : ∃ q,w1.heap.size = q := ⟨_,rfl⟩
 rw [hq] at hBoth
 have HQ : Hid (w1.heap.size = q) := hq
 have hqB : w.heap.size <= q := by rw [<- hq]; exact hb.size
 go_wp2
 generalize w1.alloc (.cells #[.slice none 0 0,.int .i64 0] 89) = Y at *
 clear hq hb1 hF hb
 go_loopw [7] (fun x wr => ∃ (i : Nat) (D : DataW Unit) (L : List FileR) (k : Nat),i <= n /\ x = .int .i64 i /\ Both w.heap.size wr p bm q D L k /\ Below w.heap.size w wr) (fun x _ => n - (intOf x).toNat)
 case atStart => exact ⟨0,_,_,0,Nat.zero_le _,rfl,hBoth,hB1⟩
 case round =>
  clear hBoth hB1
  obtain ⟨i,D,L,k,hi,rfl,hBo,hB⟩ := hrel
  by_cases hlt : i < n
  ·rcases hr with h0 | ⟨bk,o,rfl,hc⟩
   ·omega
   have H := (hc i hlt).later hB
   have d0 := H.c0
   have d1 := H.c1
   have d2 := H.c2
   have d3 := H.c3
   have d4 := H.c4
   have d5 := H.c5
   have d6 := H.c6
   have d7 := H.c7
   obtain ⟨hs1,hs2⟩ := hs i hlt
   have hml : (X i).s.size <= maxLen := by simp only [maxLen]; omega
   generalize X i = x at *
   have hbA : ∀ ob : Obj,Below wr.heap.size wr (wr.alloc ob) := fun ob => (Below.refl _ _).alloc (Nat.le_refl _) ob
   have hp8 : wr.heap.size ≠ p := Nat.ne_of_gt hBo.f.lt
   have hm8 : wr.heap.size ≠ bm := Nat.ne_of_gt hBo.f.own.lt
   have hq8 : wr.heap.size ≠ q := by obtain ⟨v,hv,_⟩ := hBo.r.blk; exact Nat.ne_of_gt (Array.getElem?_eq_some_iff.1 hv).1
   have cK : (wr.alloc (.cells #[.string x.kind,.string x.s,.string x.t,.int .i64 x.a,.int .u64 x.k,.string x.root,.slice x.pa x.pn x.pc,.slice x.qa x.qn x.qc] 51)).cell? ⟨wr.heap.size,0,none⟩ = some (.string x.kind) := by simp [go_sem]
   have cS : (wr.alloc (.cells #[.string x.kind,.string x.s,.string x.t,.int .i64 x.a,.int .u64 x.k,.string x.root,.slice x.pa x.pn x.pc,.slice x.qa x.qn x.qc] 51)).cell? ⟨wr.heap.size,1,none⟩ = some (.string x.s) := by simp [go_sem]
   have cT : (wr.alloc (.cells #[.string x.kind,.string x.s,.string x.t,.int .i64 x.a,.int .u64 x.k,.string x.root,.slice x.pa x.pn x.pc,.slice x.qa x.qn x.qc] 51)).cell? ⟨wr.heap.size,2,none⟩ = some (.string x.t) := by simp [go_sem]
   clear H
   go_upto_if 33 with fail
   have hBo1 := hBo.later (hbA (.cells #[.string x.kind,.string x.s,.string x.t,.int .i64 x.a,.int .u64 x.k,.string x.root,.slice x.pa x.pn x.pc,.slice x.qa x.qn x.qc] 51))
   have hB2 := hB.trans ((hbA (.cells #[.string x.kind,.string x.s,.string x.t,.int .i64 x.a,.int .u64 x.k,.string x.root,.slice x.pa x.pn x.pc,.slice x.qa x.qn x.qc] 51)).mono hB.size)
   clear d0 d1 d2 d3 d4 d5 d6 d7 cK hBo hbA
   generalize wr.alloc (.cells #[.string x.kind,.string x.s,.string x.t,.int .i64 x.a,.int .u64 x.k,.string x.root,.slice x.pa x.pn x.pc,.slice x.qa x.qn x.qc] 51) = A1 at *
   generalize wr.heap.size = b8 at *
   go_cut [9] from 33 to 55 (fun v wc => v = .bool true /\ (∃ D' L' k',Both w.heap.size wc p bm q D' L' k') /\ Below w.heap.size w wc /\ wc.cell? ⟨b8,1,none⟩ = some (.string x.s))
   case first =>
    have hF1 := hBo1.f
    have hR1 := hBo1.r
    have hl6 : L.length <= 1000 := by have := hBo1.len; omega
    have hz6 : Maps.size D <= 1000 := by have := hBo1.inv.size; omega
    by_cases hk : x.kind = kWrite
    ·have e1 : (x.kind.toList == [119,114,105,116,101]) = true := by rw [hk,ByteArray.toList_eq]; rfl
     obtain ⟨F,hFw⟩ : ∃ F,writeF D k x.s x.t = F := ⟨_,rfl⟩
     have hFr : writeRF L k x.s x.t = F := (hBo1.agree.fault hBo1.inv hF1.own hBo1.most x.s x.t).symm.trans hFw
     have HW := fun W (hW : FilesAt W p bm D k) => write_any W p bm D k x.s x.t hW hml hz6
     have HWR := fun W (hW : RAt w.heap.size W q L k) (hWB : w.heap.size <= W.heap.size) => writeR_any w.heap.size W q L k x.s x.t hW hl6 hWB hml hBo1.most
     rw [hFw] at HW
     rw [hFr] at HWR
     have HS := fun W => same_self F W
     have hfin : ∀ {W},(F = 0 -> FilesAt W p bm (D.put (keyB x.s) (fileD x.t.data.toList ((k : Int) + 1))) (k + 1)) -> (F ≠ 0 -> FilesAt W p bm D k) -> (F = 0 -> RAt w.heap.size W q (putR ⟨x.s,x.t,(k : Int) + 1⟩ L) (k + 1)) -> (F ≠ 0 -> RAt w.heap.size W q L k) -> ∃ D' L' k',Both w.heap.size W p bm q D' L' k' := fun a b c d => both_write hBo1 hFw a b c d
     clear hFw hFr hBo1 hk
     go_upto_region 11 with fail
     rotate_left
     ·exact absurd (e1.symm.trans (show (x.kind.toList == [119,114,105,116,101]) = false by assumption)) (by decide)
     go_region_law
      (go_simp
       first
        | (go_at_call 18
           refine (HW _ ?hw).mono ?_
           case hw => (first | exact hF1 | exact hF1.later (Below.refl _ _).drew | exact hF1.later (Below.refl _ _).drew.drew | exact hF1.later (Below.refl _ _).drew.drew.drew | exact hF1.later (Below.refl _ _).drew.drew.drew.drew)
           intro e w3 hE
           have he := hE.e
           subst he
           have hT3 := hE.turned
           repeat (replace hT3 := undrewT hT3)
           have hFy := hE.yes
           have hFn := hE.no
           replace hR1 := hR1.turned hF1 hT3
           replace cS := cell_turned hT3 cS hp8 hm8
           replace cT := cell_turned hT3 cT hp8 hm8
           replace hB2 := hB2.trans (hT3.below hB2.size hp hbm)
           clear hE hT3 HW)
        | (go_at_call 19
           refine (HWR _ ?hw ?hs).mono ?_
           case hw => (first | exact hR1 | exact hR1.later (Below.refl _ _).drew | exact hR1.later (Below.refl _ _).drew.drew | exact hR1.later (Below.refl _ _).drew.drew.drew)
           case hs => exact hB2.size
           intro e w4 hE
           have he := hE.e
           subst he
           have hT4 := hE.turned
           repeat (replace hT4 := undrewT hT4)
           have hall := hfin (fun h => (hFy h).turnedQ hR1 hT4) (fun h => (hFn h).turnedQ hR1 hT4) hE.yes hE.no
           replace cS := cell_turned hT4 cS hq8 hq8
           replace cT := cell_turned hT4 cT hq8 hq8
           replace hB2 := hB2.trans (hT4.below hB2.size hqB hqB)
           clear hE hT4 HWR hFy hFn)
        | (go_at_call 9
           refine (HS _).mono ?_
           rintro e w5 ⟨rfl,rfl⟩))
     all_goals
      go_wp2
      go_meet
      exact ⟨rfl,hall,hB2,cS⟩
    ·have e1 : (x.kind.toList == [119,114,105,116,101]) = false := by
      rw [beq_eq_false_iff_ne]
      intro z
      apply hk
      have : x.kind.toList = kWrite.toList := by rw [z,ByteArray.toList_eq]
      rw [ByteArray.toList_eq,ByteArray.toList_eq] at this
      exact WideShapes.bytes_inj this
     obtain ⟨F,hFw⟩ : ∃ F : Nat,F = if Maps.has D (keyB x.s) = true then 0 else 5 := ⟨_,rfl⟩
     have hgone : (if (delR x.s L).length = L.length then (5 : Int) else 0) = ((F : Nat) : Int) := by
      rw [hFw,hBo1.agree.gone hBo1.inv x.s]
      by_cases z : (delR x.s L).length = L.length
      ·rw [if_pos z,if_pos z]; rfl
      ·rw [if_neg z,if_neg z]; rfl
     have HW := fun W (hW : FilesAt W p bm D k) => remove_any W p bm D k x.s hW hml F hFw
     have HWR := fun W (hW : RAt w.heap.size W q L k) (hWB : w.heap.size <= W.heap.size) => removeR_any w.heap.size W q L k x.s hW hl6 hWB
     have HS := fun W => same_self F W
     have hfin : ∀ {W},FilesAt W p bm (D.del (keyB x.s)) k -> RAt w.heap.size W q (delR x.s L) k -> ∃ D' L' k',Both w.heap.size W p bm q D' L' k' := fun a b => ⟨_,_,_,a,b,hBo1.inv.del,hBo1.agree.del x.s,hBo1.most⟩
     clear hFw hBo1 hk
     go_upto_region 12 with fail
     ·exact absurd ((show (x.kind.toList == [119,114,105,116,101]) = true by assumption).symm.trans e1) (by decide)
     go_region_law
      (go_simp
       first
        | (go_at_call 20
           refine (HW _ ?hw).mono ?_
           case hw => (first | exact hF1 | exact hF1.later (Below.refl _ _).drew | exact hF1.later (Below.refl _ _).drew.drew | exact hF1.later (Below.refl _ _).drew.drew.drew)
           rintro e w3 ⟨rfl,hF3,hT3⟩
           repeat (replace hT3 := undrewT hT3)
           replace hR1 := hR1.turned hF1 hT3
           replace cS := cell_turned hT3 cS hp8 hm8
           replace hB2 := hB2.trans (hT3.below hB2.size hp hbm)
           clear hT3 HW)
        | (go_at_call 21
           refine (HWR _ ?hw ?hs).mono ?_
           case hw => (first | exact hR1 | exact hR1.later (Below.refl _ _).drew | exact hR1.later (Below.refl _ _).drew.drew | exact hR1.later (Below.refl _ _).drew.drew.drew)
           case hs => exact hB2.size
           intro e w4 hE
           have he := hE.e
           rw [hgone] at he
           subst he
           have hT4 := hE.turned
           repeat (replace hT4 := undrewT hT4)
           have hall := hfin (hF3.turnedQ hR1 hT4) hE.at'
           replace cS := cell_turned hT4 cS hq8 hq8
           replace hB2 := hB2.trans (hT4.below hB2.size hqB hqB)
           clear hE hT4 HWR)
        | (go_at_call 9
           refine (HS _).mono ?_
           rintro e w5 ⟨rfl,rfl⟩))
     all_goals
      go_wp2
      go_meet
      exact ⟨rfl,hall,hB2,cS⟩
   case rest =>
    obtain ⟨rfl,⟨D2,L2,k2,hBo2⟩,hB3,cS2⟩ := hcut
    have HR := fileRead_any wc p bm D2 k2 x.s hBo2.f hml
    clear hBo1 cS cT hB2
    go_wp2_with fail
    refine HR.mono ?_
    rintro e w3 ⟨⟨t,nn,f,rfl,hRI⟩,hb3⟩
    have hBo3 := hBo2.later hb3
    have hB4 := hB3.trans (hb3.mono hB3.size)
    replace cS2 := cell_later hb3 cS2
    have HR2 := readR_any w.heap.size w3 q L2 k2 x.s hBo3.r (by have := hBo3.len; omega)
    clear HR hBo2 hB3 hb3
    go_wp2_with fail
    refine HR2.mono ?_
    rintro e w4 ⟨⟨t',nn',f',rfl,hRI2⟩,hb4⟩
    obtain ⟨rfl,rfl,rfl⟩ := hBo3.agree.read hBo3.inv hRI hRI2
    have hBo4 := hBo3.later hb4
    have hB5 := hB4.trans (hb4.mono hB4.size)
    have HS := fun W => same_self f W
    have HL := list_any w4 p bm D2 k2 hBo4.f (by have := hBo4.inv.size; omega)
    clear HR2 hRI hRI2 hBo3 hB4 hb4 cS2
    go_wp2_with fail
    refine (HS _).mono ?_
    rintro e w' ⟨rfl,rfl⟩
    go_wp2_with fail
    refine HL.mono ?_
    rintro e w5 ⟨⟨v5,rfl,hown5⟩,hb5⟩
    have hBo5 := hBo4.later hb5
    have hB6 := hB5.trans (hb5.mono hB5.size)
    have HL2 := listR_any w.heap.size w5 q L2 k2 hBo5.r (by have := hBo5.len; omega)
    have hnames := hBo5.agree.names hBo5.inv hBo5.f.own
    clear HL HS hBo4 hB5
    go_wp2_with fail
    refine HL2.mono ?_
    rintro e w6 ⟨⟨v6,rfl,hown6⟩,hb6⟩
    have hBo6 := hBo5.later hb6
    have hB7 := hB6.trans (hb6.mono hB6.size)
    have hown5' := owns_below hown5 hb6
    obtain ⟨a5,c5,rfl,_⟩ := owns_shape hown5
    obtain ⟨a6,c6,rfl,_⟩ := owns_shape hown6
    have hlenN : (namesF D2).length = L2.length := by rw [hnames,List.length_map]
    have row5 : RowAt w6 a5 L2.length fun i => .string (nmF D2 i) := by
     by_cases h0 : L2.length = 0
     ·exact .inl h0
     ·obtain ⟨g,hg,_,_⟩ := owns_cell hown5' (nm_cell (D := D2) (i := 0) (by omega))
      refine .inr ⟨g,0,hg,fun i hi => ?_⟩
      obtain ⟨g',hg',_,hcl⟩ := owns_cell hown5' (nm_cell (D := D2) (i := i) (by omega))
      rw [hg] at hg'
      injection hg' with hg'
      injection hg' with hg'
      subst hg'
      simpa using hcl
    have row6 : RowAt w6 a6 L2.length fun i => .string (nmF D2 i) := by
     have cell : ∀ i,i < L2.length -> (L2.map fun f => Value.string f.nm)[i]? = some (.string (nmF D2 i)) := fun i hi => by
      rw [List.getElem?_map,List.getElem?_eq_getElem hi]
      simp only [Option.map_some,Option.some.injEq,Value.string.injEq]
      apply ba_ext
      unfold nmF
      rw [hnames]
      simp [List.getD_eq_getElem?_getD,List.getElem?_eq_getElem hi]
     by_cases h0 : L2.length = 0
     ·exact .inl h0
     ·obtain ⟨g,hg,_,_⟩ := owns_cell hown6 (cell 0 (by omega))
      refine .inr ⟨g,0,hg,fun i hi => ?_⟩
      obtain ⟨g',hg',_,hcl⟩ := owns_cell hown6 (cell i hi)
      rw [hg] at hg'
      injection hg' with hg'
      injection hg' with hg'
      subst hg'
      simpa using hcl
    have HT := sameTx_true (nmF D2) (nmF D2) L2.length a5 a6 c5 c6 w6 (by have := hBo6.len; omega) row5 row6 (fun _ _ => rfl)
    rw [hlenN]
    clear HL2 hown5 hown5' hown6 row5 row6 hnames hBo5 hB6
    go_wp2_with fail
    refine HT.mono ?_
    rintro e w7 ⟨rfl,kk,hw7⟩
    have hb7 : Below w6.heap.size w6 w7 := by rw [hw7]; exact below_drewN (Below.refl _ _) kk
    have hBo7 := hBo6.later hb7
    have hB8 := hB7.trans (hb7.mono hB7.size)
    clear HT hw7 hBo6 hB7
    go_wp2
    go_roundw
    case rel => exact ⟨i + 1,D2,L2,k2,by omega,by go_num,hBo7,hB8⟩
    case measure => simp [intOf]; omega
  ·go_wp2
   go_ret3
   exact ⟨⟨p,bm,q,D,L,k,rfl,hBo,hp,hbm⟩,hB⟩
end Go.Proofs.YthdccmjdbcllkaaGreatDoor
namespace Go.Proofs.YthdccmjdbcllkaaGreatDoor
open Go.RowKit
theorem bool_ret {a b : Bool} (h : a = b) : Ending.returned (.bool a) = .returned (.bool b) := by rw [h]
theorem sameNumbers_zero (a c : Option Addr) (ca cb : Nat) (w : World) :
 Calls Tryz.prog 54 #[.slice a 0 ca,.slice c 0 cb] w fun e w' => e = .returned (.bool true) /\ ∃ k,w' = w.drewN k := by
 go_enter Tryz.func54,Tryz.ntmps54
 go_wp2
 refine wp_loop_rounds 1 ?_
 rw [rounds_succ]
 go_wp2
 go_ret
 exact ⟨rfl,0,rfl⟩
set_option maxHeartbeats 400000 in
theorem sameNumbers_some (f g : Nat -> Int) (n : Nat) (bx ox cx bY oY cy : Nat) (w : World) (hm : n <= 1000000000)
 (hx : ∀ i,i < n -> w.cell? ⟨bx,ox + i,none⟩ = some (.int .i64 (f i)))
 (hy : ∀ i,i < n -> w.cell? ⟨bY,oY + i,none⟩ = some (.int .i64 (g i))) :
 Calls Tryz.prog 54 #[.slice (some ⟨bx,ox,none⟩) n cx,.slice (some ⟨bY,oY,none⟩) n cy] w fun e w' => e = .returned (.bool (eqTo f g n)) /\ ∃ k,w' = w.drewN k := by
 go_enter Tryz.func54,Tryz.ntmps54
 go_wp2
 go_loopw [5] (fun i wr => ∃ k j : Nat,k <= n /\ i = .int .i64 k /\ wr = w.drewN j /\ Hid (eqTo f g k = true)) (fun i _ => n - (intOf i).toNat)
 case atStart => exact ⟨0,0,Nat.zero_le _,rfl,rfl,rfl⟩
 case round =>
  obtain ⟨k,j,hk,rfl,rfl,HK⟩ := hrel
  by_cases hlt : k < n
  ·have hxk := hx k hlt
   have hyk := hy k hlt
   by_cases he : f k = g k
   ·have hne : (f k != g k) = false := bne_eq_false_iff_eq.2 he
    have HE : Hid (f k = g k) := he
    clear he hx hy
    go_wp2
    go_quiet (fail)
    go_wp2
    go_roundw
    case rel => exact ⟨k + 1,j + nq,by omega,by go_num,rfl,eqTo_succ HK.out HE.out⟩
    case measure => simp [intOf]; omega
   ·have hne : (f k != g k) = true := bne_iff_ne.2 he
    have HE : Hid (eqTo f g n = false) := eqTo_stop he hlt
    clear he hx hy
    go_wp2
    go_quiet (fail)
    go_wp2
    go_ret
    exact ⟨bool_ret HE.out.symm,j + nq,by rw [World.drewN_drewN]⟩
  ·have hkn : k = n := by omega
   subst hkn
   clear hx hy
   go_wp2
   go_ret
   exact ⟨bool_ret HK.out.symm,j,rfl⟩
set_option maxHeartbeats 400000 in
theorem sameNumbers_other (a c : Option Addr) (n m ca cb : Nat) (w : World) (hm : n ≠ m) :
 Calls Tryz.prog 54 #[.slice a n ca,.slice c m cb] w fun e w' => e = .returned (.bool false) /\ ∃ k,w' = w.drewN k := by
 have hne : ((n : Int) != (m : Int)) = true := bne_iff_ne.2 (by omega)
 clear hm
 go_enter Tryz.func54,Tryz.ntmps54
 go_wp2
 go_ret
 exact ⟨rfl,0,rfl⟩
theorem sameNumbers_any (f g : Nat -> Int) (n m : Nat) (a c : Option Addr) (ca cb : Nat) (w : World) (hm : n <= 1000000000)
 (hx : RowAt w a n fun i => .int .i64 (f i)) (hy : RowAt w c m fun i => .int .i64 (g i)) :
 Calls Tryz.prog 54 #[.slice a n ca,.slice c m cb] w fun e w' => e = .returned (.bool (decide (n = m) && eqTo f g n)) /\ ∃ k,w' = w.drewN k := by
 by_cases h : n = m
 ·subst h
  rcases hx with h0 | ⟨b,o,rfl,hx⟩
  ·subst h0
   refine (sameNumbers_zero a c ca cb w).mono ?_
   rintro e w' ⟨rfl,hw⟩
   exact ⟨rfl,hw⟩
  ·rcases hy with h0 | ⟨b',o',rfl,hy⟩
   ·subst h0
    refine (sameNumbers_zero _ c ca cb w).mono ?_
    rintro e w' ⟨rfl,hw⟩
    exact ⟨rfl,hw⟩
   ·refine (sameNumbers_some f g n b o ca b' o' cb w hm hx hy).mono ?_
    rintro e w' ⟨rfl,hw⟩
    exact ⟨bool_ret (by simp),hw⟩
 ·refine (sameNumbers_other a c n m ca cb w h).mono ?_
  rintro e w' ⟨rfl,hw⟩
  exact ⟨bool_ret (by simp [h]),hw⟩
theorem eqTo_self (f : Nat -> Int) : ∀ n,eqTo f f n = true
 | 0 => rfl
 | n + 1 => eqTo_succ (eqTo_self f n) rfl
theorem sameParts_none (a a' : Option Addr) (c c' : Nat) (w : World) :
 Calls Tryz.prog 26 #[.slice a 0 c,.slice a' 0 c'] w fun e w' => e = .returned (.bool true) /\ ∃ k,w' = w.drewN k := by
 go_enter Tryz.func26,Tryz.ntmps26
 go_wp2
 refine wp_loop_rounds 1 ?_
 rw [rounds_succ]
 go_wp2
 go_ret
 exact ⟨rfl,0,rfl⟩
set_option maxRecDepth 100000 in
set_option maxHeartbeats 2000000 in
theorem sameParts_true (n : Nat) (nm : Nat -> ByteArray) (B : Nat -> Int) (M : Nat -> Nat) (X : Nat -> Nat -> Int) (a a' : Option Addr) (c c' : Nat) (A A' : Nat -> Option Addr) (C C' : Nat -> Nat) (w : World) (hn : n <= 1000) (hM : ∀ i,i < n -> M i <= 1000)
 (hx : PartRow w a n nm B A M C X) (hy : PartRow w a' n nm B A' M C' X) :
 Calls Tryz.prog 26 #[.slice a n c,.slice a' n c'] w fun e w' => e = .returned (.bool true) /\ ∃ k,w' = w.drewN k := by
 rcases hx with h0 | ⟨bx,ox,rfl,hx⟩
 ·subst h0
  exact sameParts_none a a' c c' w
 rcases hy with h0 | ⟨bY,oY,rfl,hy⟩
 ·subst h0
  exact sameParts_none _ a' c c' w
 have hnn : ((n : Int) != (n : Int)) = false := by simp
 go_enter Tryz.func26,Tryz.ntmps26
 go_wp2
 clear hnn
 go_loopw [5] (fun i wr => ∃ k j : Nat,k <= n /\ i = .int .i64 k /\ wr = w.drewN j) (fun i _ => n - (intOf i).toNat)
 case atStart => exact ⟨0,0,Nat.zero_le _,rfl,rfl⟩
 case round =>
  obtain ⟨k,j,hk,rfl,hwr⟩ := hrel
  by_cases hlt : k < n
  ·have hbw : Below w.heap.size w wr := by rw [hwr]; exact below_drewN (Below.refl _ _) j
   have x0 := cell_later hbw (hx k hlt).1
   have x1 := cell_later hbw (hx k hlt).2.1
   have x2 := cell_later hbw (hx k hlt).2.2.1
   have xr := (hx k hlt).2.2.2.later hbw
   have y0 := cell_later hbw (hy k hlt).1
   have y1 := cell_later hbw (hy k hlt).2.1
   have y2 := cell_later hbw (hy k hlt).2.2.1
   have yr := (hy k hlt).2.2.2.later hbw
   have hMk := hM k hlt
   have Hwr : Hid (wr = w.drewN j) := hwr
   clear hx hy hbw hwr
   have HS : ∀ q : Nat,Calls Tryz.prog 54 #[.slice (A k) (M k) (C k),.slice (A' k) (M k) (C' k)] (wr.drewN q) fun e w' => e = .returned (.bool true) /\ ∃ m,w' = (wr.drewN q).drewN m := fun q => by
    have := sameNumbers_any (X k) (X k) (M k) (M k) (A k) (A' k) (C k) (C' k) (wr.drewN q) (by omega) (xr.drewN q) (yr.drewN q)
    rwa [show (decide (M k = M k) && eqTo (X k) (X k) (M k)) = true by rw [decide_eq_true rfl,Bool.true_and]; exact eqTo_self (X k) (M k)] at this
   have hsn : ((nm k).toList != (nm k).toList) = false := by simp
   have hsb : (B k != B k) = false := by simp
   clear xr yr
   go_wp2
   go_quiet (exact Calls.quiet_of (HS _))
   clear HS
   go_wp2
   go_quiet (fail)
   go_wp2
   go_roundw
   case rel =>
    rw [Hwr.out]
    simp only [World.drewN_drewN]
    exact ⟨k + 1,_,by omega,by go_num,rfl⟩
   case measure => simp [intOf]; omega
  ·clear hx hy
   go_wp2
   go_ret
   exact ⟨rfl,j,rfl⟩
end Go.Proofs.YthdccmjdbcllkaaGreatDoor
