/- What package loader does: New, Drop, Roots, Build and Load, of any files, any shelf that stands; memory that was there stays as it was, but for the disk's. What SamePatches returns, of two lists of patches that are alike; memory stays as it was. What SameEntry returns, of two entries that are alike: true; memory that was there stays as it was. What SameEntry and SamePatches return, of any two: true or false; memory that was there stays as it was. What all and sameShelf of the statements do, and the closed fact of a shelf. What Drop of the document's shelf does; all else stays as it was. Acts done on a shelf and on the document's: what both keep. -/
import Derived.Test.YtagfngiaogckpaaGreatDoorShelfDrop
import Derived.Test.YtagfngiaogckpaaGreatDoorUseAll
namespace Go.Proofs.YtagfngiaogckpaaGreatDoor
open Go.RowKit Go.Maps
theorem Turned.cells {p bm : Nat} {w w' : World} {D : DataW Unit} {k q : Nat} {c : Array Value} {t : TypeId} {fr : Nat × Nat} (ht : Turned p bm w w') (hF : FilesAt w p bm D k) (h : w.heap[q]? = some (.cells c t fr)) (hne : t ≠ 79) : w'.heap[q]? = some (.cells c t fr) := by
 refine (ht.block q (Array.getElem?_eq_some_iff.1 h).1 (fun e => ?_) (fun e => ?_)).trans h
 ·subst e
  rw [hF.blk] at h
  injection h with h
  injection h with _ h2 _
  exact hne h2.symm
 ·subst e
  obtain ⟨es,clock,hb,_⟩ := hF.own
  rw [hb] at h
  cases h
theorem Disk.turned {w w' : World} {B p n pf bm : Nat} {s : DSt} {D : DataW Unit} {k : Nat} (h : Disk w B p n s) (hF : FilesAt w pf bm D k) (ht : Turned pf bm w w') : Disk w' B p n s :=
 h.other fun q o hq ⟨c,t,f,e,hty⟩ => by
  subst e
  refine ht.cells hF hq (fun e => ?_)
  subst e
  exact absurd hty (by decide)
theorem FilesAt.spun {w w' : World} {B p bm : Nat} {D : DataW Unit} {k : Nat} (h : FilesAt w p bm D k) (hs : Spun B w w') : FilesAt w' p bm D k := by
 refine ⟨hs.block _ _ h.blk (fun ⟨c,t,f,e,ht⟩ => ?_),?_⟩
 ·injection e with _ e2 _
  subst e2
  exact absurd ht (by decide)
 ·obtain ⟨es,clock,hb,F,hn,hD⟩ := h.own
  exact ⟨es,clock,hs.block _ _ hb (fun ⟨c,t,f,e,_⟩ => by cases e),F,hn,hD⟩
def LoaderAt (w : World) (l f g : Nat) : Prop := w.heap[l]? = some (.cells #[.pointer (some ⟨f,0,none⟩),.pointer (some ⟨g,0,none⟩)] 81 (0,0))
theorem LoaderAt.lt {w : World} {l f g : Nat} (h : LoaderAt w l f g) : l < w.heap.size := (Array.getElem?_eq_some_iff.1 h).1
theorem LoaderAt.c0 {w : World} {l f g : Nat} (h : LoaderAt w l f g) : w.cell? ⟨l,0,none⟩ = some (.pointer (some ⟨f,0,none⟩)) := by simp [World.cell?,show w.heap[l]? = _ from h]
theorem LoaderAt.c1 {w : World} {l f g : Nat} (h : LoaderAt w l f g) : w.cell? ⟨l,1,none⟩ = some (.pointer (some ⟨g,0,none⟩)) := by simp [World.cell?,show w.heap[l]? = _ from h]
theorem LoaderAt.later {w w' : World} {l f g : Nat} (h : LoaderAt w l f g) (hb : Below w.heap.size w w') : LoaderAt w' l f g := (hb.block _ h.lt).trans h
theorem LoaderAt.spun {w w' : World} {B l f g : Nat} (h : LoaderAt w l f g) (hs : Spun B w w') : LoaderAt w' l f g := hs.block _ _ h (fun ⟨c,t,f,e,ht⟩ => by
 injection e with _ e2 _
 subst e2
 exact absurd ht (by decide))
set_option maxRecDepth 100000 in
set_option maxHeartbeats 4000000 in
theorem loaderNew_any (w : World) (B p n f : Nat) (s : DSt) (E : Nat -> EntF) (k : Nat) (h : Disk w B p n s) (hS : Stands s n E k) (hE : Env w) :
 Calls Tryz.prog 8 #[.pointer (some ⟨f,0,none⟩),.pointer (some ⟨p,0,none⟩)] w fun e w' => ∃ l g,e = .returned (.tuple #[.pointer (some ⟨l,0,none⟩),.nilIface]) /\ w.heap.size <= l /\ LoaderAt w' l f g /\ ShelfAt w' g p /\ Below w.heap.size w w' := by
 have HO := open_any w B p n s E k h hS hE
 go_enter Tryz.func8,Tryz.ntmps8
 go_wp2_with fail
 refine (show Calls _ _ _ _ _ from HO).mono ?_
 rintro e w1 ⟨g,rfl,_,hg,hb1⟩
 clear HO
 have hbn : Below w1.heap.size w1 (w1.alloc (.cells #[.pointer (some ⟨f,0,none⟩),.pointer (some ⟨g,0,none⟩)] 81)) := (Below.refl _ _).alloc (Nat.le_refl _) _
 have hl : LoaderAt (w1.alloc (.cells #[.pointer (some ⟨f,0,none⟩),.pointer (some ⟨g,0,none⟩)] 81)) w1.heap.size f g := Array.getElem?_push_size
 have HF : Hid (∃ l' g',Ending.returned (.tuple #[.pointer (some ⟨w1.heap.size,0,none⟩),.nilIface]) = .returned (.tuple #[.pointer (some ⟨l',0,none⟩),.nilIface]) /\ w.heap.size <= l' /\ LoaderAt (w1.alloc (.cells #[.pointer (some ⟨f,0,none⟩),.pointer (some ⟨g,0,none⟩)] 81)) l' f g' /\ ShelfAt (w1.alloc (.cells #[.pointer (some ⟨f,0,none⟩),.pointer (some ⟨g,0,none⟩)] 81)) g' p /\ Below w.heap.size w (w1.alloc (.cells #[.pointer (some ⟨f,0,none⟩),.pointer (some ⟨g,0,none⟩)] 81))) :=
  ⟨_,g,rfl,hb1.size,hl,hg.later hbn,hb1.trans (hbn.mono hb1.size)⟩
 clear hbn hl hg
 go_wp2
 go_ret2
 exact HF.out
set_option maxRecDepth 100000 in
set_option maxHeartbeats 4000000 in
theorem loaderDrop_any (w : World) (B p n l f g : Nat) (s : DSt) (E : Nat -> EntF) (k : Nat) (root : ByteArray) (h : Disk w B p n s) (hS : Stands s n E k) (hl : LoaderAt w l f g) (hg : ShelfAt w g p) (hE : Env w) :
 Calls Tryz.prog 16 #[.pointer (some ⟨l,0,none⟩),.string root] w fun e w' => ∃ s',ShPut s n E k (dropE E k root) s' e /\ Disk w' B p n s' /\ Spun B w w' := by
 have HD := drop_any w B p n g s E k root h hS hg hE
 have c1 := hl.c1
 go_enter Tryz.func16,Tryz.ntmps16
 go_wp2_with fail
 refine (show Calls _ _ _ _ _ from HD).mono ?_
 rintro e w1 ⟨s',hPE,hD1,hS1⟩
 clear HD
 have HP : Hid (ShPut s n E k (dropE E k root) s' e) := hPE
 obtain ⟨v,rfl⟩ : ∃ v,e = .returned v := by
  cases hPE with
  | bad _ _ => exact ⟨_,rfl⟩
  | keep _ _ hk => cases hk <;> exact ⟨_,rfl⟩
 clear hPE
 go_wp2
 go_ret
 exact ⟨s',HP.out,hD1,hS1⟩
set_option maxRecDepth 100000 in
set_option maxHeartbeats 4000000 in
theorem loaderRoots_any (w : World) (B p n l f g : Nat) (s : DSt) (E : Nat -> EntF) (k : Nat) (h : Disk w B p n s) (hS : Stands s n E k) (hl : LoaderAt w l f g) (hg : ShelfAt w g p) (hE : Env w) :
 Calls Tryz.prog 22 #[.pointer (some ⟨l,0,none⟩)] w fun e w' => ∃ v,e = .returned v /\ w'.ownsRow w.heap.size 9 1 v k (joinC (rootC E) k) /\ Below w.heap.size w w' := by
 have HD := roots_any w B p n g s E k h hS hg hE
 have c1 := hl.c1
 go_enter Tryz.func22,Tryz.ntmps22
 go_wp2_with fail
 refine (show Calls _ _ _ _ _ from HD).mono ?_
 rintro e w1 ⟨v,rfl,hO,hb⟩
 clear HD
 go_wp2
 go_ret
 exact ⟨v,rfl,hO,hb⟩
inductive BuildEnd (s : DSt) (n : Nat) (E : Nat -> EntF) (k : Nat) (rd : ByteArray -> Nat × ObjF) (S : ByteArray -> Int) (root : ByteArray) (s' : DSt) : Ending -> Prop
 | bad (F : Nat) (h : ReckIs rd root F) (hf : F ≠ 0) (hs : s' = s) : BuildEnd s n E k rd S root s' (.returned (errV F))
 | put (m : Nat) (B : Nat -> Int) (P Q : ByteArray -> Int) (e : Ending) (h : Reckoned rd root m B P Q) (hp : ShPut s n E k (putE E k (madeE rd S root m B (patsAt rd root m B P Q))) s' e) : BuildEnd s n E k rd S root s' e
set_option maxRecDepth 100000 in
set_option maxHeartbeats 8000000 in
theorem loaderBuild_any (w : World) (B p n l g pf bm : Nat) (s : DSt) (E : Nat -> EntF) (k : Nat) (D : DataW Unit) (kf : Nat) (T : ByteArray -> ByteArray) (S : ByteArray -> Int) (root : ByteArray) (h : Disk w B p n s) (hS : Stands s n E k) (hl : LoaderAt w l pf g) (hg : ShelfAt w g p) (hE : Env w)
 (hF : FilesAt w pf bm D kf) (hI : Inv D kf) (hN : NamesOk D) (hP : StampsPos D) (hT : Texts D T) (hSt : Stamps D S) (hk : kf <= 1000000) (hroot : root.size <= maxLen) :
 Calls Tryz.prog 14 #[.pointer (some ⟨l,0,none⟩),.string root] w fun e w' => ∃ s',BuildEnd s n E k (rdD D T) S root s' e /\ Disk w' B p n s' /\ Spun B w w' := by
 have hB := h.base
 have HM := make_any w pf bm D kf T S root hF hI hT hSt hE hroot
 have c0 := hl.c0
 go_enter Tryz.func14,Tryz.ntmps14
 go_wp2_with fail
 refine (show Calls _ _ _ _ _ from HM).mono ?_
 rintro e w1 ⟨hM,hb1⟩
 clear HM c0
 cases hM with
 | bad F h1 hf =>
  obtain ⟨z,hz⟩ := errV_num hf
  have HB : Hid (BuildEnd s n E k (rdD D T) S root s (.returned (errV F))) := .bad F h1 hf rfl
  rw [hz] at HB
  rw [hz]
  have hbn : Below w1.heap.size w1 (w1.alloc (.cells #[.string ⟨#[]⟩,.slice none 0 0,.slice none 0 0] 48)) := (Below.refl _ _).alloc (Nat.le_refl _) _
  have hb2 := hb1.trans (hbn.mono hb1.size)
  clear hbn hb1
  go_wp2
  go_ret
  exact ⟨s,HB.out,h.later hb2,Spun.of hB hb2⟩
 | ok m Bs P Q aP aQ cP cQ h1 hp1 hq1 =>
  have hEF := made_entF (S := S) hI hN hP hSt hk h1
  have rS := rows_stm hp1
  obtain ⟨qa,qc,eq,_,rQ⟩ := rows_pat hq1
  cases eq
  have HB : Hid (∀ s' e,ShPut s n E k (putE E k (madeE (rdD D T) S root m Bs (patsAt (rdD D T) root m Bs P Q))) s' e -> BuildEnd s n E k (rdD D T) S root s' e) := fun s' e hp => .put m Bs P Q e h1 hp
  have hA1 : EntAt w1 ⟨aP,cP,aQ,cQ⟩ (madeE (rdD D T) S root m Bs (patsAt (rdD D T) root m Bs P Q)) := ⟨rS,rQ⟩
  have hfit := (entOk hEF).fit
  obtain ⟨en,hen⟩ : ∃ en,en = madeE (rdD D T) S root m Bs (patsAt (rdD D T) root m Bs P Q) := ⟨_,rfl⟩
  have q0 : Hid (en.root = root) := by show en.root = root; rw [hen]; rfl
  have q1 : Hid (en.nP = m) := by show en.nP = m; rw [hen]; rfl
  have q2 : Hid (en.nQ = (patsAt (rdD D T) root m Bs P Q).length) := by show en.nQ = (patsAt (rdD D T) root m Bs P Q).length; rw [hen]; rfl
  rw [<- hen] at hA1 hfit HB
  rw [<- q2.out]
  clear hp1 hq1 rS rQ hEF h1 hen
  have hbn : Below w1.heap.size w1 (w1.alloc (.cells #[.string root,.slice aP m cP,.slice aQ en.nQ cQ] 48)) := (Below.refl _ _).alloc (Nat.le_refl _) _
  have hb2 := hb1.trans (hbn.mono hb1.size)
  have d0 : (w1.alloc (.cells #[.string root,.slice aP m cP,.slice aQ en.nQ cQ] 48)).cell? ⟨w1.heap.size,0,none⟩ = some (.string root) := by simp [go_sem]
  have d1 : (w1.alloc (.cells #[.string root,.slice aP m cP,.slice aQ en.nQ cQ] 48)).cell? ⟨w1.heap.size,1,none⟩ = some (.slice aP m cP) := by simp [go_sem]
  have d2 : (w1.alloc (.cells #[.string root,.slice aP m cP,.slice aQ en.nQ cQ] 48)).cell? ⟨w1.heap.size,2,none⟩ = some (.slice aQ en.nQ cQ) := by simp [go_sem]
  have hA2 := hA1.later hbn
  go_upto_region 4 with fail
  generalize w1.alloc (.cells #[.string root,.slice aP m cP,.slice aQ en.nQ cQ] 48) = w2 at *
  generalize w1.heap.size = b2 at *
  have hb3 := hb2.trans ((Below.refl _ w2).drew.mono hb2.size)
  have c1 := (hl.later hb3).c1
  have HPU := shelfPut_any w2.drew B p n g s E k ⟨aP,cP,aQ,cQ⟩ en (h.later hb3) hS (hg.later hb3) (hE.later hb3) (hA2.later (Below.refl _ _).drew) hfit
  generalize putE E k en = r at HPU HB
  unfold entCs at HPU
  dsimp only at HPU
  rw [q0.out,q1.out] at HPU
  clear hA1 hA2 hfit hbn hb1 hb2 q0 q1 q2
  have hSp3 := Spun.of hB hb3
  have hSS : (fun w' : World => w'.cell? ⟨l,1,none⟩ = some (.pointer (some ⟨g,0,none⟩)) /\ w'.cell? ⟨b2,0,none⟩ = some (.string root) /\ w'.cell? ⟨b2,1,none⟩ = some (.slice aP m cP) /\ w'.cell? ⟨b2,2,none⟩ = some (.slice aQ en.nQ cQ)) w2.drew := ⟨c1,d0,d1,d2⟩
  refine wp_region_G (fun w' : World => w'.cell? ⟨l,1,none⟩ = some (.pointer (some ⟨g,0,none⟩)) /\ w'.cell? ⟨b2,0,none⟩ = some (.string root) /\ w'.cell? ⟨b2,1,none⟩ = some (.slice aP m cP) /\ w'.cell? ⟨b2,2,none⟩ = some (.slice aQ en.nQ cQ)) 5 7 (by kernel_rfl) rfl ?_
  generalize w2.drew = w3 at *
  refine tW 0 hSS ?_
  refine tW 1 hSS ?_
  refine tW 2 hSS ?_
  refine tR 3 [] hSS ?_
  refine tR 4 [] hSS ?_
  clear hSS
  refine lG 5 fun K hK => ?_
  go_wp2_with fail
  refine (show Calls _ _ _ _ _ from HPU).mono ?_
  rintro e w4 ⟨s',hPE,hD4,hS4⟩
  clear HPU
  have HP := HB.out s' e hPE
  have HP' : Hid (BuildEnd s n E k (rdD D T) S root s' e) := HP
  obtain ⟨v,rfl⟩ : ∃ v,e = .returned v := by
   cases hPE with
   | bad _ _ => exact ⟨_,rfl⟩
   | keep _ _ hk => cases hk <;> exact ⟨_,rfl⟩
  have hS5 := hSp3.trans hS4
  clear hPE HP HB hS4 hSp3
  go_wp2
  refine hK _ _ ?_
  clear hK
  refine tA 6 ?_
  refine doneG (by kernel_rfl) ?_ _
  go_wp2
  go_ret
  exact ⟨s',HP'.out,hD4,hS5⟩
inductive LoadsEnd (w : World) (B0 : Nat) (D : DataW Unit) (S : ByteArray -> Int) (rd : ByteArray -> Nat × ObjF) (root : ByteArray) (r : Bool × EntF) : Ending -> Prop
 | kept (en : EntF) (u : Value) (F : Nat) (w1 : World) (B1 : Nat) (hB : B0 <= B1) (hw : w = w1.drew) (hr : r.1 = true) (hs : SameE en r.2) (hf : (!staleTo D S en.pName en.pStamp en.nP && decide (0 < en.nP)) = true) (hu : UseEnd w1 B1 D S rd en.nP en.pName en.pStamp en.pBase en.nQ en.qPart en.qAt en.qWord (.returned (.tuple #[u,errV F]))) : LoadsEnd w B0 D S rd root r (.returned (.tuple #[u,.bool (decide (F = 0)),errV F]))
 | new (u : Value) (F : Nat) (B1 : Nat) (hB : B0 <= B1) (hr : r.1 = false ∨ ∃ en,SameE en r.2 /\ (!staleTo D S en.pName en.pStamp en.nP && decide (0 < en.nP)) = false) (hl : LoadEnd w B1 rd root (.returned (.tuple #[u,errV F]))) : LoadsEnd w B0 D S rd root r (.returned (.tuple #[u,.bool false,errV F]))
theorem UseEnd.form {w : World} {B0 : Nat} {D : DataW Unit} {S : ByteArray -> Int} {rd : ByteArray -> Nat × ObjF} {n : Nat} {s : Nat -> ByteArray} {st b : Nat -> Int} {np : Nat} {p t v : Nat -> Int} {e : Ending} (h : UseEnd w B0 D S rd n s st b np p t v e) : ∃ u F,e = .returned (.tuple #[u,errV F]) := by
 cases h with
 | stale _ => exact ⟨_,_,rfl⟩
 | bad i _ _ _ => exact ⟨_,_,rfl⟩
 | lay e _ _ hl =>
  cases hl with
  | bad _ => exact ⟨_,_,rfl⟩
  | ok u _ _ _ _ _ _ _ => exact ⟨u,0,rfl⟩
theorem LoadEnd.form {w : World} {B0 : Nat} {rd : ByteArray -> Nat × ObjF} {root : ByteArray} {e : Ending} (h : LoadEnd w B0 rd root e) : ∃ u F,e = .returned (.tuple #[u,errV F]) := by
 cases h with
 | bad F _ _ => exact ⟨_,F,rfl⟩
 | ok _ _ _ _ u _ _ _ _ _ _ => exact ⟨u,0,rfl⟩
theorem getE_ok {E : Nat -> EntF} {k : Nat} {root : ByteArray} (h : ShelfOk E k) (hg : (getE E k root).1 = true) : entF (getE E k root).2 = 0 := by
 unfold getE at hg ⊢
 split at hg
 ·cases hg
 ·rename_i hn
  obtain ⟨j,_,hj,_,hfj⟩ := findF_some _ 0 rfl (show 0 <= findF E root k 0 by omega)
  rw [if_neg hn,hfj]
  exact h.ok j hj
set_option maxRecDepth 100000 in
set_option maxHeartbeats 8000000 in
theorem loaderLoad_any (w : World) (B p n l g pf bm : Nat) (s : DSt) (E : Nat -> EntF) (k : Nat) (D : DataW Unit) (kf : Nat) (T : ByteArray -> ByteArray) (S : ByteArray -> Int) (root : ByteArray) (h : Disk w B p n s) (hS : Stands s n E k) (hl : LoaderAt w l pf g) (hg : ShelfAt w g p) (hE : Env w)
 (hF : FilesAt w pf bm D kf) (hI : Inv D kf) (hT : Texts D T) (hSt : Stamps D S) (hroot : root.size <= maxLen) :
 Calls Tryz.prog 18 #[.pointer (some ⟨l,0,none⟩),.string root] w fun e w' => LoadsEnd w' w.heap.size D S (rdD D T) root (getE E k root) e /\ Below w.heap.size w w' := by
 have HG := get_any w B p n g s E k root h hS hg hE
 have hgood := fun hr => getE_ok (root := root) hS.good hr
 have c1 := hl.c1
 generalize getE E k root = r at *
 obtain ⟨rb,re⟩ := r
 dsimp only at HG hgood
 unfold entCs at HG
 have HLOAD : ∀ W (hW : Below w.heap.size w W),Calls Tryz.prog 42 #[.pointer (some ⟨pf,0,none⟩),.string root] W fun e w' => LoadEnd w' W.heap.size (rdD D T) root e /\ Below W.heap.size W w' := fun W hW => load_any W pf bm D kf T root (hF.later hW) hI hT (hE.later hW) hroot
 have HC0 : ∀ W (hW : Below w.heap.size w W),W.cell? ⟨l,0,none⟩ = some (.pointer (some ⟨pf,0,none⟩)) := fun W hW => (hl.later hW).c0
 go_enter Tryz.func18,Tryz.ntmps18
 go_wp2_with fail
 refine (show Calls _ _ _ _ _ from HG).mono ?_
 rintro e w1 ⟨v,en,rfl,hSm,hIn,hb1⟩
 clear HG c1
 have hbn : Below w1.heap.size w1 (w1.alloc (.cells #[.string en.root,.slice v.aP en.nP v.cP,.slice v.aQ en.nQ v.cQ] 48)) := (Below.refl _ _).alloc (Nat.le_refl _) _
 have hb2 := hb1.trans (hbn.mono hb1.size)
 have d0 : (w1.alloc (.cells #[.string en.root,.slice v.aP en.nP v.cP,.slice v.aQ en.nQ v.cQ] 48)).cell? ⟨w1.heap.size,0,none⟩ = some (.string en.root) := by simp [go_sem]
 have d1 : (w1.alloc (.cells #[.string en.root,.slice v.aP en.nP v.cP,.slice v.aQ en.nQ v.cQ] 48)).cell? ⟨w1.heap.size,1,none⟩ = some (.slice v.aP en.nP v.cP) := by simp [go_sem]
 have d2 : (w1.alloc (.cells #[.string en.root,.slice v.aP en.nP v.cP,.slice v.aQ en.nQ v.cQ] 48)).cell? ⟨w1.heap.size,2,none⟩ = some (.slice v.aQ en.nQ v.cQ) := by simp [go_sem]
 have hA2 := hIn.here.later hbn
 go_upto_region 2 with fail
 generalize w1.alloc (.cells #[.string en.root,.slice v.aP en.nP v.cP,.slice v.aQ en.nQ v.cQ] 48) = w2 at *
 generalize w1.heap.size = b2 at *
 clear hbn hb1 hIn
 have hb3 := hb2.trans ((Below.refl _ w2).drew.mono hb2.size)
 have c0 := HC0 _ hb3
 cases rb with
 | false =>
  have hSS : (fun w' : World => w'.cell? ⟨l,0,none⟩ = some (.pointer (some ⟨pf,0,none⟩)) /\ w'.cell? ⟨b2,0,none⟩ = some (.string en.root) /\ w'.cell? ⟨b2,1,none⟩ = some (.slice v.aP en.nP v.cP) /\ w'.cell? ⟨b2,2,none⟩ = some (.slice v.aQ en.nQ v.cQ)) w2.drew := ⟨c0,d0,d1,d2⟩
  refine wp_region_G (fun w' : World => w'.cell? ⟨l,0,none⟩ = some (.pointer (some ⟨pf,0,none⟩)) /\ w'.cell? ⟨b2,0,none⟩ = some (.string en.root) /\ w'.cell? ⟨b2,1,none⟩ = some (.slice v.aP en.nP v.cP) /\ w'.cell? ⟨b2,2,none⟩ = some (.slice v.aQ en.nQ v.cQ)) 8 9 (by kernel_rfl) rfl ?_
  clear d0 d1 d2 c0 hA2
  generalize w2.drew = w3 at *
  refine tW 0 hSS ?_
  refine tW 1 hSS ?_
  refine tS 2 hSS ?_
  refine tS 3 hSS ?_
  refine tS 4 hSS ?_
  refine tS 5 hSS ?_
  refine tS 6 hSS ?_
  refine tS 7 hSS ?_
  clear hSS
  refine lG 8 fun K hK => ?_
  go_wp2
  refine hK _ _ ?_
  clear hK
  refine doneG (by kernel_rfl) ?_ _
  have c0 := HC0 _ hb3
  have HLD := HLOAD _ hb3
  clear HLOAD HC0
  go_wp2_with fail
  refine (show Calls _ _ _ _ _ from HLD).mono ?_
  rintro e w4 ⟨hLE,hb4⟩
  clear HLD c0
  obtain ⟨u,F,rfl⟩ := hLE.form
  have HFIN : Hid (LoadsEnd w4 w.heap.size D S (rdD D T) root (false,re) (.returned (.tuple #[u,.bool false,errV F]))) := .new u F w3.heap.size hb3.size (.inl rfl) hLE
  have hb5 := hb3.trans (hb4.mono hb3.size)
  clear hLE hb4 hb3 hb2
  generalize errV F = ev at *
  go_wp2
  refine bodyPost_ret (v := .tuple #[u,.bool false,ev]) (by simp [results,Tryz.results18,go_sem]) rfl ?_
  exact ⟨HFIN.out,hb5⟩
 | true =>
  have hok := entOk (hSm.symm.line (hgood rfl)).1
  have hn6 := hok.nP
  have hq36 := hok.nQ
  have hnm : ∀ i,i < en.nP -> (en.pName i).size <= maxLen := hok.fit.names
  have HFR := fresh_any w2.drew pf bm D kf S en.root en.nP en.nQ en.pName en.pStamp en.pBase v.aP v.aQ v.cP v.cQ (hF.later hb3) hSt (by omega) hnm (hA2.parts.later (Below.refl _ _).drew)
  have HUS : ∀ W (hW : Below w2.drew.heap.size w2.drew W),Calls Tryz.prog 41 #[.agg #[.string en.root,.slice v.aP en.nP v.cP,.slice v.aQ en.nQ v.cQ],.pointer (some ⟨pf,0,none⟩)] W fun e w' => UseEnd w' W.heap.size D S (rdD D T) en.nP en.pName en.pStamp en.pBase en.nQ en.qPart en.qAt en.qWord e /\ Below W.heap.size W w' := fun W hW => by
   have hbW := hb3.trans (hW.mono hb3.size)
   have hAW := (hA2.later (Below.refl _ _).drew).later hW
   exact use_any W pf bm D kf T S en.root en.nP en.nQ en.pName en.pStamp en.pBase en.qPart en.qAt en.qWord v.aP v.aQ v.cP v.cQ (hF.later hbW) hSt hT (hE.later hbW) (by omega) (by omega) hnm hAW.parts hAW.pats
  have hd0 : w2.drew.cell? ⟨b2,0,none⟩ = some (.string en.root) := d0
  have hd1 : w2.drew.cell? ⟨b2,1,none⟩ = some (.slice v.aP en.nP v.cP) := d1
  have hd2 : w2.drew.cell? ⟨b2,2,none⟩ = some (.slice v.aQ en.nQ v.cQ) := d2
  have hSS : (fun w' : World => w'.cell? ⟨l,0,none⟩ = some (.pointer (some ⟨pf,0,none⟩)) /\ w'.cell? ⟨b2,0,none⟩ = some (.string en.root) /\ w'.cell? ⟨b2,1,none⟩ = some (.slice v.aP en.nP v.cP) /\ w'.cell? ⟨b2,2,none⟩ = some (.slice v.aQ en.nQ v.cQ)) w2.drew := ⟨c0,d0,d1,d2⟩
  obtain ⟨fr,hfr⟩ : ∃ fr,(!staleTo D S en.pName en.pStamp en.nP && decide (0 < en.nP)) = fr := ⟨_,rfl⟩
  rw [hfr] at HFR
  have Hfr : Hid ((!staleTo D S en.pName en.pStamp en.nP && decide (0 < en.nP)) = fr) := hfr
  clear hfr hn6 hq36 hnm hok d0 d1 d2 hA2
  refine wp_region_G (fun w' : World => w'.cell? ⟨l,0,none⟩ = some (.pointer (some ⟨pf,0,none⟩)) /\ w'.cell? ⟨b2,0,none⟩ = some (.string en.root) /\ w'.cell? ⟨b2,1,none⟩ = some (.slice v.aP en.nP v.cP) /\ w'.cell? ⟨b2,2,none⟩ = some (.slice v.aQ en.nQ v.cQ)) 7 9 (by kernel_rfl) rfl ?_
  generalize w2.drew = w3 at *
  refine tW 0 hSS ?_
  refine tW 1 hSS ?_
  refine tW 3 hSS ?_
  refine tW 4 hSS ?_
  refine tW 5 hSS ?_
  refine tR 2 [] hSS ?_
  refine tR 6 [] hSS ?_
  clear hSS
  refine lG 7 fun K hK => ?_
  go_wp2_with fail
  refine (show Calls _ _ _ _ _ from HFR).mono ?_
  rintro e w4 ⟨rfl,hb4⟩
  clear HFR
  go_wp2
  refine hK _ _ ?_
  clear hK
  refine tA 8 ?_
  refine doneG (by kernel_rfl) ?_ _
  have hb5 := hb3.trans (hb4.mono hb3.size)
  cases fr with
  | false =>
   have c0 := HC0 _ hb5
   have HLD := HLOAD _ hb5
   clear HLOAD HC0 HUS
   go_wp2_with fail
   refine (show Calls _ _ _ _ _ from HLD).mono ?_
   rintro e w6 ⟨hLE,hb6⟩
   clear HLD c0
   obtain ⟨u,F,rfl⟩ := hLE.form
   have HFIN : Hid (LoadsEnd w6 w.heap.size D S (rdD D T) root (true,re) (.returned (.tuple #[u,.bool false,errV F]))) := .new u F w4.heap.size hb5.size (.inr ⟨en,hSm,Hfr.out⟩) hLE
   have hb7 := hb5.trans (hb6.mono hb5.size)
   clear hLE hb6 hb5 hb4 hb3 hb2 Hfr
   generalize errV F = ev at *
   go_wp2
   refine bodyPost_ret (v := .tuple #[u,.bool false,ev]) (by simp [results,Tryz.results18,go_sem]) rfl ?_
   exact ⟨HFIN.out,hb7⟩
  | true =>
   have hb6 := hb5.trans ((Below.refl _ w4).drew.mono hb5.size)
   have c0 := HC0 _ hb6
   have hb4d := hb4.trans ((Below.refl _ w4).drew.mono hb4.size)
   have HU := HUS w4.drew hb4d
   have y0 : w4.drew.cell? ⟨b2,0,none⟩ = some (.string en.root) := cell_later hb4d hd0
   have y1 : w4.drew.cell? ⟨b2,1,none⟩ = some (.slice v.aP en.nP v.cP) := cell_later hb4d hd1
   have y2 : w4.drew.cell? ⟨b2,2,none⟩ = some (.slice v.aQ en.nQ v.cQ) := cell_later hb4d hd2
   have hSS : (fun w' : World => w'.cell? ⟨l,0,none⟩ = some (.pointer (some ⟨pf,0,none⟩)) /\ w'.cell? ⟨b2,0,none⟩ = some (.string en.root) /\ w'.cell? ⟨b2,1,none⟩ = some (.slice v.aP en.nP v.cP) /\ w'.cell? ⟨b2,2,none⟩ = some (.slice v.aQ en.nQ v.cQ)) w4.drew := ⟨c0,y0,y1,y2⟩
   clear HUS HLOAD HC0 hd0 hd1 hd2 y0 y1 y2 hb4d
   go_upto_region 3 with fail
   refine wp_region_G (fun w' : World => w'.cell? ⟨l,0,none⟩ = some (.pointer (some ⟨pf,0,none⟩)) /\ w'.cell? ⟨b2,0,none⟩ = some (.string en.root) /\ w'.cell? ⟨b2,1,none⟩ = some (.slice v.aP en.nP v.cP) /\ w'.cell? ⟨b2,2,none⟩ = some (.slice v.aQ en.nQ v.cQ)) 5 11 (by kernel_rfl) rfl ?_
   generalize w4.drew = w5 at *
   refine tW 1 hSS ?_
   refine tW 2 hSS ?_
   refine tW 3 hSS ?_
   refine tR 0 [] hSS ?_
   refine tR 4 [] hSS ?_
   clear hSS
   refine lG 5 fun K hK => ?_
   go_wp2_with fail
   refine (show Calls _ _ _ _ _ from HU).mono ?_
   rintro e w6 ⟨hUE,hb7⟩
   clear HU
   obtain ⟨u,F,rfl⟩ := hUE.form
   have hb8 := hb6.trans (hb7.mono hb6.size)
   have hb9 := hb8.trans ((Below.refl _ w6).drew.mono hb8.size)
   have HFIN : Hid (LoadsEnd w6.drew w.heap.size D S (rdD D T) root (true,re) (.returned (.tuple #[u,.bool (decide (F = 0)),errV F]))) := .kept en u F w6 w5.heap.size hb6.size rfl rfl hSm Hfr.out hUE
   clear hUE hb7 hb8 hb6 hb5 hb4 hb3 hb2 Hfr
   have hev : ∃ ev q,errV F = ev /\ decide (F = 0) = q /\ ((ev = .nilIface /\ q = true) ∨ ∃ z,ev = .iface 82 (.int .i64 z) /\ q = false) := by
    by_cases h0 : F = 0
    ·subst h0; exact ⟨_,_,rfl,rfl,.inl ⟨rfl,rfl⟩⟩
    ·obtain ⟨z,hz⟩ := errV_num h0
     exact ⟨_,_,rfl,rfl,.inr ⟨z,hz,decide_eq_false h0⟩⟩
   obtain ⟨ev,q,he1,he2,hcase⟩ := hev
   rw [he1,he2] at HFIN
   rw [he1]
   clear he1 he2
   rcases hcase with ⟨rfl,rfl⟩ | ⟨z,rfl,rfl⟩
   ·go_wp2
    refine hK _ _ ?_
    clear hK
    refine tA 6 ?_
    refine tA 7 ?_
    refine tA 8 ?_
    refine tA 9 ?_
    refine tA 10 ?_
    refine doneG (by kernel_rfl) ?_ _
    go_upto_region 4 with fail
    have hSS : (fun _ : World => True) w6.drew := trivial
    refine wp_region_G (fun _ : World => True) 6 7 (by kernel_rfl) rfl ?_
    refine tW 0 hSS ?_
    refine tW 1 hSS ?_
    refine tW 2 hSS ?_
    refine tW 3 hSS ?_
    refine tW 4 hSS ?_
    refine tW 5 hSS ?_
    clear hSS
    refine lG 6 fun K hK => ?_
    go_wp2
    refine hK _ _ ?_
    clear hK
    refine doneG (by kernel_rfl) ?_ _
    go_wp2
    refine bodyPost_ret (v := .tuple #[u,.bool true,.nilIface]) (by simp [results,Tryz.results18,go_sem]) rfl ?_
    exact ⟨HFIN.out,hb9⟩
   ·go_wp2
    refine hK _ _ ?_
    clear hK
    refine tA 6 ?_
    refine tA 7 ?_
    refine tA 8 ?_
    refine tA 9 ?_
    refine tA 10 ?_
    refine doneG (by kernel_rfl) ?_ _
    go_upto_region 4 with fail
    have hSS : (fun _ : World => True) w6.drew := trivial
    refine wp_region_G (fun _ : World => True) 6 7 (by kernel_rfl) rfl ?_
    refine tW 0 hSS ?_
    refine tW 1 hSS ?_
    refine tW 2 hSS ?_
    refine tW 3 hSS ?_
    refine tW 4 hSS ?_
    refine tW 5 hSS ?_
    clear hSS
    refine lG 6 fun K hK => ?_
    go_wp2
    refine hK _ _ ?_
    clear hK
    refine doneG (by kernel_rfl) ?_ _
    go_wp2
    refine bodyPost_ret (v := .tuple #[u,.bool false,.iface 82 (.int .i64 z)]) (by simp [results,Tryz.results18,go_sem]) rfl ?_
    exact ⟨HFIN.out,hb9⟩
end Go.Proofs.YtagfngiaogckpaaGreatDoor
namespace Go.Proofs.YtagfngiaogckpaaGreatDoor
open Go.RowKit
end Go.Proofs.YtagfngiaogckpaaGreatDoor
namespace Go.Proofs.YtagfngiaogckpaaGreatDoor
open Go.RowKit Go.Maps
end Go.Proofs.YtagfngiaogckpaaGreatDoor
namespace Go.Proofs.YtagfngiaogckpaaGreatDoor
open Go.RowKit
theorem rowsR {w : World} {B k : Nat} {v : Value} {E : Nat -> EntF} (h : w.ownsRow B 9 1 v k (joinC (rootC E) k)) : ∃ a c,v = .slice a k c /\ (k = 0 ∨ ∃ bk,a = some ⟨bk,0,none⟩ /\ ∀ i,i < k -> w.cell? ⟨bk,i,none⟩ = some (.string (E i).root)) := by
 rcases h.2 with ⟨rfl,rfl⟩ | ⟨g,cap,cur,rfl,_⟩
 ·exact ⟨none,0,rfl,.inl rfl⟩
 ·refine ⟨_,cap,rfl,.inr ⟨g,rfl,fun i hi => ?_⟩⟩
  have e := joinC_at (g := rootC E) (s := 1) (n := k) (i := i) (j := 0) (fun _ _ => rfl) hi (by decide)
  rw [Nat.mul_one,Nat.add_zero] at e
  rw [h.cellAt i (by omega),e]
  rfl
set_option maxRecDepth 100000 in
set_option maxHeartbeats 4000000 in
theorem lawShelved_any (w : World) (E : Nat -> EntF) (hE : Env w) :
 Calls Tryz.prog 6 #[] w fun e w' => ∃ p g,e = .returned (.tuple #[.pointer (some ⟨p,0,none⟩),.pointer (some ⟨g,0,none⟩),.bool true]) /\ w.heap.size <= g /\ ShelfAt w' g p /\ (∃ s,Disk w' w.heap.size p 112 s /\ Stands s 112 E 0 /\ s.left = -1) /\ Below w.heap.size w w' := by
 have HN := diskNew_any w 112 (by decide) (by decide)
 go_enter Tryz.func6,Tryz.ntmps6
 go_wp2_with fail
 refine (show Calls _ _ _ _ _ from HN).mono ?_
 rintro e w1 ⟨p,rfl,hD1,hb1⟩
 clear HN
 have HF := format_any w1 w.heap.size p 112 DSt.fresh E hD1 rfl (by decide) rfl
 go_wp2_with fail
 refine (show Calls _ _ _ _ _ from HF).mono ?_
 rintro e w2 ⟨rfl,⟨s2,hD2,hS2,hl2⟩,hSp2⟩
 clear HF
 have hb2 := hb1.trans hSp2.below
 have HO := open_any w2 w.heap.size p 112 s2 E 0 hD2 hS2 (hE.later hb2)
 go_wp2_with fail
 refine (show Calls _ _ _ _ _ from HO).mono ?_
 rintro e w3 ⟨g,rfl,hge,hg,hb3⟩
 clear HO
 have HFIN : Hid (∃ p' g',Ending.returned (.tuple #[.pointer (some ⟨p,0,none⟩),.pointer (some ⟨g,0,none⟩),.bool true]) = .returned (.tuple #[.pointer (some ⟨p',0,none⟩),.pointer (some ⟨g',0,none⟩),.bool true]) /\ w.heap.size <= g' /\ ShelfAt w3 g' p' /\ (∃ s,Disk w3 w.heap.size p' 112 s /\ Stands s 112 E 0 /\ s.left = -1) /\ Below w.heap.size w w3) :=
  ⟨p,g,rfl,Nat.le_trans hb2.size hge,hg,⟨s2,hD2.later hb3,hS2,hl2⟩,hb2.trans (hb3.mono hb2.size)⟩
 go_wp2
 refine bodyPost_ret (v := .tuple #[.pointer (some ⟨p,0,none⟩),.pointer (some ⟨g,0,none⟩),.bool true]) (by simp [results,Tryz.results6,go_sem]) rfl ?_
 exact HFIN.out
inductive DropIn (wr : World) (B0 B : Nat) (v : Value) (i : Nat) (V : Nat -> EntV) (E : Nat -> EntF) (root : ByteArray) : Nat -> Prop
 | none (hn : ∀ j,j < i -> (E j).root ≠ root) (h : EntsOwn wr B0 B v i V E) : DropIn wr B0 B v i V E root i
 | one (j n : Nat) (hj : j < i) (hr : (E j).root = root) (hn : ∀ q,q < j -> (E q).root ≠ root) (e : n + 1 = i) (h : EntsOwn wr B0 B v n (cutV V j) (cutV E j)) : DropIn wr B0 B v i V E root n
theorem DropIn.own {wr : World} {B0 B : Nat} {v : Value} {i n : Nat} {V : Nat -> EntV} {E : Nat -> EntF} {root : ByteArray} (h : DropIn wr B0 B v i V E root n) : ∃ V' E',EntsOwn wr B0 B v n V' E' := by
 cases h with
 | none _ h => exact ⟨_,_,h⟩
 | one _ _ _ _ _ _ h => exact ⟨_,_,h⟩
theorem DropIn.skip {wr : World} {B0 B : Nat} {v : Value} {i n : Nat} {V : Nat -> EntV} {E : Nat -> EntF} {root : ByteArray} (h : DropIn wr B0 B v i V E root n) (hr : (E i).root = root) (ho : ∀ p q,p < i + 1 -> q < i + 1 -> (E p).root = (E q).root -> p = q) : DropIn wr B0 B v (i + 1) V E root n := by
 cases h with
 | none hn h => exact .one i i (by omega) hr hn rfl (h.congr fun q hq => by unfold cutV; rw [if_pos hq,if_pos hq]; exact ⟨rfl,rfl⟩)
 | one j _ hj hrj _ _ _ => have := ho i j (by omega) (by omega) (hr.trans hrj.symm); omega
theorem DropIn.more {wr w' : World} {B0 B : Nat} {v v' : Value} {i n : Nat} {V : Nat -> EntV} {E : Nat -> EntF} {root : ByteArray} (h : DropIn wr B0 B v i V E root n) (hr : (E i).root ≠ root) (hk : Keeps B0 wr w') (hi : EntIn w' B0 (V i) (E i))
 (hG : ∀ xs,wr.ownsRow B 48 3 v n xs -> w'.ownsRow B 48 3 v' (n + 1) (xs ++ [.string (E i).root,.slice (V i).aP (E i).nP (V i).cP,.slice (V i).aQ (E i).nQ (V i).cQ])) : DropIn w' B0 B v' (i + 1) V E root (n + 1) := by
 cases h with
 | none hn h =>
  refine .none (fun j hj => ?_) ((EntsOwn.added (fun q hq => (h.ins q hq).keeps hk) hi (hG _ h.row)).congr fun q hq => ?_)
  ·by_cases e : j = i
   ·subst e; exact hr
   ·exact hn j (by omega)
  ·unfold addV
   split
   ·rename_i e; rw [e]; exact ⟨rfl,rfl⟩
   ·exact ⟨rfl,rfl⟩
 | one j _ hj hrj hn e h =>
  refine .one j (n + 1) (by omega) hrj hn (by omega) ((EntsOwn.added (fun q hq => (h.ins q hq).keeps hk) hi (hG _ h.row)).congr fun q hq => ?_)
  unfold addV cutV
  by_cases hq' : q = n
  ·subst hq'
   rw [if_pos rfl,if_pos rfl,if_neg (by omega),if_neg (by omega),e]
   exact ⟨rfl,rfl⟩
  ·rw [if_neg hq',if_neg hq']
   exact ⟨rfl,rfl⟩
set_option maxRecDepth 100000 in
set_option maxHeartbeats 8000000 in
theorem refDrop_any (w : World) (B0 B m k : Nat) (vl : Value) (V : Nat -> EntV) (E : Nat -> EntF) (root : ByteArray) (h : RShelf w B0 B m vl k V E) (hB0 : B0 <= B) (hBm : B <= m) :
 Calls Tryz.prog 17 #[.pointer (some ⟨m,0,none⟩),.string root] w fun e w' => e = .returned (.int .i64 (((dropE E k root).1 : Nat) : Int)) /\ (∃ vl' V',RShelf w' B0 B m vl' (dropE E k root).2.2 V' (dropE E k root).2.1) /\ w.grownBy w' (some m) := by
 have hlt := h.lt
 have hBw : B0 <= w.heap.size := by omega
 have gb : ∀ w',Below w.heap.size w w' -> w.grownBy w' (some m) := fun w' hb => ⟨hb.os,hb.tape,hb.output,hb.size,fun k hk _ => hb.block k hk⟩
 obtain ⟨a,c,rfl,hRow⟩ := h.own.ents
 have hk3 := h.few
 go_enter Tryz.func17,Tryz.ntmps17
 go_wp2
 go_loopw [5,6] (fun y5 y6 wr => ∃ (i n : Nat) (v : Value),i <= k /\ y6 = .int .i64 i /\ y5 = v /\ DropIn wr B0 w.heap.size v i V E root n /\ Below w.heap.size w wr) (fun _ y6 _ => k - (intOf y6).toNat)
 case atStart => exact ⟨0,0,_,Nat.zero_le _,rfl,rfl,.none (fun j hj => absurd hj (Nat.not_lt_zero _)) ⟨World.ownsRow_nil _ _ _ _,fun i hi => absurd hi (Nat.not_lt_zero _)⟩,Below.refl _ _⟩
 case round =>
  obtain ⟨i,n,v,hi,rfl,rfl,hD,hb⟩ := hrel
  have h1 := h.later hBw hb
  have mc := h1.cell
  obtain ⟨V1,E1,hEO1⟩ := hD.own
  obtain ⟨av,cv,rfl,_⟩ := hEO1.ents
  by_cases hlti : i < k
  ·rcases hRow.later hb with h0 | ⟨bk,o,rfl,hc⟩
   ·omega
   obtain ⟨y0,y1,y2,_⟩ := hc i hlti
   have hi0 : (0 : Int) <= (i : Int) := by omega
   have hi1 : (i : Int) < (k : Int) := by omega
   by_cases he : (E i).root = root
   ·have hb' : ((E i).root.toList == root.toList) = true := by rw [he]; simp
    have hD2 := hD.skip he (fun p q hp hq hpq => h.once p q (by omega) (by omega) hpq)
    clear he hc
    go_wp2
    go_roundw
    case rel => exact ⟨i + 1,n,_,by omega,by go_num,rfl,hD2,hb⟩
    case measure => simp [intOf]; omega
   ·have hb' : ((E i).root.toList == root.toList) = false := by rw [toList_beq]; exact decide_eq_false he
    have hn : n <= i := by cases hD with
     | none _ _ => exact Nat.le_refl _
     | one _ _ _ _ _ e _ => omega
    obtain ⟨v',W6,happ,hG6⟩ := growE (.string (E i).root) (.slice (V i).aP (E i).nP (V i).cP) (.slice (V i).aQ (E i).nQ (V i).cQ) rfl rfl rfl hb.size hEO1.row (by omega)
    have hbn : Below wr.heap.size wr (wr.alloc (.cells #[.string (E i).root,.slice (V i).aP (E i).nP (V i).cP,.slice (V i).aQ (E i).nQ (V i).cQ] 48)) := (Below.refl _ wr).alloc (Nat.le_refl _) _
    have hkp : Keeps B0 wr W6 := (Keeps.of_below (w := wr) (Nat.le_trans hBw hb.size) hbn).trans (Keeps.grown (w := wr.alloc (.cells #[.string (E i).root,.slice (V i).aP (E i).nP (V i).cP,.slice (V i).aQ (E i).nQ (V i).cQ] 48)) hBw (by have := hb.size; simp; omega) (hEO1.row.alloc _) (by decide) hG6.grown)
    have hD2 := hD.more (w' := W6) (v' := v') he hkp ((h1.own.ins i hlti).keeps hkp) (fun xs hx => by
     have : xs = joinC (entL V1 E1) n := by
      have q1 := hx
      have q2 := hEO1.row
      rcases q1.2 with ⟨e1,e2⟩ | ⟨g1,c1,cur1,e1,_,f1,_,_,_,t1⟩
      ·subst e2
       exact List.length_eq_zero_iff.1 (by rw [q1.1])
      ·rcases q2.2 with ⟨e3,e4⟩ | ⟨g2,c2,cur2,e3,_,f2,_,_,_,t2⟩
       ·rw [e3] at e1; cases e1
       ·rw [e3] at e1
        cases e1
        rw [f2] at f1
        cases f1
        rw [<- t1,<- t2]
     rw [this]
     exact hG6.own)
    have hb6 : Below w.heap.size w W6 := (hb.trans (hbn.mono hb.size)).trans hG6.below
    obtain ⟨g',cap',rfl⟩ := ownsRow_succ hG6.own
    clear he hc hG6 hD hEO1
    go_wp2_with (at_builtin; refine list_run rfl (.tmp 26) (.tmp 34) 41 rfl (.slice av n cv) (.slice (some ⟨wr.heap.size,0,none⟩) 1 1) _ rfl rfl happ ?_)
    go_roundw
    case rel => exact ⟨i + 1,n + 1,_,by omega,by go_num,rfl,hD2,hb6⟩
    case measure => simp [intOf]; omega
  ·obtain rfl : i = k := by omega
   have mf : wr.frozen? ⟨m,0,none⟩ = false := by simp [World.frozen?,h1.blk]
   cases hD with
   | none hn hEO =>
    have HP : Hid (dropE E i root = (5,E,i)) := dropE_none (by rw [findF_no hn]; decide)
    clear hEO1
    go_wp2
    go_ret
    rw [HP.out]
    exact ⟨rfl,⟨_,_,h1⟩,gb _ hb⟩
   | one j _ hj hr hn e hEO =>
    subst e
    have HP : Hid (dropE E (n + 1) root = (0,cutV E j,n)) := dropE_cut (findF_first hj hr hn)
    have hne : ((n : Int) == (n : Int) + 1) = false := by simp; omega
    have hRS := RShelf.stored (B := B) h1.blk hEO (by omega) (by omega) (Nat.le_trans hBw hb.size) (by omega) (fun p q hp hq hpq => by
     unfold cutV at hpq
     split at hpq
     ·split at hpq
      ·exact h.once p q (by omega) (by omega) hpq
      ·have := h.once p (q + 1) (by omega) (by omega) hpq; omega
     ·split at hpq
      ·have := h.once (p + 1) q (by omega) (by omega) hpq; omega
      ·have := h.once (p + 1) (q + 1) (by omega) (by omega) hpq; omega)
    have hGW := grown_set hb m (.slice av n cv)
    clear hEO1 hEO
    go_wp2
    go_ret
    rw [HP.out]
    exact ⟨rfl,⟨_,_,hRS⟩,hGW⟩
end Go.Proofs.YtagfngiaogckpaaGreatDoor
