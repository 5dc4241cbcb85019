/- What free of package place returns, for every list of ranges: the least page that is free, or that there is none; memory that was there stays as it was. What Bases of package place returns, for all sizes and all that is taken: the bases that the document asks for, or the number of the error; memory that was there stays as it was. What the document's Bases returns, for all sizes and all that is taken: the bases, or the number of the error; memory that was there stays as it was. What scope.Find returns, for every list of objects and every text: who is found (E2); memory that was there stays as it was. What checkBases, where and word of package patch return, for objects that may be, and their bases; memory that was there stays as it was. What All of package patch returns, for objects that may be, and any bases: all patches in order, or the number of the error; memory that was there stays as it was. What the document's Found returns, for every list of objects and every text: who is found (E2); memory that was there stays as it was. What the document's Patches returns, for objects that may be, and any bases: all patches in order, or the number of the error; memory that was there stays as it was. What sizes and wordsOf of package image return, for every list of objects; memory that was there stays as it was. Rows of patches of the call's own, read. What Put of package patch returns, for every list of lists of numbers and every list of patches: a copy, patched; or that there is no such word; memory that was there stays as it was. What Put of package patch returns: the walk. What Lay of package image returns: parts, their words patched; or the number of the error; memory that was there stays as it was. Plain words on what is reckoned for a root, with nothing of the program's memory: who belongs to it, where they lie, what hangs on that; that there is just one answer. What Reckon of package image returns, over any files and any root: names, objects, bases and patches, or the number of the error; memory that was there stays as it was. What Load of package image returns, over any files and any root: the parts, laid and bound, or the number of the error; memory that was there stays as it was. What Loaded of the document returns, for all files and every root: the parts, bound, and their patches; or the number of the error; memory that was there stays as it was. -/
import Derived.Test.YthdccmjdbcllkaaGreatDoorGrowInts
import Derived.BigRegion
import Derived.Deep.Onto
namespace Go.Proofs.YthdccmjdbcllkaaGreatDoor
open Go.RowKit
def RngIn (n : Nat) (f m : Nat -> Int) : Prop := ∀ i,i < n -> 0 <= f i /\ f i <= 300 /\ 0 <= m i /\ m i <= 300
theorem meets_any (x m y k : Int) (bs : Nat) (w : World) (hx : 0 <= x /\ x <= 300) (hm : 0 <= m /\ m <= 300) (hy : 0 <= y /\ y <= 300) (hk : 0 <= k /\ k <= 300) (h0 : w.cell? ⟨bs,0,none⟩ = some (.int .i64 x)) (h1 : w.cell? ⟨bs,1,none⟩ = some (.int .i64 m)) :
 Calls Tryz.prog 131 #[.agg #[.int .i64 y,.int .i64 k],.pointer (some ⟨bs,0,none⟩)] w fun e w' => e = .returned (.bool (!(apartB x m y k))) /\ Below w.heap.size w w' := by
 have hl := World.block_lt_of_cell? _ _ h0
 have g0 : ∀ ob : Obj,(w.alloc ob).cell? ⟨bs,0,none⟩ = some (.int .i64 x) := fun ob => by rw [World.cell?_alloc_lt _ _ _ hl]; exact h0
 have g1 : ∀ ob : Obj,(w.alloc ob).cell? ⟨bs,1,none⟩ = some (.int .i64 m) := fun ob => by rw [World.cell?_alloc_lt _ _ _ (show bs < w.heap.size from hl)]; exact h1
 have HA := fun (w : World) => apart_any x m y k w (by omega) (by omega) (by omega) (by omega)
 clear h0 h1 hl hx hm hy hk
 generalize apartB x m y k = B at *
 go_enter Tryz.func131,Tryz.ntmps131
 go_wp2_with fail
 refine (HA _).mono ?_
 rintro e w2 ⟨rfl,hb⟩
 clear HA
 go_wp2
 go_ret
 exact ⟨rfl,((Below.refl _ _).alloc (Nat.le_refl _) _).trans (hb.mono (by simp))⟩
set_option maxHeartbeats 1000000 in
theorem containsRng_any (f m : Nat -> Int) (a : Option Addr) (n c bs : Nat) (x y : Int) (w : World) (hn : n <= 1000000000) (hr : RngRow w a n f m) (hi : RngIn n f m) (hx : 0 <= x /\ x <= 300) (hy : 0 <= y /\ y <= 300) (h0 : w.cell? ⟨bs,0,none⟩ = some (.int .i64 x)) (h1 : w.cell? ⟨bs,1,none⟩ = some (.int .i64 y)) :
 Calls Tryz.prog 133 #[.slice a n c,.func (.func 131) #[] #[.pointer (some ⟨bs,0,none⟩)]] w fun e w' => e = .returned (.bool (meetsB f m n x y)) /\ Below w.heap.size w w' := by
 generalize hF : meetsB f m n x y = F
 have HF : Hid (anyTo (fun j => !(apartB x y (f j) (m j))) n = F) := hF
 clear hF
 go_enter Tryz.func133,Tryz.ntmps133
 go_wp2
 go_loopw [8] (fun z wr => ∃ k : Nat,k <= n /\ z = .int .i64 k /\ Hid (anyTo (fun j => !(apartB x y (f j) (m j))) k = false) /\ Below w.heap.size w wr) (fun z _ => n - (intOf z).toNat)
 case atStart => exact ⟨0,Nat.zero_le _,rfl,rfl,Below.refl _ _⟩
 case round =>
  obtain ⟨k,hk,rfl,HK,hb⟩ := hrel
  by_cases hlt : k < n
  ·rcases hr with h0 | ⟨bk,o,rfl,hc⟩
   ·omega
   ·have hc0 := cell_later hb (hc k hlt).1
    have hc1 := cell_later hb (hc k hlt).2
    have hik := hi k hlt
    have HC := meets_any x y (f k) (m k) bs wr hx hy (by omega) (by omega) (cell_later hb h0) (cell_later hb h1)
    clear hc h0 h1 hi hik hx hy
    cases he : (!(apartB x y (f k) (m k))) with
    | true =>
     have HE : Hid (F = true) := HF.out.symm.trans (anyTo_yes hlt he)
     rw [he] at HC
     clear he
     go_wp2_with fail
     refine HC.mono ?_
     rintro e w2 ⟨rfl,hb2⟩
     clear HC
     go_wp2
     go_ret
     exact ⟨ret_bool HE.out.symm,hb.trans (hb2.mono hb.size)⟩
    | false =>
     have HE : Hid (anyTo (fun j => !(apartB x y (f j) (m j))) (k + 1) = false) := anyTo_no HK.out he
     rw [he] at HC
     clear he
     go_wp2_with fail
     refine HC.mono ?_
     rintro e w2 ⟨rfl,hb2⟩
     clear HC
     go_wp2
     go_roundw
     case rel => exact ⟨k + 1,by omega,by go_num,HE,hb.trans (hb2.mono hb.size)⟩
     case measure => simp [intOf]; omega
  ·have HE : Hid (F = false) := by
    have e : k = n := by omega
    rw [<- HF.out,<- e]; exact HK.out
   go_wp2
   go_ret
   exact ⟨ret_bool HE.out.symm,hb⟩
inductive FreeEnd (f m : Nat -> Int) (n : Nat) (many : Int) : Ending -> Prop
 | yes (k : Nat) (h : IsBase f m n many k) : FreeEnd f m n many (.returned (.tuple #[.agg #[.int .i64 (16 * (k : Int)),.int .i64 many],.bool true]))
 | no (h : NoBase f m n many) : FreeEnd f m n many (.returned (.tuple #[.agg #[.int .i64 0,.int .i64 0],.bool false]))
set_option maxHeartbeats 2000000 in
theorem free_any (f m : Nat -> Int) (a : Option Addr) (n c : Nat) (many : Int) (w : World) (hn : n <= 1000000000) (hr : RngRow w a n f m) (hi : RngIn n f m) (hm0 : 1 <= many) (hm1 : many <= 256) :
 Calls Tryz.prog 92 #[.int .i64 many,.slice a n c] w fun e w' => FreeEnd f m n many e /\ Below w.heap.size w w' := by
 have hx0 : ∀ ob : Obj,Below w.heap.size w (w.alloc ob) := fun ob => (Below.refl _ _).alloc (Nat.le_refl _) ob
 go_enter Tryz.func92,Tryz.ntmps92
 go_wp2
 go_loopw [6] (fun z wr => ∃ k : Nat,z = .int .i64 (16 * (k : Int)) /\ k <= 17 /\ Hid (∀ j : Nat,j < k -> meetsB f m n (16 * (j : Int)) many = true) /\ Below (w.heap.size + 1) (w.alloc (.cells #[.int .i64 0,.int .i64 0] 173)) wr) (fun z _ => 300 - (intOf z).toNat)
 case atStart => exact ⟨0,rfl,by omega,fun j hj => by omega,Below.refl _ _⟩
 case round =>
  obtain ⟨k,rfl,hk,HK,hb⟩ := hrel
  have hz : w.heap.size < wr.heap.size := by have := hb.size; simp at this; omega
  have c0 : wr.cell? ⟨w.heap.size,0,none⟩ = some (.int .i64 0) := by rw [hb.cell (p := ⟨w.heap.size,0,none⟩) (Nat.lt_succ_self _)]; simp [go_sem]
  have c1 : wr.cell? ⟨w.heap.size,1,none⟩ = some (.int .i64 0) := by rw [hb.cell (p := ⟨w.heap.size,1,none⟩) (Nat.lt_succ_self _)]; simp [go_sem]
  have z0 : ∀ o,wr.frozen? ⟨w.heap.size,o,none⟩ = false := fun o => by rw [hb.frozen (p := ⟨w.heap.size,o,none⟩) (Nat.lt_succ_self _)]; simp [go_sem]
  have hbw : Below w.heap.size w wr := (hx0 _).trans (hb.mono (Nat.le_succ _))
  by_cases hin : 16 * (k : Int) + many <= 256
  ·have HC := fun (w' : World) (hw : Below w.heap.size w w') (bs : Nat) (h0 : w'.cell? ⟨bs,0,none⟩ = some (.int .i64 (16 * (k : Int)))) (h1 : w'.cell? ⟨bs,1,none⟩ = some (.int .i64 many)) =>
    containsRng_any f m a n c bs (16 * (k : Int)) many w' hn (hr.later hw) hi (by omega) (by omega) h0 h1
   have hq : ∀ ob : Obj,Below wr.heap.size wr (wr.alloc ob) := fun ob => (Below.refl _ _).alloc (Nat.le_refl _) ob
   clear hr hi
   cases he : meetsB f m n (16 * (k : Int)) many with
   | true =>
    have HE : Hid (∀ j : Nat,j < k + 1 -> meetsB f m n (16 * (j : Int)) many = true) := fun j hj => by
     by_cases e : j = k
     ·subst e; exact he
     ·exact HK.out j (by omega)
    rw [he] at HC
    clear he
    go_wp2_with fail
    refine (HC _ (hbw.trans ((hq _).mono hbw.size)) _ (by simp [go_sem]) (by simp [go_sem])).mono ?_
    rintro e w2 ⟨rfl,hb2⟩
    clear HC
    go_wp2
    go_roundw
    case rel => exact ⟨k + 1,by go_num,by omega,HE,(hb.trans ((hq _).mono (by omega))).trans (hb2.mono (by simp; omega))⟩
    case measure => simp [intOf]; omega
   | false =>
    have HE : Hid (IsBase f m n many k) := ⟨hin,he,HK.out⟩
    rw [he] at HC
    clear he
    go_wp2_with fail
    refine (HC _ (hbw.trans ((hq _).mono hbw.size)) _ (by simp [go_sem]) (by simp [go_sem])).mono ?_
    rintro e w2 ⟨rfl,hb2⟩
    have d0 : w2.cell? ⟨wr.heap.size,0,none⟩ = some (.int .i64 (16 * (k : Int))) := cell_later hb2 (by simp [go_sem])
    have d1 : w2.cell? ⟨wr.heap.size,1,none⟩ = some (.int .i64 many) := cell_later hb2 (by simp [go_sem])
    have e0 := cell_later ((hq _).trans (hb2.mono (by simp))) c0
    have e1 := cell_later ((hq _).trans (hb2.mono (by simp))) c1
    have e2 : ∀ o,w2.frozen? ⟨w.heap.size,o,none⟩ = false := fun o => by
     rw [((hq _).trans (hb2.mono (by simp))).frozen (p := ⟨w.heap.size,o,none⟩) hz]; exact z0 o
    have hbe := hbw.trans ((hq _).trans (hb2.mono (by simp)) |>.mono hbw.size)
    clear HC c0 c1 z0 hb2
    go_wp2
    exact bodyPost_ret (v := .tuple #[.agg #[.int .i64 (16 * (k : Int)),.int .i64 many],.bool true]) (by simp [results,Tryz.results92,go_sem,e0,e1]) rfl ⟨.yes k HE.out,(hbe.setCell (Nat.le_refl _) _).setCell (Nat.le_refl _) _⟩
  ·have HE : Hid (NoBase f m n many) := fun j hj => HK.out j (by omega)
   have hin' : 256 < 16 * (k : Int) + many := by omega
   clear hr hi
   go_wp2
   exact bodyPost_ret (v := .tuple #[.agg #[.int .i64 0,.int .i64 0],.bool false]) (by simp [results,Tryz.results92,go_sem,c0,c1]) rfl ⟨.no HE.out,(hbw.setCell (Nat.le_refl _) _).setCell (Nat.le_refl _) _⟩
end Go.Proofs.YthdccmjdbcllkaaGreatDoor
namespace Go.Proofs.YthdccmjdbcllkaaGreatDoor
open Go.RowKit
inductive BasesEnd (w : World) (B ns : Nat) (sz : Nat -> Int) (nt : Nat) (tf tm : Nat -> Int) : Ending -> Prop
 | bad (f : Nat) (b : Nat -> Int) (hf : f ≠ 0) (h : BasesAre ns sz nt tf tm f b) : BasesEnd w B ns sz nt tf tm (.returned (.tuple #[.slice none 0 0,errV f]))
 | ok (b : Nat -> Int) (v : Value) (h : BasesAre ns sz nt tf tm 0 b) (hv : w.ownsRow B 3 1 v ns (joinC (intC b) ns)) : BasesEnd w B ns sz nt tf tm (.returned (.tuple #[v,.nilIface]))
def setAt (b : Nat -> Int) (k : Nat) (x : Int) : Nat -> Int := fun j => if j = k then x else b j
theorem setAt_old {b : Nat -> Int} {k : Nat} {x : Int} {j : Nat} (h : j < k) : b j = setAt b k x j := by unfold setAt; rw [if_neg (by omega)]
theorem setAt_new {b : Nat -> Int} {k : Nat} {x : Int} : setAt b k x k = x := if_pos rfl
theorem errV_pos {f : Nat} (h : f ≠ 0) : ∃ n : Int,errV f = .iface 74 (.int .i64 n) := by
 cases f with
 | zero => exact absurd rfl h
 | succ f => exact ⟨_,rfl⟩
set_option maxRecDepth 100000 in
set_option maxHeartbeats 4000000 in
theorem bases_any (sz tf tm : Nat -> Int) (a a' : Option Addr) (ns c nt c' : Nat) (w : World) (hn : ns <= maxLen) (hn' : nt <= maxLen) (hr : RowAt w a ns fun i => .int .i64 (sz i)) (ht : RngRow w a' nt tf tm) :
 Calls Tryz.prog 67 #[.slice a ns c,.slice a' nt c'] w fun e w' => BasesEnd w' w.heap.size ns sz nt tf tm e /\ Below w.heap.size w w' := by
 have HC := placeCheck_any sz tf tm a a' ns c nt c' w hn hn' hr ht
 by_cases h0 : placeF ns sz nt tf tm = 0
 ·obtain ⟨g1,g2,g3,g4⟩ := placeF_zero h0
  rw [h0] at HC
  have HP : Hid (placeF ns sz nt tf tm = 0) := h0
  clear h0 hn hn'
  go_enter Tryz.func67,Tryz.ntmps67
  go_wp2_with fail
  refine HC.mono ?_
  rintro e w1 ⟨rfl,hb⟩
  clear HC
  have HD := cloneRng_any tf tm a' nt c' w1 (by omega) (ht.later hb)
  simp only [errV]
  go_wp2_with fail
  refine HD.mono ?_
  rintro e w2 ⟨⟨vh,rfl,hown⟩,hb2⟩
  clear HD
  have hown' : w2.ownsRow w.heap.size 173 2 vh nt (joinC (rngC tf tm) nt) := ⟨hown.1,by
   rcases hown.2 with h | ⟨g,cap,cur,h1,h2,h3⟩
   ·exact .inl h
   ·exact .inr ⟨g,cap,cur,h1,Nat.le_trans hb.size h2,h3⟩⟩
  replace hb := hb.trans (hb2.mono hb.size)
  clear hb2 hown
  go_wp2
  go_loopw [7,8,23] (fun x y z wr => ∃ (k : Nat) (vh vb : Value) (b : Nat -> Int),k <= ns /\ z = .int .i64 k /\ x = vh /\ y = vb /\ wr.ownsRow w.heap.size 173 2 vh (nt + k) (joinC (rngC (heldF tf nt b) (heldF tm nt fun j => roundF (sz j))) (nt + k)) /\
   wr.ownsRow w.heap.size 3 1 vb k (joinC (intC b) k) /\ (∀ j,j < k -> 0 <= b j /\ b j <= 256) /\ Hid (∀ j,j < k -> Laid tf tm nt sz b j) /\ Below w.heap.size w wr) (fun _ _ z _ => ns - (intOf z).toNat)
  case atStart => exact ⟨0,vh,.slice none 0 0,fun _ => 0,Nat.zero_le _,rfl,rfl,rfl,by
   rw [Nat.add_zero,joinC_congr (h := rngC tf tm) (fun i hi => by simp [rngC,heldF_old hi])]; exact hown',World.ownsRow_nil _ _ _ _,fun j hj => by omega,fun j hj => by omega,hb⟩
  case round =>
   clear hb hown'
   obtain ⟨k,vh,vb,b,hk,rfl,rfl,rfl,ho,hi,hbb,HL,hb⟩ := hrel
   by_cases hlt : k < ns
   ·obtain ⟨ah,ch,rfl,hch,hrow⟩ := rows_rng ho
    have hs := g3 k hlt
    have hrk := roundF_many hs.1 hs.2
    rcases hr with h0 | ⟨bk,o,rfl,hc⟩
    ·omega
    have hck := cell_later hb (hc k hlt)
    have HR := fun (w : World) => round_any (sz k) w (by omega) (by omega)
    have HF := free_any (heldF tf nt b) (heldF tm nt fun j => roundF (sz j)) ah (nt + k) ch (roundF (sz k)) wr (by omega) hrow (fun j hj => by
     by_cases e : j < nt
     ·rw [heldF_old e,heldF_old e]; have := g4 j e; omega
     ·obtain ⟨i,rfl⟩ : ∃ i,j = nt + i := ⟨j - nt,by omega⟩
      rw [heldF_new,heldF_new]
      have h1 := hbb i (by omega); have h2 := g3 i (by omega); have h3 := roundF_many h2.1 h2.2; omega) (by omega) (by omega)
    clear hc hrow
    go_wp2_with fail
    refine (HR _).mono ?_
    rintro e w' ⟨rfl,rfl⟩
    go_wp2_with fail
    refine HF.mono ?_
    rintro e w2 ⟨hend,hb2⟩
    clear HR HF
    have ho2 := owns_below ho hb2
    have hi2 := owns_below hi hb2
    replace hb := hb.trans (hb2.mono hb.size)
    clear hb2 ho hi hck
    cases hend with
    | no hno =>
     have HE : Hid (BasesAre ns sz nt tf tm 8 b) := .full b k HP.out hlt HL.out hno
     clear hno HL HP
     go_wp2
     go_ret2
     exact ⟨.bad 8 b (by decide) HE.out,hb.alloc hb.size _⟩
    | yes q hq =>
     have hq0 := hq.inside
     have HQ : Hid (∀ j,j < k + 1 -> Laid tf tm nt sz (setAt b k (16 * (q : Int))) j) := fun j hj => by
      by_cases e : j = k
      ·subst e
       exact ⟨q,setAt_new,hq.congr fun x hx => ⟨heldF_congr (fun y hy => setAt_old hy) x hx,rfl⟩⟩
      ·exact (HL.out j (by omega)).congr fun y hy => setAt_old (by omega)
     clear hq HL
     have hB2 := hb.size
     obtain ⟨v1,W1,happ1,hG1⟩ := growRng (w := w2.alloc (.cells #[.int .i64 (16 * (q : Int)),.int .i64 (roundF (sz k))] 173)) (16 * (q : Int)) (roundF (sz k)) (by simp; omega) (ho2.alloc _) (by omega)
     have e1 : (w2.alloc (.cells #[.int .i64 (16 * (q : Int)),.int .i64 (roundF (sz k))] 173)).heap.size = w2.heap.size + 1 := by simp
     rw [e1] at happ1
     clear e1
     have hi3 := ((hi2.alloc (.cells #[.int .i64 (16 * (q : Int)),.int .i64 (roundF (sz k))] 173)).alloc (.cells #[.int .i64 (16 * (q : Int)),.int .i64 (roundF (sz k))] 173)).kept hG1.grown (owns_apart hi2 ho2 (by decide))
     have hne : some w2.heap.size ≠ (Value.slice ah (nt + k) ch).ownBlock := fun e => by have := (ho2.lt _ e.symm).2; omega
     have c0 : W1.cell? ⟨w2.heap.size,0,none⟩ = some (.int .i64 (16 * (q : Int))) := hG1.grown.cell (by simp [go_sem]) hne
     have c1 : W1.cell? ⟨w2.heap.size,1,none⟩ = some (.int .i64 (roundF (sz k))) := hG1.grown.cell (by simp [go_sem]) hne
     have hb1 : Below w.heap.size w W1 := ((hb.alloc hB2 _).alloc (by simp; omega) _).trans hG1.below
     obtain ⟨v2,W2,happ2,hG2⟩ := growInt (16 * (q : Int)) hb1.size hi3 (by omega)
     have ho3 := (hG1.own.alloc (.cells #[.int .i64 (16 * (q : Int))] 3)).kept hG2.grown (owns_apart hG1.own hi3 (by decide))
     have hb3 : Below w.heap.size w W2 := (hb1.alloc hb1.size _).trans hG2.below
     have hi4 := hG2.own
     rw [joinInt (b' := setAt b k (16 * (q : Int))) (fun i hi => setAt_old hi) setAt_new] at hi4
     rw [joinRng (f' := heldF tf nt (setAt b k (16 * (q : Int)))) (m' := heldF tm nt fun j => roundF (sz j)) (fun i hi => ⟨heldF_congr (fun y hy => setAt_old hy) i hi,rfl⟩) (by rw [heldF_new,setAt_new]) heldF_new] at ho3
     have hbn : ∀ j,j < k + 1 -> 0 <= setAt b k (16 * (q : Int)) j /\ setAt b k (16 * (q : Int)) j <= 256 := fun j hj => by
      by_cases e : j = k
      ·subst e; rw [setAt_new]; omega
      ·rw [<- setAt_old (by omega)]; exact hbb j (by omega)
     clear hG1 hG2 hi3 ho2 hi2 hb1 hne hbb
     go_wp2_with (at_builtin; first | refine list_run rfl (.tmp 37) (.tmp 39) 169 rfl (.slice ah (nt + k) ch) (.slice (some ⟨w2.heap.size + 1,0,none⟩) 1 1) _ rfl rfl happ1 ?_ | refine list_run rfl (.tmp 41) (.tmp 44) 97 rfl u8 (.slice (some ⟨W1.heap.size,0,none⟩) 1 1) _ rfl rfl happ2 ?_)
     go_roundw
     case rel => exact ⟨k + 1,v1,v2,setAt b k (16 * (q : Int)),by omega,by go_num,rfl,rfl,ho3,hi4,hbn,HQ,hb3⟩
     case measure => simp [intOf]; omega
   ·have e : k = ns := by omega
    subst e
    go_wp2
    go_ret2
    exact ⟨.ok b _ (.ok b HP.out HL.out) hi,hb⟩
 ·obtain ⟨f,hf⟩ := errV_pos h0
  have HE : Hid (BasesAre ns sz nt tf tm (placeF ns sz nt tf tm) (fun _ => 0)) := .bad _ h0
  have HV : Hid (errV (placeF ns sz nt tf tm) = .iface 74 (.int .i64 f)) := hf
  have H0 : Hid (placeF ns sz nt tf tm ≠ 0) := h0
  rw [hf] at HC
  clear hr ht hf h0
  go_enter Tryz.func67,Tryz.ntmps67
  go_wp2_with fail
  refine HC.mono ?_
  rintro e w1 ⟨rfl,hb⟩
  clear HC
  go_wp2
  go_ret2
  exact ⟨by rw [<- HV.out]; exact .bad _ _ H0.out HE.out,hb⟩
structure Used (w : World) (g : Nat) (U : Nat -> Bool) : Prop where
 lt : g < w.heap.size
 at' : ∀ i,i < 600 -> w.cell? ⟨g,i,none⟩ = some (.bool (U i))
 free : ∀ i,w.frozen? ⟨g,i,none⟩ = false
theorem Used.later {w w' : World} {g : Nat} {U : Nat -> Bool} (h : Used w g U) (hb : Below w.heap.size w w') : Used w' g U :=
 ⟨Nat.lt_of_lt_of_le h.lt hb.size,fun i hi => cell_later hb (h.at' i hi),fun i => by rw [hb.frozen (p := ⟨g,i,none⟩) h.lt]; exact h.free i⟩
theorem Used.set {w : World} {g : Nat} {U V : Nat -> Bool} (h : Used w g U) {x : Nat} (hx : x < 600) (hV : ∀ z,V z = if z = x then true else U z) : Used (w.setCell ⟨g,x,none⟩ (.bool true)) g V :=
 ⟨by simpa [World.setCell] using h.lt,fun i hi => by
  rw [hV]
  by_cases e : i = x
  ·subst e; rw [World.cell?_setCell_same _ _ _ (h.at' i hi),if_pos rfl]
  ·rw [World.cell?_setCell_other _ _ _ _ (by intro e2; injection e2 with _ e2 _; exact e e2.symm),if_neg e]; exact h.at' i hi,fun i => by rw [World.frozen?_setCell]; exact h.free i⟩
theorem Used.congr {w : World} {g : Nat} {U V : Nat -> Bool} (h : Used w g U) (e : ∀ z,U z = V z) : Used w g V := ⟨h.lt,fun i hi => by rw [<- e]; exact h.at' i hi,h.free⟩
theorem Used.grown {w W : World} {g : Nat} {U : Nat -> Bool} {row : Option Nat} (h : Used w g U) (hg : w.grownBy W row) (hne : some g ≠ row) : Used W g U :=
 ⟨Nat.lt_of_lt_of_le h.lt hg.size,fun i hi => hg.cell (h.at' i hi) hne,fun i => by rw [World.frozen?_of_block (w := w) (hg.block g h.lt hne)]; exact h.free i⟩
theorem owns_lower {w : World} {B B' : Nat} {e : TypeId} {s n : Nat} {v : Value} {xs : List Value} (h : w.ownsRow B e s v n xs) (hB : B' <= B) : w.ownsRow B' e s v n xs := ⟨h.1,by
 rcases h.2 with h | ⟨g,cap,cur,h1,h2,h3⟩
 ·exact .inl h
 ·exact .inr ⟨g,cap,cur,h1,Nat.le_trans hB h2,h3⟩⟩
theorem owns_set {w : World} {B : Nat} {e : TypeId} {s n : Nat} {v : Value} {xs : List Value} (h : w.ownsRow B e s v n xs) {a : Addr} (ha : a.block < B) (u : Value) : (w.setCell a u).ownsRow B e s v n xs := ownsRow_setCell_below h ha u
theorem used_made : ∃ cs : Array Value,(∀ w,Sem.run Tryz.prog (zeroValue 179) w = .ok (.agg cs) w) /\ ∀ w : World,Used (w.alloc (.cells cs 179)) w.heap.size (fun _ => false) :=
 ⟨Array.replicate 600 (.bool false),fun w => by kernel_rfl,fun w => ⟨by simp,fun i hi => by simp [go_sem,hi],fun i => by simp [go_sem]⟩⟩
inductive RefBasesEnd (w : World) (B ns : Nat) (sz : Nat -> Int) (nt : Nat) (tf tm : Nat -> Int) : Ending -> Prop
 | bad (f : Nat) (b : Nat -> Int) (hf : f ≠ 0) (h : BasesAre ns sz nt tf tm f b) : RefBasesEnd w B ns sz nt tf tm (.returned (.tuple #[.slice none 0 0,.int .i64 (f : Int)]))
 | ok (b : Nat -> Int) (v : Value) (h : BasesAre ns sz nt tf tm 0 b) (hv : w.ownsRow B 3 1 v ns (joinC (intC b) ns)) : RefBasesEnd w B ns sz nt tf tm (.returned (.tuple #[v,.int .i64 0]))
set_option maxRecDepth 100000 in
set_option maxHeartbeats 8000000 in
theorem refBases_any (sz tf tm : Nat -> Int) (a a' : Option Addr) (ns c nt c' : Nat) (w : World) (hn : ns <= maxLen) (hn' : nt <= maxLen) (hr : RowAt w a ns fun i => .int .i64 (sz i)) (ht : RngRow w a' nt tf tm) :
 Calls Tryz.prog 71 #[.slice a ns c,.slice a' nt c'] w fun e w' => RefBasesEnd w' w.heap.size ns sz nt tf tm e /\ Below w.heap.size w w' := by
 unfold maxLen at hn hn'
 obtain ⟨Z,hal,hZ⟩ := used_made
 generalize hF : placeF ns sz nt tf tm = F
 have HF0 : Hid (placeF ns sz nt tf tm = F) := hF
 unfold placeF at hF
 by_cases h1 : 6 < ns ∨ 20 < nt
 ·rw [if_pos h1] at hF
  subst hF
  have HE : Hid (BasesAre ns sz nt tf tm 2 (fun _ => 0)) := by
   have h2 : placeF ns sz nt tf tm = 2 := HF0.out
   have h3 : BasesAre ns sz nt tf tm (placeF ns sz nt tf tm) (fun _ => 0) := .bad _ (by rw [h2]; decide)
   rw [h2] at h3; exact h3
  by_cases g1 : (6 : Int) < (ns : Int)
  ·clear h1
   go_enter Tryz.func71,Tryz.ntmps71
   go_wp2
   go_ret2
   exact ⟨.bad 2 _ (by decide) HE.out,Below.refl _ _⟩
  ·have g2 : (20 : Int) < (nt : Int) := by omega
   clear h1
   go_enter Tryz.func71,Tryz.ntmps71
   go_wp2
   go_ret2
   exact ⟨.bad 2 _ (by decide) HE.out,Below.refl _ _⟩
 ·rw [if_neg h1] at hF
  have HF : Hid ((if anyTo (fun i => decide (sz i < 1 ∨ 40 < sz i)) ns = true then 1 else if anyTo (fun i => decide (tf i < 0 ∨ 256 < tf i ∨ tm i < 0 ∨ 256 < tm i)) nt = true then 1 else 0) = F) := hF
  have HB : F = 1 -> BasesAre ns sz nt tf tm 1 (fun _ => 0) := fun e => by
   have h2 : placeF ns sz nt tf tm = 1 := HF0.out.trans e
   have h3 : BasesAre ns sz nt tf tm (placeF ns sz nt tf tm) (fun _ => 0) := .bad _ (by rw [h2]; decide)
   rw [h2] at h3; exact h3
  have g1 : ¬ (6 : Int) < (ns : Int) := by omega
  have g2 : ¬ (20 : Int) < (nt : Int) := by omega
  clear hF h1
  go_enter Tryz.func71,Tryz.ntmps71
  go_wp2
  go_loopw [6] (fun x wr => ∃ k : Nat,k <= ns /\ x = .int .i64 k /\ wr = w /\ Hid (anyTo (fun i => decide (sz i < 1 ∨ 40 < sz i)) k = false)) (fun x _ => ns - (intOf x).toNat)
  case atStart => exact ⟨0,Nat.zero_le _,rfl,rfl,rfl⟩
  case round =>
   obtain ⟨k,hk,rfl,hw,HK⟩ := hrel
   replace hw := hw.symm
   subst hw
   by_cases hlt : k < ns
   ·rcases hr with h0 | ⟨b,o,rfl,hc⟩
    ·omega
    have hck := hc k hlt
    clear hc
    by_cases hz : sz k < 1 ∨ 40 < sz k
    ·have HE : Hid (BasesAre ns sz nt tf tm 1 (fun _ => 0)) := HB (by rw [<- HF.out,if_pos (anyTo_yes hlt (decide_eq_true hz))])
     clear HB
     by_cases hz1 : sz k < 1
     ·clear hz
      go_wp2
      go_ret2
      exact ⟨.bad 1 _ (by decide) HE.out,Below.refl _ _⟩
     ·have hz2 : 40 < sz k := by omega
      clear hz
      go_wp2
      go_ret2
      exact ⟨.bad 1 _ (by decide) HE.out,Below.refl _ _⟩
    ·have HE : Hid (anyTo (fun i => decide (sz i < 1 ∨ 40 < sz i)) (k + 1) = false) := anyTo_no HK.out (decide_eq_false hz)
     have hz1 : ¬ sz k < 1 := by omega
     have hz2 : ¬ 40 < sz k := by omega
     clear hz HB
     go_wp2
     go_roundw
     case rel => exact ⟨k + 1,by omega,by go_num,trivial,HE⟩
     case measure => simp [intOf]; omega
   ·have e : k = ns := by omega
    have HG : Hid ((if anyTo (fun i => decide (tf i < 0 ∨ 256 < tf i ∨ tm i < 0 ∨ 256 < tm i)) nt = true then 1 else 0) = F) := by
     have hq : ¬ anyTo (fun i => decide (sz i < 1 ∨ 40 < sz i)) ns = true := by rw [<- e,HK.out]; decide
     have := HF.out
     rw [if_neg hq] at this
     exact this
    clear HF HK
    subst e
    go_wp2
    go_loopw [7] (fun x wr => ∃ k : Nat,k <= nt /\ x = .int .i64 k /\ Below w.heap.size w wr /\ Hid (anyTo (fun i => decide (tf i < 0 ∨ 256 < tf i ∨ tm i < 0 ∨ 256 < tm i)) k = false)) (fun x _ => nt - (intOf x).toNat)
    case atStart => exact ⟨0,Nat.zero_le _,rfl,Below.refl _ _,rfl⟩
    case round =>
     obtain ⟨j,hj,rfl,hb,HK⟩ := hrel
     by_cases hlt : j < nt
     ·rcases ht with h0 | ⟨b,o,rfl,hc⟩
      ·omega
      have hc0 := cell_later hb (hc j hlt).1
      have hc1 := cell_later hb (hc j hlt).2
      have hx : ∀ ob : Obj,Below w.heap.size w (wr.alloc ob) := fun ob => hb.alloc hb.size ob
      clear hc hr
      by_cases hz : tf j < 0 ∨ 256 < tf j ∨ tm j < 0 ∨ 256 < tm j
      ·have HE : Hid (BasesAre k sz nt tf tm 1 (fun _ => 0)) := HB (by rw [<- HG.out,if_pos (anyTo_yes hlt (decide_eq_true hz))])
       clear HB
       by_cases z1 : tf j < 0
       ·clear hz
        go_wp2
        go_ret2
        exact ⟨.bad 1 _ (by decide) HE.out,hx _⟩
       by_cases z2 : 256 < tf j
       ·clear hz
        go_wp2
        go_ret2
        exact ⟨.bad 1 _ (by decide) HE.out,hx _⟩
       by_cases z3 : tm j < 0
       ·clear hz
        go_wp2
        go_ret2
        exact ⟨.bad 1 _ (by decide) HE.out,hx _⟩
       have z4 : 256 < tm j := by omega
       clear hz
       go_wp2
       go_ret2
       exact ⟨.bad 1 _ (by decide) HE.out,hx _⟩
      ·have HE : Hid (anyTo (fun i => decide (tf i < 0 ∨ 256 < tf i ∨ tm i < 0 ∨ 256 < tm i)) (j + 1) = false) := anyTo_no HK.out (decide_eq_false hz)
       have z1 : ¬ tf j < 0 := by omega
       have z2 : ¬ 256 < tf j := by omega
       have z3 : ¬ tm j < 0 := by omega
       have z4 : ¬ 256 < tm j := by omega
       clear hz HB
       go_wp2
       go_roundw
       case rel => exact ⟨j + 1,by omega,by go_num,hx _,HE⟩
       case measure => simp [intOf]; omega
     ·have e : j = nt := by omega
      have HP : Hid (placeF k sz nt tf tm = 0) := by
       show _ = 0
       rw [HF0.out,<- HG.out,if_neg]
       rw [<- e,HK.out]; decide
      obtain ⟨_,_,g3,g4⟩ := placeF_zero HP.out
      clear HG HK HB HF0
      subst e
      have hU := hZ wr
      have hbz : Below w.heap.size w (wr.alloc (.cells Z 179)) := hb.alloc hb.size _
      obtain ⟨g,hg⟩ : ∃ g,g = wr.heap.size := ⟨_,rfl⟩
      have hBg : w.heap.size <= g := by rw [hg]; exact hb.size
      go_wp2
      rw [<- hg] at hU ⊢
      generalize wr.alloc (.cells Z 179) = w0 at *
      clear hg hb hZ hal
      go_loopw [10] (fun x wr => ∃ i : Nat,i <= j /\ x = .int .i64 i /\ Used wr g (usedB tf tm i) /\ Below w.heap.size w wr) (fun x _ => j - (intOf x).toNat)
      case atStart => exact ⟨0,Nat.zero_le _,rfl,hU,hbz⟩
      case round =>
       clear hU hbz
       obtain ⟨i,hi,rfl,hU,hb⟩ := hrel
       by_cases hlt : i < j
       ·obtain ⟨f,hf⟩ : ∃ f : Nat,tf i = f := ⟨(tf i).toNat,by have := g4 i hlt; omega⟩
        obtain ⟨m,hm⟩ : ∃ m : Nat,tm i = m := ⟨(tm i).toNat,by have := g4 i hlt; omega⟩
        have hfm : f <= 256 /\ m <= 256 := by have := g4 i hlt; omega
        have ht' := ht
        rcases ht' with h0 | ⟨bt,ot,rfl,hc⟩
        ·omega
        go_wp2
        go_loopw [11] (fun x wr => ∃ q : Nat,q <= m /\ x = .int .i64 q /\ Used wr g (usedTo tf tm i q) /\ Below w.heap.size w wr) (fun x _ => m - (intOf x).toNat)
        case atStart => exact ⟨0,Nat.zero_le _,rfl,hU.congr fun z => (usedTo_zero tf tm i z).symm,hb⟩
        case round =>
         clear hU hb
         obtain ⟨q,hq,rfl,hU,hb⟩ := hrel
         have d0 : wr.cell? ⟨bt,ot + i * 2,none⟩ = some (.int .i64 (f : Int)) := by rw [<- hf]; exact cell_later hb (hc i hlt).1
         have d1 : wr.cell? ⟨bt,ot + i * 2 + 1,none⟩ = some (.int .i64 (m : Int)) := by rw [<- hm]; exact cell_later hb (hc i hlt).2
         by_cases hlq : q < m
         ·have hcell := hU.at' (f + q) (by omega)
          have hfree := hU.free (f + q)
          have hU2 := hU.set (x := f + q) (by omega) (V := usedTo tf tm i (q + 1)) (fun z => usedTo_succ (by rw [hf]; omega) z)
          have hb2 := hb.setCell (p := ⟨g,f + q,none⟩) hBg (.bool true)
          clear hU hb hc
          go_wp2
          go_roundw
          case rel => exact ⟨q + 1,by omega,by go_num,hU2,hb2⟩
          case measure => simp [intOf]; omega
         ·have e : q = m := by omega
          subst e
          clear hc
          go_wp2
          go_roundw
          case rel => exact ⟨i + 1,by omega,by go_num,hU.congr fun z => usedTo_full hm z,hb⟩
          case measure => simp [intOf]; omega
       ·have e : i = j := by omega
        subst e
        clear ht
        go_wp2
        go_loopw [12,13] (fun x y wr => ∃ (n : Nat) (vb : Value) (b : Nat -> Int),n <= k /\ y = .int .i64 n /\ x = vb /\ wr.ownsRow (g + 1) 3 1 vb n (joinC (intC b) n) /\ Used wr g (usedB (heldF tf i b) (heldF tm i fun j => roundF (sz j)) (i + n)) /\ (∀ j,j < n -> 0 <= b j /\ b j <= 256) /\ Hid (∀ j,j < n -> Laid tf tm i sz b j) /\ Below w.heap.size w wr) (fun _ y _ => k - (intOf y).toNat)
        case atStart => exact ⟨0,.slice none 0 0,fun _ => 0,Nat.zero_le _,rfl,rfl,World.ownsRow_nil _ _ _ _,hU.congr fun z => usedB_congr fun x hx => ⟨(heldF_old hx).symm,(heldF_old hx).symm⟩,fun j hj => by omega,fun j hj => by omega,hb⟩
        case round =>
         clear hU hb
         obtain ⟨n,vb,b,hnk,rfl,rfl,ho,hU,hbb,HL,hb⟩ := hrel
         by_cases hlt : n < k
         ·have hs := g3 n hlt
          obtain ⟨R,hR⟩ : ∃ R : Nat,roundF (sz n) = R := ⟨(roundF (sz n)).toNat,by have := roundF_many hs.1 hs.2; omega⟩
          have hrk := roundF_many hs.1 hs.2
          rw [hR] at hrk
          have hR1 : 16 <= R /\ R <= 48 := by omega
          clear hrk
          rcases hr with h0 | ⟨bk,o,rfl,hc⟩
          ·omega
          have hck := cell_later hb (hc n hlt)
          have HR := fun (w : World) => pages_any (sz n) w (by omega) (by omega)
          rw [hR] at HR
          have hfar : ∀ x,x < i + n -> heldF tf i b x + heldF tm i (fun j => roundF (sz j)) x <= 600 := fun x hx => by
           by_cases e : x < i
           ·rw [heldF_old e,heldF_old e]; have := g4 x e; omega
           ·obtain ⟨y,rfl⟩ : ∃ y,x = i + y := ⟨x - i,by omega⟩
            rw [heldF_new,heldF_new]
            have h1 := hbb y (by omega); have h2 := g3 y (by omega); have h3 := roundF_many h2.1 h2.2; omega
          go_wp2_with fail
          refine (HR _).mono ?_
          rintro e w' ⟨rfl,rfl⟩
          clear HR hck
          go_wp2
          go_loopw [15] (fun x wr => ∃ q : Nat,q <= 38 /\ x = .int .i64 (16 * (q : Int)) /\ wr.ownsRow (g + 1) 3 1 u12 n (joinC (intC b) n) /\ Used wr g (usedB (heldF tf i b) (heldF tm i fun j => roundF (sz j)) (i + n)) /\ Hid (∀ j : Nat,j < q -> meetsB (heldF tf i b) (heldF tm i fun j => roundF (sz j)) (i + n) (16 * (j : Int)) (R : Int) = true) /\ Below w.heap.size w wr) (fun x _ => 700 - (intOf x).toNat)
          case atStart => exact ⟨0,by omega,rfl,ho,hU,fun j hj => by omega,hb⟩
          case round =>
           clear ho hU hb
           obtain ⟨q,hq,rfl,ho,hU,HM,hb⟩ := hrel
           go_wp2
           go_loopw [16,17] (fun x y wr => ∃ p : Nat,p <= R /\ y = .int .i64 p /\ x = .bool (clearB (heldF tf i b) (heldF tm i fun j => roundF (sz j)) (i + n) (16 * q) p) /\ wr.ownsRow (g + 1) 3 1 u12 n (joinC (intC b) n) /\ Used wr g (usedB (heldF tf i b) (heldF tm i fun j => roundF (sz j)) (i + n)) /\ Below w.heap.size w wr) (fun _ y _ => R - (intOf y).toNat)
           case atStart => exact ⟨0,Nat.zero_le _,rfl,rfl,ho,hU,hb⟩
           case round =>
            clear ho hU hb
            obtain ⟨p,hp,rfl,rfl,ho,hU,hb⟩ := hrel
            have hcast : ((16 * q : Nat) : Int) = 16 * (q : Int) := by omega
            have HC : Hid (clearB (heldF tf i b) (heldF tm i fun j => roundF (sz j)) (i + n) (16 * q) R = !(meetsB (heldF tf i b) (heldF tm i fun j => roundF (sz j)) (i + n) (16 * (q : Int)) (R : Int))) := by
             show _ = (!_)
             rw [clearB_meets,hcast]
            clear hcast
            have again : meetsB (heldF tf i b) (heldF tm i fun j => roundF (sz j)) (i + n) (16 * (q : Int)) (R : Int) = true -> q + 1 <= 38 /\ ∀ j : Nat,j < q + 1 -> meetsB (heldF tf i b) (heldF tm i fun j => roundF (sz j)) (i + n) (16 * (j : Int)) (R : Int) = true := fun h => by
             refine ⟨?_,fun j hj => ?_⟩
             ·by_cases e : 600 <= 16 * q
              ·rw [meets_far hfar e] at h; cases h
              ·omega
             ·by_cases e : j = q
              ·subst e; exact h
              ·exact HM.out j (by omega)
            by_cases hlp : p < R
            ·cases hCp : clearB (heldF tf i b) (heldF tm i fun j => roundF (sz j)) (i + n) (16 * q) p with
             | false =>
              have hm : meetsB (heldF tf i b) (heldF tm i fun j => roundF (sz j)) (i + n) (16 * (q : Int)) (R : Int) = true := by
               have := HC.out
               rw [clearB_mono (Nat.le_of_lt hlp) hCp] at this
               simpa using this
              obtain ⟨e1,e2⟩ := again hm
              have E2 : Hid (∀ j : Nat,j < q + 1 -> meetsB (heldF tf i b) (heldF tm i fun j => roundF (sz j)) (i + n) (16 * (j : Int)) (R : Int) = true) := e2
              clear hm again e2 HC hCp
              go_wp2
              go_roundw
              case rel => exact ⟨q + 1,e1,by go_num,ho,hU,E2,hb⟩
              case measure => simp [intOf]; omega
             | true =>
              clear again
              by_cases h6 : 600 <= 16 * (q : Int) + (p : Int)
              ·have HE : Hid (clearB (heldF tf i b) (heldF tm i fun j => roundF (sz j)) (i + n) (16 * q) (p + 1) = true) := by
                show _ = true
                simp only [clearB,hCp,usedB_far hfar (show 600 <= 16 * q + p by omega)]; rfl
               clear hCp
               go_wp2
               go_roundw
               case rel => exact ⟨p + 1,by omega,by go_num,by rw [HE.out],ho,hU,hb⟩
               case measure => simp [intOf]; omega
              ·have hcell := hU.at' (16 * q + p) (by omega)
               have HE : Hid (clearB (heldF tf i b) (heldF tm i fun j => roundF (sz j)) (i + n) (16 * q) (p + 1) = !(usedB (heldF tf i b) (heldF tm i fun j => roundF (sz j)) (i + n) (16 * q + p))) := by
                show _ = (!_)
                simp only [clearB,hCp,Bool.true_and]
               generalize usedB (heldF tf i b) (heldF tm i fun j => roundF (sz j)) (i + n) (16 * q + p) = ub at hcell HE
               clear hCp
               go_wp2
               go_roundw
               case rel => exact ⟨p + 1,by omega,by go_num,by rw [HE.out],ho,hU,hb⟩
               case measure => simp [intOf]; omega
            ·have e : p = R := by omega
             subst e
             rw [HC.out]
             cases hm : meetsB (heldF tf i b) (heldF tm i fun j => roundF (sz j)) (i + n) (16 * (q : Int)) (p : Int) with
             | true =>
              obtain ⟨e1,e2⟩ := again hm
              have E2 : Hid (∀ j : Nat,j < q + 1 -> meetsB (heldF tf i b) (heldF tm i fun j => roundF (sz j)) (i + n) (16 * (j : Int)) (p : Int) = true) := e2
              clear hm again e2 HC
              go_wp2
              go_roundw
              case rel => exact ⟨q + 1,e1,by go_num,ho,hU,E2,hb⟩
              case measure => simp [intOf]; omega
             | false =>
              clear again HC
              by_cases hfull : 256 < 16 * (q : Int) + (p : Int)
              ·have HE : Hid (BasesAre k sz i tf tm 8 b) := .full b n HP.out hlt HL.out (fun x hx => by
                rw [hR] at hx ⊢
                exact HM.out x (by omega))
               clear hm HM HL
               go_wp2
               go_ret2
               exact ⟨.bad 8 b (by decide) HE.out,hb⟩
              ·have hB : IsBase (heldF tf i b) (heldF tm i fun j => roundF (sz j)) (i + n) (roundF (sz n)) q := ⟨by rw [hR]; omega,by rw [hR]; exact hm,by rw [hR]; exact HM.out⟩
               have HQ : Hid (∀ j,j < n + 1 -> Laid tf tm i sz (setAt b n (16 * (q : Int))) j) := fun j hj => by
                by_cases e : j = n
                ·subst e
                 exact ⟨q,setAt_new,hB.congr fun x hx => ⟨heldF_congr (fun y hy => setAt_old hy) x hx,rfl⟩⟩
                ·exact (HL.out j (by omega)).congr fun y hy => setAt_old (by omega)
               have hU0 : Used wr g (usedTo (heldF tf i (setAt b n (16 * (q : Int)))) (heldF tm i fun j => roundF (sz j)) (i + n) 0) := hU.congr fun z => by
                rw [usedTo_zero]; exact usedB_congr fun x hx => ⟨heldF_congr (fun y hy => setAt_old hy) x hx,rfl⟩
               clear hB hm HM HL hU
               go_wp2
               go_loopw [18] (fun x wr => ∃ y : Nat,y <= p /\ x = .int .i64 y /\ wr.ownsRow (g + 1) 3 1 u12 n (joinC (intC b) n) /\ Used wr g (usedTo (heldF tf i (setAt b n (16 * (q : Int)))) (heldF tm i fun j => roundF (sz j)) (i + n) y) /\ Below w.heap.size w wr) (fun x _ => p - (intOf x).toNat)
               case atStart => exact ⟨0,Nat.zero_le _,rfl,ho,hU0,hb⟩
               case round =>
                clear ho hU0 hb
                obtain ⟨y,hy,rfl,ho,hU,hb⟩ := hrel
                by_cases hly : y < p
                ·have hcell := hU.at' (16 * q + y) (by omega)
                 have hfree := hU.free (16 * q + y)
                 have hU2 := hU.set (x := 16 * q + y) (by omega) (V := usedTo (heldF tf i (setAt b n (16 * (q : Int)))) (heldF tm i fun j => roundF (sz j)) (i + n) (y + 1)) (fun z => usedTo_succ (by rw [heldF_new,setAt_new]; omega) z)
                 have hb2 := hb.setCell (p := ⟨g,16 * q + y,none⟩) hBg (.bool true)
                 have ho2 := owns_set ho (a := ⟨g,16 * q + y,none⟩) (Nat.lt_succ_self _) (.bool true)
                 clear hU hb ho
                 go_wp2
                 go_roundw
                 case rel => exact ⟨y + 1,by omega,by go_num,ho2,hU2,hb2⟩
                 case measure => simp [intOf]; omega
                ·have e : y = p := by omega
                 subst e
                 have hgl := hU.lt
                 obtain ⟨v2,W2,happ2,hG2⟩ := growInt (w := wr) (16 * (q : Int)) (show g + 1 <= wr.heap.size from hgl) ho (by omega)
                 have hi4 := hG2.own
                 rw [joinInt (b' := setAt b n (16 * (q : Int))) (fun i hi => setAt_old hi) setAt_new] at hi4
                 have hne : some g ≠ u12.ownBlock := fun e => by have := (ho.lt _ e.symm).1; omega
                 have hU3 := ((hU.later ((Below.refl _ _).alloc (Nat.le_refl _) (.cells #[.int .i64 (16 * (q : Int))] 3))).grown hG2.grown hne).congr fun z => usedTo_full (by rw [heldF_new]; exact hR) z
                 have hb3 : Below w.heap.size w W2 := (hb.alloc hb.size _).trans (hG2.below.mono (by omega))
                 have hbn : ∀ j,j < n + 1 -> 0 <= setAt b n (16 * (q : Int)) j /\ setAt b n (16 * (q : Int)) j <= 256 := fun j hj => by
                  by_cases e : j = n
                  ·subst e; rw [setAt_new]; omega
                  ·rw [<- setAt_old (by omega)]; exact hbb j (by omega)
                 clear hG2 ho hU hne
                 go_wp2_with (at_builtin; refine list_run rfl (.tmp 143) (.tmp 145) 97 rfl u12 (.slice (some ⟨wr.heap.size,0,none⟩) 1 1) _ rfl rfl happ2 ?_)
                 go_roundw
                 case rel => exact ⟨n + 1,v2,setAt b n (16 * (q : Int)),by omega,by go_num,rfl,hi4,hU3,hbn,HQ,hb3⟩
                 case measure => simp [intOf]; omega
         ·have e : n = k := by omega
          subst e
          go_wp2
          go_ret2
          exact ⟨.ok b _ (.ok b HP.out HL.out) (owns_lower ho (by omega)),hb⟩
def FoundEnd (L : SymsF) (s : ByteArray) (e : Ending) : Prop := ∃ p q : Int,e = .returned (.tuple #[.int .i64 p,.int .i64 q]) /\ IsFound L s p q
set_option maxRecDepth 100000 in
set_option maxHeartbeats 4000000 in
theorem find_any (a : Option Addr) (n c : Nat) (V : Nat -> ObjV) (O : Nat -> ObjF) (s : ByteArray) (w : World) (hn : n <= 1000000000) (hm : ∀ i,i < n -> (O i).nS <= 1000000000) (hr : ObjsRow w a n V O) :
 Calls Tryz.prog 164 #[.slice a n c,.string s] w fun e w' => FoundEnd (symsF n O) s e /\ Below w.heap.size w w' := by
 go_enter Tryz.func164,Tryz.ntmps164
 go_wp2
 go_loopw [6,7,14] (fun x y z wr => ∃ (i : Nat) (p q : Int),i <= n /\ z = .int .i64 i /\ x = .int .i64 p /\ y = .int .i64 q /\ SoFar (symsF n O) s i 0 p q /\ Below w.heap.size w wr) (fun _ _ z _ => n - (intOf z).toNat)
 case atStart => exact ⟨0,-1,-1,Nat.zero_le _,rfl,rfl,rfl,SoFar.start _ _,Below.refl _ _⟩
 case round =>
  obtain ⟨i,p,q,hi,rfl,rfl,rfl,HS,hb⟩ := hrel
  by_cases hlt : i < n
  ·rcases hr with h0 | ⟨bk,o,rfl,hc⟩
   ·omega
   have H := (hc i hlt).later hb
   have hmi := hm i hlt
   have c0 := H.c0
   have c1 := H.c1
   have c2 := H.c2
   have c3 := H.c3
   have hsy := hc i hlt |>.here.syms
   have hx : ∀ ob : Obj,Below w.heap.size w (wr.alloc ob) := fun ob => hb.alloc hb.size ob
   clear hc hm H
   go_wp2
   go_loopw [6,7,22] (fun x y z w2 => ∃ (k : Nat) (p q : Int),k <= (O i).nS /\ z = .int .i64 k /\ x = .int .i64 p /\ y = .int .i64 q /\ SoFar (symsF n O) s i k p q /\ Below w.heap.size w w2) (fun _ _ z _ => (O i).nS - (intOf z).toNat)
   case atStart => exact ⟨0,p,q,Nat.zero_le _,rfl,rfl,rfl,HS,hx _⟩
   case round =>
    clear HS c0 c1 c2 c3 hx hb
    obtain ⟨k,p2,q2,hk,rfl,rfl,rfl,HS,hb⟩ := hrel
    by_cases hlk : k < (O i).nS
    ·rcases hsy with h0 | ⟨b2,o2,ha2,hs2⟩
     ·omega
     have d0 := cell_later hb (hs2 k hlk).1
     have d1 := cell_later hb (hs2 k hlk).2.1
     have d2 := cell_later hb (hs2 k hlk).2.2
     rw [ha2]
     have hx : ∀ ob : Obj,Below w.heap.size w (wr.alloc ob) := fun ob => hb.alloc hb.size ob
     clear hs2
     by_cases hnm : (O i).sName k = s
     ·have hh : Hit (symsF n O) s i k := ⟨hlt,hlk,hnm⟩
      have ht : (((O i).sName k).toList == s.toList) = true := by rw [toList_beq,decide_eq_true hnm]
      clear hnm
      cases hwk : (O i).sWeak k with
      | false =>
       have HF := HS.strong hh (show (symsF n O).wk i k = false from hwk)
       rw [hwk] at d2
       clear hwk HS hh
       go_wp2
       go_ret2
       exact ⟨⟨i,k,rfl,HF⟩,hx _⟩
      | true =>
       rw [hwk] at d2
       rcases HS.shape with ⟨rfl,rfl⟩ | ⟨x,y,rfl,rfl,_,_⟩
       ·have HF := HS.first hh (show (symsF n O).wk i k = true from hwk)
        clear hwk HS hh
        go_wp2
        go_roundw
        case rel => exact ⟨k + 1,i,k,by omega,by go_num,rfl,rfl,HF,hx _⟩
        case measure => simp [intOf]; omega
       ·have HF := HS.more (show (symsF n O).wk i k = true from hwk)
        have hz : ((x : Int) == -1) = false := by rw [beq_eq_false_iff_ne]; omega
        clear hwk HS hh
        go_wp2
        go_roundw
        case rel => exact ⟨k + 1,x,y,by omega,by go_num,rfl,rfl,HF,hx _⟩
        case measure => simp [intOf]; omega
     ·have HO := HS.other (show (symsF n O).nm i k ≠ s from hnm)
      have ht : (((O i).sName k).toList == s.toList) = false := by rw [toList_beq,decide_eq_false hnm]
      clear hnm HS
      go_wp2
      go_roundw
      case rel => exact ⟨k + 1,p2,q2,by omega,by go_num,rfl,rfl,HO,hx _⟩
      case measure => simp [intOf]; omega
    ·have e : k = (O i).nS := by omega
     subst e
     have HN := SoFar.next (i := i) (show SoFar (symsF n O) s i ((symsF n O).m i) p2 q2 from HS)
     go_wp2
     go_roundw
     case rel => exact ⟨i + 1,p2,q2,by omega,by go_num,rfl,rfl,HN,hb⟩
     case measure => simp [intOf]; omega
  ·have e : i = n := by omega
   subst e
   go_wp2
   go_ret2
   exact ⟨⟨p,q,rfl,HS.done⟩,hb⟩
structure PatIn (w : World) (al : Option Addr) (n : Nat) (V : Nat -> ObjV) (O : Nat -> ObjF) (ab : Option Addr) (B : Nat -> Int) : Prop where
 objs : ObjsRow w al n V O
 bases : RowAt w ab n fun i => .int .i64 (B i)
 good : ∀ i,i < n -> ObjOk (O i)
 inW : ∀ i,i < n -> 0 <= B i /\ B i <= 256
 few : n <= 1000
theorem PatIn.later {w w' : World} {al : Option Addr} {n : Nat} {V : Nat -> ObjV} {O : Nat -> ObjF} {ab : Option Addr} {B : Nat -> Int} (h : PatIn w al n V O ab B) (hb : Below w.heap.size w w') : PatIn w' al n V O ab B :=
 ⟨h.objs.later hb,h.bases.later hb,h.good,h.inW,h.few⟩
def whereG (O : Nat -> ObjF) (P Q : ByteArray -> Int) (B : Nat -> Int) (bi kind : Int) (s : ByteArray) (wk : Bool) : Option Int :=
 if kind = 1 then some bi else
 if 0 <= P s then some (B (P s).toNat + (O (P s).toNat).sAt (Q s).toNat) else
 if wk = true then some 0 else none
def whE : Option Int -> Value
 | some p => .tuple #[.int .i64 p,.nilIface]
 | none => .tuple #[.int .i64 0,errV 6]
set_option maxHeartbeats 2000000 in
theorem where_any (al ab : Option Addr) (n cl cb : Nat) (V : Nat -> ObjV) (O : Nat -> ObjF) (B : Nat -> Int) (P Q : ByteArray -> Int) (i : Nat) (x k d : Int) (s : ByteArray) (b : Bool) (w : World) (h : PatIn w al n V O ab B) (hP : Finds (symsF n O) P Q) (hi : i < n) :
 Calls Tryz.prog 134 #[.slice al n cl,.slice ab n cb,.int .i64 (i : Int),.agg #[.int .i64 x,.int .i64 k,.int .i64 d,.string s,.bool b]] w fun e w' => e = .returned (whE (whereG O P Q B (B i) k s b)) /\ Below w.heap.size w w' := by
 have hfew := h.few
 have hx : ∀ ob : Obj,Below w.heap.size w (w.alloc ob) := fun ob => (Below.refl _ _).alloc (Nat.le_refl _) ob
 by_cases hk : k = 1
 ·have HE : Hid (whereG O P Q B (B i) k s b = some (B i)) := if_pos hk
  have hk' : (k == 1) = true := by simp [hk]
  rcases h.bases with h0 | ⟨bb,ob,rfl,hc⟩
  ·omega
  have hci : ∀ o : Obj,(w.alloc o).cell? ⟨bb,ob + i,none⟩ = some (.int .i64 (B i)) := fun o => cell_later (hx o) (hc i hi)
  clear hc hk h
  go_enter Tryz.func134,Tryz.ntmps134
  go_wp2
  go_ret2
  rw [HE.out]
  exact ⟨rfl,hx _⟩
 ·have hk' : (k == 1) = false := by rw [beq_eq_false_iff_ne]; exact hk
  have HF := fun (w' : World) (hb : Below w.heap.size w w') => find_any al n cl V O s w' (by omega) (fun j hj => by have := (h.good j hj).nS; omega) (h.objs.later hb)
  rcases hP.shape s with ⟨e1,e2⟩ | ⟨p,q,e1,e2,hp,hq,_⟩
  ·have e3 : ¬ 0 <= P s := by omega
   cases b with
   | true =>
    have HE : Hid (whereG O P Q B (B i) k s true = some 0) := by
     show whereG O P Q B (B i) k s true = some 0
     unfold whereG; rw [if_neg hk,if_neg e3,if_pos rfl]
    clear hk e3 h
    go_enter Tryz.func134,Tryz.ntmps134
    go_wp2_with fail
    refine (HF _ (hx _)).mono ?_
    rintro e w2 ⟨⟨p,q,rfl,hF⟩,hb⟩
    obtain ⟨rfl,rfl⟩ := hP.eq hF
    have c4 : w2.cell? ⟨w.heap.size,4,none⟩ = some (.bool true) := cell_later hb (by simp [go_sem])
    clear hF HF
    rw [e1,e2]
    go_wp2
    go_ret2
    rw [HE.out]
    exact ⟨rfl,(hx _).trans (hb.mono (by simp))⟩
   | false =>
    have HE : Hid (whereG O P Q B (B i) k s false = none) := by
     show whereG O P Q B (B i) k s false = none
     unfold whereG; rw [if_neg hk,if_neg e3,if_neg (by decide)]
    clear hk e3 h
    go_enter Tryz.func134,Tryz.ntmps134
    go_wp2_with fail
    refine (HF _ (hx _)).mono ?_
    rintro e w2 ⟨⟨p,q,rfl,hF⟩,hb⟩
    obtain ⟨rfl,rfl⟩ := hP.eq hF
    have c4 : w2.cell? ⟨w.heap.size,4,none⟩ = some (.bool false) := cell_later hb (by simp [go_sem])
    clear hF HF
    rw [e1,e2]
    go_wp2
    go_ret2
    rw [HE.out]
    exact ⟨rfl,(hx _).trans (hb.mono (by simp))⟩
  ·have hp' : p < n := hp
   have hq' : q < (O p).nS := hq
   have HE : Hid (whereG O P Q B (B i) k s b = some (B p + (O p).sAt q)) := by
    show whereG O P Q B (B i) k s b = some (B p + (O p).sAt q)
    unfold whereG; rw [if_neg hk,if_pos (by omega),e1,e2]; rfl
   have hBp := h.inW p hp'
   have hSq := ((h.good p hp').syms q hq').2
   have hWp := (h.good p hp').nW
   have hSp := (h.good p hp').nS
   rcases h.bases with h0 | ⟨bb,ob,rfl,hc⟩
   ·omega
   have h1 := h.objs
   rcases h1 with h0 | ⟨bl,ol,rfl,hc1⟩
   ·omega
   have hH := hc1 p hp'
   have hcp := hc p hp'
   rcases hH.here.syms with h0 | ⟨bs,os,ha,hs⟩
   ·omega
   have hc2 := hH.c2
   rw [ha] at hc2
   have hsq := (hs q hq').2.1
   clear hk hc hc1 h hs hH
   go_enter Tryz.func134,Tryz.ntmps134
   go_wp2_with fail
   refine (HF _ (hx _)).mono ?_
   rintro e w2 ⟨⟨p2,q2,rfl,hF⟩,hb⟩
   obtain ⟨rfl,rfl⟩ := hP.eq hF
   have hbw := (hx (.cells #[.int .i64 x,.int .i64 k,.int .i64 d,.string s,.bool b] 157)).trans (hb.mono (by simp))
   replace hcp := cell_later hbw hcp
   replace hc2 := cell_later hbw hc2
   replace hsq := cell_later hbw hsq
   clear hF HF hb
   rw [e1,e2]
   clear e1 e2
   go_wp2
   go_quiet (fail)
   go_wp2
   go_ret2
   rw [HE.out]
   exact ⟨rfl,below_drewN hbw _⟩
theorem whereG_in {w : World} {al ab : Option Addr} {n : Nat} {V : Nat -> ObjV} {O : Nat -> ObjF} {B : Nat -> Int} {P Q : ByteArray -> Int} {i : Nat} {k : Int} {s : ByteArray} {b : Bool} {p : Int} (h : PatIn w al n V O ab B) (hP : Finds (symsF n O) P Q) (hi : i < n) (e : whereG O P Q B (B i) k s b = some p) : 0 <= p /\ p <= 300 := by
 unfold whereG at e
 split at e
 ·injection e with e
  have := h.inW i hi
  omega
 split at e
 ·injection e with e
  rcases hP.shape s with ⟨e1,e2⟩ | ⟨x,y,e1,e2,hx,hy,_⟩
  ·omega
  ·have hx' : x < n := hx
   have hy' : y < (O x).nS := hy
   have h1 := h.inW x hx'
   have h2 := ((h.good x hx').syms y hy').2
   have h3 := (h.good x hx').nW
   rw [e1,e2] at e
   simp only [Int.toNat_natCast] at e
   omega
 split at e
 ·injection e with e
  omega
 ·cases e
theorem isWordQ_any (n : Int) (w : World) : Calls Tryz.prog 61 #[.int .i64 n] w fun e w' => e = .returned (.bool (isWordF n)) /\ w = w' := by
 by_cases h1 : -2147483648 <= n
 all_goals by_cases h2 : n <= 2147483647
 all_goals
  go_enter Tryz.func61,Tryz.ntmps61
  go_wp2
  go_ret
  exact ⟨ret_bool (by simp [isWordF] <;> omega),rfl⟩
def hangE (r : Nat × Int) : Value := .tuple #[.int .i64 r.2,errV r.1]
set_option maxHeartbeats 2000000 in
theorem word_any (al ab : Option Addr) (n cl cb : Nat) (V : Nat -> ObjV) (O : Nat -> ObjF) (B : Nat -> Int) (P Q : ByteArray -> Int) (i : Nat) (x k d : Int) (s : ByteArray) (b : Bool) (w : World) (h : PatIn w al n V O ab B) (hP : Finds (symsF n O) P Q) (hi : i < n) (hx0 : 0 <= x /\ x <= 40) (hd : -2147483648 <= d /\ d <= 2147483647) :
 Calls Tryz.prog 95 #[.slice al n cl,.slice ab n cb,.int .i64 (i : Int),.agg #[.int .i64 x,.int .i64 k,.int .i64 d,.string s,.bool b]] w fun e w' => e = .returned (hangE (hangF k (B i) x d (whereG O P Q B (B i) k s b))) /\ Below w.heap.size w w' := by
 have hfew := h.few
 have hBi := h.inW i hi
 have hx : ∀ ob : Obj,Below w.heap.size w (w.alloc ob) := fun ob => (Below.refl _ _).alloc (Nat.le_refl _) ob
 have HW := fun (w' : World) (hb : Below w.heap.size w w') => where_any al ab n cl cb V O B P Q i x k d s b w' (h.later hb) hP hi
 have hin := fun p => whereG_in (k := k) (s := s) (b := b) (p := p) h hP hi
 rcases h.bases with h0 | ⟨bb,ob,rfl,hc⟩
 ·omega
 have hci := hc i hi
 clear h hP hc
 cases hw : whereG O P Q B (B i) k s b with
 | none =>
  simp only [hw,whE,errV] at HW
  clear hw hin
  go_enter Tryz.func95,Tryz.ntmps95
  go_wp2_with fail
  refine (HW _ (hx _)).mono ?_
  rintro e w2 ⟨rfl,hb⟩
  clear HW
  go_wp2
  go_ret2
  exact ⟨rfl,(hx _).trans (hb.mono (by simp))⟩
 | some p =>
  have hp := hin p hw
  simp only [hw,whE] at HW
  have HI := isWordQ_any
  clear hw hin
  by_cases h3 : k = 3
  ·have h3' : (k == 3) = true := by simp [h3]
   by_cases z : p + d - (B i + x) < -500 ∨ 500 < p + d - (B i + x)
   ·have HE : Hid (hangF k (B i) x d (some p) = (7,0)) := by
     show hangF k (B i) x d (some p) = (7,0)
     simp only [hangF]
     rw [if_pos h3,if_pos z]
    clear h3
    by_cases z1 : p + d - (B i + x) < -500
    ·clear z
     go_enter Tryz.func95,Tryz.ntmps95
     go_wp2_with fail
     refine (HW _ (hx _)).mono ?_
     rintro e w2 ⟨rfl,hb⟩
     have hbw := (hx (.cells #[.int .i64 x,.int .i64 k,.int .i64 d,.string s,.bool b] 157)).trans (hb.mono (by simp))
     have c0 : w2.cell? ⟨w.heap.size,0,none⟩ = some (.int .i64 x) := cell_later hb (by simp [go_sem])
     have c1 : w2.cell? ⟨w.heap.size,1,none⟩ = some (.int .i64 k) := cell_later hb (by simp [go_sem])
     have c2 : w2.cell? ⟨w.heap.size,2,none⟩ = some (.int .i64 d) := cell_later hb (by simp [go_sem])
     replace hci := cell_later hbw hci
     clear HW hb
     go_wp2
     go_quiet (fail)
     go_wp2
     go_ret2
     rw [HE.out]
     exact ⟨rfl,below_drewN hbw _⟩
    ·have z2 : 500 < p + d - (B i + x) := by omega
     clear z
     go_enter Tryz.func95,Tryz.ntmps95
     go_wp2_with fail
     refine (HW _ (hx _)).mono ?_
     rintro e w2 ⟨rfl,hb⟩
     have hbw := (hx (.cells #[.int .i64 x,.int .i64 k,.int .i64 d,.string s,.bool b] 157)).trans (hb.mono (by simp))
     have c0 : w2.cell? ⟨w.heap.size,0,none⟩ = some (.int .i64 x) := cell_later hb (by simp [go_sem])
     have c1 : w2.cell? ⟨w.heap.size,1,none⟩ = some (.int .i64 k) := cell_later hb (by simp [go_sem])
     have c2 : w2.cell? ⟨w.heap.size,2,none⟩ = some (.int .i64 d) := cell_later hb (by simp [go_sem])
     replace hci := cell_later hbw hci
     clear HW hb
     go_wp2
     go_quiet (fail)
     go_wp2
     go_ret2
     rw [HE.out]
     exact ⟨rfl,below_drewN hbw _⟩
   ·have HE : Hid (hangF k (B i) x d (some p) = (0,p + d - (B i + x))) := by
     show hangF k (B i) x d (some p) = (0,p + d - (B i + x))
     simp only [hangF]
     rw [if_pos h3,if_neg z]
    have HI2 := fun (w : World) => HI (p + d - (B i + x)) w
    have hwd : isWordF (p + d - (B i + x)) = true := by simp [isWordF]; omega
    rw [hwd] at HI2
    have z1 : ¬ p + d - (B i + x) < -500 := by omega
    have z2 : ¬ 500 < p + d - (B i + x) := by omega
    clear h3 z HI hwd
    go_enter Tryz.func95,Tryz.ntmps95
    go_wp2_with fail
    refine (HW _ (hx _)).mono ?_
    rintro e w2 ⟨rfl,hb⟩
    have hbw := (hx (.cells #[.int .i64 x,.int .i64 k,.int .i64 d,.string s,.bool b] 157)).trans (hb.mono (by simp))
    have c0 : w2.cell? ⟨w.heap.size,0,none⟩ = some (.int .i64 x) := cell_later hb (by simp [go_sem])
    have c1 : w2.cell? ⟨w.heap.size,1,none⟩ = some (.int .i64 k) := cell_later hb (by simp [go_sem])
    have c2 : w2.cell? ⟨w.heap.size,2,none⟩ = some (.int .i64 d) := cell_later hb (by simp [go_sem])
    replace hci := cell_later hbw hci
    clear HW hb
    go_wp2
    go_quiet (fail)
    go_wp2_with fail
    refine (HI2 _).mono ?_
    rintro e w3 ⟨rfl,rfl⟩
    go_wp2
    go_ret2
    rw [HE.out]
    exact ⟨rfl,below_drewN hbw _⟩
  ·have h3' : (k == 3) = false := by rw [beq_eq_false_iff_ne]; exact h3
   have HI2 := fun (w : World) => HI (p + d) w
   cases hwd : isWordF (p + d) with
   | true =>
    have HE : Hid (hangF k (B i) x d (some p) = (0,p + d)) := by
     show hangF k (B i) x d (some p) = (0,p + d)
     simp only [hangF]
     rw [if_neg h3,if_pos hwd]
    rw [hwd] at HI2
    clear h3 HI hwd
    go_enter Tryz.func95,Tryz.ntmps95
    go_wp2_with fail
    refine (HW _ (hx _)).mono ?_
    rintro e w2 ⟨rfl,hb⟩
    have hbw := (hx (.cells #[.int .i64 x,.int .i64 k,.int .i64 d,.string s,.bool b] 157)).trans (hb.mono (by simp))
    have c1 : w2.cell? ⟨w.heap.size,1,none⟩ = some (.int .i64 k) := cell_later hb (by simp [go_sem])
    have c2 : w2.cell? ⟨w.heap.size,2,none⟩ = some (.int .i64 d) := cell_later hb (by simp [go_sem])
    clear HW hb hci
    go_wp2_with fail
    refine (HI2 _).mono ?_
    rintro e w3 ⟨rfl,rfl⟩
    go_wp2
    go_ret2
    rw [HE.out]
    exact ⟨rfl,hbw⟩
   | false =>
    have HE : Hid (hangF k (B i) x d (some p) = (7,0)) := by
     show hangF k (B i) x d (some p) = (7,0)
     simp only [hangF]
     rw [if_neg h3,if_neg (by simp [hwd])]
    rw [hwd] at HI2
    clear h3 HI hwd
    go_enter Tryz.func95,Tryz.ntmps95
    go_wp2_with fail
    refine (HW _ (hx _)).mono ?_
    rintro e w2 ⟨rfl,hb⟩
    have hbw := (hx (.cells #[.int .i64 x,.int .i64 k,.int .i64 d,.string s,.bool b] 157)).trans (hb.mono (by simp))
    have c1 : w2.cell? ⟨w.heap.size,1,none⟩ = some (.int .i64 k) := cell_later hb (by simp [go_sem])
    have c2 : w2.cell? ⟨w.heap.size,2,none⟩ = some (.int .i64 d) := cell_later hb (by simp [go_sem])
    clear HW hb hci
    go_wp2_with fail
    refine (HI2 _).mono ?_
    rintro e w3 ⟨rfl,rfl⟩
    go_wp2
    go_ret2
    rw [HE.out]
    exact ⟨rfl,hbw⟩
set_option maxHeartbeats 1000000 in
theorem checkBases_any (B : Nat -> Int) (a : Option Addr) (nb c n : Nat) (w : World) (hn : nb <= maxLen) (hr : RowAt w a nb fun i => .int .i64 (B i)) :
 Calls Tryz.prog 94 #[.slice a nb c,.int .i64 (n : Int)] w fun e w' => e = .returned (errV (if nb ≠ n then 3 else if outB B nb = true then 1 else 0)) /\ w' = w := by
 unfold maxLen at hn
 generalize hF : (if nb ≠ n then 3 else if outB B nb = true then 1 else 0) = F
 by_cases hne : nb = n
 ·rw [if_neg (by simp [hne])] at hF
  have HF : Hid ((if anyTo (fun i => decide (B i < 0 ∨ 256 < B i)) nb = true then 1 else 0) = F) := hF
  have h1 : ((nb : Int) != (n : Int)) = false := by rw [bne_eq_false_iff_eq]; omega
  clear hF hne
  go_enter Tryz.func94,Tryz.ntmps94
  go_wp2
  go_loop [14] (fun x => ∃ k : Nat,k <= nb /\ x = .int .i64 k /\ Hid (anyTo (fun i => decide (B i < 0 ∨ 256 < B i)) k = false)) (fun x => nb - (intOf x).toNat)
  case atStart => exact ⟨0,Nat.zero_le _,rfl,rfl⟩
  case round =>
   obtain ⟨k,hk,rfl,HK⟩ := hrel
   by_cases hlt : k < nb
   ·rcases hr with h0 | ⟨b,o,rfl,hc⟩
    ·omega
    have hck := hc k hlt
    clear hc
    by_cases hz : B k < 0 ∨ 256 < B k
    ·have HE : Hid (F = 1) := by
      show F = 1
      rw [<- HF.out,if_pos (anyTo_yes hlt (decide_eq_true hz))]
     by_cases hz1 : B k < 0
     ·clear hz
      go_wp2
      go_ret
      rw [HE.out]
      exact ⟨rfl,rfl⟩
     ·have hz2 : 256 < B k := by omega
      clear hz
      go_wp2
      go_ret
      rw [HE.out]
      exact ⟨rfl,rfl⟩
    ·have HE : Hid (anyTo (fun i => decide (B i < 0 ∨ 256 < B i)) (k + 1) = false) := anyTo_no HK.out (decide_eq_false hz)
     have hz1 : ¬ B k < 0 := by omega
     have hz2 : ¬ 256 < B k := by omega
     clear hz
     go_wp2
     go_round
     case rel => exact ⟨k + 1,by omega,by go_num,HE⟩
     case measure => simp [intOf]; omega
   ·have e : k = nb := by omega
    have HE : Hid (F = 0) := by
     show F = 0
     rw [<- HF.out,if_neg]
     rw [<- e,HK.out]; decide
    go_wp2
    go_ret
    rw [HE.out]
    exact ⟨rfl,rfl⟩
 ·rw [if_pos hne] at hF
  subst hF
  have h1 : ((nb : Int) != (n : Int)) = true := by rw [bne_iff_ne]; omega
  clear hne
  go_enter Tryz.func94,Tryz.ntmps94
  go_wp2
  go_ret
  exact ⟨rfl,rfl⟩
end Go.Proofs.YthdccmjdbcllkaaGreatDoor
namespace Go.Proofs.YthdccmjdbcllkaaGreatDoor
open Go.RowKit
def patC (x : Nat × Int × Int) : List Value := [.int .i64 (x.1 : Int),.int .i64 x.2.1,.int .i64 x.2.2]
def patsC (l : List (Nat × Int × Int)) : List Value := l.flatMap patC
theorem patsC_snoc (l : List (Nat × Int × Int)) (x : Nat × Int × Int) : patsC l ++ [.int .i64 (x.1 : Int),.int .i64 x.2.1,.int .i64 x.2.2] = patsC (l ++ [x]) := by simp [patsC,patC]
theorem growPat {B : Nat} {w : World} {v : Value} {l : List (Nat × Int × Int)} (x y z : Int) (hB : B <= w.heap.size) (h : w.ownsRow B 67 3 v l.length (patsC l)) (hn : l.length < 1000000) :
 ∃ v' W,(Builtin.append_ #[24,24] 24 #[v,.slice (some ⟨w.heap.size,0,none⟩) 1 1]).run Tryz.prog (w.alloc (.cells #[.int .i64 x,.int .i64 y,.int .i64 z] 67)) = .ok v' W /\ Grown B 67 3 (w.alloc (.cells #[.int .i64 x,.int .i64 y,.int .i64 z] 67)) v (l.length + 1) (patsC l ++ [.int .i64 x,.int .i64 y,.int .i64 z]) v' W :=
 append_from 24 67 3 24 (.agg #[.int .i64 0,.int .i64 0,.int .i64 0]) (by kernel_rfl) (by kernel_rfl) (by rfl) (by decide) B _ v l.length _ (h.alloc _) (some ⟨w.heap.size,0,none⟩) 1 1 [.int .i64 x,.int .i64 y,.int .i64 z] rfl
  (.inr ⟨_,_,rfl,fun j u hj => by
    match j,hj with
    | 0,hj => simp at hj; subst hj; simp [go_sem]
    | 1,hj => simp at hj; subst hj; simp [go_sem]
    | 2,hj => simp at hj; subst hj; simp [go_sem]
    | j + 3,hj => simp at hj⟩) (fun u hu => by simp at hu; rcases hu with rfl | rfl | rfl <;> rfl) (by simp; omega) (by omega) (by decide)
theorem errV_pos' {f : Nat} (h : f ≠ 0) : ∃ n : Int,errV f = .iface 74 (.int .i64 n) := by
 cases f with
 | zero => exact absurd rfl h
 | succ f => exact ⟨_,rfl⟩
inductive AllEnd (w : World) (B : Nat) (l : List (Nat × Int × Int)) (F : Nat) : Ending -> Prop
 | bad (hf : F ≠ 0) : AllEnd w B l F (.returned (.tuple #[.slice none 0 0,errV F]))
 | ok (hf : F = 0) (v : Value) (hv : w.ownsRow B 67 3 v l.length (patsC l)) : AllEnd w B l F (.returned (.tuple #[v,.nilIface]))
theorem outB_no {B : Nat -> Int} {n : Nat} (h : ¬ outB B n = true) : ∀ i,i < n -> 0 <= B i /\ B i <= 256 := fun i hi => by
 by_cases e : B i < 0 ∨ 256 < B i
 ·exact absurd (anyTo_yes hi (decide_eq_true e)) h
 ·omega
set_option maxRecDepth 100000 in
set_option maxHeartbeats 4000000 in
theorem all_any (al ab : Option Addr) (n cl nb cb : Nat) (V : Nat -> ObjV) (O : Nat -> ObjF) (B : Nat -> Int) (P Q : ByteArray -> Int) (w : World) (hn : n <= 1000) (hnb : nb <= maxLen) (hr : ObjsRow w al n V O) (hrb : RowAt w ab nb fun i => .int .i64 (B i)) (hg : ∀ i,i < n -> ObjOk (O i)) (hP : Finds (symsF n O) P Q) :
 Calls Tryz.prog 69 #[.slice al n cl,.slice ab nb cb] w fun e w' => AllEnd w' w.heap.size (patsTo O P Q B n) (allF n O P Q nb B) e /\ Below w.heap.size w w' := by
 have HC := checkBases_any B ab nb cb n w hnb hrb
 generalize hF : allF n O P Q nb B = F
 unfold allF at hF
 by_cases h1 : nb = n
 ·subst h1
  rw [if_neg (by simp)] at hF
  rw [if_neg (by simp)] at HC
  by_cases h2 : outB B nb = true
  ·rw [if_pos h2] at hF
   subst hF
   rw [if_pos h2] at HC
   simp only [errV] at HC
   clear h2 hr hrb hP hg
   go_enter Tryz.func69,Tryz.ntmps69
   go_wp2_with fail
   refine HC.mono ?_
   rintro e w1 ⟨rfl,rfl⟩
   clear HC
   go_wp2
   go_ret2
   exact ⟨.bad (by decide),Below.refl _ _⟩
  ·rw [if_neg h2] at hF
   rw [if_neg h2] at HC
   simp only [errV] at HC
   have hin : PatIn w al nb V O ab B := ⟨hr,hrb,hg,outB_no h2,hn⟩
   have HF : Hid (tiesF O P Q B nb = F) := hF
   clear hF h2 hr hrb hnb
   go_enter Tryz.func69,Tryz.ntmps69
   go_wp2_with fail
   refine HC.mono ?_
   rintro e w1 ⟨rfl,hw1⟩
   replace hw1 := hw1.symm
   subst hw1
   clear HC
   go_wp2
   go_loopw [7,23] (fun x z wr => ∃ (i : Nat) (v : Value),i <= nb /\ z = .int .i64 i /\ x = v /\ wr.ownsRow w.heap.size 67 3 v (patsTo O P Q B i).length (patsC (patsTo O P Q B i)) /\ Hid (tiesF O P Q B i = 0) /\ Below w.heap.size w wr) (fun _ z _ => nb - (intOf z).toNat)
   case atStart => exact ⟨0,.slice none 0 0,Nat.zero_le _,rfl,rfl,World.ownsRow_nil _ _ _ _,rfl,Below.refl _ _⟩
   case round =>
    obtain ⟨i,v,hi,rfl,rfl,ho,HT,hb⟩ := hrel
    by_cases hlt : i < nb
    ·have hgi := hg i hlt
     have hnT := hgi.nT
     have hlen := patsTo_le P Q B (i := i) (fun j hj => (hg j (by omega)).nT)
     have hin1 := hin.objs
     rcases hin1 with h0 | ⟨bk,o,rfl,hc⟩
     ·omega
     have H := (hc i hlt).later hb
     have c0 := H.c0
     have c1 := H.c1
     have c2 := H.c2
     have c3 := H.c3
     have hti := (hc i hlt).here.ties
     have hx : ∀ ob : Obj,Below w.heap.size w (wr.alloc ob) := fun ob => hb.alloc hb.size ob
     clear H hc
     go_wp2
     go_loopw [7,31] (fun x z wr => ∃ (k : Nat) (v : Value),k <= (O i).nT /\ z = .int .i64 k /\ x = v /\ wr.ownsRow w.heap.size 67 3 v (patsTo O P Q B i ++ patsOf O P Q B i k).length (patsC (patsTo O P Q B i ++ patsOf O P Q B i k)) /\ Hid (faultTo (fun k => (tieW O P Q B i k).1) k = 0) /\ Below w.heap.size w wr) (fun _ z _ => (O i).nT - (intOf z).toNat)
     case atStart => exact ⟨0,_,Nat.zero_le _,rfl,rfl,by simpa [patsOf] using ho.alloc _,rfl,hx _⟩
     case round =>
      clear ho c0 c1 c2 c3 hx hb
      obtain ⟨k,v,hk,rfl,rfl,ho,HK,hb⟩ := hrel
      by_cases hlk : k < (O i).nT
      ·have htk := hgi.ties k hlk
       rcases hti with h0 | ⟨b2,o2,ha2,hs2⟩
       ·omega
       obtain ⟨d0,d1,d2,d3,d4⟩ := hs2 k hlk
       replace d0 := cell_later hb d0
       replace d1 := cell_later hb d1
       replace d2 := cell_later hb d2
       replace d3 := cell_later hb d3
       replace d4 := cell_later hb d4
       rw [ha2]
       clear hs2
       have hx : ∀ ob : Obj,Below w.heap.size w (wr.alloc ob) := fun ob => hb.alloc hb.size ob
       have HW := fun (w' : World) (hb : Below w.heap.size w w') => word_any (some ⟨bk,o,none⟩) ab nb cl cb V O B P Q i ((O i).tAt k) ((O i).tKind k) ((O i).tAdd k) ((O i).tName k) ((O i).tWeak k) w' (hin.later hb) hP hlt (by have := hgi.nW; omega) (by omega)
       have hTW : hangF ((O i).tKind k) (B i) ((O i).tAt k) ((O i).tAdd k) (whereG O P Q B (B i) ((O i).tKind k) ((O i).tName k) ((O i).tWeak k)) = tieW O P Q B i k := rfl
       rw [hTW] at HW
       clear hTW htk
       have hln := patsOf_len O P Q B i k
       by_cases hf : (tieW O P Q B i k).1 = 0
       ·have HE : Hid (faultTo (fun k => (tieW O P Q B i k).1) (k + 1) = 0) := faultTo_ok HK.out hf
        have hrun : ∀ v,hangE (tieW O P Q B i k) = v -> v = .tuple #[.int .i64 (tieW O P Q B i k).2,.nilIface] := fun v e => by rw [<- e]; simp [hangE,hf,errV]
        simp only [hrun _ rfl] at HW
        clear hrun hf
        have hb2' := fun ob => (hx ob).size
        go_wp2_with fail
        refine (HW _ (hx _)).mono ?_
        rintro e w2 ⟨rfl,hb2⟩
        have e0 : w2.cell? ⟨wr.heap.size,0,none⟩ = some (.int .i64 ((O i).tAt k)) := cell_later hb2 (by simp [go_sem])
        have ho2 := owns_below (ho.alloc (.cells #[.int .i64 ((O i).tAt k),.int .i64 ((O i).tKind k),.int .i64 ((O i).tAdd k),.string ((O i).tName k),.bool ((O i).tWeak k)] 157)) hb2
        have hb3 := (hx (.cells #[.int .i64 ((O i).tAt k),.int .i64 ((O i).tKind k),.int .i64 ((O i).tAdd k),.string ((O i).tName k),.bool ((O i).tWeak k)] 157)).trans (hb2.mono (by simp; have := hb.size; omega))
        obtain ⟨v1,W1,happ1,hG1⟩ := growPat (i : Int) ((O i).tAt k) (tieW O P Q B i k).2 hb3.size ho2 (by simp only [List.length_append]; omega)
        have ho3 := hG1.own
        rw [patsC_snoc (patsTo O P Q B i ++ patsOf O P Q B i k) (i,(O i).tAt k,(tieW O P Q B i k).2)] at ho3
        have ho4 : W1.ownsRow w.heap.size 67 3 v1 (patsTo O P Q B i ++ patsOf O P Q B i (k + 1)).length (patsC (patsTo O P Q B i ++ patsOf O P Q B i (k + 1))) := by
         have e : patsTo O P Q B i ++ patsOf O P Q B i (k + 1) = patsTo O P Q B i ++ patsOf O P Q B i k ++ [(i,(O i).tAt k,(tieW O P Q B i k).2)] := by simp [patsOf]
         rw [e,List.length_append (bs := [_]),List.length_singleton]
         exact ho3
        have hb4 : Below w.heap.size w W1 := (hb3.alloc hb3.size _).trans hG1.below
        clear HW hb2 ho2 hb3 hG1 ho ho3 hx hb2'
        go_wp2_with (at_builtin; refine list_run rfl (.tmp 46) (.tmp 52) 24 rfl u7 (.slice (some ⟨w2.heap.size,0,none⟩) 1 1) _ rfl rfl happ1 ?_)
        go_roundw
        case rel => exact ⟨k + 1,v1,by omega,by go_num,rfl,ho4,HE,hb4⟩
        case measure => simp [intOf]; omega
       ·have HE : Hid (F = (tieW O P Q B i k).1) := by
         show F = _
         rw [<- HF.out]
         have e1 : faultTo (fun k => (tieW O P Q B i k).1) (O i).nT = (tieW O P Q B i k).1 := faultTo_stop hlk HK.out hf
         have e2 := faultTo_stop (g := fun i => faultTo (fun k => (tieW O P Q B i k).1) (O i).nT) hlt HT.out (by rw [e1]; exact hf)
         exact e2.trans e1
        have H0 : Hid ((tieW O P Q B i k).1 ≠ 0) := hf
        obtain ⟨z,hz⟩ := errV_pos' hf
        have hrun : hangE (tieW O P Q B i k) = .tuple #[.int .i64 (tieW O P Q B i k).2,.iface 74 (.int .i64 z)] := by simp [hangE,hz]
        rw [hrun] at HW
        have HZ : Hid (errV F = .iface 74 (.int .i64 z)) := by
         show errV F = _
         rw [HE.out]; exact hz
        clear hrun hf hz
        go_wp2_with fail
        refine (HW _ (hx _)).mono ?_
        rintro e w2 ⟨rfl,hb2⟩
        have hb3 := (hx (.cells #[.int .i64 ((O i).tAt k),.int .i64 ((O i).tKind k),.int .i64 ((O i).tAdd k),.string ((O i).tName k),.bool ((O i).tWeak k)] 157)).trans (hb2.mono (by simp; have := hb.size; omega))
        clear HW hb2 hx hb
        go_wp2
        go_ret2
        rw [<- HZ.out]
        exact ⟨.bad (by rw [HE.out]; exact H0.out),hb3⟩
      ·have e : k = (O i).nT := by omega
       subst e
       have HE : Hid (tiesF O P Q B (i + 1) = 0) := faultTo_ok HT.out HK.out
       have ho2 : wr.ownsRow w.heap.size 67 3 u7 (patsTo O P Q B (i + 1)).length (patsC (patsTo O P Q B (i + 1))) := ho
       clear ho
       go_wp2
       go_roundw
       case rel => exact ⟨i + 1,_,by omega,by go_num,rfl,ho2,HE,hb⟩
       case measure => simp [intOf]; omega
    ·have e : i = nb := by omega
     subst e
     go_wp2
     go_ret2
     exact ⟨.ok (HF.out.symm.trans HT.out) _ ho,hb⟩
 ·rw [if_pos h1] at hF
  subst hF
  rw [if_pos h1] at HC
  simp only [errV] at HC
  clear h1 hr hrb hP hg
  go_enter Tryz.func69,Tryz.ntmps69
  go_wp2_with fail
  refine HC.mono ?_
  rintro e w1 ⟨rfl,rfl⟩
  clear HC
  go_wp2
  go_ret2
  exact ⟨.bad (by decide),Below.refl _ _⟩
def PassAt (L : SymsF) (s : ByteArray) (p i k : Nat) : Prop :=
 (p = 0 /\ ∀ a b,Hit L s a b -> Bef a b i k -> L.wk a b = true) ∨ (p = 1 /\ (∀ a b,Hit L s a b -> L.wk a b = true) /\ ∀ a b,Hit L s a b -> ¬ Bef a b i k)
theorem PassAt.next {L : SymsF} {s : ByteArray} {p i : Nat} (h : PassAt L s p i (L.m i)) : PassAt L s p (i + 1) 0 := by
 have key : ∀ a b,Hit L s a b -> Bef a b (i + 1) 0 -> Bef a b i (L.m i) := fun a b hh e => by
  have := hh.lk
  by_cases z : a = i
  ·subst z; unfold Bef at *; omega
  ·unfold Bef at *; omega
 rcases h with ⟨h0,h⟩ | ⟨h0,h1,h⟩
 ·exact .inl ⟨h0,fun a b hh e => h a b hh (key a b hh e)⟩
 ·exact .inr ⟨h0,h1,fun a b hh e => h a b hh (key a b hh e)⟩
theorem PassAt.step {L : SymsF} {s : ByteArray} {p i k : Nat} (h : PassAt L s p i k) (hn : Hit L s i k -> p = 0 /\ L.wk i k = true) : PassAt L s p i (k + 1) := by
 have key : ∀ a b,Hit L s a b -> Bef a b i (k + 1) -> Bef a b i k ∨ (a = i /\ b = k) := fun a b hh e => by unfold Bef at *; omega
 rcases h with ⟨h0,h⟩ | ⟨h0,h1,h⟩
 ·refine .inl ⟨h0,fun a b hh e => ?_⟩
  rcases key a b hh e with e | ⟨rfl,rfl⟩
  ·exact h a b hh e
  ·exact (hn hh).2
 ·refine .inr ⟨h0,h1,fun a b hh e => ?_⟩
  rcases key a b hh e with e | ⟨rfl,rfl⟩
  ·exact h a b hh e
  ·have := (hn hh).1; omega
theorem PassAt.found {L : SymsF} {s : ByteArray} {p i k : Nat} (h : PassAt L s p i k) (hh : Hit L s i k) (hw : L.wk i k = decide (p = 1)) : IsFound L s i k := by
 rcases h with ⟨rfl,h⟩ | ⟨rfl,h1,h⟩
 ·exact .strong i k hh (by simpa using hw) h
 ·exact .weak i k hh h h1
theorem PassAt.again {L : SymsF} {s : ByteArray} (h : PassAt L s 0 L.n 0) : PassAt L s 1 0 0 := by
 rcases h with ⟨_,h⟩ | ⟨h0,_⟩
 ·exact .inr ⟨rfl,fun a b hh => h a b hh (.inl hh.li),fun a b _ e => by unfold Bef at e; omega⟩
 ·cases h0
theorem PassAt.none {L : SymsF} {s : ByteArray} (h : PassAt L s 1 L.n 0) : IsFound L s (-1) (-1) := by
 rcases h with ⟨h0,_⟩ | ⟨_,_,h⟩
 ·cases h0
 ·exact .none fun a b hh => h a b hh (.inl hh.li)
set_option maxRecDepth 100000 in
set_option maxHeartbeats 4000000 in
theorem refFound_any (a : Option Addr) (n c : Nat) (V : Nat -> ObjV) (O : Nat -> ObjF) (s : ByteArray) (w : World) (hn : n <= 1000000000) (hm : ∀ i,i < n -> (O i).nS <= 1000000000) (hr : ObjsRow w a n V O) :
 Calls Tryz.prog 97 #[.slice a n c,.string s] w fun e w' => FoundEnd (symsF n O) s e /\ Below w.heap.size w w' := by
 go_enter Tryz.func97,Tryz.ntmps97
 go_wp2
 go_loopw [6] (fun z wr => ∃ p : Nat,z = .int .i64 p /\ p <= 2 /\ Hid (p < 2 -> PassAt (symsF n O) s p 0 0) /\ Hid (p = 2 -> IsFound (symsF n O) s (-1) (-1)) /\ Below w.heap.size w wr) (fun z _ => 2 - (intOf z).toNat)
 case atStart => exact ⟨0,rfl,by omega,fun _ => .inl ⟨rfl,fun a b _ e => by unfold Bef at e; omega⟩,fun e => (by cases e),Below.refl _ _⟩
 case round =>
  obtain ⟨p,rfl,hp,H1,H2,hb⟩ := hrel
  by_cases hlp : p < 2
  ·have HP : Hid (PassAt (symsF n O) s p 0 0) := H1.out hlp
   clear H1 H2
   go_wp2
   go_loopw [7] (fun z wr => ∃ i : Nat,z = .int .i64 i /\ i <= n /\ Hid (PassAt (symsF n O) s p i 0) /\ Below w.heap.size w wr) (fun z _ => n - (intOf z).toNat)
   case atStart => exact ⟨0,rfl,Nat.zero_le _,HP,hb⟩
   case round =>
    clear HP hb
    obtain ⟨i,rfl,hi,HP,hb⟩ := hrel
    by_cases hlt : i < n
    ·have hr' := hr
     rcases hr' with h0 | ⟨bk,o,rfl,hc⟩
     ·omega
     have hmi := hm i hlt
     go_wp2
     go_loopw [8] (fun z wr => ∃ k : Nat,z = .int .i64 k /\ k <= (O i).nS /\ Hid (PassAt (symsF n O) s p i k) /\ Below w.heap.size w wr) (fun z _ => (O i).nS - (intOf z).toNat)
     case atStart => exact ⟨0,rfl,Nat.zero_le _,HP,hb⟩
     case round =>
      clear HP hb
      obtain ⟨k,rfl,hk,HP,hb⟩ := hrel
      have H := (hc i hlt).later hb
      have c2 := H.c2
      by_cases hlk : k < (O i).nS
      ·rcases H.here.syms with h0 | ⟨b2,o2,ha2,hs2⟩
       ·omega
       rw [ha2] at c2
       obtain ⟨d0,d1,d2⟩ := hs2 k hlk
       have hx : ∀ ob : Obj,Below w.heap.size w (wr.alloc ob) := fun ob => hb.alloc hb.size ob
       clear hs2 H hc
       by_cases hnm : (O i).sName k = s
       ·have hh : Hit (symsF n O) s i k := ⟨hlt,hlk,hnm⟩
        have ht : (((O i).sName k).toList == s.toList) = true := by rw [toList_beq,decide_eq_true hnm]
        by_cases hwk : (O i).sWeak k = decide (p = 1)
        ·have HF : Hid (IsFound (symsF n O) s i k) := HP.out.found hh hwk
         have hw2 : ((O i).sWeak k == ((p : Int) == 1)) = true := by
          rw [hwk,beq_iff_eq,Bool.eq_iff_iff]; simp; omega
         clear hnm hh hwk HP
         go_wp2
         go_ret2
         exact ⟨⟨i,k,rfl,HF.out⟩,hx _⟩
        ·have HS : Hid (PassAt (symsF n O) s p i (k + 1)) := HP.out.step fun _ => by
          rcases HP.out with ⟨h0,_⟩ | ⟨h0,h1,_⟩
          ·refine ⟨h0,?_⟩
           subst h0
           show (O i).sWeak k = true
           simpa using hwk
          ·exfalso
           subst h0
           exact hwk (by have := h1 i k hh; simpa using (show (O i).sWeak k = true from this))
         have hw2 : ((O i).sWeak k == ((p : Int) == 1)) = false := by
          rw [beq_eq_false_iff_ne]
          intro e
          apply hwk
          rw [e,Bool.eq_iff_iff]; simp; omega
         clear hnm hh hwk HP
         go_wp2
         go_roundw
         case rel => exact ⟨k + 1,by go_num,by omega,HS,hx _⟩
         case measure => simp [intOf]; omega
       ·have ht : (((O i).sName k).toList == s.toList) = false := by rw [toList_beq,decide_eq_false hnm]
        have HS : Hid (PassAt (symsF n O) s p i (k + 1)) := HP.out.step fun hh => absurd hh.eq hnm
        clear hnm HP
        go_wp2
        go_roundw
        case rel => exact ⟨k + 1,by go_num,by omega,HS,hx _⟩
        case measure => simp [intOf]; omega
      ·have e : k = (O i).nS := by omega
       subst e
       have HN : Hid (PassAt (symsF n O) s p (i + 1) 0) := HP.out.next
       clear H hc
       go_wp2
       go_roundw
       case rel => exact ⟨i + 1,by go_num,by omega,HN,hb⟩
       case measure => simp [intOf]; omega
    ·have e : i = n := by omega
     subst e
     have E1 : Hid (p + 1 < 2 -> PassAt (symsF i O) s (p + 1) 0 0) := fun h => by
      have : p = 0 := by omega
      subst this
      exact PassAt.again HP.out
     have E2 : Hid (p + 1 = 2 -> IsFound (symsF i O) s (-1) (-1)) := fun h => by
      have : p = 1 := by omega
      subst this
      exact PassAt.none HP.out
     clear HP
     go_wp2
     go_roundw
     case rel => exact ⟨p + 1,by go_num,by omega,E1,E2,hb⟩
     case measure => simp [intOf]; omega
  ·have HF := H2.out (by omega)
   clear H1 H2
   go_wp2
   go_ret2
   exact ⟨⟨_,_,rfl,HF⟩,hb⟩
theorem wordMayQ_any (n : Int) (w : World) : Calls Tryz.prog 28 #[.int .i64 n] w fun e w' => e = .returned (.bool (isWordF n)) /\ w = w' := by
 by_cases h1 : -2147483648 <= n
 all_goals by_cases h2 : n <= 2147483647
 all_goals
  go_enter Tryz.func28,Tryz.ntmps28
  go_wp2
  go_ret
  exact ⟨ret_bool (by simp [isWordF] <;> omega),rfl⟩
structure TieIn (w : World) (bt : Nat) (x k d : Int) (s : ByteArray) (b : Bool) : Prop where
 c0 : w.cell? ⟨bt,0,none⟩ = some (.int .i64 x)
 c1 : w.cell? ⟨bt,1,none⟩ = some (.int .i64 k)
 c2 : w.cell? ⟨bt,2,none⟩ = some (.int .i64 d)
 c3 : w.cell? ⟨bt,3,none⟩ = some (.string s)
 c4 : w.cell? ⟨bt,4,none⟩ = some (.bool b)
theorem TieIn.later {w w' : World} {bt : Nat} {x k d : Int} {s : ByteArray} {b : Bool} (h : TieIn w bt x k d s b) (hb : Below w.heap.size w w') : TieIn w' bt x k d s b :=
 ⟨cell_later hb h.c0,cell_later hb h.c1,cell_later hb h.c2,cell_later hb h.c3,cell_later hb h.c4⟩
inductive RefAllEnd (w : World) (B : Nat) (l : List (Nat × Int × Int)) (F : Nat) : Ending -> Prop
 | bad (hf : F ≠ 0) : RefAllEnd w B l F (.returned (.tuple #[.slice none 0 0,.int .i64 (F : Int)]))
 | ok (hf : F = 0) (v : Value) (hv : w.ownsRow B 67 3 v l.length (patsC l)) : RefAllEnd w B l F (.returned (.tuple #[v,.int .i64 0]))
theorem hangF_near {k bi x d p : Int} (h3 : k = 3) (z : ¬ (p + d - (bi + x) < -500 ∨ 500 < p + d - (bi + x))) : hangF k bi x d (some p) = (0,p + d - (bi + x)) := by
 simp only [hangF]; rw [if_pos h3,if_neg z]
theorem hangF_nearFar {k bi x d p : Int} (h3 : k = 3) (z : p + d - (bi + x) < -500 ∨ 500 < p + d - (bi + x)) : hangF k bi x d (some p) = (7,0) := by
 simp only [hangF]; rw [if_pos h3,if_pos z]
theorem hangF_whole {k bi x d p : Int} (h3 : k ≠ 3) (z : isWordF (p + d) = true) : hangF k bi x d (some p) = (0,p + d) := by
 simp only [hangF]; rw [if_neg h3,if_pos z]
theorem hangF_far {k bi x d p : Int} (h3 : k ≠ 3) (z : isWordF (p + d) = false) : hangF k bi x d (some p) = (7,0) := by
 simp only [hangF]; rw [if_neg h3,if_neg (by simp [z])]
theorem whereG_none {O : Nat -> ObjF} {P Q : ByteArray -> Int} {B : Nat -> Int} {bi k : Int} {s : ByteArray} {b : Bool} (h : whereG O P Q B bi k s b = none) : k ≠ 1 /\ ¬ 0 <= P s /\ b = false := by
 unfold whereG at h
 split at h
 ·cases h
 split at h
 ·cases h
 split at h
 ·cases h
 ·rename_i h1 h2 h3
  exact ⟨h1,h2,by simpa using h3⟩
theorem whereG_one {O : Nat -> ObjF} {P Q : ByteArray -> Int} {B : Nat -> Int} {bi k : Int} {s : ByteArray} {b : Bool} {p : Int} (h : whereG O P Q B bi k s b = some p) : (k = 1 /\ p = bi) ∨ (k ≠ 1 /\ 0 <= P s /\ p = B (P s).toNat + (O (P s).toNat).sAt (Q s).toNat) ∨ (k ≠ 1 /\ ¬ 0 <= P s /\ b = true /\ p = 0) := by
 unfold whereG at h
 split at h
 ·rename_i h1; injection h with h; exact .inl ⟨h1,h.symm⟩
 split at h
 ·rename_i h1 h2; injection h with h; exact .inr (.inl ⟨h1,h2,h.symm⟩)
 split at h
 ·rename_i h1 h2 h3; injection h with h; exact .inr (.inr ⟨h1,h2,h3,h.symm⟩)
 ·cases h
set_option maxRecDepth 100000 in
set_option maxHeartbeats 8000000 in
theorem refPatches_any (al ab : Option Addr) (n cl nb cb : Nat) (V : Nat -> ObjV) (O : Nat -> ObjF) (B : Nat -> Int) (P Q : ByteArray -> Int) (w : World) (hn : n <= 1000) (hnb : nb <= maxLen) (hr : ObjsRow w al n V O) (hrb : RowAt w ab nb fun i => .int .i64 (B i)) (hg : ∀ i,i < n -> ObjOk (O i)) (hP : Finds (symsF n O) P Q) :
 Calls Tryz.prog 72 #[.slice al n cl,.slice ab nb cb] w fun e w' => RefAllEnd w' w.heap.size (patsTo O P Q B n) (allF n O P Q nb B) e /\ Below w.heap.size w w' := by
 unfold maxLen at hnb
 generalize hF : allF n O P Q nb B = F
 unfold allF at hF
 by_cases h1 : nb = n
 ·subst h1
  rw [if_neg (by simp)] at hF
  have HF0 : Hid ((if anyTo (fun i => decide (B i < 0 ∨ 256 < B i)) nb = true then 1 else tiesF O P Q B nb) = F) := hF
  clear hF
  go_enter Tryz.func72,Tryz.ntmps72
  go_wp2
  go_loopw [6] (fun x wr => ∃ k : Nat,k <= nb /\ x = .int .i64 k /\ wr = w /\ Hid (anyTo (fun i => decide (B i < 0 ∨ 256 < B i)) k = false)) (fun x _ => nb - (intOf x).toNat)
  case atStart => exact ⟨0,Nat.zero_le _,rfl,rfl,rfl⟩
  case round =>
   obtain ⟨k,hk,rfl,hw,HK⟩ := hrel
   replace hw := hw.symm
   subst hw
   by_cases hlt : k < nb
   ·rcases hrb with h0 | ⟨b,o,rfl,hc⟩
    ·omega
    have hck := hc k hlt
    clear hc
    by_cases hz : B k < 0 ∨ 256 < B k
    ·have HE : Hid (F = 1) := by
      show F = 1
      rw [<- HF0.out,if_pos (anyTo_yes hlt (decide_eq_true hz))]
     by_cases hz1 : B k < 0
     ·clear hz
      go_wp2
      go_ret2
      rw [HE.out]
      exact ⟨.bad (by decide),Below.refl _ _⟩
     ·have hz2 : 256 < B k := by omega
      clear hz
      go_wp2
      go_ret2
      rw [HE.out]
      exact ⟨.bad (by decide),Below.refl _ _⟩
    ·have HE : Hid (anyTo (fun i => decide (B i < 0 ∨ 256 < B i)) (k + 1) = false) := anyTo_no HK.out (decide_eq_false hz)
     have hz1 : ¬ B k < 0 := by omega
     have hz2 : ¬ 256 < B k := by omega
     clear hz
     go_wp2
     go_roundw
     case rel => exact ⟨k + 1,by omega,by go_num,trivial,HE⟩
     case measure => simp [intOf]; omega
   ·have e : k = nb := by omega
    have hq : ¬ outB B nb = true := by
     show ¬ anyTo (fun i => decide (B i < 0 ∨ 256 < B i)) nb = true
     rw [<- e,HK.out]; decide
    have HF : Hid (tiesF O P Q B nb = F) := by
     have := HF0.out
     rw [if_neg (show ¬ anyTo (fun i => decide (B i < 0 ∨ 256 < B i)) nb = true from hq)] at this
     exact this
    have hin : PatIn w al nb V O ab B := ⟨hr,hrb,hg,outB_no hq,hn⟩
    clear HF0 HK hq hr hrb hnb
    subst e
    go_wp2
    go_loopw [7,8] (fun x z wr => ∃ (i : Nat) (v : Value),i <= k /\ z = .int .i64 i /\ x = v /\ wr.ownsRow w.heap.size 67 3 v (patsTo O P Q B i).length (patsC (patsTo O P Q B i)) /\ Hid (tiesF O P Q B i = 0) /\ Below w.heap.size w wr) (fun _ z _ => k - (intOf z).toNat)
    case atStart => exact ⟨0,.slice none 0 0,Nat.zero_le _,rfl,rfl,World.ownsRow_nil _ _ _ _,rfl,Below.refl _ _⟩
    case round =>
     obtain ⟨i,v,hi,rfl,rfl,ho,HT,hb⟩ := hrel
     by_cases hlt : i < k
     ·have hgi := hg i hlt
      have hnT := hgi.nT
      have hlen := patsTo_le P Q B (i := i) (fun j hj => (hg j (by omega)).nT)
      have hin1 := hin.objs
      rcases hin1 with h0 | ⟨bk,o,rfl,hc⟩
      ·omega
      go_wp2
      go_loopw [7,9] (fun x z wr => ∃ (m : Nat) (v : Value),m <= (O i).nT /\ z = .int .i64 m /\ x = v /\ wr.ownsRow w.heap.size 67 3 v (patsTo O P Q B i ++ patsOf O P Q B i m).length (patsC (patsTo O P Q B i ++ patsOf O P Q B i m)) /\ Hid (faultTo (fun k => (tieW O P Q B i k).1) m = 0) /\ Below w.heap.size w wr) (fun _ z _ => (O i).nT - (intOf z).toNat)
      case atStart => exact ⟨0,_,Nat.zero_le _,rfl,rfl,by simpa [patsOf] using ho,rfl,hb⟩
      case round =>
       clear ho hb
       obtain ⟨m,v,hm,rfl,rfl,ho,HK,hb⟩ := hrel
       have H := (hc i hlt).later hb
       have c3 := H.c3
       by_cases hlm : m < (O i).nT
       ·have htk := hgi.ties m hlm
        rcases H.here.ties with h0 | ⟨b2,o2,ha2,hs2⟩
        ·omega
        obtain ⟨d0,d1,d2,d3,d4⟩ := hs2 m hlm
        rw [ha2] at c3
        clear hs2 H hc
        have hx : ∀ ob : Obj,Below w.heap.size w (wr.alloc ob) := fun ob => hb.alloc hb.size ob
        have hT0 : TieIn (wr.alloc (.cells #[.int .i64 ((O i).tAt m),.int .i64 ((O i).tKind m),.int .i64 ((O i).tAdd m),.string ((O i).tName m),.bool ((O i).tWeak m)] 157)) wr.heap.size ((O i).tAt m) ((O i).tKind m) ((O i).tAdd m) ((O i).tName m) ((O i).tWeak m) :=
         ⟨by simp [go_sem],by simp [go_sem],by simp [go_sem],by simp [go_sem],by simp [go_sem]⟩
        have hX := hx (.cells #[.int .i64 ((O i).tAt m),.int .i64 ((O i).tKind m),.int .i64 ((O i).tAdd m),.string ((O i).tName m),.bool ((O i).tWeak m)] 157)
        have hoX := ho.alloc (.cells #[.int .i64 ((O i).tAt m),.int .i64 ((O i).tKind m),.int .i64 ((O i).tAdd m),.string ((O i).tName m),.bool ((O i).tWeak m)] 157)
        have hTW : tieW O P Q B i m = hangF ((O i).tKind m) (B i) ((O i).tAt m) ((O i).tAdd m) (whereG O P Q B (B i) ((O i).tKind m) ((O i).tName m) ((O i).tWeak m)) := rfl
        have hFnd := fun (w' : World) (hb : Below w.heap.size w w') => refFound_any (some ⟨bk,o,none⟩) k cl V O ((O i).tName m) w' (by omega) (fun j hj => by have := (hg j hj).nS; omega) (hin.objs.later hb)
        have hln := patsOf_len O P Q B i m
        have hWn := hgi.nW
        have hstop : (tieW O P Q B i m).1 ≠ 0 -> F = (tieW O P Q B i m).1 := fun hf => by
         rw [<- HF.out]
         have e1 : faultTo (fun k => (tieW O P Q B i k).1) (O i).nT = (tieW O P Q B i m).1 := faultTo_stop hlm HK.out hf
         have e2 := faultTo_stop (g := fun i => faultTo (fun k => (tieW O P Q B i k).1) (O i).nT) hlt HT.out (by rw [e1]; exact hf)
         exact e2.trans e1
        have cq1 := hT0.c1
        have cq2 := hT0.c2
        go_upto_if 66 with fail
        clear cq1 cq2
        generalize hbt : wr.heap.size = bt at *
        generalize wr.alloc (.cells #[.int .i64 ((O i).tAt m),.int .i64 ((O i).tKind m),.int .i64 ((O i).tAdd m),.string ((O i).tName m),.bool ((O i).tWeak m)] 157) = X at *
        clear d0 d1 d2 d3 d4 c3 hbt hx ho hb
        cases hW : whereG O P Q B (B i) ((O i).tKind m) ((O i).tName m) ((O i).tWeak m) with
        | none =>
         rw [hW] at hTW
         have HE : Hid (F = 6) := by
          have := hstop (by rw [hTW]; simp [hangF])
          rw [hTW] at this; exact this
         obtain ⟨w1,w2,w3⟩ := whereG_none hW
         have k1 : ((O i).tKind m == 1) = false := by rw [beq_eq_false_iff_ne]; exact w1
         have c1 := hT0.c1
         have c3 := hT0.c3
         have c4 := hT0.c4
         rw [w3] at c4
         have hPs : P ((O i).tName m) = -1 /\ Q ((O i).tName m) = -1 := by
          rcases hP.shape ((O i).tName m) with h | ⟨x,y,h,_⟩
          ·exact h
          ·omega
         clear hTW hW w1 w2 w3 hstop hT0 hoX
         go_wp2_with fail
         refine (hFnd _ hX).mono ?_
         rintro e w2 ⟨⟨p,q,rfl,hFd⟩,hb2⟩
         obtain ⟨rfl,rfl⟩ := hP.eq hFd
         rw [hPs.1,hPs.2]
         replace c4 := cell_later hb2 c4
         have hb3 := hX.trans (hb2.mono hX.size)
         clear hFnd hFd hb2 c1 c3 hPs hX
         go_wp2
         go_ret2
         rw [HE.out]
         exact ⟨.bad (by decide),hb3⟩
        | some p =>
         rw [hW] at hTW
         have hp := whereG_in hin hP hlt hW
         have hone := whereG_one hW
         have hBi := hin.inW i hlt
         clear hW
         go_cut [11,12,13] from 66 to 104 (fun v _ _ wc => v = .int .i64 (p + (O i).tAdd m) /\ TieIn wc bt ((O i).tAt m) ((O i).tKind m) ((O i).tAdd m) ((O i).tName m) ((O i).tWeak m) /\ wc.ownsRow w.heap.size 67 3 u7 (patsTo O P Q B i ++ patsOf O P Q B i m).length (patsC (patsTo O P Q B i ++ patsOf O P Q B i m)) /\ Below w.heap.size w wc)
         case first =>
          have c1 := hT0.c1
          have c3 := hT0.c3
          have c4 := hT0.c4
          rcases hone with ⟨k1,hpe⟩ | ⟨k1,hP0,hpe⟩ | ⟨k1,hP0,hwk,hpe⟩
          ·have k1' : ((O i).tKind m == 1) = true := by rw [beq_iff_eq]; exact k1
           rcases hin.bases with h0 | ⟨bb,ob,rfl,hcb⟩
           ·omega
           have hci := cell_later hX (hcb i hlt)
           have HPE : Hid (p = B i) := hpe
           clear hcb k1 hpe hFnd
           go_wp2
           go_meet
           exact ⟨by rw [HPE.out]; go_num,hT0,hoX,hX⟩
          ·have k1' : ((O i).tKind m == 1) = false := by rw [beq_eq_false_iff_ne]; exact k1
           rcases hP.shape ((O i).tName m) with ⟨e1,_⟩ | ⟨x,y,e1,e2,hxn,hyn,_⟩
           ·omega
           have hx' : x < k := hxn
           have hy' : y < (O x).nS := hyn
           have hBx := hin.inW x hx'
           have hSy := ((hg x hx').syms y hy').2
           have hWx := (hg x hx').nW
           have hSx := (hg x hx').nS
           have HPE : Hid (p = B x + (O x).sAt y) := by
            show p = _
            rw [hpe,e1,e2]; rfl
           rcases hin.bases with h0 | ⟨bb,ob,rfl,hcb⟩
           ·omega
           rcases hin.objs with h0 | ⟨bl,ol,hal,hcl⟩
           ·omega
           injection hal with hal
           injection hal with hal1 hal2
           subst hal1 hal2
           have hcx := hcb x hx'
           have hH := hcl x hx'
           have hc2 := hH.c2
           rcases hH.here.syms with h0 | ⟨bs,os,ha,hs⟩
           ·omega
           rw [ha] at hc2
           have hsy := (hs y hy').2.1
           clear hcb hcl hH hs k1 hpe hP0
           go_wp2_with fail
           refine (hFnd _ hX).mono ?_
           rintro e w2 ⟨⟨p2,q2,rfl,hFd⟩,hb2⟩
           obtain ⟨rfl,rfl⟩ := hP.eq hFd
           rw [e1,e2]
           have hb3 := hX.trans (hb2.mono hX.size)
           replace hT0 := hT0.later hb2
           replace hoX := owns_below hoX hb2
           replace hcx := cell_later hb3 hcx
           replace hc2 := cell_later hb3 hc2
           replace hsy := cell_later hb3 hsy
           replace c4 := hT0.c4
           clear hFnd hFd hb2 c1 c3 hX e1 e2
           go_wp2
           go_quiet (fail)
           go_wp2
           go_meet
           exact ⟨by rw [HPE.out]; go_num,hT0.later (below_drewN (Below.refl _ _) _),owns_below hoX (below_drewN (Below.refl _ _) _),below_drewN hb3 _⟩
          ·have k1' : ((O i).tKind m == 1) = false := by rw [beq_eq_false_iff_ne]; exact k1
           have hPs : P ((O i).tName m) = -1 /\ Q ((O i).tName m) = -1 := by
            rcases hP.shape ((O i).tName m) with h | ⟨x,y,h,_⟩
            ·exact h
            ·omega
           have HPE : Hid (p = 0) := hpe
           rw [hwk] at c4
           clear k1 hP0 hpe hwk
           go_wp2_with fail
           refine (hFnd _ hX).mono ?_
           rintro e w2 ⟨⟨p2,q2,rfl,hFd⟩,hb2⟩
           obtain ⟨rfl,rfl⟩ := hP.eq hFd
           rw [hPs.1,hPs.2]
           have hb3 := hX.trans (hb2.mono hX.size)
           replace hT0 := hT0.later hb2
           replace hoX := owns_below hoX hb2
           replace c4 := cell_later hb2 c4
           clear hFnd hFd hb2 c1 c3 hX hPs
           go_wp2
           go_meet
           exact ⟨by rw [HPE.out]; go_num,hT0,hoX,hb3⟩
         case rest =>
          obtain ⟨rfl,hT,hoC,hC⟩ := hcut
          have c0 := hT.c0
          have c1 := hT.c1
          have htk1 := htk.2.2.1
          have htk2 := htk.2.2.2.1
          have htk3 := htk.1
          have htk4 := htk.2.1
          clear hone hFnd hX hoX hT0 htk
          by_cases h3 : (O i).tKind m = 3
          ·have h3' : ((O i).tKind m == 3) = true := by rw [beq_iff_eq]; exact h3
           rcases hin.bases with h0 | ⟨bb,ob,rfl,hcb⟩
           ·omega
           have hci := cell_later hC (hcb i hlt)
           clear hcb
           by_cases z : p + (O i).tAdd m - (B i + (O i).tAt m) < -500 ∨ 500 < p + (O i).tAdd m - (B i + (O i).tAt m)
           ·have HE : Hid (F = 7) := by
             rw [hangF_nearFar h3 z] at hTW
             have := hstop (by rw [hTW]; simp)
             rw [hTW] at this; exact this
            clear h3 hTW hstop
            by_cases z1 : p + (O i).tAdd m - B i - (O i).tAt m < -500
            ·clear z
             go_wp2
             go_quiet (fail)
             go_wp2
             go_ret2
             rw [HE.out]
             exact ⟨.bad (by decide),below_drewN hC _⟩
            ·have z2 : 500 < p + (O i).tAdd m - B i - (O i).tAt m := by omega
             clear z
             go_wp2
             go_quiet (fail)
             go_wp2
             go_ret2
             rw [HE.out]
             exact ⟨.bad (by decide),below_drewN hC _⟩
           ·rw [hangF_near h3 z] at hTW
            have hwd : isWordF (p + (O i).tAdd m - B i - (O i).tAt m) = true := by simp [isWordF]; omega
            have HI := fun (w : World) => wordMayQ_any (p + (O i).tAdd m - B i - (O i).tAt m) w
            rw [hwd] at HI
            have z1 : ¬ p + (O i).tAdd m - B i - (O i).tAt m < -500 := by omega
            have z2 : ¬ 500 < p + (O i).tAdd m - B i - (O i).tAt m := by omega
            have HE : Hid (faultTo (fun k => (tieW O P Q B i k).1) (m + 1) = 0) := faultTo_ok HK.out (by rw [hTW])
            have HV : Hid ((tieW O P Q B i m).2 = p + (O i).tAdd m - B i - (O i).tAt m) := by
             show _ = _
             rw [hTW]; show p + (O i).tAdd m - (B i + (O i).tAt m) = _; omega
            clear h3 hTW hstop z hwd HK
            go_wp2
            go_quiet (fail)
            go_wp2_with fail
            refine (HI _).mono ?_
            rintro e w3 ⟨rfl,rfl⟩
            have hC2 : Below w.heap.size w (wc.drewN nq) := below_drewN hC _
            have hoC2 := owns_below hoC (below_drewN (Below.refl wc.heap.size wc) nq)
            have e0 : (wc.drewN nq).cell? ⟨bt,0,none⟩ = some (.int .i64 ((O i).tAt m)) := by simpa using c0
            generalize wc.drewN nq = wd at *
            obtain ⟨v1,W1,happ1,hG1⟩ := growPat (i : Int) ((O i).tAt m) (p + (O i).tAdd m - B i - (O i).tAt m) hC2.size hoC2 (by simp only [List.length_append]; omega)
            have ho3 := hG1.own
            rw [<- HV.out,patsC_snoc (patsTo O P Q B i ++ patsOf O P Q B i m) (i,(O i).tAt m,(tieW O P Q B i m).2)] at ho3
            have ho4 : W1.ownsRow w.heap.size 67 3 v1 (patsTo O P Q B i ++ patsOf O P Q B i (m + 1)).length (patsC (patsTo O P Q B i ++ patsOf O P Q B i (m + 1))) := by
             have e : patsTo O P Q B i ++ patsOf O P Q B i (m + 1) = patsTo O P Q B i ++ patsOf O P Q B i m ++ [(i,(O i).tAt m,(tieW O P Q B i m).2)] := by simp [patsOf]
             rw [e,List.length_append (bs := [_]),List.length_singleton]
             exact ho3
            have hb4 : Below w.heap.size w W1 := (hC2.alloc hC2.size _).trans hG1.below
            clear hC2 hoC2 hG1 ho3 HI hC hoC c0 c1
            go_wp2_with (at_builtin; refine list_run rfl (.tmp 127) (.tmp 133) 24 rfl u7 (.slice (some ⟨wd.heap.size,0,none⟩) 1 1) _ rfl rfl happ1 ?_)
            go_roundw
            case rel => exact ⟨m + 1,v1,by omega,by go_num,rfl,ho4,HE,hb4⟩
            case measure => simp [intOf]; omega
          ·have h3' : ((O i).tKind m == 3) = false := by rw [beq_eq_false_iff_ne]; exact h3
           have HI := fun (w : World) => wordMayQ_any (p + (O i).tAdd m) w
           cases hwd : isWordF (p + (O i).tAdd m) with
           | false =>
            rw [hwd] at HI
            have HE : Hid (F = 7) := by
             rw [hangF_far h3 hwd] at hTW
             have := hstop (by rw [hTW]; simp)
             rw [hTW] at this; exact this
            clear h3 hTW hstop hwd
            go_wp2_with fail
            refine (HI _).mono ?_
            rintro e w3 ⟨rfl,rfl⟩
            go_wp2
            go_ret2
            rw [HE.out]
            exact ⟨.bad (by decide),hC⟩
           | true =>
            rw [hwd] at HI
            rw [hangF_whole h3 hwd] at hTW
            have HE : Hid (faultTo (fun k => (tieW O P Q B i k).1) (m + 1) = 0) := faultTo_ok HK.out (by rw [hTW])
            have HV : Hid ((tieW O P Q B i m).2 = p + (O i).tAdd m) := by
             show _ = _
             rw [hTW]
            clear h3 hTW hstop hwd HK
            have hC2 := hC
            have hoC2 := hoC
            have e0 := c0
            go_wp2_with fail
            refine (HI _).mono ?_
            rintro e w3 ⟨rfl,rfl⟩
            obtain ⟨v1,W1,happ1,hG1⟩ := growPat (i : Int) ((O i).tAt m) (p + (O i).tAdd m) hC2.size hoC2 (by simp only [List.length_append]; omega)
            have ho3 := hG1.own
            rw [<- HV.out,patsC_snoc (patsTo O P Q B i ++ patsOf O P Q B i m) (i,(O i).tAt m,(tieW O P Q B i m).2)] at ho3
            have ho4 : W1.ownsRow w.heap.size 67 3 v1 (patsTo O P Q B i ++ patsOf O P Q B i (m + 1)).length (patsC (patsTo O P Q B i ++ patsOf O P Q B i (m + 1))) := by
             have e : patsTo O P Q B i ++ patsOf O P Q B i (m + 1) = patsTo O P Q B i ++ patsOf O P Q B i m ++ [(i,(O i).tAt m,(tieW O P Q B i m).2)] := by simp [patsOf]
             rw [e,List.length_append (bs := [_]),List.length_singleton]
             exact ho3
            have hb4 : Below w.heap.size w W1 := (hC2.alloc hC2.size _).trans hG1.below
            clear hC2 hoC2 hG1 ho3 HI hC hoC c0 c1
            go_wp2_with (at_builtin; refine list_run rfl (.tmp 127) (.tmp 133) 24 rfl u7 (.slice (some ⟨wc.heap.size,0,none⟩) 1 1) _ rfl rfl happ1 ?_)
            go_roundw
            case rel => exact ⟨m + 1,v1,by omega,by go_num,rfl,ho4,HE,hb4⟩
            case measure => simp [intOf]; omega
       ·have e : m = (O i).nT := by omega
        subst e
        have HE : Hid (tiesF O P Q B (i + 1) = 0) := faultTo_ok HT.out HK.out
        have ho2 : wr.ownsRow w.heap.size 67 3 u7 (patsTo O P Q B (i + 1)).length (patsC (patsTo O P Q B (i + 1))) := ho
        clear ho H hc
        go_wp2
        go_roundw
        case rel => exact ⟨i + 1,_,by omega,by go_num,rfl,ho2,HE,hb⟩
        case measure => simp [intOf]; omega
     ·have e : i = k := by omega
      subst e
      go_wp2
      go_ret2
      exact ⟨.ok (HF.out.symm.trans HT.out) _ ho,hb⟩
 ·rw [if_pos h1] at hF
  subst hF
  have h1' : ((nb : Int) != (n : Int)) = true := by rw [bne_iff_ne]; omega
  clear h1 hr hrb hP hg
  go_enter Tryz.func72,Tryz.ntmps72
  go_wp2
  go_ret2
  exact ⟨.bad (by decide),Below.refl _ _⟩
set_option maxHeartbeats 2000000 in
theorem sizes_any (a : Option Addr) (n c : Nat) (V : Nat -> ObjV) (O : Nat -> ObjF) (w : World) (hn : n <= 1000) (hm : ∀ i,i < n -> (O i).nW <= maxLen) (hr : ObjsRow w a n V O) :
 Calls Tryz.prog 68 #[.slice a n c] w fun e w' => (∃ v,e = .returned v /\ w'.ownsRow w.heap.size 3 1 v n (joinC (intC fun i => ((O i).nW : Int)) n)) /\ Below w.heap.size w w' := by
 go_enter Tryz.func68,Tryz.ntmps68
 go_wp2
 go_loopw [3,8] (fun x z wr => ∃ (k : Nat) (v : Value),k <= n /\ z = .int .i64 k /\ x = v /\ wr.ownsRow w.heap.size 3 1 v k (joinC (intC fun i => ((O i).nW : Int)) k) /\ Below w.heap.size w wr) (fun _ z _ => n - (intOf z).toNat)
 case atStart => exact ⟨0,.slice none 0 0,Nat.zero_le _,rfl,rfl,World.ownsRow_nil _ _ _ _,Below.refl _ _⟩
 case round =>
  obtain ⟨k,v,hk,rfl,rfl,ho,hb⟩ := hrel
  by_cases hlt : k < n
  ·have hr1 := hr.later hb
   rcases hr1 with h0 | ⟨bk,o,rfl,hc⟩
   ·omega
   have H := hc k hlt
   have c0 := H.c0
   have c1 := H.c1
   have c2 := H.c2
   have c3 := H.c3
   have hmk := hm k hlt
   unfold maxLen at hmk
   have hB := hb.size
   clear hc H
   obtain ⟨v1,W1,happ1,hG1⟩ := growInt (w := wr.alloc (.cells #[.slice (V k).aN (O k).nN (V k).cN,.slice (V k).aW (O k).nW (V k).cW,.slice (V k).aS (O k).nS (V k).cS,.slice (V k).aT (O k).nT (V k).cT] 116)) ((O k).nW : Int) (by simp; omega) (ho.alloc _) (by omega)
   have e1 : (wr.alloc (.cells #[.slice (V k).aN (O k).nN (V k).cN,.slice (V k).aW (O k).nW (V k).cW,.slice (V k).aS (O k).nS (V k).cS,.slice (V k).aT (O k).nT (V k).cT] 116)).heap.size = wr.heap.size + 1 := by simp
   rw [e1] at happ1
   have ho1 := hG1.own
   rw [joinInt (b' := fun i => ((O i).nW : Int)) (fun i _ => rfl) rfl] at ho1
   have hb1 : Below w.heap.size w W1 := ((hb.alloc hB _).alloc (by simp; omega) _).trans hG1.below
   clear hG1 ho e1 hb
   go_wp2_with (at_builtin; refine list_run rfl (.tmp 12) (.tmp 16) 97 rfl u3 (.slice (some ⟨wr.heap.size + 1,0,none⟩) 1 1) _ rfl rfl happ1 ?_)
   go_roundw
   case rel => exact ⟨k + 1,v1,by omega,by go_num,rfl,ho1,hb1⟩
   case measure => simp [intOf]; omega
  ·have e : k = n := by omega
   subst e
   go_wp2
   go_ret
   exact ⟨⟨_,rfl,ho⟩,hb⟩
def wdC (V : Nat -> ObjV) (O : Nat -> ObjF) (i : Nat) : List Value := [.slice (V i).aW (O i).nW (V i).cW]
theorem wdC_len (V : Nat -> ObjV) (O : Nat -> ObjF) (i : Nat) : (wdC V O i).length = 1 := rfl
theorem growWd {B : Nat} {w : World} {v : Value} {n : Nat} {xs : List Value} (a : Option Addr) (m c : Nat) (hB : B <= w.heap.size) (h : w.ownsRow B 97 1 v n xs) (hn : n < 1000000) :
 ∃ v' W,(Builtin.append_ #[150,150] 150 #[v,.slice (some ⟨w.heap.size,0,none⟩) 1 1]).run Tryz.prog (w.alloc (.cells #[.slice a m c] 97)) = .ok v' W /\ Grown B 97 1 (w.alloc (.cells #[.slice a m c] 97)) v (n + 1) (xs ++ [.slice a m c]) v' W :=
 append_from 150 97 1 24 (.slice none 0 0) (by kernel_rfl) (by kernel_rfl) (by rfl) (by decide) B _ v n _ (h.alloc _) (some ⟨w.heap.size,0,none⟩) 1 1 [.slice a m c] rfl
  (.inr ⟨_,_,rfl,fun j u hj => by
    match j,hj with
    | 0,hj => simp at hj; subst hj; simp [go_sem]
    | j + 1,hj => simp at hj⟩) (fun u hu => by simp at hu; subst hu; rfl) (by simp; omega) (by omega) (by decide)
theorem rows_wd {w : World} {B : Nat} {e : TypeId} {v : Value} {n : Nat} {V : Nat -> ObjV} {O : Nat -> ObjF} (h : w.ownsRow B e 1 v n (joinC (wdC V O) n)) (hA : ∀ i,i < n -> ObjAt w (V i) (O i)) : ∃ a c,v = .slice a n c /\ n <= c /\ ListsRow w a n (fun i => (V i).aW) (fun i => (O i).nW) (fun i => (V i).cW) (fun i j => (O i).words j) := by
 obtain ⟨a,c,rfl,hc⟩ := owns_shape h
 refine ⟨a,c,rfl,hc,?_⟩
 by_cases h0 : n = 0
 ·exact .inl h0
 ·have key : ∀ i,i < n -> ∃ g,a = some ⟨g,0,none⟩ /\ B <= g /\ w.cell? ⟨g,i,none⟩ = some (.slice (V i).aW (O i).nW (V i).cW) := fun i hi =>
   owns_cell h (by have := joinC_at (g := wdC V O) (s := 1) (n := n) (i := i) (j := 0) (fun i _ => wdC_len V O i) hi (by omega); simpa [wdC] using this)
  obtain ⟨g,ha,_,_⟩ := key 0 (by omega)
  refine .inr ⟨g,0,ha,fun i hi => ⟨?_,(hA i hi).words⟩⟩
  obtain ⟨g1,ha1,_,h1⟩ := key i hi
  rw [ha] at ha1
  injection ha1 with ha1
  injection ha1 with ha1
  subst ha1
  simpa using h1
set_option maxHeartbeats 2000000 in
theorem wordsOf_any (a : Option Addr) (n c : Nat) (V : Nat -> ObjV) (O : Nat -> ObjF) (w : World) (hn : n <= 1000) (hr : ObjsRow w a n V O) :
 Calls Tryz.prog 77 #[.slice a n c] w fun e w' => (∃ v,e = .returned v /\ w'.ownsRow w.heap.size 97 1 v n (joinC (wdC V O) n)) /\ Below w.heap.size w w' := by
 go_enter Tryz.func77,Tryz.ntmps77
 go_wp2
 go_loopw [3,8] (fun x z wr => ∃ (k : Nat) (v : Value),k <= n /\ z = .int .i64 k /\ x = v /\ wr.ownsRow w.heap.size 97 1 v k (joinC (wdC V O) k) /\ Below w.heap.size w wr) (fun _ z _ => n - (intOf z).toNat)
 case atStart => exact ⟨0,.slice none 0 0,Nat.zero_le _,rfl,rfl,World.ownsRow_nil _ _ _ _,Below.refl _ _⟩
 case round =>
  obtain ⟨k,v,hk,rfl,rfl,ho,hb⟩ := hrel
  by_cases hlt : k < n
  ·have hr1 := hr.later hb
   rcases hr1 with h0 | ⟨bk,o,rfl,hc⟩
   ·omega
   have H := hc k hlt
   have c0 := H.c0
   have c1 := H.c1
   have c2 := H.c2
   have c3 := H.c3
   have hB := hb.size
   clear hc H
   obtain ⟨v1,W1,happ1,hG1⟩ := growWd (w := wr.alloc (.cells #[.slice (V k).aN (O k).nN (V k).cN,.slice (V k).aW (O k).nW (V k).cW,.slice (V k).aS (O k).nS (V k).cS,.slice (V k).aT (O k).nT (V k).cT] 116)) (V k).aW (O k).nW (V k).cW (by simp; omega) (ho.alloc _) (by omega)
   have e1 : (wr.alloc (.cells #[.slice (V k).aN (O k).nN (V k).cN,.slice (V k).aW (O k).nW (V k).cW,.slice (V k).aS (O k).nS (V k).cS,.slice (V k).aT (O k).nT (V k).cT] 116)).heap.size = wr.heap.size + 1 := by simp
   rw [e1] at happ1
   have ho1 : W1.ownsRow w.heap.size 97 1 v1 (k + 1) (joinC (wdC V O) (k + 1)) := hG1.own
   have hb1 : Below w.heap.size w W1 := ((hb.alloc hB _).alloc (by simp; omega) _).trans hG1.below
   clear hG1 ho e1 hb
   go_wp2_with (at_builtin; refine list_run rfl (.tmp 12) (.tmp 15) 150 rfl u3 (.slice (some ⟨wr.heap.size + 1,0,none⟩) 1 1) _ rfl rfl happ1 ?_)
   go_roundw
   case rel => exact ⟨k + 1,v1,by omega,by go_num,rfl,ho1,hb1⟩
   case measure => simp [intOf]; omega
  ·have e : k = n := by omega
   subst e
   go_wp2
   go_ret
   exact ⟨⟨_,rfl,ho⟩,hb⟩
def PartRow (w : World) (a : Option Addr) (n : Nat) (nm : Nat -> ByteArray) (B : Nat -> Int) (A : Nat -> Option Addr) (M C : Nat -> Nat) (X : Nat -> Nat -> Int) : Prop :=
 n = 0 ∨ ∃ bk o,a = some ⟨bk,o,none⟩ /\ ∀ i,i < n -> w.cell? ⟨bk,o + i * 3,none⟩ = some (.string (nm i)) /\ w.cell? ⟨bk,o + i * 3 + 1,none⟩ = some (.int .i64 (B i)) /\ w.cell? ⟨bk,o + i * 3 + 2,none⟩ = some (.slice (A i) (M i) (C i)) /\ RowAt w (A i) (M i) fun j => .int .i64 (X i j)
theorem PartRow.later {w w' : World} {a : Option Addr} {n : Nat} {nm : Nat -> ByteArray} {B : Nat -> Int} {A : Nat -> Option Addr} {M C : Nat -> Nat} {X : Nat -> Nat -> Int} (h : PartRow w a n nm B A M C X) (hb : Below w.heap.size w w') : PartRow w' a n nm B A M C X := by
 rcases h with h | ⟨bk,o,ha,hc⟩
 ·exact .inl h
 ·exact .inr ⟨bk,o,ha,fun i hi => ⟨cell_later hb (hc i hi).1,cell_later hb (hc i hi).2.1,cell_later hb (hc i hi).2.2.1,(hc i hi).2.2.2.later hb⟩⟩
def pP (l : List (Nat × Int × Int)) (i : Nat) : Int := ((l.getD i (0,0,0)).1 : Int)
def pT (l : List (Nat × Int × Int)) (i : Nat) : Int := (l.getD i (0,0,0)).2.1
def pV (l : List (Nat × Int × Int)) (i : Nat) : Int := (l.getD i (0,0,0)).2.2
theorem joinPat (l : List (Nat × Int × Int)) : ∀ k,k <= l.length -> patsC (l.take k) = joinC (fun i => patC (l.getD i (0,0,0))) k := by
 intro k
 induction k with
 | zero => intro _; rfl
 | succ k ih =>
  intro hk
  rw [List.take_succ_eq_append_getElem (by omega)]
  show patsC (l.take k ++ [l[k]]) = joinC _ k ++ patC (l.getD k (0,0,0))
  have e1 : patsC (l.take k ++ [l[k]]) = patsC (l.take k) ++ patC l[k] := by unfold patsC; rw [List.flatMap_append]; simp only [List.flatMap_cons,List.flatMap_nil,List.append_nil]
  rw [e1,ih (by omega)]
  congr 2
  rw [List.getD_eq_getElem?_getD,List.getElem?_eq_getElem (by omega : k < l.length)]
  rfl
theorem patsC_join (l : List (Nat × Int × Int)) : patsC l = joinC (fun i => patC (l.getD i (0,0,0))) l.length := by
 have := joinPat l l.length (Nat.le_refl _)
 rwa [List.take_length] at this
theorem patC_len (x : Nat × Int × Int) : (patC x).length = 3 := rfl
theorem rows_pat {w : World} {B : Nat} {e : TypeId} {v : Value} {l : List (Nat × Int × Int)} (h : w.ownsRow B e 3 v l.length (patsC l)) : ∃ a c,v = .slice a l.length c /\ l.length <= c /\ PatRow w a l.length (pP l) (pT l) (pV l) := by
 obtain ⟨a,c,rfl,hc⟩ := owns_shape h
 refine ⟨a,c,rfl,hc,?_⟩
 by_cases h0 : l.length = 0
 ·exact .inl h0
 ·rw [patsC_join] at h
  have key : ∀ i,i < l.length -> ∀ j u,(patC (l.getD i (0,0,0)))[j]? = some u -> j < 3 -> ∃ g,a = some ⟨g,0,none⟩ /\ B <= g /\ w.cell? ⟨g,i * 3 + j,none⟩ = some u := fun i hi j u hu hj =>
   owns_cell h (by rw [joinC_at (s := 3) (fun i _ => patC_len _) hi hj]; exact hu)
  obtain ⟨g,ha,_,_⟩ := key 0 (by omega) 0 _ rfl (by omega)
  refine .inr ⟨g,0,ha,fun i hi => ?_⟩
  have get : ∀ j u,(patC (l.getD i (0,0,0)))[j]? = some u -> j < 3 -> w.cell? ⟨g,i * 3 + j,none⟩ = some u := fun j u hu hj => by
   obtain ⟨g',ha',_,hc'⟩ := key i hi j u hu hj
   rw [ha] at ha'
   injection ha' with ha'
   injection ha' with ha'
   subst ha'
   exact hc'
  exact ⟨by rw [Nat.zero_add]; exact get 0 _ rfl (by omega),by rw [Nat.zero_add]; exact get 1 _ rfl (by omega),by rw [Nat.zero_add]; exact get 2 _ rfl (by omega)⟩
theorem isPlaceP_any (a n : Int) (w : World) : Calls Tryz.prog 105 #[.int .i64 a,.int .i64 n] w fun e w' => e = .returned (.bool (isPlaceF a n)) /\ w' = w := by
 by_cases h1 : 0 <= a
 all_goals by_cases h2 : a < n
 all_goals
  go_enter Tryz.func105,Tryz.ntmps105
  go_wp2
  go_ret
  exact ⟨ret_bool (by simp [isPlaceF] <;> omega),rfl⟩
theorem int_cells {w : World} {a : Option Addr} {n : Nat} {f : Nat -> Int} (h : RowAt w a n fun i => .int .i64 (f i)) : n = 0 ∨ ∃ b o,a = some ⟨b,o,none⟩ /\ ∀ j u,(joinC (intC f) n)[j]? = some u -> w.cell? ⟨b,o + j,none⟩ = some u := by
 rcases h with h | ⟨b,o,ha,hc⟩
 ·exact .inl h
 ·refine .inr ⟨b,o,ha,fun j u hj => ?_⟩
  have hlt : j < n := by
   have := (List.getElem?_eq_some_iff.1 hj).1
   rw [joinC_len (fun i _ => intC_len f i)] at this
   omega
  have hj' := joinC_at (g := intC f) (s := 1) (n := n) (i := j) (j := 0) (fun i _ => intC_len f i) hlt (by omega)
  simp only [Nat.mul_one,Nat.add_zero] at hj'
  rw [hj'] at hj
  simp [intC] at hj
  rw [<- hj]
  exact hc j hlt
theorem int_one {f : Nat -> Int} {n : Nat} : ∀ u ∈ joinC (intC f) n,u.oneCell' = true := fun u hu => by
 obtain ⟨i,_,h⟩ := joinC_mem hu
 simp [intC] at h
 subst h
 rfl
set_option maxHeartbeats 1000000 in
theorem cloneInt_any (f : Nat -> Int) (a : Option Addr) (n c : Nat) (w : World) (hn : n <= 1000000) (hr : RowAt w a n fun i => .int .i64 (f i)) :
 Calls Tryz.prog 104 #[.slice a n c] w fun e w' => (∃ v',e = .returned v' /\ w'.ownsRow w.heap.size 3 1 v' n (joinC (intC f) n)) /\ Below w.heap.size w w' := by
 have q : ∀ (w : World) (a : Option Addr) (n c n' c' : Nat),(binOp .eql 97 (.slice a n c) (.slice none n' c')).run Tryz.prog w = .ok (.bool a.isNone) w := fun w a n c n' c' => Lib.run_eql_slice_nil w _ _ a n c n' c' Tryz.underlying97
 cases a with
 | none =>
  have h0 : n = 0 := by
   rcases hr with h | ⟨b,o,h,_⟩
   ·exact h
   ·cases h
  subst h0
  go_enter Tryz.func104,Tryz.ntmps104
  go_wp2
  go_ret
  exact ⟨⟨_,rfl,World.ownsRow_nil _ _ _ _⟩,Below.refl _ _⟩
 | some ad =>
  obtain ⟨v',W,happ,hG⟩ := append_from 97 3 1 8 (.int .i64 0) (by kernel_rfl) (by kernel_rfl) (by rfl) (by decide) w.heap.size (w.alloc (.cells #[] 3)) (.slice (some ⟨w.heap.size,0,none⟩) 0 0) 0 []
   (World.ownsRow_made w #[] 0 (Nat.le_refl _) (Nat.zero_le _) rfl) (some ad) n c (joinC (intC f) n) (by rw [joinC_len (fun i _ => intC_len f i)]) (int_cells (hr.later ((Below.refl _ _).alloc (Nat.le_refl _) _))) int_one (by simp) (by omega) (by decide)
  clear hr
  go_enter Tryz.func104,Tryz.ntmps104
  go_wp2_with (at_builtin; refine list_run rfl _ _ 97 rfl _ _ _ rfl rfl happ ?_)
  go_ret
  exact ⟨⟨v',rfl,by simpa using hG.own⟩,((Below.refl _ _).alloc (Nat.le_refl _) _).trans hG.below⟩
theorem owns_block {w : World} {B : Nat} {e : TypeId} {n c : Nat} {a : Option Addr} {b : Nat -> Int} (h : w.ownsRow B e 1 (.slice a n c) n (joinC (intC b) n)) (hn : 0 < n) :
 ∃ g,a = some ⟨g,0,none⟩ /\ B <= g /\ (∀ j,j < n -> w.cell? ⟨g,j,none⟩ = some (.int .i64 (b j))) /\ ∀ j,w.frozen? ⟨g,j,none⟩ = false := by
 have hc : ∀ j,j < n -> ∃ g,a = some ⟨g,0,none⟩ /\ B <= g /\ w.cell? ⟨g,j,none⟩ = some (.int .i64 (b j)) := fun i hi =>
  owns_cell h (by have := joinC_at (g := intC b) (s := 1) (n := n) (i := i) (j := 0) (fun i _ => intC_len b i) hi (by omega); simpa [intC] using this)
 rcases h.2 with ⟨_,h0⟩ | ⟨g,cap,cur,hv,hB,hg,_⟩
 ·omega
 ·injection hv with h1 h2 h3
  refine ⟨g,h1,hB,fun j hj => ?_,fun j => by simp [World.frozen?,hg]⟩
  obtain ⟨g',ha,_,h'⟩ := hc j hj
  rw [h1] at ha
  injection ha with ha
  injection ha with ha
  subst ha
  exact h'
def updF {α : Type} (f : Nat -> α) (k : Nat) (x : α) : Nat -> α := fun i => if i = k then x else f i
theorem updF_new {α : Type} {f : Nat -> α} {k : Nat} {x : α} : updF f k x k = x := if_pos rfl
theorem updF_old {α : Type} {f : Nat -> α} {k : Nat} {x : α} {i : Nat} (h : i ≠ k) : updF f k x i = f i := if_neg h
theorem OutAt.more {w w1 : World} {B g k : Nat} {M : Nat -> Nat} {A : Nat -> Option Addr} {C G : Nat -> Nat} {X : Nat -> Nat -> Int} {e : TypeId} {a' : Option Addr} {c' : Nat} {u : Value} (h : OutAt w B g k M A C G X) (hb : Below w.heap.size w w1) (hB : B <= w.heap.size)
 (hc : w1.cell? ⟨g,k,none⟩ = some u) (ho : w1.ownsRow w.heap.size e 1 (.slice a' (M k) c') (M k) (joinC (intC (X k)) (M k))) :
 ∃ A' C' G',OutAt (w1.setCell ⟨g,k,none⟩ (.slice a' (M k) c')) B g (k + 1) M A' C' G' X := by
 have h1 := h.later hb
 obtain ⟨gk,hgk⟩ : ∃ gk,0 < M k -> a' = some ⟨gk,0,none⟩ /\ w.heap.size <= gk /\ (∀ j,j < M k -> w1.cell? ⟨gk,j,none⟩ = some (.int .i64 (X k j))) /\ ∀ j,w1.frozen? ⟨gk,j,none⟩ = false := by
  by_cases hm : 0 < M k
  ·obtain ⟨gk,hh⟩ := owns_block ho hm
   exact ⟨gk,fun _ => hh⟩
  ·exact ⟨0,fun h => absurd h hm⟩
 have lts : ∀ i,i < k -> 0 < M i -> G i < w.heap.size := fun i hi hm => World.block_lt_of_cell? _ _ (h.row i hi 0 hm)
 refine ⟨updF A k a',updF C k c',updF G k gk,h.hB,?_,?_,?_,?_,?_,?_,?_,?_,?_⟩
 ·simpa [World.setCell] using h1.lt
 ·intro i hi
  by_cases e : i = k
  ·subst e
   rw [World.cell?_setCell_same _ _ _ hc,updF_new,updF_new]
  ·rw [World.cell?_setCell_other _ _ _ _ (by intro e2; injection e2 with _ e2 _; exact e e2.symm),updF_old e,updF_old e]
   exact h1.top i (by omega)
 ·intro i; rw [World.frozen?_setCell]; exact h1.free i
 ·intro i hi hm
  by_cases e : i = k
  ·subst e; rw [updF_new,updF_new]; exact (hgk hm).1
  ·rw [updF_old e,updF_old e]; exact h1.adr i (by omega) hm
 ·intro i hi hm
  by_cases e : i = k
  ·subst e; rw [updF_new]; exact Nat.le_trans hB (hgk hm).2.1
  ·rw [updF_old e]; exact h1.own i (by omega) hm
 ·intro i hi hm
  by_cases e : i = k
  ·subst e; rw [updF_new]; have := (hgk hm).2.1; have := h.lt; omega
  ·rw [updF_old e]; exact h1.ne i (by omega) hm
 ·intro i hi j hj
  by_cases e : i = k
  ·subst e
   rw [updF_new]
   have hh := hgk (by omega)
   rw [World.cell?_setCell_other _ _ _ _ (by intro e2; injection e2 with e2 _ _; have := hh.2.1; have := h.lt; omega)]
   exact hh.2.2.1 j hj
  ·rw [updF_old e,World.cell?_setCell_other _ _ _ _ (by intro e2; injection e2 with e2 _ _; exact h1.ne i (by omega) (by omega) e2.symm)]
   exact h1.row i (by omega) j hj
 ·intro i hi hm j
  rw [World.frozen?_setCell]
  by_cases e : i = k
  ·subst e; rw [updF_new]; exact (hgk hm).2.2.2 j
  ·rw [updF_old e]; exact h1.rfree i (by omega) hm j
 ·intro i j hi hj hij hmi hmj
  by_cases e : i = k
  ·subst e
   rw [updF_new,updF_old (fun e => hij e.symm)]
   have := (hgk hmi).2.1
   have := lts j (by omega) hmj
   omega
  ·by_cases e2 : j = k
   ·subst e2
    rw [updF_old e,updF_new]
    have := (hgk hmj).2.1
    have := lts i (by omega) hmi
    omega
   ·rw [updF_old e,updF_old e2]; exact h1.apart i j (by omega) (by omega) hij hmi hmj
theorem OutAt.none {w : World} {B g : Nat} (hB : B <= g) (hg : g < w.heap.size) (hf : ∀ i,w.frozen? ⟨g,i,none⟩ = false) (M : Nat -> Nat) (X : Nat -> Nat -> Int) : OutAt w B g 0 M (fun _ => none) (fun _ => 0) (fun _ => 0) X :=
 ⟨hB,hg,fun i hi => by omega,hf,fun i hi => by omega,fun i hi => by omega,fun i hi => by omega,fun i hi => by omega,fun i hi => by omega,fun i j hi => by omega⟩
inductive PutEnd (w : World) (B n : Nat) (M : Nat -> Nat) (X : Nat -> Nat -> Int) (np : Nat) (p t v : Nat -> Int) : Ending -> Prop
 | bad (h : BadAt (fun k => patOk n M (p k) (t k)) np) : PutEnd w B n M X np p t v (.returned (.tuple #[.slice none 0 0,errV 1]))
 | ok (g : Nat) (A : Nat -> Option Addr) (C G : Nat -> Nat) (h : AllOk (fun k => patOk n M (p k) (t k)) np) (ho : OutAt w B g n M A C G (putF X p t v np)) : PutEnd w B n M X np p t v (.returned (.tuple #[.slice (some ⟨g,0,none⟩) n n,.nilIface]))
end Go.Proofs.YthdccmjdbcllkaaGreatDoor
namespace Go.Proofs.YthdccmjdbcllkaaGreatDoor
open Go.RowKit
set_option maxHeartbeats 4000000 in
theorem put_any (a a' : Option Addr) (n c np c' : Nat) (A : Nat -> Option Addr) (M C : Nat -> Nat) (X : Nat -> Nat -> Int) (p t v : Nat -> Int) (w : World) (hn : n <= 1000) (hM : ∀ i,i < n -> M i <= 1000) (hnp : np <= 1000) (hr : ListsRow w a n A M C X) (hp : PatRow w a' np p t v) :
 Calls Tryz.prog 76 #[.slice a n c,.slice a' np c'] w fun e w' => PutEnd w' w.heap.size n M X np p t v e /\ Below w.heap.size w w' := by
 have hmk := fun (w : World) => run_make_row' (P := Tryz.prog) 150 97 (.slice none 0 0) 24 Tryz.underlying150 (by kernel_rfl) rfl .i64 .i64 n (by omega) (by omega) w
 have hrow := World.rowIs_made w (.slice none 0 0) n 97
 have hb0 : Below w.heap.size w (w.alloc (.cells (madeCells #[.slice none 0 0] n) 97)) := (Below.refl _ _).alloc (Nat.le_refl _) _
 have hlt0 : w.heap.size < (w.alloc (.cells (madeCells #[.slice none 0 0] n) 97)).heap.size := by simp
 go_enter Tryz.func76,Tryz.ntmps76
 go_wp2
 clear hmk
 generalize w.alloc (.cells (madeCells #[.slice none 0 0] n) 97) = w0 at *
 go_loopw [16] (fun x wr => ∃ (k : Nat) (A' : Nat -> Option Addr) (C' G : Nat -> Nat),k <= n /\ x = .int .i64 k /\ OutAt wr w.heap.size w.heap.size k M A' C' G X /\ (∀ i,i < n -> ∃ u,wr.cell? ⟨w.heap.size,i,none⟩ = some u) /\ Below w.heap.size w wr) (fun x _ => n - (intOf x).toNat)
 case atStart => exact ⟨0,_,_,_,Nat.zero_le _,rfl,OutAt.none (Nat.le_refl _) hlt0 hrow.frozen _ _,fun i hi => ⟨_,hrow.cell hi⟩,hb0⟩
 case round =>
  clear hrow hb0 hlt0
  obtain ⟨k,A',C',G,hk,rfl,hO,hcs,hb⟩ := hrel
  by_cases hlt : k < n
  ·have hr1 := hr.later hb
   rcases hr1 with h0 | ⟨bk,o,rfl,hc⟩
   ·omega
   have hck := (hc k hlt).1
   have HC := cloneInt_any (X k) (A k) (M k) (C k) wr (by have := hM k hlt; omega) (hc k hlt).2
   clear hc
   go_wp2_with fail
   refine HC.mono ?_
   rintro e w2 ⟨⟨v',rfl,ho⟩,hb2⟩
   clear HC
   obtain ⟨a2,c2,rfl,_⟩ := owns_shape ho
   obtain ⟨u,hu⟩ := hcs k hlt
   have hu2 := cell_later hb2 hu
   have hz := (hO.later hb2).free k
   obtain ⟨A2,C2,G2,hO2⟩ := hO.more hb2 hb.size hu2 ho
   have hcs2 : ∀ i,i < n -> ∃ u,(w2.setCell ⟨w.heap.size,k,none⟩ (.slice a2 (M k) c2)).cell? ⟨w.heap.size,i,none⟩ = some u := fun i hi => by
    obtain ⟨u,hu⟩ := hcs i hi
    exact cell?_setCell_some (cell_later hb2 hu)
   have hb3 : Below w.heap.size w (w2.setCell ⟨w.heap.size,k,none⟩ (.slice a2 (M k) c2)) := (hb.trans (hb2.mono hb.size)).setCell (Nat.le_refl _) _
   clear hO hcs hu hb hb2 ho
   go_wp2
   go_roundw
   case rel => exact ⟨k + 1,A2,C2,G2,by omega,by go_num,hO2,hcs2,hb3⟩
   case measure => simp [intOf]; omega
  ·have e : k = n := by omega
   subst e
   clear hcs
   go_wp2
   go_loopw [29] (fun x wr => ∃ j : Nat,j <= np /\ x = .int .i64 j /\ OutAt wr w.heap.size w.heap.size k M A' C' G (putF X p t v j) /\ Hid (∀ i,i < j -> patOk k M (p i) (t i) = true) /\ Below w.heap.size w wr) (fun x _ => np - (intOf x).toNat)
   case atStart => exact ⟨0,Nat.zero_le _,rfl,hO,fun i hi => by omega,hb⟩
   case round =>
    clear hO hb
    obtain ⟨j,hj,rfl,hO,HP,hb⟩ := hrel
    by_cases hlj : j < np
    ·have hp1 := hp.later hb
     rcases hp1 with h0 | ⟨bp,op,rfl,hc⟩
     ·omega
     obtain ⟨p0,p1,p2⟩ := hc j hlj
     clear hc
     have hq : ∀ ob : Obj,Below wr.heap.size wr (wr.alloc ob) := fun ob => (Below.refl _ _).alloc (Nat.le_refl _) ob
     have HI := isPlaceP_any
     cases h1 : isPlaceF (p j) (k : Int) with
     | false =>
      have HE : Hid (BadAt (fun i => patOk k M (p i) (t i)) np) := ⟨j,hlj,by simp [patOk,h1]⟩
      have HI1 := fun (w : World) => HI (p j) (k : Int) w
      simp only [h1] at HI1
      clear h1 HI
      go_wp2
      go_quiet ((go_at_call 105; exact Calls.quiet_of_same (HI1 _)))
      go_wp2
      go_ret2
      exact ⟨.bad HE.out,below_drewN (hb.alloc hb.size _) _⟩
     | true =>
      obtain ⟨x,hx,hxk⟩ : ∃ x : Nat,p j = x /\ x < k := by
       simp [isPlaceF] at h1
       exact ⟨(p j).toNat,by omega,by omega⟩
      have HI1 := fun (w : World) => HI (x : Int) (k : Int) w
      rw [hx] at h1 p0
      simp only [h1] at HI1
      clear h1
      have htop : ∀ ob,(wr.alloc ob).cell? ⟨w.heap.size,x,none⟩ = some (.slice (A' x) (M x) (C' x)) := fun ob => cell_later (hq ob) (hO.top x hxk)
      have hMx := hM x hxk
      cases h2 : isPlaceF (t j) (M x : Int) with
      | false =>
       have HE : Hid (BadAt (fun i => patOk k M (p i) (t i)) np) := ⟨j,hlj,by simp [patOk,hx,h2]⟩
       have HI2 := fun (w : World) => HI (t j) (M x : Int) w
       simp only [h2] at HI2
       clear h2 HI
       go_wp2
       go_quiet ((first | (go_at_call_of 105 (Value.int IntKind.i64 (x : Int)); exact Calls.quiet_of_same (HI1 _)) | (go_at_call_of 105 (Value.int IntKind.i64 (t j)); exact Calls.quiet_of_same (HI2 _))))
       go_wp2
       go_ret2
       exact ⟨.bad HE.out,below_drewN (hb.alloc hb.size _) _⟩
      | true =>
       obtain ⟨y,hy,hyk⟩ : ∃ y : Nat,t j = y /\ y < M x := by
        simp [isPlaceF] at h2
        exact ⟨(t j).toNat,by omega,by omega⟩
       have HE : Hid (∀ i,i < j + 1 -> patOk k M (p i) (t i) = true) := fun i hi => by
        by_cases e : i = j
        ·subst e
         simp [patOk,hx,hy,isPlaceF,hxk,hyk]
        ·exact HP.out i (by omega)
       have HI2 := fun (w : World) => HI (y : Int) (M x : Int) w
       rw [hy] at h2 p1
       simp only [h2] at HI2
       clear h2 HI
       have hO1 := fun ob => (hO.later (hq ob)).put hxk hyk (v j)
       have hadr := hO.adr x hxk (by omega)
       rw [hadr] at htop
       have hcy : ∀ ob,(wr.alloc ob).cell? ⟨G x,y,none⟩ = some (.int .i64 (putF X p t v j x y)) := fun ob => cell_later (hq ob) (hO.row x hxk y hyk)
       have hzy : ∀ ob,(wr.alloc ob).frozen? ⟨G x,y,none⟩ = false := fun ob => (hO.later (hq ob)).rfree x hxk (by omega) y
       have hown := hO.own x hxk (by omega)
       have hpf : ∀ i i',putF X p t v (j + 1) i i' = if i = x /\ i' = y then v j else putF X p t v j i i' := fun i i' => by
        simp only [putF,hx,hy]
        by_cases e : i = x /\ i' = y
        ·rw [if_pos e,if_pos (by omega)]
        ·rw [if_neg e,if_neg (by omega)]
       have HPF : Hid (∀ i i',putF X p t v (j + 1) i i' = if i = x /\ i' = y then v j else putF X p t v j i i') := hpf
       clear hpf hO hx hy hadr
       go_wp2
       go_quiet ((first | (go_at_call_of 105 (Value.int IntKind.i64 (x : Int)); exact Calls.quiet_of_same (HI1 _)) | (go_at_call_of 105 (Value.int IntKind.i64 (y : Int)); exact Calls.quiet_of_same (HI2 _))))
       go_wp2
       go_region
       go_wp2
       go_roundw
       case rel => exact ⟨j + 1,by omega,by go_num,((hO1 _).congr fun i _ i' _ => (HPF.out i i').symm).later (below_drewN (Below.refl _ _) _),HE,below_drewN ((hb.alloc hb.size _).setCell hown _) _⟩
       case measure => simp [intOf]; omega
    ·have e : j = np := by omega
     subst e
     go_wp2
     go_ret2
     exact ⟨.ok _ _ _ _ HP.out hO,hb⟩
def partC (nm : Nat -> ByteArray) (B : Nat -> Int) (A : Nat -> Option Addr) (M C : Nat -> Nat) (i : Nat) : List Value := [.string (nm i),.int .i64 (B i),.slice (A i) (M i) (C i)]
theorem growPart {B0 : Nat} {w : World} {v : Value} {n : Nat} {xs : List Value} (s : ByteArray) (x : Int) (a : Option Addr) (m c : Nat) (hB : B0 <= w.heap.size) (h : w.ownsRow B0 103 3 v n xs) (hn : n < 1000) :
 ∃ v' W,(Builtin.append_ #[57,57] 57 #[v,.slice (some ⟨w.heap.size,0,none⟩) 1 1]).run Tryz.prog (w.alloc (.cells #[.string s,.int .i64 x,.slice a m c] 103)) = .ok v' W /\ Grown B0 103 3 (w.alloc (.cells #[.string s,.int .i64 x,.slice a m c] 103)) v (n + 1) (xs ++ [.string s,.int .i64 x,.slice a m c]) v' W :=
 append_from 57 103 3 48 (.agg #[.string ⟨#[]⟩,.int .i64 0,.slice none 0 0]) (by kernel_rfl) (by kernel_rfl) (by rfl) (by decide) B0 _ v n _ (h.alloc _) (some ⟨w.heap.size,0,none⟩) 1 1 [.string s,.int .i64 x,.slice a m c] rfl
  (.inr ⟨_,_,rfl,fun j u hj => by
    match j,hj with
    | 0,hj => simp at hj; subst hj; simp [go_sem]
    | 1,hj => simp at hj; subst hj; simp [go_sem]
    | 2,hj => simp at hj; subst hj; simp [go_sem]
    | j + 3,hj => simp at hj⟩) (fun u hu => by simp at hu; rcases hu with rfl | rfl | rfl <;> rfl) (by simp; omega) (by omega) (by decide)
inductive LayEnd (w : World) (B0 n : Nat) (nm : Nat -> ByteArray) (B : Nat -> Int) (O : Nat -> ObjF) (np : Nat) (p t v : Nat -> Int) : Ending -> Prop
 | bad (h : BadAt (fun k => patOk n (fun i => (O i).nW) (p k) (t k)) np) : LayEnd w B0 n nm B O np p t v (.returned (.tuple #[.slice none 0 0,errV 1]))
 | ok (u : Value) (g : Nat) (A : Nat -> Option Addr) (C G : Nat -> Nat) (h : AllOk (fun k => patOk n (fun i => (O i).nW) (p k) (t k)) np) (ho : OutAt w B0 g n (fun i => (O i).nW) A C G (putF (fun i j => (O i).words j) p t v np))
  (hu : w.ownsRow B0 103 3 u n (joinC (partC nm B A (fun i => (O i).nW) C) n)) : LayEnd w B0 n nm B O np p t v (.returned (.tuple #[u,.nilIface]))
set_option maxRecDepth 100000 in
set_option maxHeartbeats 4000000 in
theorem lay_any (an ab al ap : Option Addr) (n cn cb cl np cp : Nat) (nm : Nat -> ByteArray) (B : Nat -> Int) (V : Nat -> ObjV) (O : Nat -> ObjF) (p t v : Nat -> Int) (w : World) (hn : n <= 1000) (hM : ∀ i,i < n -> (O i).nW <= 1000) (hnp : np <= 1000)
 (hrn : RowAt w an n fun i => .string (nm i)) (hrb : RowAt w ab n fun i => .int .i64 (B i)) (hro : ObjsRow w al n V O) (hrp : PatRow w ap np p t v) :
 Calls Tryz.prog 52 #[.slice an n cn,.slice ab n cb,.slice al n cl,.slice ap np cp] w fun e w' => LayEnd w' w.heap.size n nm B O np p t v e /\ Below w.heap.size w w' := by
 have HW := wordsOf_any al n cl V O w hn hro
 have h1 : ((n : Int) != (n : Int)) = false := by simp
 go_enter Tryz.func52,Tryz.ntmps52
 go_wp2_with fail
 refine HW.mono ?_
 rintro e w1 ⟨⟨v1,rfl,ho1⟩,hb1⟩
 have hA : ∀ i,i < n -> ObjAt w1 (V i) (O i) := fun i hi => by
  rcases hro with h0 | ⟨bk,o,_,hc⟩
  ·omega
  ·exact (hc i hi).here.later hb1
 obtain ⟨a1,c1,rfl,_,hl1⟩ := rows_wd ho1 hA
 have HP := put_any a1 ap n c1 np cp (fun i => (V i).aW) (fun i => (O i).nW) (fun i => (V i).cW) (fun i j => (O i).words j) p t v w1 hn hM hnp hl1 (hrp.later hb1)
 clear HW ho1 hA hl1 hro hrp
 go_wp2_with fail
 refine HP.mono ?_
 rintro e w2 ⟨he,hb2⟩
 have hb3 := hb1.trans (hb2.mono hb1.size)
 clear HP
 cases he with
 | bad h =>
  have q1 : errV 1 = .iface 74 (.int .i64 1) := rfl
  rw [q1]
  go_wp2
  go_ret2
  rw [<- q1]
  exact ⟨.bad h,hb3⟩
 | ok g A C G h ho =>
  have hrn2 := hrn.later hb3
  have hrb2 := hrb.later hb3
  clear hrn hrb hb2
  go_wp2
  go_loopw [12,40] (fun x z wr => ∃ (k : Nat) (u : Value),k <= n /\ z = .int .i64 k /\ x = u /\ wr.ownsRow w2.heap.size 103 3 u k (joinC (partC nm B A (fun i => (O i).nW) C) k) /\ Below w2.heap.size w2 wr) (fun _ z _ => n - (intOf z).toNat)
  case atStart => exact ⟨0,.slice none 0 0,Nat.zero_le _,rfl,rfl,World.ownsRow_nil _ _ _ _,Below.refl _ _⟩
  case round =>
   obtain ⟨k,u,hk,rfl,rfl,hu,hb⟩ := hrel
   by_cases hlt : k < n
   ·have hrn3 := hrn2.later hb
    have hrb3 := hrb2.later hb
    have htop := (ho.later hb).top k hlt
    rcases hrn3 with h0 | ⟨bn,on,rfl,hcn⟩
    ·omega
    rcases hrb3 with h0 | ⟨bb,ob,rfl,hcb⟩
    ·omega
    have d0 := hcn k hlt
    have d1 := hcb k hlt
    have hB := hb.size
    have hu' : wr.drew.ownsRow w2.heap.size 103 3 u12 k (joinC (partC nm B A (fun i => (O i).nW) C) k) := hu
    obtain ⟨v3,W3,happ,hG⟩ := growPart (w := wr.drew) (nm k) (B k) (A k) (O k).nW (C k) hB hu' (by omega)
    have hu3 : W3.ownsRow w2.heap.size 103 3 v3 (k + 1) (joinC (partC nm B A (fun i => (O i).nW) C) (k + 1)) := hG.own
    have hb4 : Below w2.heap.size w2 W3 := (hb.drew.alloc hB _).trans hG.below
    clear hcn hcb hG hu hu' hb
    go_wp2
    go_region_law (refine step_run rfl (.tmp 45) (.tmp 56) 57 rfl u12 (.slice (some ⟨wr.heap.size,0,none⟩) 1 1) _ rfl rfl happ ?_)
    all_goals
     go_wp2
     go_roundw
     case rel => exact ⟨k + 1,v3,by omega,by go_num,rfl,hu3,hb4⟩
     case measure => simp [intOf]; omega
   ·have e : k = n := by omega
    subst e
    have hBz : w.heap.size <= w2.heap.size := hb3.size
    have hu2 : wr.ownsRow w.heap.size 103 3 u12 k (joinC (partC nm B A (fun i => (O i).nW) C) k) := ⟨hu.1,by
     rcases hu.2 with h | ⟨g,cap,cur,h1,h2,h3⟩
     ·exact .inl h
     ·exact .inr ⟨g,cap,cur,h1,Nat.le_trans hBz h2,h3⟩⟩
    have ho2 := ho.later hb
    have hw1 := hb1.size
    go_wp2
    go_ret2
    exact ⟨.ok _ g A C G h { ho2 with hB := Nat.le_trans hw1 ho2.hB,own := fun i hi hm => Nat.le_trans hw1 (ho2.own i hi hm) } hu2,hb3.trans (hb.mono hb3.size)⟩
end Go.Proofs.YthdccmjdbcllkaaGreatDoor
namespace Go.Proofs.YthdccmjdbcllkaaGreatDoor
open Go.RowKit Go.Maps
abbrev obAt (rd : ByteArray -> Nat × ObjF) (root : ByteArray) (j : Nat) : ObjF := (rd (nmAt rd root j)).2
abbrev szAt (rd : ByteArray -> Nat × ObjF) (root : ByteArray) (j : Nat) : Int := ((obAt rd root j).nW : Int)
inductive ReckIs (rd : ByteArray -> Nat × ObjF) (root : ByteArray) : Nat -> Prop
 | of {F : Nat} (i : Nat) (h : OfIs rd root F i) (hf : F ≠ 0) : ReckIs rd root F
 | bases {F : Nat} (m : Nat) (B : Nat -> Int) (h : OfIs rd root 0 m) (hb : BasesAre m (szAt rd root) 0 (fun _ => 0) (fun _ => 0) F B) (hf : F ≠ 0) : ReckIs rd root F
 | all {F : Nat} (m : Nat) (B : Nat -> Int) (P Q : ByteArray -> Int) (h : OfIs rd root 0 m) (hb : BasesAre m (szAt rd root) 0 (fun _ => 0) (fun _ => 0) 0 B) (hz : ∀ j,m <= j -> B j = 0) (hP : Finds (symsF m (obAt rd root)) P Q) (he : allF m (obAt rd root) P Q m B = F) (hf : F ≠ 0) : ReckIs rd root F
structure Reckoned (rd : ByteArray -> Nat × ObjF) (root : ByteArray) (m : Nat) (B : Nat -> Int) (P Q : ByteArray -> Int) : Prop where
 of : OfIs rd root 0 m
 bases : BasesAre m (szAt rd root) 0 (fun _ => 0) (fun _ => 0) 0 B
 zero : ∀ j,m <= j -> B j = 0
 finds : Finds (symsF m (obAt rd root)) P Q
 all : allF m (obAt rd root) P Q m B = 0
theorem Finds.uniq {L : SymsF} {P Q P' Q' : ByteArray -> Int} (h : Finds L P Q) (h' : Finds L P' Q') : P = P' /\ Q = Q' :=
 ⟨funext fun s => (h'.eq (h.is s)).1,funext fun s => (h'.eq (h.is s)).2⟩
theorem bases_fun {m : Nat} {sz : Nat -> Int} {B B' : Nat -> Int} (h : BasesAre m sz 0 (fun _ => 0) (fun _ => 0) 0 B) (h' : BasesAre m sz 0 (fun _ => 0) (fun _ => 0) 0 B') (hz : ∀ j,m <= j -> B j = 0) (hz' : ∀ j,m <= j -> B' j = 0) : B = B' :=
 funext fun j => by
  by_cases e : j < m
  ·exact (h.unique h').2 rfl j e
  ·rw [hz j (by omega),hz' j (by omega)]
theorem ReckIs.unique {rd : ByteArray -> Nat × ObjF} {root : ByteArray} {F G : Nat} (h : ReckIs rd root F) (h' : ReckIs rd root G) : F = G := by
 cases h with
 | of i h hf =>
  cases h' with
  | of i' h' hf' => exact (h.unique h').1
  | bases m' B' h' hb' hf' => exact absurd (h.unique h').1 hf
  | all m' B' P' Q' h' hb' hz' hP' he' hf' => exact absurd (h.unique h').1 hf
 | bases m B h hb hf =>
  cases h' with
  | of i' h' hf' => exact absurd (h'.unique h).1 hf'
  | bases m' B' h' hb' hf' =>
   obtain ⟨_,rfl⟩ := h.unique h'
   exact (hb.unique hb').1
  | all m' B' P' Q' h' hb' hz' hP' he' hf' =>
   obtain ⟨_,rfl⟩ := h.unique h'
   exact absurd (hb.unique hb').1 hf
 | all m B P Q h hb hz hP he hf =>
  cases h' with
  | of i' h' hf' => exact absurd (h'.unique h).1 hf'
  | bases m' B' h' hb' hf' =>
   obtain ⟨_,rfl⟩ := h.unique h'
   exact absurd (hb'.unique hb).1 hf'
  | all m' B' P' Q' h' hb' hz' hP' he' hf' =>
   obtain ⟨_,rfl⟩ := h.unique h'
   obtain rfl := bases_fun hb hb' hz hz'
   obtain ⟨rfl,rfl⟩ := hP.uniq hP'
   exact he.symm.trans he'
theorem ReckIs.not {rd : ByteArray -> Nat × ObjF} {root : ByteArray} {F m : Nat} {B : Nat -> Int} {P Q : ByteArray -> Int} (h : ReckIs rd root F) (h' : Reckoned rd root m B P Q) : False := by
 cases h with
 | of i h hf => exact hf (h.unique h'.of).1
 | bases m B h hb hf =>
  obtain ⟨_,rfl⟩ := h.unique h'.of
  exact hf (hb.unique h'.bases).1
 | all m B P Q h hb hz hP he hf =>
  obtain ⟨_,rfl⟩ := h.unique h'.of
  obtain rfl := bases_fun hb h'.bases hz h'.zero
  obtain ⟨rfl,rfl⟩ := hP.uniq h'.finds
  exact hf (he.symm.trans h'.all)
theorem Reckoned.unique {rd : ByteArray -> Nat × ObjF} {root : ByteArray} {m m' : Nat} {B B' : Nat -> Int} {P Q P' Q' : ByteArray -> Int} (h : Reckoned rd root m B P Q) (h' : Reckoned rd root m' B' P' Q') : m = m' /\ B = B' /\ P = P' /\ Q = Q' := by
 obtain ⟨_,rfl⟩ := h.of.unique h'.of
 obtain rfl := bases_fun h.bases h'.bases h.zero h'.zero
 obtain ⟨rfl,rfl⟩ := h.finds.uniq h'.finds
 exact ⟨rfl,rfl,rfl,rfl⟩
abbrev patsAt (rd : ByteArray -> Nat × ObjF) (root : ByteArray) (m : Nat) (B : Nat -> Int) (P Q : ByteArray -> Int) : List (Nat × Int × Int) := patsTo (obAt rd root) P Q B m
theorem patsOf_mem {O : Nat -> ObjF} {P Q : ByteArray -> Int} {B : Nat -> Int} {i k : Nat} {x : Nat × Int × Int} (h : x ∈ patsOf O P Q B i k) : ∃ q,q < k /\ x = (i,(O i).tAt q,(tieW O P Q B i q).2) := by
 induction k with
 | zero => cases h
 | succ k ih =>
  rcases List.mem_append.1 h with h | h
  ·obtain ⟨q,hq,e⟩ := ih h
   exact ⟨q,by omega,e⟩
  ·exact ⟨k,by omega,by simpa using h⟩
theorem patsTo_mem {O : Nat -> ObjF} {P Q : ByteArray -> Int} {B : Nat -> Int} {m : Nat} {x : Nat × Int × Int} (h : x ∈ patsTo O P Q B m) : ∃ i q,i < m /\ q < (O i).nT /\ x = (i,(O i).tAt q,(tieW O P Q B i q).2) := by
 induction m with
 | zero => cases h
 | succ m ih =>
  rcases List.mem_append.1 h with h | h
  ·obtain ⟨i,q,hi,hq,e⟩ := ih h
   exact ⟨i,q,by omega,hq,e⟩
  ·obtain ⟨q,hq,e⟩ := patsOf_mem h
   exact ⟨m,q,by omega,hq,e⟩
def cutB (m : Nat) (b : Nat -> Int) : Nat -> Int := fun j => if j < m then b j else 0
theorem cutB_is {m : Nat} {b : Nat -> Int} {j : Nat} (h : j < m) : b j = cutB m b j := (if_pos h).symm
theorem cutB_zero {m : Nat} {b : Nat -> Int} (j : Nat) (h : m <= j) : cutB m b j = 0 := if_neg (by omega)
theorem BasesAre.cut {m : Nat} {sz tf tm b : Nat -> Int} {nt : Nat} (h : BasesAre m sz nt tf tm 0 b) : BasesAre m sz nt tf tm 0 (cutB m b) := by
 obtain ⟨h0,hl⟩ := h.laid rfl
 exact .ok _ h0 fun j hj => (hl j hj).congr fun i hi => cutB_is (by omega)
end Go.Proofs.YthdccmjdbcllkaaGreatDoor
namespace Go.Proofs.YthdccmjdbcllkaaGreatDoor
open Go.RowKit Go.Maps
theorem results_tmp5 {fn : Func} {t u v x y : Tmp} (h : fn.results = #[.tmp t,.tmp u,.tmp v,.tmp x,.tmp y]) (tmps : Array Value) (P : Program) (w : World) :
 (results fn tmps).run P w = .ok (.tuple #[tmps.getD t undef,tmps.getD u undef,tmps.getD v undef,tmps.getD x undef,tmps.getD y undef]) w := by
 simp [results,h]
inductive ReckEnd (w : World) (B0 : Nat) (rd : ByteArray -> Nat × ObjF) (root : ByteArray) : Ending -> Prop
 | bad (F : Nat) (h : ReckIs rd root F) (hf : F ≠ 0) : ReckEnd w B0 rd root (.returned (.tuple #[.slice none 0 0,.slice none 0 0,.slice none 0 0,.slice none 0 0,errV F]))
 | ok (m : Nat) (B : Nat -> Int) (P Q : ByteArray -> Int) (u x b p : Value) (V : Nat -> ObjV) (h : Reckoned rd root m B P Q) (hu : OwnTx w B0 u (namesAt rd root m)) (hx : ObjsIn w B0 x m V (obAt rd root))
  (hb : w.ownsRow B0 3 1 b m (joinC (intC B) m)) (hp : w.ownsRow B0 67 3 p (patsAt rd root m B P Q).length (patsC (patsAt rd root m B P Q))) : ReckEnd w B0 rd root (.returned (.tuple #[u,x,b,p,.nilIface]))
theorem ObjsIn.below {w w' : World} {B n : Nat} {x : Value} {V : Nat -> ObjV} {O : Nat -> ObjF} (h : ObjsIn w B x n V O) (hb : Below w.heap.size w w') : ObjsIn w' B x n V O := ⟨owns_below h.own hb,fun j hj => (h.at' j hj).later hb⟩
theorem ObjsIn.base {w : World} {B B' n : Nat} {x : Value} {V : Nat -> ObjV} {O : Nat -> ObjF} (h : ObjsIn w B x n V O) (hb : B' <= B) : ObjsIn w B' x n V O := ⟨World.ownsRow.mono h.own hb,h.at'⟩
set_option maxRecDepth 100000 in
set_option maxHeartbeats 4000000 in
theorem reckon_any (w : World) (p bm : Nat) (D : DataW Unit) (k : Nat) (T : ByteArray -> ByteArray) (root : ByteArray) (h : FilesAt w p bm D k) (hI : Inv D k) (hT : Texts D T) (hE : Env w) (hroot : root.size <= maxLen) :
 Calls Tryz.prog 47 #[.pointer (some ⟨p,0,none⟩),.string root] w fun e w' => ReckEnd w' w.heap.size (rdD D T) root e /\ Below w.heap.size w w' := by
 have HO := of_any w p bm D k T root h hI hT hE hroot
 have hfew := rd_few (T := T) hI
 go_enter Tryz.func47,Tryz.ntmps47
 go_wp2_with fail
 refine HO.mono ?_
 rintro e w1 ⟨he,hb1⟩
 clear HO h hT hE hroot hI
 cases he with
 | bad F i h hf =>
  obtain ⟨z,hz⟩ := errV_pos hf
  rw [hz]
  go_wp2
  (try simp only [Exit.inBlock,Exit.then])
  refine bodyPost_ret (results_tmp5 rfl _ _ _) rfl ?_
  rw [<- hz]
  exact ⟨.bad F (.of i h hf) hf,hb1⟩
 | ok m u x V h hu hx =>
  obtain ⟨hS,hlen,hnm⟩ := scope_of h hfew
  have hok : ∀ j,j < m -> ObjOk (obAt (rdD D T) root j) := fun j hj => rd_ok (by rw [hS.read j hj])
  have hm6 := hS.few
  clear hS hfew hlen hnm
  obtain ⟨xa,xc,rfl,_,hrow⟩ := hx.own.row hx.at'
  have HZ := sizes_any xa m xc V (obAt (rdD D T) root) w1 (by omega) (fun i hi => by have := (hok i hi).nW; unfold maxLen; omega) hrow
  go_wp2_with fail
  refine HZ.mono ?_
  rintro e w2 ⟨⟨v2,rfl,ho2⟩,hb2⟩
  have hb12 := hb1.trans (hb2.mono hb1.size)
  obtain ⟨a2,c2,rfl,_,hr2⟩ := rows_int ho2
  have HB := bases_any (szAt (rdD D T) root) (fun _ => 0) (fun _ => 0) a2 none m c2 0 0 w2 (by unfold maxLen; omega) (by unfold maxLen; omega) hr2 (.inl rfl)
  have hu2 := owns_below hu hb2
  have hx2 := hx.below hb2
  clear HZ ho2 hr2 hu hx hrow
  go_wp2_with fail
  refine HB.mono ?_
  rintro e w3 ⟨he,hb3⟩
  have hb13 := hb12.trans (hb3.mono hb12.size)
  have hu3 := owns_below hu2 hb3
  have hx3 := hx2.below hb3
  clear HB hu2 hx2
  cases he with
  | bad F B hf hB =>
   obtain ⟨z,hz⟩ := errV_pos hf
   rw [hz]
   go_wp2
   (try simp only [Exit.inBlock,Exit.then])
   refine bodyPost_ret (results_tmp5 rfl _ _ _) rfl ?_
   rw [<- hz]
   exact ⟨.bad F (.bases m B h hB hf) hf,hb13⟩
  | ok B v3 hB hv3 =>
   obtain ⟨P,Q,hP⟩ := finds_some (symsF m (obAt (rdD D T) root))
   have hBc := hB.cut
   have hz := fun j => cutB_zero (m := m) (b := B) j
   rw [joinC_congr (h := intC (cutB m B)) (fun i hi => by unfold intC; rw [<- cutB_is (b := B) hi])] at hv3
   clear hB
   generalize cutB m B = B' at *
   obtain ⟨xa,xc,hxe,_,hrow⟩ := hx3.own.row hx3.at'
   cases hxe
   obtain ⟨a3,c3,rfl,_,hr3⟩ := rows_int hv3
   have HA := all_any xa a3 m xc m c3 V (obAt (rdD D T) root) B' P Q w3 (by omega) (by unfold maxLen; omega) hrow hr3 hok hP
   clear hr3 hrow
   go_wp2_with fail
   refine HA.mono ?_
   rintro e w4 ⟨he,hb4⟩
   have hb14 := hb13.trans (hb4.mono hb13.size)
   have hu4 := owns_below hu3 hb4
   have hx4 := hx3.below hb4
   have hv4 := owns_below hv3 hb4
   clear HA hu3 hx3 hv3
   cases he with
   | bad hf =>
    obtain ⟨z,hz2⟩ := errV_pos hf
    rw [hz2]
    go_wp2
    (try simp only [Exit.inBlock,Exit.then])
    refine bodyPost_ret (results_tmp5 rfl _ _ _) rfl ?_
    rw [<- hz2]
    exact ⟨.bad _ (.all m B' P Q h hBc hz hP rfl hf) hf,hb14⟩
   | ok hf v4 ho4 =>
    go_wp2
    (try simp only [Exit.inBlock,Exit.then])
    refine bodyPost_ret (results_tmp5 rfl _ _ _) rfl ?_
    exact ⟨.ok m B' P Q _ _ _ _ V ⟨h,hBc,hz,hP,hf⟩ hu4 hx4 (World.ownsRow.mono hv4 hb12.size) (World.ownsRow.mono ho4 hb13.size),hb14⟩
end Go.Proofs.YthdccmjdbcllkaaGreatDoor
namespace Go.Proofs.YthdccmjdbcllkaaGreatDoor
open Go.RowKit Go.Maps
abbrev boundW (rd : ByteArray -> Nat × ObjF) (root : ByteArray) (m : Nat) (B : Nat -> Int) (P Q : ByteArray -> Int) : Nat -> Nat -> Int :=
 putF (fun i j => (obAt rd root i).words j) (pP (patsAt rd root m B P Q)) (pT (patsAt rd root m B P Q)) (pV (patsAt rd root m B P Q)) (patsAt rd root m B P Q).length
structure PartsIn (w : World) (B0 : Nat) (v : Value) (n : Nat) (nm : Nat -> ByteArray) (B : Nat -> Int) (M : Nat -> Nat) (X : Nat -> Nat -> Int) (g : Nat) (A : Nat -> Option Addr) (C G : Nat -> Nat) : Prop where
 out : OutAt w B0 g n M A C G X
 own : w.ownsRow B0 103 3 v n (joinC (partC nm B A M C) n)
inductive LoadEnd (w : World) (B0 : Nat) (rd : ByteArray -> Nat × ObjF) (root : ByteArray) : Ending -> Prop
 | bad (F : Nat) (h : ReckIs rd root F) (hf : F ≠ 0) : LoadEnd w B0 rd root (.returned (.tuple #[.slice none 0 0,errV F]))
 | ok (m : Nat) (B : Nat -> Int) (P Q : ByteArray -> Int) (u : Value) (g : Nat) (A : Nat -> Option Addr) (C G : Nat -> Nat) (h : Reckoned rd root m B P Q)
  (hu : PartsIn w B0 u m (nmAt rd root) B (fun i => (obAt rd root i).nW) (boundW rd root m B P Q) g A C G) : LoadEnd w B0 rd root (.returned (.tuple #[u,.nilIface]))
theorem pats_ok {O : Nat -> ObjF} {P Q : ByteArray -> Int} {B : Nat -> Int} {m : Nat} (h : ∀ j,j < m -> ObjOk (O j)) : AllOk (fun k => patOk m (fun i => (O i).nW) (pP (patsTo O P Q B m) k) (pT (patsTo O P Q B m) k)) (patsTo O P Q B m).length := fun k hk => by
 have hm : (patsTo O P Q B m).getD k (0,0,0) ∈ patsTo O P Q B m := by
  rw [List.getD_eq_getElem?_getD,List.getElem?_eq_getElem hk]
  exact List.getElem_mem hk
 obtain ⟨i,q,hi,hq,e⟩ := patsTo_mem hm
 have ht := (h i hi).ties q hq
 show (isPlaceF ((patsTo O P Q B m).getD k (0,0,0)).1 (m : Int) && isPlaceF ((patsTo O P Q B m).getD k (0,0,0)).2.1 ((O (((patsTo O P Q B m).getD k (0,0,0)).1 : Int).toNat).nW : Int)) = true
 rw [e]
 show (isPlaceF (i : Int) (m : Int) && isPlaceF ((O i).tAt q) ((O (i : Int).toNat).nW : Int)) = true
 rw [Int.toNat_natCast]
 simp only [isPlaceF,Bool.and_eq_true,decide_eq_true_eq]
 omega
theorem joinInt_map (f : Nat -> Int) (n : Nat) : joinC (intC f) n = (List.range n).map fun i => Value.int .i64 (f i) := by
 induction n with
 | zero => rfl
 | succ n ih =>
  show joinC (intC f) n ++ intC f n = _
  rw [ih,List.range_succ,List.map_append]
  rfl
theorem ownInt_put {w : World} {B n c g y : Nat} {f f' : Nat -> Int} (h : w.ownsRow B 3 1 (.slice (some ⟨g,0,none⟩) n c) n (joinC (intC f) n)) (hy : y < n) (v : Int) (e : ∀ j,f' j = if j = y then v else f j) :
 (w.setCell ⟨g,y,none⟩ (.int .i64 v)).ownsRow B 3 1 (.slice (some ⟨g,0,none⟩) n c) n (joinC (intC f') n) := by
 obtain ⟨_,h⟩ := h
 rcases h with ⟨e0,_⟩ | ⟨g',cap,cur,hv,hb,hg,hnc,hcm,hcs,htk⟩
 ·cases e0
 ·injection hv with hv1 hv2 hv3
  injection hv1 with hv1
  injection hv1 with hv1
  subst hv1
  subst hv3
  refine ⟨by rw [joinInt_map]; simp,.inr ⟨g,c,cur.set! y (.int .i64 v),rfl,hb,?_,hnc,hcm,by simp [hcs],?_⟩⟩
  ·show (w.heap.modify g _)[g]? = _
   rw [Array.getElem?_modify,if_pos rfl,hg]
   rfl
  ·have e1 : (cur.set! y (.int .i64 v)).toList = cur.toList.set y (.int .i64 v) := by simp
   rw [e1,List.take_set,htk,joinInt_map,joinInt_map]
   refine List.ext_getElem (by simp) fun i h1 h2 => ?_
   simp only [List.getElem_set,List.getElem_map,List.getElem_range,e]
   by_cases q : i = y
   ·subst q; simp
   ·rw [if_neg (fun h => q h.symm),if_neg q]
structure RPs (w : World) (B : Nat) (v : Value) (n : Nat) (nm : Nat -> ByteArray) (Bs : Nat -> Int) (A : Nat -> Option Addr) (M C : Nat -> Nat) (X : Nat -> Nat -> Int) : Prop where
 own : w.ownsRow B 103 3 v n (joinC (partC nm Bs A M C) n)
 row : ∀ i,i < n -> w.ownsRow B 3 1 (.slice (A i) (M i) (C i)) (M i) (joinC (intC (X i)) (M i))
theorem RPs.later {w w' : World} {B : Nat} {v : Value} {n : Nat} {nm : Nat -> ByteArray} {Bs : Nat -> Int} {A : Nat -> Option Addr} {M C : Nat -> Nat} {X : Nat -> Nat -> Int} (h : RPs w B v n nm Bs A M C X) (hb : Below w.heap.size w w') : RPs w' B v n nm Bs A M C X := ⟨owns_below h.own hb,fun i hi => owns_below (h.row i hi) hb⟩
theorem RPs.base {w : World} {B B' : Nat} {v : Value} {n : Nat} {nm : Nat -> ByteArray} {Bs : Nat -> Int} {A : Nat -> Option Addr} {M C : Nat -> Nat} {X : Nat -> Nat -> Int} (h : RPs w B v n nm Bs A M C X) (hB : B' <= B) : RPs w B' v n nm Bs A M C X := ⟨World.ownsRow.mono h.own hB,fun i hi => World.ownsRow.mono (h.row i hi) hB⟩
theorem RPs.rows {w : World} {B : Nat} {v : Value} {n : Nat} {nm : Nat -> ByteArray} {Bs : Nat -> Int} {A : Nat -> Option Addr} {M C : Nat -> Nat} {X : Nat -> Nat -> Int} (h : RPs w B v n nm Bs A M C X) : ∃ a c,v = .slice a n c /\ n <= c /\ PartRow w a n nm Bs A M C X := by
 obtain ⟨a,c,rfl,hc⟩ := owns_shape h.own
 refine ⟨a,c,rfl,hc,?_⟩
 by_cases h0 : n = 0
 ·exact .inl h0
 ·have key : ∀ i,i < n -> ∀ j u,(partC nm Bs A M C i)[j]? = some u -> j < 3 -> ∃ g,a = some ⟨g,0,none⟩ /\ B <= g /\ w.cell? ⟨g,i * 3 + j,none⟩ = some u := fun i hi j u hu hj =>
   owns_cell h.own (by rw [joinC_at (s := 3) (fun i _ => rfl) hi hj]; exact hu)
  obtain ⟨g0,ha,_,_⟩ := key 0 (by omega) 0 _ rfl (by omega)
  refine .inr ⟨g0,0,ha,fun i hi => ?_⟩
  have get : ∀ j u,(partC nm Bs A M C i)[j]? = some u -> j < 3 -> w.cell? ⟨g0,i * 3 + j,none⟩ = some u := fun j u hu hj => by
   obtain ⟨g',ha',_,hc'⟩ := key i hi j u hu hj
   rw [ha] at ha'
   injection ha' with ha'
   injection ha' with ha'
   subst ha'
   exact hc'
  obtain ⟨a',c',e,_,hr⟩ := rows_int (h.row i hi)
  injection e with e1 _ _
  rw [<- e1] at hr
  exact ⟨by rw [Nat.zero_add]; exact get 0 _ rfl (by omega),by rw [Nat.zero_add]; exact get 1 _ rfl (by omega),by rw [Nat.zero_add]; exact get 2 _ rfl (by omega),hr⟩
inductive RLoadEnd (w : World) (B0 : Nat) (rd : ByteArray -> Nat × ObjF) (root : ByteArray) : Ending -> Prop
 | bad (F : Nat) (h : ReckIs rd root F) (hf : F ≠ 0) : RLoadEnd w B0 rd root (.returned (.tuple #[.slice none 0 0,.slice none 0 0,.int .i64 (F : Int)]))
 | ok (m : Nat) (Bs : Nat -> Int) (P Q : ByteArray -> Int) (u v : Value) (A : Nat -> Option Addr) (C : Nat -> Nat) (h : Reckoned rd root m Bs P Q) (hu : RPs w B0 u m (nmAt rd root) Bs A (fun i => (obAt rd root i).nW) C (boundW rd root m Bs P Q))
  (hv : w.ownsRow B0 67 3 v (patsAt rd root m Bs P Q).length (patsC (patsAt rd root m Bs P Q))) : RLoadEnd w B0 rd root (.returned (.tuple #[u,v,.int .i64 0]))
theorem int_cellsL {w : World} {a : Option Addr} {n : Nat} {f : Nat -> Int} (h : RowAt w a n fun i => .int .i64 (f i)) : n = 0 ∨ ∃ b o,a = some ⟨b,o,none⟩ /\ ∀ j u,(joinC (intC f) n)[j]? = some u -> w.cell? ⟨b,o + j,none⟩ = some u := by
 rcases h with h | ⟨b,o,ha,hc⟩
 ·exact .inl h
 ·refine .inr ⟨b,o,ha,fun j u hj => ?_⟩
  rw [joinInt_map] at hj
  have hlt : j < n := by have := (List.getElem?_eq_some_iff.1 hj).1; simpa using this
  rw [List.getElem?_map,List.getElem?_eq_getElem (by simpa using hlt)] at hj
  simp at hj
  subst hj
  exact hc j hlt
theorem ints_new (w : World) (a : Option Addr) (n c : Nat) (f : Nat -> Int) (hr : RowAt w a n fun i => .int .i64 (f i)) (hn : n <= 1000) :
 ∃ v' W,(Builtin.append_ #[97,97] 97 #[.slice none 0 0,.slice a n c]).run Tryz.prog w = .ok v' W /\ W.ownsRow w.heap.size 3 1 v' n (joinC (intC f) n) /\ Below w.heap.size w W := by
 obtain ⟨v',W,happ,hG⟩ := append_from 97 3 1 8 (.int .i64 0) (by kernel_rfl) (by kernel_rfl) (by rfl) (by decide) w.heap.size w (.slice none 0 0) 0 []
  (World.ownsRow_nil _ _ _ _) a n c (joinC (intC f) n) (by rw [joinC_len (fun i _ => intC_len f i)]) (int_cellsL hr) (fun u hu => by
    rw [joinInt_map] at hu
    obtain ⟨i,_,rfl⟩ := List.mem_map.1 hu
    rfl) (Nat.le_refl _) (by omega) (by decide)
 exact ⟨v',W,happ,by simpa using hG.own,hG.below⟩
theorem patOk_place {n : Nat} {M : Nat -> Nat} {p t : Int} (h : patOk n M p t = true) : ∃ x y : Nat,p = x /\ t = y /\ x < n /\ y < M x := by
 simp [patOk,isPlaceF] at h
 obtain ⟨⟨h1,h2⟩,h3,h4⟩ := h
 exact ⟨p.toNat,t.toNat,by omega,by omega,by omega,by omega⟩
set_option maxRecDepth 100000 in
set_option maxHeartbeats 8000000 in
theorem refLoaded_any (B : Nat) (w : World) (q : Nat) (L : List FileR) (k : Nat) (D : DataW Unit) (T : ByteArray -> ByteArray) (root : ByteArray) (h : RAt B w q L k) (hL : L.length <= 1000) (hA : Agree D L) (hI : Inv D k) (hT : Texts D T) :
 Calls Tryz.prog 48 #[.pointer (some ⟨q,0,none⟩),.string root] w fun e w' => RLoadEnd w' w.heap.size (rdD D T) root e /\ Below w.heap.size w w' := by
 have HO := refScopeOf_any B w q L k D T root h hL hA hI hT
 have hfew := rd_few (T := T) hI
 have HOK : Hid (∀ s,(rdD D T s).1 = 0 -> ObjOk (rdD D T s).2) := fun s h => rd_ok h
 clear h hL hA hT hI
 generalize rdD D T = rd at *
 go_enter Tryz.func48,Tryz.ntmps48
 go_wp2_with fail
 refine (show Calls _ _ _ _ _ from HO).mono ?_
 rintro e w1 ⟨he,hb1⟩
 clear HO
 cases he with
 | bad F i h hf =>
  have hpos : (0 : Int) < (F : Int) := by omega
  have HF : Hid (RLoadEnd w1 w.heap.size rd root (.returned (.tuple #[.slice none 0 0,.slice none 0 0,.int .i64 (F : Int)]))) := .bad F (.of i h hf) hf
  clear h hf hfew
  go_wp2
  go_ret3
  exact ⟨HF.out,hb1⟩
 | ok m u x V h hu hx =>
  obtain ⟨hS,hlen,hnm⟩ := scope_of h hfew
  have hok : ∀ j,j < m -> ObjOk (obAt rd root j) := fun j hj => HOK.out _ (by rw [hS.read j hj])
  have hm6 := hS.few
  have hgetN : ∀ j,j < m -> (namesAt rd root m).getD j ⟨#[]⟩ = nmAt rd root j := fun j hj => by
   have hr : ReadTo rd root m := by
    generalize hF : (0 : Nat) = F at h
    cases h with
    | bad _ _ _ hf => exact absurd hF.symm hf
    | ok _ h hi => exact h
   rw [List.getD_eq_getElem?_getD,names_get (Nat.le_of_lt hj) (hr j hj).1]
   rfl
  clear hS hfew hnm HOK
  obtain ⟨xa,xc,rfl,_,hrow⟩ := hx.own.row hx.at'
  go_wp2
  go_loopw [10,11] (fun y10 y11 wr => ∃ (i : Nat) (v : Value),i <= m /\ y11 = .int .i64 i /\ y10 = v /\ wr.ownsRow w1.heap.size 3 1 v i (joinC (intC (szAt rd root)) i) /\ Below w1.heap.size w1 wr) (fun _ y11 _ => m - (intOf y11).toNat)
  case atStart => exact ⟨0,.slice none 0 0,Nat.zero_le _,rfl,rfl,World.ownsRow_nil _ _ _ _,Below.refl _ _⟩
  case round =>
   obtain ⟨i,v,hi,rfl,rfl,ho,hb⟩ := hrel
   by_cases hlt : i < m
   ·rcases hrow.later hb with h0 | ⟨bk,o,rfl,hc⟩
    ·omega
    have c1 := (hc i hlt).c1
    have hi0 : (0 : Int) <= (i : Int) := by omega
    have hi1 : (i : Int) < (m : Int) := by omega
    have hw4 : (rd (nmAt rd root i)).2.nW <= 40 := (hok i hlt).nW
    obtain ⟨v1,W1,happ1,hG1⟩ := growInt (w := wr) (((rd (nmAt rd root i)).2.nW : Nat) : Int) hb.size ho (by omega)
    have ho1 := hG1.own
    rw [joinInt (b' := szAt rd root) (fun i _ => rfl) rfl] at ho1
    have hb2 : Below w1.heap.size w1 W1 := (hb.alloc hb.size _).trans hG1.below
    clear hG1 ho hb hc
    dsimp only at c1
    generalize (rd (nmAt rd root i)).2 = ob at *
    go_wp2_with (at_builtin; refine list_run rfl (.tmp 34) (.tmp 41) 97 rfl u10 (.slice (some ⟨wr.heap.size,0,none⟩) 1 1) _ rfl rfl happ1 ?_)
    go_roundw
    case rel => exact ⟨i + 1,v1,by omega,by go_num,rfl,ho1,hb2⟩
    case measure => simp [intOf]; omega
   ·obtain rfl : i = m := by omega
    have hb12 := hb1.trans (hb.mono hb1.size)
    obtain ⟨a2,c2,rfl,_,hr2⟩ := rows_int ho
    have HB := refBases_any (szAt rd root) (fun _ => 0) (fun _ => 0) a2 none i c2 0 0 wr (by unfold maxLen; omega) (by unfold maxLen; omega) hr2 (.inl rfl)
    have hu2 := owns_below hu hb
    have hx2 := hx.below hb
    clear hu hx ho hr2 hrow
    go_wp2_with fail
    refine (show Calls _ _ _ _ _ from HB).mono ?_
    rintro e w3 ⟨he,hb3⟩
    have hb13 := hb12.trans (hb3.mono hb12.size)
    have hu3 := owns_below hu2 hb3
    have hx3 := hx2.below hb3
    clear HB hu2 hx2
    cases he with
    | bad F Bs hf hB =>
     have hpos : (0 : Int) < (F : Int) := by omega
     have HF : Hid (RLoadEnd w3 w.heap.size rd root (.returned (.tuple #[.slice none 0 0,.slice none 0 0,.int .i64 (F : Int)]))) := .bad F (.bases i Bs h hB hf) hf
     clear h hf hB hok hgetN hu3 hx3 hb3
     go_wp2
     go_ret3
     exact ⟨HF.out,hb13⟩
    | ok Bs v3 hB hv3 =>
     obtain ⟨P,Q,hP⟩ := finds_some (symsF i (obAt rd root))
     have hBc := hB.cut
     have hz := fun j => cutB_zero (m := i) (b := Bs) j
     rw [joinC_congr (h := intC (cutB i Bs)) (fun j hj => by unfold intC; rw [<- cutB_is (b := Bs) hj])] at hv3
     clear hB
     generalize cutB i Bs = B' at *
     obtain ⟨xa,xc,hxe,_,hrow⟩ := hx3.own.row hx3.at'
     cases hxe
     obtain ⟨a3,c3,rfl,_,hr3⟩ := rows_int hv3
     have HA := refPatches_any xa a3 i xc i c3 V (obAt rd root) B' P Q w3 (by omega) (by unfold maxLen; omega) hrow hr3 hok hP
     clear hr3 hrow
     go_wp2_with fail
     refine (show Calls _ _ _ _ _ from HA).mono ?_
     rintro e w4 ⟨he,hb4⟩
     have hb14 := hb13.trans (hb4.mono hb13.size)
     have hu4 := owns_below hu3 hb4
     have hx4 := hx3.below hb4
     have hv4 := owns_below hv3 hb4
     clear HA hu3 hx3 hv3
     cases he with
     | bad hf =>
      have HF : Hid (RLoadEnd w4 w.heap.size rd root (.returned (.tuple #[.slice none 0 0,.slice none 0 0,.int .i64 (((allF i (obAt rd root) P Q i B' : Nat)) : Int)]))) := .bad _ (.all i B' P Q h hBc hz hP rfl hf) hf
      have hpos : (0 : Int) < ((allF i (obAt rd root) P Q i B' : Nat) : Int) := by omega
      clear h hBc hz hP hok hgetN hu4 hx4 hv4 hb4 hf
      generalize allF i (obAt rd root) P Q i B' = F at *
      go_wp2
      go_ret3
      exact ⟨HF.out,hb14⟩
     | ok hf v4 ho4 =>
      have hReck : Reckoned rd root i B' P Q := ⟨h,hBc,hz,hP,hf⟩
      have hall := pats_ok (O := obAt rd root) (P := P) (Q := Q) (B := B') (m := i) hok
      have hlenP : (patsTo (obAt rd root) P Q B' i).length <= 6 * i := patsTo_le (O := obAt rd root) P Q B' (i := i) fun j hj => (hok j hj).nT
      have hw40 : ∀ j,j < i -> (obAt rd root j).nW <= 40 := fun j hj => (hok j hj).nW
      have HFIN : Hid (∀ (W : World) (u v : Value) (A : Nat -> Option Addr) (C : Nat -> Nat),RPs W w.heap.size u i (nmAt rd root) B' A (fun j => (obAt rd root j).nW) C (fun a b => putF (fun a b => (obAt rd root a).words b) (pP (patsTo (obAt rd root) P Q B' i)) (pT (patsTo (obAt rd root) P Q B' i)) (pV (patsTo (obAt rd root) P Q B' i)) (patsTo (obAt rd root) P Q B' i).length a b) -> W.ownsRow w.heap.size 67 3 v (patsTo (obAt rd root) P Q B' i).length (patsC (patsTo (obAt rd root) P Q B' i)) -> RLoadEnd W w.heap.size rd root (.returned (.tuple #[u,v,.int .i64 0]))) := fun W u v A C hu hv => .ok i B' P Q u v A C hReck hu hv
      obtain ⟨xa4,xc4,hxe4,_,hrow40⟩ := hx4.own.row hx4.at'
      cases hxe4
      have hrow4 : ObjsRow w4 xa i V (obAt rd root) := hrow40
      clear hrow40
      obtain ⟨a4,c4,e4,_,hr4⟩ := rows_int hv4
      cases e4
      obtain ⟨aq,cq,rfl,_,hrq⟩ := rows_pat ho4
      obtain ⟨au,cu,rfl,_,hru⟩ := ownTx_row hu4
      rw [hlen] at hru
      rw [hlen]
      clear h hBc hz hP hf hok hReck hx4 hv4 hu4
      have hPO := ho4
      clear ho4
      generalize patsTo (obAt rd root) P Q B' i = pl at *
      generalize obAt rd root = O at *
      go_wp2
      go_loopw [14,15,16,17] (fun y14 y15 _ _ wx => ∃ (r : Nat) (v : Value) (A : Nat -> Option Addr) (C : Nat -> Nat),r <= i /\ y15 = .int .i64 r /\ y14 = v /\ RPs wx w4.heap.size v r (nmAt rd root) B' A (fun j => (O j).nW) C (fun a b => putF (fun a b => (O a).words b) (pP pl) (pT pl) (pV pl) pl.length a b) /\ Below w4.heap.size w4 wx) (fun _ y15 _ _ _ => i - (intOf y15).toNat)
      case atStart => exact ⟨0,.slice none 0 0,fun _ => none,fun _ => 0,Nat.zero_le _,rfl,rfl,⟨World.ownsRow_nil _ _ _ _,fun j hj => by omega⟩,Below.refl _ _⟩
      case round =>
       obtain ⟨r,v,A,C,hr,rfl,rfl,hRP,hbr⟩ := hrel
       by_cases hlr : r < i
       ·rcases hrow4.later hbr with h0 | ⟨bk,o,rfl,hc⟩
        ·omega
        rcases hru.later hbr with h0 | ⟨bu,fu,rfl,hcu⟩
        ·omega
        rcases hr4.later hbr with h0 | ⟨b4,f4,rfl,hc4⟩
        ·omega
        have H := hc r hlr
        have c1 := H.c1
        have cn : wr.cell? ⟨bu,fu + r,none⟩ = some (.string (nmAt rd root r)) := by rw [hcu r hlr]; show some (Value.string _) = some (Value.string _); rw [hgetN r hlr]
        have cb : wr.cell? ⟨b4,f4 + r,none⟩ = some (.int .i64 (B' r)) := hc4 r hlr
        have hr0 : (0 : Int) <= (r : Int) := by omega
        have hr1 : (r : Int) < (i : Int) := by omega
        have hw := hw40 r hlr
        obtain ⟨v1,W1,happ1,hO1,hbW1⟩ := ints_new wr (V r).aW (O r).nW (V r).cW (fun j => (O r).words j) H.here.words (by omega)
        obtain ⟨aw,cw,rfl,_⟩ := owns_shape hO1
        have hBr : w4.heap.size <= wr.heap.size := hbr.size
        clear H hc hcu hc4
        obtain ⟨wq,rfl⟩ : ∃ W,W = wr := ⟨_,rfl⟩
        obtain ⟨vo,rfl⟩ : ∃ v,v = u14 := ⟨_,rfl⟩
        go_wp2_with (at_builtin; refine list_run rfl (.const (.slice none 0 0)) (.tmp 70) 97 rfl (.slice none 0 0) (.slice (V r).aW (O r).nW (V r).cW) _ rfl rfl happ1 ?_)
        clear happ1 c1
        go_loopw [17] (fun y17 wy => ∃ z : Nat,z <= pl.length /\ y17 = .int .i64 z /\ wy.ownsRow wq.heap.size 3 1 (.slice aw (O r).nW cw) (O r).nW (joinC (intC fun j => putF (fun a b => (O a).words b) (pP pl) (pT pl) (pV pl) z r j) (O r).nW) /\ Below wq.heap.size wq wy) (fun y17 _ => pl.length - (intOf y17).toNat)
        case atStart => exact ⟨0,Nat.zero_le _,rfl,hO1,hbW1⟩
        case round =>
         clear hO1 hbW1
         obtain ⟨z,hz,rfl,hOz,hbz⟩ := hrel
         have hb4z := hbr.trans (hbz.mono hbr.size)
         by_cases hlz : z < pl.length
         ·rcases hrq.later hb4z with h0 | ⟨bp,op,rfl,hcp⟩
          ·omega
          obtain ⟨p0,p1,p2⟩ := hcp z hlz
          have hz0 : (0 : Int) <= (z : Int) := by omega
          have hz1 : (z : Int) < (pl.length : Int) := by omega
          clear hcp
          by_cases e1 : pP pl z = (r : Int)
          ·have e1' : (pP pl z == (r : Int)) = true := by simp [e1]
           obtain ⟨x,y,hx,hy,hxi,hyM⟩ := patOk_place (hall z hlz)
           obtain rfl : x = r := by omega
           rw [hy] at p1
           obtain ⟨gw,hgw,hgB,hcy⟩ : ∃ gw,aw = some ⟨gw,0,none⟩ /\ wq.heap.size <= gw /\ wr.cell? ⟨gw,y,none⟩ = some (.int .i64 (putF (fun a b => (O a).words b) (pP pl) (pT pl) (pV pl) z x y)) := owns_cell hOz (by rw [joinInt_map,List.getElem?_map,List.getElem?_eq_getElem (by simpa using hyM)]; simp)
           subst hgw
           have hfz : wr.frozen? ⟨gw,y,none⟩ = false := by
            rcases hOz.2 with ⟨e0,_⟩ | ⟨g',cap,cur,hv,_,hg,_⟩
            ·cases e0
            ·injection hv with hv1 _ _
             injection hv1 with hv1
             injection hv1 with hv1
             subst hv1
             simp [World.frozen?,hg]
           have hO2 := ownInt_put hOz hyM (pV pl z) (f' := fun j => putF (fun a b => (O a).words b) (pP pl) (pT pl) (pV pl) (z + 1) x j) (fun j => by
            show (if pP pl z = (x : Int) /\ pT pl z = (j : Int) then pV pl z else putF (fun a b => (O a).words b) (pP pl) (pT pl) (pV pl) z x j) = _
            by_cases e : j = y
            ·rw [if_pos ⟨e1,by rw [hy,e]⟩,if_pos e]
            ·rw [if_neg (fun h => e (by have := h.2; omega)),if_neg e])
           have hb2 := hbz.setCell (p := ⟨gw,y,none⟩) hgB (.int .i64 (pV pl z))
           have hy0 : (0 : Int) <= (y : Int) := by omega
           have hy1 : (y : Int) < ((O x).nW : Int) := by omega
           clear e1 hx hy hOz hbz hb4z
           go_wp2
           go_region
           go_wp2
           go_roundw
           case rel => exact ⟨z + 1,by omega,by go_num,hO2,below_drewN hb2 _⟩
           case measure => simp [intOf]; omega
          ·have e1' : (pP pl z == (r : Int)) = false := by rw [beq_eq_false_iff_ne]; exact e1
           have hO2 : wr.ownsRow wq.heap.size 3 1 (.slice aw (O r).nW cw) (O r).nW (joinC (intC fun j => putF (fun a b => (O a).words b) (pP pl) (pT pl) (pV pl) (z + 1) r j) (O r).nW) := by
            rw [joinC_congr (h := intC fun j => putF (fun a b => (O a).words b) (pP pl) (pT pl) (pV pl) z r j) (fun j _ => by unfold intC; simp only [putF]; rw [if_neg (fun h => e1 h.1)])]
            exact hOz
           clear e1 hOz
           go_wp2
           go_roundw
           case rel => exact ⟨z + 1,by omega,by go_num,hO2,hbz⟩
           case measure => simp [intOf]; omega
         ·obtain rfl : z = pl.length := by omega
          have cn' := cell_later hbz cn
          have cb' := cell_later hbz cb
          clear cn cb hrq hrow4 hru hr4
          have hRPz := hRP.later hbz
          clear hRP
          go_upto_region 25 with fail
          have hOz' : wr.drew.ownsRow wq.heap.size 3 1 (.slice aw (O r).nW cw) (O r).nW (joinC (intC fun j => putF (fun a b => (O a).words b) (pP pl) (pT pl) (pV pl) pl.length r j) (O r).nW) := hOz
          have hRPd : RPs wr.drew w4.heap.size vo r (nmAt rd root) B' A (fun j => (O j).nW) C (fun a b => putF (fun a b => (O a).words b) (pP pl) (pT pl) (pV pl) pl.length a b) := ⟨hRPz.own,hRPz.row⟩
          have hbd := hbz.trans ((Below.refl _ wr).drew.mono hbz.size)
          have hSS : (fun w' : World => w'.cell? ⟨bu,fu + r,none⟩ = some (.string (nmAt rd root r)) /\ w'.cell? ⟨b4,f4 + r,none⟩ = some (.int .i64 (B' r))) wr.drew := ⟨cn',cb'⟩
          refine wp_region_G (fun w' : World => w'.cell? ⟨bu,fu + r,none⟩ = some (.string (nmAt rd root r)) /\ w'.cell? ⟨b4,f4 + r,none⟩ = some (.int .i64 (B' r))) 12 14 (by kernel_rfl) rfl ?_
          clear hOz hRPz hbz cn' cb' hb4z
          generalize wr.drew = wd at *
          refine tW 0 hSS ?_
          refine tW 1 hSS ?_
          refine tW 2 hSS ?_
          refine tW 3 hSS ?_
          refine tW 5 hSS ?_
          refine tW 6 hSS ?_
          refine tW 7 hSS ?_
          refine tW 9 hSS ?_
          refine tR 4 [11,10] hSS ?_
          refine tR 8 [11,10] hSS ?_
          refine tW 10 hSS ?_
          obtain ⟨v2,W2,happ2,hG2⟩ := growPart (w := wd) (nmAt rd root r) (B' r) aw (O r).nW cw (Nat.le_trans hBr hbd.size) hRPd.own (by omega)
          have hbal : Below wd.heap.size wd (wd.alloc (.cells #[.string (nmAt rd root r),.int .i64 (B' r),.slice aw (O r).nW cw] 103)) := (Below.refl _ _).alloc (Nat.le_refl _) _
          have hRP3 : RPs W2 w4.heap.size v2 (r + 1) (nmAt rd root) B' (fun j => if j = r then aw else A j) (fun j => (O j).nW) (fun j => if j = r then cw else C j) (fun a b => putF (fun a b => (O a).words b) (pP pl) (pT pl) (pV pl) pl.length a b) := by
           refine ⟨?_,fun j hj => ?_⟩
           ·show W2.ownsRow w4.heap.size 103 3 v2 (r + 1) (joinC (partC (nmAt rd root) B' (fun j => if j = r then aw else A j) (fun j => (O j).nW) (fun j => if j = r then cw else C j)) r ++ partC (nmAt rd root) B' (fun j => if j = r then aw else A j) (fun j => (O j).nW) (fun j => if j = r then cw else C j) r)
            rw [joinC_congr (h := partC (nmAt rd root) B' A (fun j => (O j).nW) C) (fun j hj => by unfold partC; simp only [if_neg (show j ≠ r by omega)])]
            have := hG2.own
            unfold partC
            simp only [if_pos]
            exact this
           ·by_cases e : j = r
            ·subst e
             simp only [if_pos]
             exact World.ownsRow.mono ((hOz'.alloc _).kept hG2.grown (ownsSep hOz' hRPd.own (by decide))) hBr
            ·simp only [if_neg e]
             exact ((hRPd.row j (by omega)).alloc _).kept hG2.grown (ownsSep (hRPd.row j (by omega)) hRPd.own (by decide))
          have hb5 : Below w4.heap.size w4 W2 := ((hbr.trans (hbd.mono hbr.size)).trans (hbal.mono (Nat.le_trans hBr hbd.size))).trans hG2.below
          clear hG2
          refine oG 11 fun K hK => ?_
          go_wp2_with fail
          refine hK _ _ ⟨cell_later hbal hSS.1,cell_later hbal hSS.2⟩ ?_
          clear hK hSS hbal hOz' hRPd hbd
          refine lG 12 fun K hK => ?_
          go_wp2_with (at_builtin; refine list_run rfl (.tmp 97) (.tmp 108) 57 rfl _ _ _ rfl rfl happ2 ?_)
          refine hK _ _ ?_
          clear hK happ2
          refine tA 13 ?_
          refine doneG (by kernel_rfl) ?_ _
          go_wp2
          go_roundw
          case rel => exact ⟨r + 1,v2,_,_,by omega,by go_num,rfl,hRP3,hb5⟩
          case measure => simp [intOf]; omega
       ·obtain rfl : r = i := by omega
        have hpo := World.ownsRow.mono (owns_below hPO hbr) hb13.size
        have hFN : Hid (RLoadEnd wr w.heap.size rd root (.returned (.tuple #[u14,.slice aq pl.length cq,.int .i64 0]))) := HFIN.out wr u14 (.slice aq pl.length cq) A C (hRP.base hb14.size) hpo
        have hbz := hb14.trans (hbr.mono hb14.size)
        clear HFIN hRP hpo hPO hrq hrow4 hru hr4 hbr
        go_wp2
        go_ret3
        exact ⟨hFN.out,hbz⟩
end Go.Proofs.YthdccmjdbcllkaaGreatDoor
