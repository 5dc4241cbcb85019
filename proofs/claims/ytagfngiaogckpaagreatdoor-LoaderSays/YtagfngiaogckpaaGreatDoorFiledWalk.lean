/- What there is behind a Put, and that what was just made is fresh, in plain words. What SameTexts returns, of two lists that are alike: true; memory stays as it was. What Filed returns, for every row of acts that are few and not too long: both files, alike; memory that was there stays as it was. -/
import Derived.Test.YtagfngiaogckpaaGreatDoorPlainDrop
namespace Go.Proofs.YtagfngiaogckpaaGreatDoor
open Go.RowKit Go.Maps
theorem ShPut.calm {s : DSt} {n : Nat} {E : Nat -> EntF} {k : Nat} {r : Nat × (Nat -> EntF) × Nat} {s' : DSt} {e : Ending} (h : ShPut s n E k r s' e) (hS : Stands s n E k) (hl : s.left = -1) (hk : r.1 ≠ 0 -> r.2 = (E,k)) : e = .returned (errV r.1) /\ s'.left = -1 /\ Stands s' n r.2.1 r.2.2 := by
 cases h with
 | bad h hs => subst hs; rw [hk h]; exact ⟨rfl,hl,hS⟩
 | keep _ h hk' =>
  cases hk' with
  | fell hl' _ => exact absurd hl hl'
  | ok hSt hl2 => exact ⟨by rw [h]; rfl,hl2 hl,hSt⟩
theorem putE_in {E : Nat -> EntF} {k : Nat} {en : EntF} (h : (putE E k en).1 = 0) : ∃ j,j < (putE E k en).2.2 /\ (putE E k en).2.1 j = en := by
 have hs : ∀ j : Nat,addV E j en j = en := fun j => if_pos rfl
 unfold putE at h ⊢
 split at h
 ·rename_i h1; exact absurd h h1
 ·rename_i h1
  rw [if_neg h1]
  split at h
  ·rename_i h2
   rw [if_pos h2]
   obtain ⟨j,_,hj,_,hf⟩ := findF_some _ 0 rfl h2
   rw [hf]
   exact ⟨j,hj,hs j⟩
  ·rename_i h2
   rw [if_neg h2]
   split at h
   ·cases h
   ·rename_i h3
    rw [if_neg h3]
    exact ⟨k,Nat.lt_succ_self k,hs k⟩
theorem getE_put {E : Nat -> EntF} {k : Nat} {en : EntF} {r : Nat × (Nat -> EntF) × Nat} (hr : putE E k en = r) (h : r.1 = 0) (ho : ∀ i j,i < r.2.2 -> j < r.2.2 -> (r.2.1 i).root = (r.2.1 j).root -> i = j) : getE r.2.1 r.2.2 en.root = (true,en) := by
 subst hr
 obtain ⟨j,hj,he⟩ := putE_in h
 rw [getE_some ho hj (by rw [he]),he]
theorem any_none {f : Nat -> Bool} {n : Nat} (h : ∀ i,i < n -> f i = false) : anyTo f n = false := by
 induction n with
 | zero => rfl
 | succ n ih => simp only [anyTo,ih fun i hi => h i (by omega),h n (by omega),Bool.or_false]
theorem made_fresh {D : DataW Unit} {k : Nat} {T : ByteArray -> ByteArray} {S : ByteArray -> Int} {root : ByteArray} {m : Nat} {B : Nat -> Int} {P Q : ByteArray -> Int} (hI : Inv D k) (h : Reckoned (rdD D T) root m B P Q) : freshE D S (madeE (rdD D T) S root m B (patsAt (rdD D T) root m B P Q)) = true := by
 obtain ⟨hSc,_,_⟩ := scope_of h.of (rd_few (T := T) hI)
 have hhas := made_has hI h.of
 have e : staleTo D S (nmAt (rdD D T) root) (fun j => S (nmAt (rdD D T) root j)) m = false := any_none fun i hi => by
  rw [hhas i hi]
  simp
 show (!staleTo D S (nmAt (rdD D T) root) (fun j => S (nmAt (rdD D T) root j)) m && decide (0 < m)) = true
 rw [e,decide_eq_true hSc.pos]
 rfl
end Go.Proofs.YtagfngiaogckpaaGreatDoor
namespace Go.Proofs.YtagfngiaogckpaaGreatDoor
open Go.RowKit
theorem sameTexts_zero (a c : Option Addr) (ca cb : Nat) (w : World) :
 Calls Tryz.prog 21 #[.slice a 0 ca,.slice c 0 cb] w fun e w' => e = .returned (.bool true) /\ ∃ k,w' = w.drewN k := by
 go_enter Tryz.func21,Tryz.ntmps21
 go_wp2
 refine wp_loop_rounds 1 ?_
 rw [rounds_succ]
 go_wp2
 go_ret
 exact ⟨rfl,0,rfl⟩
set_option maxHeartbeats 400000 in
theorem sameTexts_some (f : Nat -> ByteArray) (n : Nat) (bx ox cx bY oY cy : Nat) (w : World) (hm : n <= 1000000000)
 (hx : ∀ i,i < n -> w.cell? ⟨bx,ox + i,none⟩ = some (.string (f i)))
 (hy : ∀ i,i < n -> w.cell? ⟨bY,oY + i,none⟩ = some (.string (f i))) :
 Calls Tryz.prog 21 #[.slice (some ⟨bx,ox,none⟩) n cx,.slice (some ⟨bY,oY,none⟩) n cy] w fun e w' => e = .returned (.bool true) /\ ∃ k,w' = w.drewN k := by
 go_enter Tryz.func21,Tryz.ntmps21
 go_wp2
 go_loopw [5] (fun i wr => ∃ k j : Nat,k <= n /\ i = .int .i64 k /\ wr = w.drewN j) (fun i _ => n - (intOf i).toNat)
 case atStart => exact ⟨0,0,Nat.zero_le _,rfl,rfl⟩
 case round =>
  obtain ⟨k,j,hk,rfl,rfl⟩ := hrel
  by_cases hlt : k < n
  ·have hxk := hx k hlt
   have hyk := hy k hlt
   clear hx hy
   generalize f k = z at *
   go_wp2
   go_quiet (fail)
   go_wp2
   go_roundw
   case rel => exact ⟨k + 1,j + nq,by omega,by go_num,rfl⟩
   case measure => simp [intOf]; omega
  ·have hkn : k = n := by omega
   subst hkn
   clear hx hy
   go_wp2
   go_ret
   exact ⟨rfl,j,rfl⟩
theorem sameTexts_true (f g : Nat -> ByteArray) (n : Nat) (a c : Option Addr) (ca cb : Nat) (w : World) (hm : n <= 1000000000)
 (hx : RowAt w a n fun i => .string (f i)) (hy : RowAt w c n fun i => .string (g i)) (he : ∀ i,i < n -> f i = g i) :
 Calls Tryz.prog 21 #[.slice a n ca,.slice c n cb] w fun e w' => e = .returned (.bool true) /\ ∃ k,w' = w.drewN k := by
 rcases hx with h0 | ⟨b,o,rfl,hx⟩
 ·subst h0
  exact sameTexts_zero a c ca cb w
 ·rcases hy with h0 | ⟨b',o',rfl,hy⟩
  ·subst h0
   exact sameTexts_zero _ c ca cb w
  ·exact sameTexts_some f n b o ca b' o' cb w hm hx (fun i hi => by rw [hy i hi,he i hi])
end Go.Proofs.YtagfngiaogckpaaGreatDoor
namespace Go.Proofs.YtagfngiaogckpaaGreatDoor
open Go.RowKit Go.Maps
end Go.Proofs.YtagfngiaogckpaaGreatDoor
