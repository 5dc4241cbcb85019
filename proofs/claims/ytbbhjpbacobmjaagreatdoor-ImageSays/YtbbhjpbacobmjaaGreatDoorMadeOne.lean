/-
  Plain words: where all lie farther by as much, what is near stays as it is, and all else is farther by as much, but what is tied to nobody.
  Plain words: parts that are laid lie apart, inside; so a place is had of one part at most. Parts of a call's own, read.
  Plain words on an image that is bound: what stands at a word that is tied, and at one that isn't.
  Plain words: what was made of a root passes for an entry.
  Plain words on the closed fact ready: one file of one word, that is its own base and three; what is reckoned of it.
  Plain words on closed facts of one file: its one word is its own base and three; what is reckoned of it.
  What At of package image returns, for parts that lie from 0 to 256; memory that was there stays as it was.
  What Filed returns, for every row of acts that are few and not too long: both files, alike; memory that was there stays as it was.
-/
import Derived.Test.YtbbhjpbacobmjaaGreatDoorLayOne
import Derived.Test.YtbbhjpbacobmjaaGreatDoorStmOne
import Derived.Test.YtbbhjpbacobmjaaGreatDoorPlainEntry
import Derived.Test.YtbbhjpbacobmjaaGreatDoorScopeOne
import Derived.Deep.CutRange
namespace Go.Proofs.YtbbhjpbacobmjaaGreatDoor

end Go.Proofs.YtbbhjpbacobmjaaGreatDoor

namespace Go.Proofs.YtbbhjpbacobmjaaGreatDoor
open Go.RowKit Go.Maps

theorem parts_row {w : World} {B0 : Nat} {v : Value} {n : Nat} {nm : Nat → ByteArray} {B : Nat → Int} {M : Nat → Nat} {X : Nat → Nat → Int} {g : Nat} {A : Nat → Option Addr} {C G : Nat → Nat} (h : PartsIn w B0 v n nm B M X g A C G) :
    ∃ a c, v = .slice a n c ∧ n ≤ c ∧ PartRow w a n nm B A M C X := by
  obtain ⟨a, c, rfl, hc⟩ := owns_shape h.own
  refine ⟨a, c, rfl, hc, ?_⟩
  by_cases h0 : n = 0
  · exact .inl h0
  · have key : ∀ i, i < n → ∀ j u, (partC nm B A M C i)[j]? = some u → j < 3 → ∃ g, a = some ⟨g, 0, none⟩ ∧ B0 ≤ g ∧ w.cell? ⟨g, i * 3 + j, none⟩ = some u := fun i hi j u hu hj =>
      owns_cell h.own (by rw [joinC_at (s := 3) (fun i _ => rfl) hi hj]; exact hu)
    obtain ⟨g0, ha, _, _⟩ := key 0 (by omega) 0 _ rfl (by omega)
    refine .inr ⟨g0, 0, ha, fun i hi => ?_⟩
    have get : ∀ j u, (partC nm B A M C i)[j]? = some u → j < 3 → w.cell? ⟨g0, i * 3 + j, none⟩ = some u := fun j u hu hj => by
      obtain ⟨g', ha', _, hc'⟩ := key i hi j u hu hj
      rw [ha] at ha'
      injection ha' with ha'
      injection ha' with ha'
      subst ha'
      exact hc'
    refine ⟨by rw [Nat.zero_add]; exact get 0 _ rfl (by omega), by rw [Nat.zero_add]; exact get 1 _ rfl (by omega), by rw [Nat.zero_add]; exact get 2 _ rfl (by omega), ?_⟩
    by_cases hm : M i = 0
    · exact .inl hm
    · exact .inr ⟨G i, 0, h.out.adr i hi (by omega), fun j hj => by rw [Nat.zero_add]; exact h.out.row i hi j hj⟩
end Go.Proofs.YtbbhjpbacobmjaaGreatDoor

namespace Go.Proofs.YtbbhjpbacobmjaaGreatDoor
open Go.RowKit Go.Maps

section
variable {O : Nat → ObjF} {P Q : ByteArray → Int} {B : Nat → Int} {m : Nat}
end
/-- what a tie of an image tells. -/
structure TieIs (O : Nat → ObjF) (P Q : ByteArray → Int) (B : Nat → Int) (m i q : Nat) (p : Int) : Prop where
  word : (tieW O P Q B i q).2 = if (O i).tKind q = 3 then p + (O i).tAdd q - (B i + (O i).tAt q) else p + (O i).tAdd q
  base : (O i).tKind q = 1 → p = B i
  nobody : (O i).tKind q ≠ 1 → P ((O i).tName q) < 0 → p = 0 ∧ (O i).tWeak q = true
  found : (O i).tKind q ≠ 1 → ¬ P ((O i).tName q) < 0 → ∃ x y : Nat, P ((O i).tName q) = x ∧ Q ((O i).tName q) = y ∧ x < m ∧ y < (O x).nS ∧ p = B x + (O x).sAt y
end Go.Proofs.YtbbhjpbacobmjaaGreatDoor

namespace Go.Proofs.YtbbhjpbacobmjaaGreatDoor
open Go.RowKit Go.Maps

/-- each file's stamp is 1 or more. -/
def StampsPos (D : DataW Unit) : Prop := ∀ s t n, Maps.has D (keyB s) = true → D.atKey (keyB s) (fileD [] 0) = fileD t n → 1 ≤ n
theorem StampsPos.empty : StampsPos (.map []) := fun s t n h _ => by simp [Maps.has] at h
theorem StampsPos.put {D : DataW Unit} {k : Nat} {s : ByteArray} {t : List UInt8} (hI : Inv D k) (h : StampsPos D) : StampsPos (D.put (keyB s) (fileD t ((k : Int) + 1))) := fun x t' n hx ha => by
  by_cases e : x = s
  · subst e
    rw [atKey_put_same hI.tidy.isMap (keyB_key x)] at ha
    have := fileD_stamp ha
    omega
  · rw [has_put_other (fun q => e (keyB_inj' q))] at hx
    rw [atKey_put_other (fun q => e (keyB_inj' q))] at ha
    exact h x t' n hx ha
theorem StampsPos.del {D : DataW Unit} {s : ByteArray} (h : StampsPos D) : StampsPos (D.del (keyB s)) := fun x t' n hx ha => by
  by_cases e : x = s
  · subst e; rw [has_del_same] at hx; cases hx
  · rw [has_del_other (fun q => e (keyB_inj' q))] at hx
    rw [atKey_del_other (fun q => e (keyB_inj' q))] at ha
    exact h x t' n hx ha
theorem base_ok {m : Nat} {sz : Nat → Int} {B : Nat → Int} (h : BasesAre m sz 0 (fun _ => 0) (fun _ => 0) 0 B) {j : Nat} (hj : j < m) (h1 : 1 ≤ sz j) (h2 : sz j ≤ 40) : 0 ≤ B j ∧ B j < 256 ∧ B j % 16 = 0 := by
  have key : ∀ F, BasesAre m sz 0 (fun _ => 0) (fun _ => 0) F B → F = 0 → Laid (fun _ => 0) (fun _ => 0) 0 sz B j := fun F h hF => by
    cases h with
    | bad _ h => exact absurd hF h
    | full _ _ => cases hF
    | ok _ _ hl => exact hl j hj
  obtain ⟨k, hk, hb⟩ := key 0 h rfl
  have hin := hb.inside
  have hr := roundF_many h1 h2
  omega
end Go.Proofs.YtbbhjpbacobmjaaGreatDoor

namespace Go.Proofs.YtbbhjpbacobmjaaGreatDoor
open Go.RowKit Go.Maps

abbrev zzT : ByteArray := ⟨#[119, 111, 114, 100, 32, 53, 10, 98, 97, 115, 101, 32, 48, 32, 51, 10]⟩
abbrev zzO : ObjF := addTie (addWord emptyO 5) 0 1 3 ⟨#[]⟩ false
theorem itoa_five : Lib.itoa 5 = [53] := by
  unfold Lib.itoa
  rw [if_neg (by decide), Lib.decDigits_one (by decide)]
  rfl
theorem itoa_three : Lib.itoa 3 = [51] := by
  unfold Lib.itoa
  rw [if_neg (by decide), Lib.decDigits_one (by decide)]
  rfl
theorem parse_zz : (parseF zzT).1 = 0 ∧ SameO (parseF zzT).2 zzO := by
  refine parse_is (by decide) ?_ (by decide)
  show (([] : List UInt8) ++ ([] ++ lineL false [[119, 111, 114, 100], Lib.itoa 5]) ++ [] ++ ([] ++ lineL false [[98, 97, 115, 101], Lib.itoa 0, Lib.itoa 3])) = _
  rw [itoa_zero, itoa_five, itoa_three]
  rfl
theorem bases_zz : BasesAre 1 (fun _ => 1) 0 (fun _ => 0) (fun _ => 0) 0 (fun _ => 0) := by
  refine .ok _ (by decide) fun j hj => ?_
  obtain rfl : j = 0 := by omega
  exact ⟨0, by decide, by decide, by decide, fun j hj => by omega⟩
end Go.Proofs.YtbbhjpbacobmjaaGreatDoor

namespace Go.Proofs.YtbbhjpbacobmjaaGreatDoor
open Go.RowKit Go.Maps

theorem write_ia : writeF (.map []) 0 bnA zzT = 0 := by decide
abbrev fia : DataW Unit := DataW.put (.map []) (keyB bnA) (fileD zzT.data.toList (((0 : Nat) : Int) + 1))
theorem inv_ia : Inv fia 1 := Inv.put Inv.empty write_ia
theorem has_ia : Maps.has fia (keyB bnA) = true := has_put_same ⟨[], rfl⟩ (keyB_key bnA) _
theorem rd_ia {T : ByteArray → ByteArray} (hT : Texts fia T) : rdD fia T bnA = parseF zzT := by
  have h2 : fia.atKey (keyB bnA) (fileD [] 0) = fileD zzT.data.toList (((0 : Nat) : Int) + 1) := atKey_put_same ⟨[], rfl⟩ (keyB_key bnA) _ _
  have h3 := hT.is bnA zzT _ has_ia h2
  unfold rdD
  rw [if_pos has_ia, ← h3]
theorem of_one {rd : ByteArray → Nat × ObjF} {n : ByteArray} (hA : rd n = parseF zzT) : OfIs rd n 0 1 ∧ nmAt rd n 0 = n := by
  have e0 : nmAt rd n 0 = n := rfl
  have hn1 : namesAt rd n 1 = [n] := by
    show joinL [n] (needsTo (rd n).2 (rd n).2.nN) = _
    rw [hA, parse_zz.2.nN]
    rfl
  refine ⟨.ok 1 (fun j hj => ?_) (by rw [hn1]; rfl), e0⟩
  obtain rfl : j = 0 := by omega
  exact ⟨by simp [namesAt], by rw [e0, hA]; exact parse_zz.1⟩
theorem reck_one {rd : ByteArray → Nat × ObjF} {n : ByteArray} (hA : rd n = parseF zzT) : ∃ P Q, Reckoned rd n 1 (fun _ => 0) P Q ∧ boundW rd n 1 (fun _ => 0) P Q 0 0 = 3 ∧ (obAt rd n 0).nW = 1 ∧ (patsAt rd n 1 (fun _ => 0) P Q) = [(0, 0, 3)] := by
  obtain ⟨hO, e0⟩ := of_one hA
  have o0 : obAt rd n 0 = (parseF zzT).2 := by show (rd (nmAt rd n 0)).2 = _; rw [e0, hA]
  have sA := parse_zz.2
  obtain ⟨P, Q, hP⟩ := finds_some (symsF 1 (obAt rd n))
  have t0 := sA.ties 0 (by decide)
  have hw : whereF (obAt rd n) P Q (fun _ => 0) 0 0 = some 0 := by
    unfold whereF
    rw [o0, t0.2.1]
    rw [if_pos (by decide)]
  have ht : tieW (obAt rd n) P Q (fun _ => 0) 0 0 = (0, 3) := by
    unfold tieW
    rw [hw, o0, t0.2.1, t0.1, t0.2.2.1]
    decide
  have n0 : (obAt rd n 0).nT = 1 := by rw [o0, sA.nT]; rfl
  have hp : patsAt rd n 1 (fun _ => 0) P Q = [(0, 0, 3)] := by
    show [] ++ patsOf (obAt rd n) P Q (fun _ => 0) 0 (obAt rd n 0).nT = _
    rw [n0]
    show [] ++ ([] ++ [(0, (obAt rd n 0).tAt 0, (tieW (obAt rd n) P Q (fun _ => 0) 0 0).2)]) = _
    rw [ht, o0, t0.1]
    rfl
  refine ⟨P, Q, ⟨hO, bases_zz.sizes fun i hi => ?_, fun _ _ => rfl, hP, ?_⟩, ?_, ?_, hp⟩
  · obtain rfl : i = 0 := by omega
    show (1 : Int) = ((obAt rd n 0).nW : Int)
    rw [o0, sA.nW]; rfl
  · unfold allF
    rw [if_neg (by decide), if_neg (by decide)]
    show seqF 0 (faultTo (fun k => (tieW (obAt rd n) P Q (fun _ => 0) 0 k).1) (obAt rd n 0).nT) = 0
    rw [n0]
    show seqF 0 (seqF 0 (tieW (obAt rd n) P Q (fun _ => 0) 0 0).1) = 0
    rw [ht]
    decide
  · unfold boundW
    rw [hp]
    show (if pP [(0, 0, 3)] 0 = ((0 : Nat) : Int) ∧ pT [(0, 0, 3)] 0 = ((0 : Nat) : Int) then pV [(0, 0, 3)] 0 else _) = 3
    rw [if_pos (by decide)]
    decide
  · rw [o0, sA.nW]; rfl
end Go.Proofs.YtbbhjpbacobmjaaGreatDoor

namespace Go.Proofs.YtbbhjpbacobmjaaGreatDoor
open Go.RowKit

/-- a call of At that returned: the word of the first part that has it. -/
inductive AtEnd (n : Nat) (B : Nat → Int) (M : Nat → Nat) (X : Nat → Nat → Int) (at' : Int) : Ending → Prop
  | yes (i : Nat) (hi : i < n) (h : hasB B M at' i = true) (hf : ∀ j, j < i → hasB B M at' j = false) : AtEnd n B M X at' (.returned (.tuple #[.int .i64 (X i (at' - B i).toNat), .bool true]))
  | no (h : ∀ j, j < n → hasB B M at' j = false) : AtEnd n B M X at' (.returned (.tuple #[.int .i64 0, .bool false]))

set_option maxHeartbeats 2000000 in
theorem at_any (a : Option Addr) (n c : Nat) (nm : Nat → ByteArray) (B : Nat → Int) (A : Nat → Option Addr) (M C : Nat → Nat) (X : Nat → Nat → Int) (at' : Int) (w : World) (hn : n ≤ 1000) (hB : ∀ i, i < n → 0 ≤ B i ∧ B i ≤ 256) (hM : ∀ i, i < n → M i ≤ 1000) (hat : at' ≤ 9223372036854775807) (hr : PartRow w a n nm B A M C X) :
    Calls Tryz.prog 24 #[.slice a n c, .int .i64 at'] w fun e w' => AtEnd n B M X at' e ∧ Below w.heap.size w w' := by
  go_enter Tryz.func24, Tryz.ntmps24
  go_wp2
  go_loopw [11] (fun z wr => ∃ k : Nat, k ≤ n ∧ z = .int .i64 k ∧ Hid (∀ j, j < k → hasB B M at' j = false) ∧ Below w.heap.size w wr) (fun z _ => n - (intOf z).toNat)
  case atStart => exact ⟨0, Nat.zero_le _, rfl, fun j hj => by omega, Below.refl _ _⟩
  case round =>
    obtain ⟨k, hk, rfl, HK, hb⟩ := hrel
    by_cases hlt : k < n
    · have hr1 := hr.later hb
      rcases hr1 with h0 | ⟨bk, o, rfl, hc⟩
      · omega
      obtain ⟨c0, c1, c2, hrw⟩ := hc k hlt
      have hBk := hB k hlt
      have hMk := hM k hlt
      have hx : ∀ ob : Obj, Below w.heap.size w (wr.alloc ob) := fun ob => hb.alloc hb.size ob
      clear hc
      by_cases h1 : at' < B k
      · have HE : Hid (∀ j, j < k + 1 → hasB B M at' j = false) := fun j hj => by
          by_cases e : j = k
          · subst e; unfold hasB; rw [decide_eq_false (by omega), Bool.false_and]
          · exact HK.out j (by omega)
        clear HK
        go_wp2
        go_roundw
        case rel => exact ⟨k + 1, by omega, by go_num, HE, hx _⟩
        case measure => simp [intOf]; omega
      · obtain ⟨d, hd⟩ : ∃ d : Nat, at' = B k + d := ⟨(at' - B k).toNat, by omega⟩
        by_cases h2 : d < M k
        · rcases hrw with h0 | ⟨bw, ow, ha, hcw⟩
          · omega
          rw [ha] at c2
          have hcd := cell_later ((Below.refl wr.heap.size wr).alloc (Nat.le_refl _) (.cells #[.string (nm k), .int .i64 (B k), .slice (some ⟨bw, ow, none⟩) (M k) (C k)] 58)) (hcw d h2)
          have HE : Hid (hasB B M at' k = true) := by show _ = true; unfold hasB; rw [decide_eq_true (by omega), decide_eq_true (by omega)]; rfl
          have HD : Hid ((at' - B k).toNat = d) := by show _ = _; omega
          have hsub : at' - B k = (d : Int) := by omega
          have hat0 : 0 ≤ at' := by omega
          have hdm : (d : Int) ≤ 1000 := by omega
          clear hcw hd
          go_wp2
          go_ret2
          rw [← HD.out]
          exact ⟨.yes k hlt HE.out HK.out, hx _⟩
        · have HE : Hid (∀ j, j < k + 1 → hasB B M at' j = false) := fun j hj => by
            by_cases e : j = k
            · subst e; unfold hasB; rw [decide_eq_false (p := at' < B j + M j) (by omega), Bool.and_false]
            · exact HK.out j (by omega)
          have hsub : at' - B k = (d : Int) := by omega
          have hat0 : 0 ≤ at' := by omega
          have hdm : (d : Int) ≤ 9223372036854775807 := by omega
          clear HK hd
          go_wp2
          go_roundw
          case rel => exact ⟨k + 1, by omega, by go_num, HE, hx _⟩
          case measure => simp [intOf]; omega
    · have HE : Hid (∀ j, j < n → hasB B M at' j = false) := fun j hj => HK.out j (by omega)
      clear HK
      go_wp2
      go_ret2
      exact ⟨.no HE.out, hb⟩
end Go.Proofs.YtbbhjpbacobmjaaGreatDoor

namespace Go.Proofs.YtbbhjpbacobmjaaGreatDoor
open Go.RowKit Go.Maps

abbrev bB : ByteArray := ⟨#[98]⟩
theorem same_self (F : Nat) (w : World) : Calls Tryz.prog 15 #[errV F, .int .i64 (F : Int)] w fun e w' => e = .returned (.bool true) ∧ w = w' :=
  (same_errV F F w).mono fun _ _ ⟨h, h2⟩ => ⟨by rw [h]; simp, h2⟩
theorem undrewT {p bm : Nat} {w w' : World} (h : Turned p bm w.drew w') : Turned p bm w w' := ⟨h.os, h.tape, h.output, h.size, h.block⟩
theorem both_write {B p bm q k : Nat} {w w' : World} {D : DataW Unit} {L : List FileR} {s t : ByteArray} {F : Nat} (h : Both B w p bm q D L k) (hF : writeF D k s t = F)
    (f1 : F = 0 → FilesAt w' p bm (D.put (keyB s) (fileD t.data.toList ((k : Int) + 1))) (k + 1)) (f2 : F ≠ 0 → FilesAt w' p bm D k) (r1 : F = 0 → RAt B w' q (putR ⟨s, t, (k : Int) + 1⟩ L) (k + 1)) (r2 : F ≠ 0 → RAt B w' q L k) : ∃ D' L' k', Both B w' p bm q D' L' k' := by
  by_cases h0 : F = 0
  · have hF0 : writeF D k s t = 0 := hF.trans h0
    exact ⟨_, _, _, f1 h0, r1 h0, h.inv.put hF0, h.agree.put h.inv s t _, by have := (writeF_ok hF0).2.2; omega⟩
  · exact ⟨_, _, _, f2 h0, r2 h0, h.inv, h.agree, h.most⟩
/-- a call of Filed that returned both, alike. -/
def FiledEnd (B : Nat) (_ : World) (e : Ending) (w' : World) : Prop := ∃ p bm q D L k, e = .returned (.tuple #[.pointer (some ⟨p, 0, none⟩), .pointer (some ⟨q, 0, none⟩), .bool true]) ∧ Both B w' p bm q D L k ∧ B ≤ p ∧ B ≤ bm

set_option maxRecDepth 100000 in
set_option maxHeartbeats 8000000 in
theorem filed_any (a : Option Addr) (n c : Nat) (X : Nat → ActF) (w : World) (hr : ActsRow w a n X) (hn : n ≤ 1000) (hs : ∀ i, i < n → (X i).s.size ≤ 100 ∧ (X i).t.size ≤ 1300) :
    Calls Tryz.prog 10 #[.slice a n c] w fun e w' => FiledEnd w.heap.size w e w' ∧ Below w.heap.size w w' := by
  have HN := new_any w
  go_enter Tryz.func10, Tryz.ntmps10
  go_wp2_with fail
  refine HN.mono ?_
  rintro e w1 ⟨p, bm, rfl, hp, hbm, hF, hb⟩
  clear HN
  have hb1 : Below w1.heap.size w1 (w1.alloc (.cells #[.slice none 0 0, .int .i64 0] 104)) := (Below.refl _ _).alloc (Nat.le_refl _) _
  have hBoth : Both w.heap.size (w1.alloc (.cells #[.slice none 0 0, .int .i64 0] 104)) p bm w1.heap.size (.map []) [] 0 := by
    refine ⟨hF.later hb1, ⟨hb.size, .slice none 0 0, ?_, World.ownsRow_nil _ _ _ _⟩, Inv.empty, Agree.empty, by omega⟩
    show (w1.heap.push _)[w1.heap.size]? = _
    rw [Array.getElem?_push_size]
    rfl
  have hB1 := hb.trans (hb1.mono hb.size)
  obtain ⟨q, hq⟩ : ∃ q, w1.heap.size = q := ⟨_, rfl⟩
  rw [hq] at hBoth
  have HQ : Hid (w1.heap.size = q) := hq
  have hqB : w.heap.size ≤ q := by rw [← hq]; exact hb.size
  go_wp2
  generalize w1.alloc (.cells #[.slice none 0 0, .int .i64 0] 104) = Y at *
  clear hq hb1 hF hb
  go_loopw [7] (fun x wr => ∃ (i : Nat) (D : DataW Unit) (L : List FileR) (k : Nat), i ≤ n ∧ x = .int .i64 i ∧ Both w.heap.size wr p bm q D L k ∧ Below w.heap.size w wr) (fun x _ => n - (intOf x).toNat)
  case atStart => exact ⟨0, _, _, 0, Nat.zero_le _, rfl, hBoth, hB1⟩
  case round =>
    clear hBoth hB1
    obtain ⟨i, D, L, k, hi, rfl, hBo, hB⟩ := hrel
    by_cases hlt : i < n
    · rcases hr with h0 | ⟨bk, o, rfl, hc⟩
      · omega
      have H := (hc i hlt).later hB
      have d0 := H.c0
      have d1 := H.c1
      have d2 := H.c2
      have d3 := H.c3
      have d4 := H.c4
      have d5 := H.c5
      have d6 := H.c6
      have d7 := H.c7
      obtain ⟨hs1, hs2⟩ := hs i hlt
      have hml : (X i).s.size ≤ maxLen := by simp only [maxLen]; omega
      generalize X i = x at *
      have hbA : ∀ ob : Obj, Below wr.heap.size wr (wr.alloc ob) := fun ob => (Below.refl _ _).alloc (Nat.le_refl _) ob
      have hp8 : wr.heap.size ≠ p := Nat.ne_of_gt hBo.f.lt
      have hm8 : wr.heap.size ≠ bm := Nat.ne_of_gt hBo.f.own.lt
      have hq8 : wr.heap.size ≠ q := by obtain ⟨v, hv, _⟩ := hBo.r.blk; exact Nat.ne_of_gt (Array.getElem?_eq_some_iff.1 hv).1
      have cK : (wr.alloc (.cells #[.string x.kind, .string x.s, .string x.t, .int .i64 x.a, .int .u64 x.k, .string x.root, .slice x.pa x.pn x.pc, .slice x.qa x.qn x.qc] 82)).cell? ⟨wr.heap.size, 0, none⟩ = some (.string x.kind) := by simp [go_sem]
      have cS : (wr.alloc (.cells #[.string x.kind, .string x.s, .string x.t, .int .i64 x.a, .int .u64 x.k, .string x.root, .slice x.pa x.pn x.pc, .slice x.qa x.qn x.qc] 82)).cell? ⟨wr.heap.size, 1, none⟩ = some (.string x.s) := by simp [go_sem]
      have cT : (wr.alloc (.cells #[.string x.kind, .string x.s, .string x.t, .int .i64 x.a, .int .u64 x.k, .string x.root, .slice x.pa x.pn x.pc, .slice x.qa x.qn x.qc] 82)).cell? ⟨wr.heap.size, 2, none⟩ = some (.string x.t) := by simp [go_sem]
      clear H
      go_upto_if 33 with fail
      have hBo1 := hBo.later (hbA (.cells #[.string x.kind, .string x.s, .string x.t, .int .i64 x.a, .int .u64 x.k, .string x.root, .slice x.pa x.pn x.pc, .slice x.qa x.qn x.qc] 82))
      have hB2 := hB.trans ((hbA (.cells #[.string x.kind, .string x.s, .string x.t, .int .i64 x.a, .int .u64 x.k, .string x.root, .slice x.pa x.pn x.pc, .slice x.qa x.qn x.qc] 82)).mono hB.size)
      clear d0 d1 d2 d3 d4 d5 d6 d7 cK hBo hbA
      generalize wr.alloc (.cells #[.string x.kind, .string x.s, .string x.t, .int .i64 x.a, .int .u64 x.k, .string x.root, .slice x.pa x.pn x.pc, .slice x.qa x.qn x.qc] 82) = A1 at *
      generalize wr.heap.size = b8 at *
      go_cut [9] from 33 to 55 (fun v wc => v = .bool true ∧ (∃ D' L' k', Both w.heap.size wc p bm q D' L' k') ∧ Below w.heap.size w wc ∧ wc.cell? ⟨b8, 1, none⟩ = some (.string x.s))
      case first =>
        have hF1 := hBo1.f
        have hR1 := hBo1.r
        have hl6 : L.length ≤ 1000 := by have := hBo1.len; omega
        have hz6 : Maps.size D ≤ 1000 := by have := hBo1.inv.size; omega
        by_cases hk : x.kind = kWrite
        · have e1 : (x.kind.toList == [119, 114, 105, 116, 101]) = true := by rw [hk, ByteArray.toList_eq]; rfl
          obtain ⟨F, hFw⟩ : ∃ F, writeF D k x.s x.t = F := ⟨_, rfl⟩
          have hFr : writeRF L k x.s x.t = F := (hBo1.agree.fault hBo1.inv hF1.own hBo1.most x.s x.t).symm.trans hFw
          have HW := fun W (hW : FilesAt W p bm D k) => write_any W p bm D k x.s x.t hW hml hz6
          have HWR := fun W (hW : RAt w.heap.size W q L k) (hWB : w.heap.size ≤ W.heap.size) => writeR_any w.heap.size W q L k x.s x.t hW hl6 hWB hml hBo1.most
          rw [hFw] at HW
          rw [hFr] at HWR
          have HS := fun W => same_self F W
          have hfin : ∀ {W}, (F = 0 → FilesAt W p bm (D.put (keyB x.s) (fileD x.t.data.toList ((k : Int) + 1))) (k + 1)) → (F ≠ 0 → FilesAt W p bm D k) → (F = 0 → RAt w.heap.size W q (putR ⟨x.s, x.t, (k : Int) + 1⟩ L) (k + 1)) → (F ≠ 0 → RAt w.heap.size W q L k) → ∃ D' L' k', Both w.heap.size W p bm q D' L' k' := fun a b c d => both_write hBo1 hFw a b c d
          clear hFw hFr hBo1 hk
          go_upto_region 11 with fail
          rotate_left
          · exact absurd (e1.symm.trans (show (x.kind.toList == [119, 114, 105, 116, 101]) = false by assumption)) (by decide)
          go_region_law
            (go_simp
             first
               | (go_at_call 36
                  refine (HW _ ?hw).mono ?_
                  case hw => (first | exact hF1 | exact hF1.later (Below.refl _ _).drew | exact hF1.later (Below.refl _ _).drew.drew | exact hF1.later (Below.refl _ _).drew.drew.drew | exact hF1.later (Below.refl _ _).drew.drew.drew.drew)
                  intro e w3 hE
                  have he := hE.e
                  subst he
                  have hT3 := hE.turned
                  repeat (replace hT3 := undrewT hT3)
                  have hFy := hE.yes
                  have hFn := hE.no
                  replace hR1 := hR1.turned hF1 hT3
                  replace cS := cell_turned hT3 cS hp8 hm8
                  replace cT := cell_turned hT3 cT hp8 hm8
                  replace hB2 := hB2.trans (hT3.below hB2.size hp hbm)
                  clear hE hT3 HW)
               | (go_at_call 37
                  refine (HWR _ ?hw ?hs).mono ?_
                  case hw => (first | exact hR1 | exact hR1.later (Below.refl _ _).drew | exact hR1.later (Below.refl _ _).drew.drew | exact hR1.later (Below.refl _ _).drew.drew.drew)
                  case hs => exact hB2.size
                  intro e w4 hE
                  have he := hE.e
                  subst he
                  have hT4 := hE.turned
                  repeat (replace hT4 := undrewT hT4)
                  have hall := hfin (fun h => (hFy h).turnedQ hR1 hT4) (fun h => (hFn h).turnedQ hR1 hT4) hE.yes hE.no
                  replace cS := cell_turned hT4 cS hq8 hq8
                  replace cT := cell_turned hT4 cT hq8 hq8
                  replace hB2 := hB2.trans (hT4.below hB2.size hqB hqB)
                  clear hE hT4 HWR hFy hFn)
               | (go_at_call 15
                  refine (HS _).mono ?_
                  rintro e w5 ⟨rfl, rfl⟩))
          all_goals
            go_wp2
            go_meet
            exact ⟨rfl, hall, hB2, cS⟩
        · have e1 : (x.kind.toList == [119, 114, 105, 116, 101]) = false := by
            rw [beq_eq_false_iff_ne]
            intro z
            apply hk
            have : x.kind.toList = kWrite.toList := by rw [z, ByteArray.toList_eq]
            rw [ByteArray.toList_eq, ByteArray.toList_eq] at this
            exact WideShapes.bytes_inj this
          obtain ⟨F, hFw⟩ : ∃ F : Nat, F = if Maps.has D (keyB x.s) = true then 0 else 5 := ⟨_, rfl⟩
          have hgone : (if (delR x.s L).length = L.length then (5 : Int) else 0) = ((F : Nat) : Int) := by
            rw [hFw, hBo1.agree.gone hBo1.inv x.s]
            by_cases z : (delR x.s L).length = L.length
            · rw [if_pos z, if_pos z]; rfl
            · rw [if_neg z, if_neg z]; rfl
          have HW := fun W (hW : FilesAt W p bm D k) => remove_any W p bm D k x.s hW hml F hFw
          have HWR := fun W (hW : RAt w.heap.size W q L k) (hWB : w.heap.size ≤ W.heap.size) => removeR_any w.heap.size W q L k x.s hW hl6 hWB
          have HS := fun W => same_self F W
          have hfin : ∀ {W}, FilesAt W p bm (D.del (keyB x.s)) k → RAt w.heap.size W q (delR x.s L) k → ∃ D' L' k', Both w.heap.size W p bm q D' L' k' := fun a b => ⟨_, _, _, a, b, hBo1.inv.del, hBo1.agree.del x.s, hBo1.most⟩
          clear hFw hBo1 hk
          go_upto_region 12 with fail
          · exact absurd ((show (x.kind.toList == [119, 114, 105, 116, 101]) = true by assumption).symm.trans e1) (by decide)
          go_region_law
            (go_simp
             first
               | (go_at_call 38
                  refine (HW _ ?hw).mono ?_
                  case hw => (first | exact hF1 | exact hF1.later (Below.refl _ _).drew | exact hF1.later (Below.refl _ _).drew.drew | exact hF1.later (Below.refl _ _).drew.drew.drew)
                  rintro e w3 ⟨rfl, hF3, hT3⟩
                  repeat (replace hT3 := undrewT hT3)
                  replace hR1 := hR1.turned hF1 hT3
                  replace cS := cell_turned hT3 cS hp8 hm8
                  replace hB2 := hB2.trans (hT3.below hB2.size hp hbm)
                  clear hT3 HW)
               | (go_at_call 39
                  refine (HWR _ ?hw ?hs).mono ?_
                  case hw => (first | exact hR1 | exact hR1.later (Below.refl _ _).drew | exact hR1.later (Below.refl _ _).drew.drew | exact hR1.later (Below.refl _ _).drew.drew.drew)
                  case hs => exact hB2.size
                  intro e w4 hE
                  have he := hE.e
                  rw [hgone] at he
                  subst he
                  have hT4 := hE.turned
                  repeat (replace hT4 := undrewT hT4)
                  have hall := hfin (hF3.turnedQ hR1 hT4) hE.at'
                  replace cS := cell_turned hT4 cS hq8 hq8
                  replace hB2 := hB2.trans (hT4.below hB2.size hqB hqB)
                  clear hE hT4 HWR)
               | (go_at_call 15
                  refine (HS _).mono ?_
                  rintro e w5 ⟨rfl, rfl⟩))
          all_goals
            go_wp2
            go_meet
            exact ⟨rfl, hall, hB2, cS⟩
      case rest =>
        obtain ⟨rfl, ⟨D2, L2, k2, hBo2⟩, hB3, cS2⟩ := hcut
        have HR := fileRead_any wc p bm D2 k2 x.s hBo2.f hml
        clear hBo1 cS cT hB2
        go_wp2_with fail
        refine HR.mono ?_
        rintro e w3 ⟨⟨t, nn, f, rfl, hRI⟩, hb3⟩
        have hBo3 := hBo2.later hb3
        have hB4 := hB3.trans (hb3.mono hB3.size)
        replace cS2 := cell_later hb3 cS2
        have HR2 := readR_any w.heap.size w3 q L2 k2 x.s hBo3.r (by have := hBo3.len; omega)
        clear HR hBo2 hB3 hb3
        go_wp2_with fail
        refine HR2.mono ?_
        rintro e w4 ⟨⟨t', nn', f', rfl, hRI2⟩, hb4⟩
        obtain ⟨rfl, rfl, rfl⟩ := hBo3.agree.read hBo3.inv hRI hRI2
        have hBo4 := hBo3.later hb4
        have hB5 := hB4.trans (hb4.mono hB4.size)
        have HS := fun W => same_self f W
        have HL := list_any w4 p bm D2 k2 hBo4.f (by have := hBo4.inv.size; omega)
        clear HR2 hRI hRI2 hBo3 hB4 hb4 cS2
        go_wp2_with fail
        refine (HS _).mono ?_
        rintro e w' ⟨rfl, rfl⟩
        go_wp2_with fail
        refine HL.mono ?_
        rintro e w5 ⟨⟨v5, rfl, hown5⟩, hb5⟩
        have hBo5 := hBo4.later hb5
        have hB6 := hB5.trans (hb5.mono hB5.size)
        have HL2 := listR_any w.heap.size w5 q L2 k2 hBo5.r (by have := hBo5.len; omega)
        have hnames := hBo5.agree.names hBo5.inv hBo5.f.own
        clear HL HS hBo4 hB5
        go_wp2_with fail
        refine HL2.mono ?_
        rintro e w6 ⟨⟨v6, rfl, hown6⟩, hb6⟩
        have hBo6 := hBo5.later hb6
        have hB7 := hB6.trans (hb6.mono hB6.size)
        have hown5' := owns_below hown5 hb6
        obtain ⟨a5, c5, rfl, _⟩ := owns_shape hown5
        obtain ⟨a6, c6, rfl, _⟩ := owns_shape hown6
        have hlenN : (namesF D2).length = L2.length := by rw [hnames, List.length_map]
        have row5 : RowAt w6 a5 L2.length fun i => .string (nmF D2 i) := by
          by_cases h0 : L2.length = 0
          · exact .inl h0
          · obtain ⟨g, hg, _, _⟩ := owns_cell hown5' (nm_cell (D := D2) (i := 0) (by omega))
            refine .inr ⟨g, 0, hg, fun i hi => ?_⟩
            obtain ⟨g', hg', _, hcl⟩ := owns_cell hown5' (nm_cell (D := D2) (i := i) (by omega))
            rw [hg] at hg'
            injection hg' with hg'
            injection hg' with hg'
            subst hg'
            simpa using hcl
        have row6 : RowAt w6 a6 L2.length fun i => .string (nmF D2 i) := by
          have cell : ∀ i, i < L2.length → (L2.map fun f => Value.string f.nm)[i]? = some (.string (nmF D2 i)) := fun i hi => by
            rw [List.getElem?_map, List.getElem?_eq_getElem hi]
            simp only [Option.map_some, Option.some.injEq, Value.string.injEq]
            apply ba_ext
            unfold nmF
            rw [hnames]
            simp [List.getD_eq_getElem?_getD, List.getElem?_eq_getElem hi]
          by_cases h0 : L2.length = 0
          · exact .inl h0
          · obtain ⟨g, hg, _, _⟩ := owns_cell hown6 (cell 0 (by omega))
            refine .inr ⟨g, 0, hg, fun i hi => ?_⟩
            obtain ⟨g', hg', _, hcl⟩ := owns_cell hown6 (cell i hi)
            rw [hg] at hg'
            injection hg' with hg'
            injection hg' with hg'
            subst hg'
            simpa using hcl
        have HT := sameTx_true (nmF D2) (nmF D2) L2.length a5 a6 c5 c6 w6 (by have := hBo6.len; omega) row5 row6 (fun _ _ => rfl)
        rw [hlenN]
        clear HL2 hown5 hown5' hown6 row5 row6 hnames hBo5 hB6
        go_wp2_with fail
        refine HT.mono ?_
        rintro e w7 ⟨rfl, kk, hw7⟩
        have hb7 : Below w6.heap.size w6 w7 := by rw [hw7]; exact below_drewN (Below.refl _ _) kk
        have hBo7 := hBo6.later hb7
        have hB8 := hB7.trans (hb7.mono hB7.size)
        clear HT hw7 hBo6 hB7
        go_wp2
        go_roundw
        case rel => exact ⟨i + 1, D2, L2, k2, by omega, by go_num, hBo7, hB8⟩
        case measure => simp [intOf]; omega
    · go_wp2
      go_ret3
      exact ⟨⟨p, bm, q, D, L, k, rfl, hBo, hp, hbm⟩, hB⟩
end Go.Proofs.YtbbhjpbacobmjaaGreatDoor
