/-
  What textOf of package shelf returns, of entries that may be: their lines; what readBody returns, of a disk that isn't down: what stands in a body, but for the noughts at its end.
  The head of a shelf, as a text of one sector.
  A region that draws its order, walked by hand: what only reads is taken as early as it may come up; what is left comes up alone. S: what the world keeps till operation number e has come up.
  What readHead of package shelf returns, of any disk: the head that stands in its first sector, or the number of the error.
  What writeHead of package shelf does, of any disk.
  A shelf on a disk, in plain words: what stands on it; what is left where entries are kept, and where the disk falls meanwhile.
  What writeBody of package shelf does, of any disk that isn't down and on which nothing is late: the body is kept, or the disk fell, and all but that body is as it was.
-/
import Derived.Test.YtidabcoodolddaaGreatDoorShelfSmall
import Derived.Test.YtidabcoodolddaaGreatDoorPlainLine
import Derived.Test.YtidabcoodolddaaGreatDoorDiskOne
import Derived.Test.YtidabcoodolddaaGreatDoorEntText
import Derived.Test.YtidabcoodolddaaGreatDoorBuildUse
import Derived.Lib.TrimByte
import Derived.Test.YtidabcoodolddaaGreatDoorShelf
import Derived.Test.YtidabcoodolddaaGreatDoorAtAll
import Derived.Test.YtidabcoodolddaaGreatDoorErr
import Derived.Laws.IdiomStrings
import Derived.WideShapes
import Derived.OrdersHeld
import Derived.RegionTactic
import Derived.KernelRfl
namespace Go.Proofs.YtidabcoodolddaaGreatDoor
open Go.RowKit

theorem EntOk.fit {e : EntF} (h : EntOk e) : EntFit e := by
  have hm : (1000 : Nat) ≤ maxLen := by decide
  have h1 := h.nP
  have h2 := h.nQ
  refine ⟨?_, by omega, by omega, fun i hi => ?_⟩
  · have := nameF_len h.root
    have e1 : e.root.size = e.root.data.toList.length := by simp
    omega
  · have := nameF_len (h.parts i hi).1
    have e1 : (e.pName i).size = (e.pName i).data.toList.length := by simp
    omega
set_option maxRecDepth 100000 in
set_option maxHeartbeats 4000000 in
theorem textOf_any (a : Option Addr) (k c : Nat) (V : Nat → EntV) (E : Nat → EntF) (w : World) (hE : Env w) (hk : k ≤ 3) (hok : ∀ i, i < k → entF (E i) = 0) (hr : EntsRow w a k V E) :
    Calls Tryz.prog 85 #[.slice a k c] w fun e w' => e = .returned (.tuple #[.string ⟨(linesE E k).toArray⟩, .nilIface]) ∧ Below w.heap.size w w' := by
  have hS := built_start w
  have q0 : errV 0 = .nilIface := rfl
  go_enter Tryz.func85, Tryz.ntmps85
  go_wp2
  go_loopw [11] (fun y wr => ∃ i : Nat, i ≤ k ∧ y = .int .i64 i ∧ Built w wr (linesE E i)) (fun y _ => k - (intOf y).toNat)
  case atStart => exact ⟨0, Nat.zero_le _, rfl, hS⟩
  case round =>
    clear hS
    obtain ⟨i, hi, rfl, hS⟩ := hrel
    by_cases hlt : i < k
    · rcases hr with h0 | ⟨bk, o, rfl, hc⟩
      · omega
      obtain ⟨c0, c1, c2, hA⟩ := (hc i hlt).later hS.below
      have hOk := entOk (hok i hlt)
      have hl1 := lineE_len hOk
      have hl2 : (linesE E i).length ≤ 2256 := linesE_len (by omega) (fun j hj => entOk (hok j (by omega)))
      have hb0 : Below wr.heap.size wr (wr.alloc (.cells (entCs (V i) (E i)) 62)) := (Below.refl _ _).alloc (Nat.le_refl _) _
      have HT := entText_any (V i) (E i) _ (hA.later hb0) hOk.fit ((hE.later hS.below).later hb0)
      rw [textE_ok (hok i hlt), q0] at HT
      have d0 : (wr.alloc (.cells (entCs (V i) (E i)) 62)).cell? ⟨wr.heap.size, 0, none⟩ = some (.string (E i).root) := by simp [go_sem]
      have d1 : (wr.alloc (.cells (entCs (V i) (E i)) 62)).cell? ⟨wr.heap.size, 1, none⟩ = some (.slice (V i).aP (E i).nP (V i).cP) := by simp [go_sem]
      have d2 : (wr.alloc (.cells (entCs (V i) (E i)) 62)).cell? ⟨wr.heap.size, 2, none⟩ = some (.slice (V i).aQ (E i).nQ (V i).cQ) := by simp [go_sem]
      have hi0 : (0 : Int) ≤ (i : Int) := by omega
      have hi1 : (i : Int) < (k : Int) := by omega
      have HL : Hid (linesE E (i + 1) = linesE E i ++ lineE (E i)) := rfl
      have hsz := ba_size (lineE (E i))
      have HD : Hid ((⟨(lineE (E i)).toArray⟩ : ByteArray).data.toList = lineE (E i)) := ba_mk _
      unfold entCs at HT hb0 d0 d1 d2
      generalize lineE (E i) = ln at *
      generalize (⟨ln.toArray⟩ : ByteArray) = T at *
      clear hc hOk
      go_wp2_with fail
      refine (show Calls _ _ _ _ _ from HT).mono ?_
      rintro e w2 ⟨rfl, hb2⟩
      clear HT d0 d1 d2 c0 c1 c2
      have hb3 := hb0.trans (hb2.mono hb0.size)
      have HWS := writeString_any w.heap.size w.heap.size (linesE E i) T w2 (isBuilder_later hS.is hb3) (by omega) (by omega) (Nat.le_trans hS.below.size hb3.size)
      go_wp2_with fail
      refine (show Calls _ _ _ _ _ from HWS).mono ?_
      rintro e w3 ⟨rfl, hb4⟩
      have hN : Built w w3 (linesE E (i + 1)) := by
        have := hS.more hb3 hb4
        rw [HD.out] at this
        rw [HL.out]
        exact this
      clear HWS hb2 hb3 hb4 hS
      go_wp2
      go_roundw
      case rel => exact ⟨i + 1, by omega, by go_num, hN⟩
      case measure => simp [intOf]; omega
    · have e : i = k := by omega
      subst e
      have HG := Tryz.Builder_String_any w.heap.size w.heap.size (linesE E i) wr hS.is hS.below.size
      go_wp2_with fail
      refine (show Calls _ _ _ _ _ from HG).mono ?_
      rintro e w6 ⟨rfl, hb6⟩
      clear HG
      go_wp2
      go_ret2
      exact ⟨rfl, hS.below.trans hb6⟩

/-- the bytes of q sectors of a body, as they are read. -/
def bodyN (s : DSt) (b q : Nat) : List UInt8 := catTo (fun i => (s.K (1 + b * 55 + i)).now) q
set_option maxRecDepth 100000 in
set_option maxHeartbeats 4000000 in
theorem readBody_any (w : World) (B p n : Nat) (s : DSt) (b q : Nat) (h : Disk w B p n s) (hup : s.down = false) (hn : 112 ≤ n) (hb : b ≤ 1) (hq : q ≤ 55) (hnow : ∀ i, i < n → (s.K i).now.length = 64) :
    Calls Tryz.prog 68 #[.pointer (some ⟨p, 0, none⟩), .agg #[.int .i64 (b : Int), .int .i64 (q : Int)]] w fun e w' => e = .returned (.tuple #[.string ⟨(Lib.trimRightB (bodyN s b q) 0).toArray⟩, .nilIface]) ∧ Below w.heap.size w w' := by
  have hb0 : Below w.heap.size w (w.alloc (.cells #[.int .i64 (b : Int), .int .i64 (q : Int)] 143)) := (Below.refl _ _).alloc (Nat.le_refl _) _
  have d0 : (w.alloc (.cells #[.int .i64 (b : Int), .int .i64 (q : Int)] 143)).cell? ⟨w.heap.size, 0, none⟩ = some (.int .i64 (b : Int)) := by simp [go_sem]
  have d1 : (w.alloc (.cells #[.int .i64 (b : Int), .int .i64 (q : Int)] 143)).cell? ⟨w.heap.size, 1, none⟩ = some (.int .i64 (q : Int)) := by simp [go_sem]
  have q0 : errV 0 = .nilIface := rfl
  have hbi : (b : Int) ≤ 1 := by omega
  have hbi0 : (0 : Int) ≤ (b : Int) := by omega
  have hb55 : b * 55 ≤ 55 := by omega
  have hlen : ∀ i, i ≤ q → (bodyN s b i).length ≤ 3520 := fun i hi => by
    have := catTo_le (fun i => (s.K (1 + b * 55 + i)).now) 64 q i hi (fun j hj => by rw [hnow _ (by omega)]; exact Nat.le_refl _)
    unfold bodyN
    omega
  generalize hW : w.alloc (.cells #[.int .i64 (b : Int), .int .i64 (q : Int)] 143) = W at *
  have hS := built_start W
  have d1' := cell_later hS.below d1
  go_enter Tryz.func68, Tryz.ntmps68
  go_wp2
  go_loopw [12] (fun y wr => ∃ i : Nat, i ≤ q ∧ y = .int .i64 i ∧ Built W wr (bodyN s b i)) (fun y _ => q - (intOf y).toNat)
  case atStart => exact ⟨0, Nat.zero_le _, rfl, hS⟩
  case round =>
    clear hS d1'
    obtain ⟨i, hi, rfl, hS⟩ := hrel
    have hbr := hb0.trans (hS.below.mono hb0.size)
    by_cases hlt : i < q
    · have f0 := cell_later hS.below d0
      have hl := hlen i hi
      have hi0 : (0 : Int) ≤ (i : Int) := by omega
      have hi1 : (i : Int) < (q : Int) := by omega
      have hi2 : (i : Int) < 55 := by omega
      have hin : 1 + b * 55 + i < n := by omega
      have HA := start_any (b : Int) wr hbi0 hbi
      have HR := diskRead_any wr B p n s (1 + (b : Int) * 55 + (i : Int)) (h.later hbr)
      have eF : s.readF n (1 + (b : Int) * 55 + (i : Int)) = 0 := by unfold DSt.readF; rw [hup, if_neg (by decide), if_pos (by omega)]
      have eT : s.readT n (1 + (b : Int) * 55 + (i : Int)) = ⟨(s.K (1 + b * 55 + i)).now.toArray⟩ := by
        unfold DSt.readT
        rw [if_pos eF, show (1 + (b : Int) * 55 + (i : Int)).toNat = 1 + b * 55 + i by omega]
      rw [eF, eT, q0] at HR
      clear eF eT
      have HL : Hid (bodyN s b (i + 1) = bodyN s b i ++ (s.K (1 + b * 55 + i)).now) := rfl
      have hsz := ba_size (s.K (1 + b * 55 + i)).now
      rw [hnow _ hin] at hsz
      have HD : Hid ((⟨(s.K (1 + b * 55 + i)).now.toArray⟩ : ByteArray).data.toList = (s.K (1 + b * 55 + i)).now) := ba_mk _
      generalize (s.K (1 + b * 55 + i)).now = ln at *
      generalize (⟨ln.toArray⟩ : ByteArray) = T at *
      go_wp2_with fail
      refine (show Calls _ _ _ _ _ from HA).mono ?_
      rintro e w2 ⟨rfl, hw2⟩
      subst hw2
      clear HA
      go_wp2_with fail
      refine (show Calls _ _ _ _ _ from HR).mono ?_
      rintro e w2 ⟨rfl, hb2⟩
      clear HR f0
      have HWS := writeString_any W.heap.size W.heap.size (bodyN s b i) T w2 (isBuilder_later hS.is hb2) (by omega) (by omega) (Nat.le_trans hS.below.size hb2.size)
      go_wp2_with fail
      refine (show Calls _ _ _ _ _ from HWS).mono ?_
      rintro e w3 ⟨rfl, hb4⟩
      have hN : Built W w3 (bodyN s b (i + 1)) := by
        have := hS.more hb2 hb4
        rw [HD.out] at this
        rw [HL.out]
        exact this
      clear HWS hb2 hb4 hS
      go_wp2
      go_roundw
      case rel => exact ⟨i + 1, by omega, by go_num, hN⟩
      case measure => simp [intOf]; omega
    · have e : i = q := by omega
      subst e
      have HG := Tryz.Builder_String_any W.heap.size W.heap.size (bodyN s b i) wr hS.is hS.below.size
      have hl := hlen i (Nat.le_refl _)
      have hsz := ba_size (bodyN s b i)
      have HTR := fun w' => Tryz.strings_TrimRight_one ⟨(bodyN s b i).toArray⟩ 0 (by decide) w' (by omega)
      rw [ba_mk] at HTR
      generalize (⟨(bodyN s b i).toArray⟩ : ByteArray) = T at *
      go_wp2_with fail
      refine (show Calls _ _ _ _ _ from HG).mono ?_
      rintro e w6 ⟨rfl, hb6⟩
      clear HG
      have HT6 := HTR w6
      clear HTR
      go_wp2_with fail
      refine (show Calls _ _ _ _ _ from HT6).mono ?_
      rintro e w7 ⟨rfl, hw7⟩
      subst hw7
      go_wp2
      go_ret2
      exact ⟨rfl, hb0.trans ((hS.below.trans hb6).mono hb0.size)⟩
end Go.Proofs.YtidabcoodolddaaGreatDoor

namespace Go.Proofs.YtidabcoodolddaaGreatDoor
open Go.RowKit

abbrev markL : List UInt8 := [109, 97, 114, 108, 105, 110, 115, 112, 105, 107, 101, 32, 115, 104, 101, 108, 102, 32]
/-- which body, how many sectors: the head's sector. -/
def headT (b s : UInt8) : List UInt8 := markL ++ [b, s] ++ List.replicate 44 0
theorem rep44 : Lib.repeatL [(0 : UInt8)] 44 = List.replicate 44 0 := by decide +kernel

set_option maxRecDepth 100000 in
set_option maxHeartbeats 2000000 in
theorem headText_any (b s : Nat) (w : World) (hb : b < 256) (hs : s < 256) :
    Calls Tryz.prog 90 #[.agg #[.int .i64 b, .int .i64 s]] w fun e w' => e = .returned (.string ⟨(headT b.toUInt8 s.toUInt8).toArray⟩) ∧ Below w.heap.size w w' := by
  have HR := fun W => Tryz.strings_Repeat ⟨#[0]⟩ 44 W (by decide) (by decide)
  have hb1 : (b : Int) < 256 := by omega
  have hs1 : (s : Int) < 256 := by omega
  have hb0 : (0 : Int) ≤ (b : Int) := by omega
  have hs0 : (0 : Int) ≤ (s : Int) := by omega
  have hcv : ∀ (src dst : TypeId), Tryz.prog.underlying src = some (.slice 5) → Tryz.prog.underlying dst = some .string → (convert src dst (.slice (some ⟨w.heap.size + 1, 0, none⟩) 2 2)).run Tryz.prog ((w.alloc (.cells #[.int .i64 b, .int .i64 s] 143)).alloc (.cells #[.int .u8 b, .int .u8 s] 5)) = .ok (.string ⟨[b.toUInt8, s.toUInt8].toArray⟩) ((w.alloc (.cells #[.int .i64 b, .int .i64 s] 143)).alloc (.cells #[.int .u8 b, .int .u8 s] 5)) := fun src dst hs' hd' => by
    have := run_convert_bytes_back (P := Tryz.prog) ((w.alloc (.cells #[.int .i64 b, .int .i64 s] 143)).alloc (.cells #[.int .u8 b, .int .u8 s] 5)) src dst 5 ⟨w.heap.size + 1, 0, none⟩ 2 [b.toUInt8, s.toUInt8] hs' Tryz.underlying5 hd' (fun j hj => by
      match j, hj with
      | 0, _ => simp [go_sem, Addr.add]; omega
      | 1, _ => simp [go_sem, Addr.add]; omega
      | j + 2, hj => exact absurd hj (by simp))
    simpa using this
  have hcv2 := hcv _ _ Tryz.underlying181 Tryz.underlying9
  have HT : Hid (headT b.toUInt8 s.toUInt8 = markL ++ [b.toUInt8, s.toUInt8] ++ Lib.repeatL [(0 : UInt8)] 44) := by rw [rep44]; rfl
  clear hcv
  go_enter Tryz.func90, Tryz.ntmps90
  go_wp2_with fail
  refine (show Calls _ _ _ _ _ from HR _).mono ?_
  rintro e w2 ⟨rfl, hb2⟩
  clear HR hcv2
  go_wp2
  go_ret
  refine ⟨?_, (((Below.refl _ w).alloc (Nat.le_refl _) _).alloc (by simp) _).trans (hb2.mono (by simp; omega))⟩
  rw [HT.out]
  refine congrArg (fun x => Ending.returned (Value.string x)) (WideShapes.bytes_inj ?_)
  simp
end Go.Proofs.YtidabcoodolddaaGreatDoor

namespace Go.Proofs.YtidabcoodolddaaGreatDoor
open Go

section
variable {P : Program} {ops : Array Oper} {Q : Exit → Go.Act → World → Prop} {md : Region.Mode} {S : World → Prop} {e : Nat}

/-- Whatever order is picked from here on, and S holds behind every operation that is carried out till number e has come up. -/
def wpAnyG (P : Program) (md : Region.Mode) (ops : Array Oper) (Q : Exit → Go.Act → World → Prop) (S : World → Prop) (e : Nat) : Nat → Array Bool → Go.Act → World → Prop
  | 0, listed, a, w => Region.ready md ops listed = [] ∧ Q .normal a w
  | fuel + 1, listed, a, w =>
    (Region.ready md ops listed = [] → Q .normal a w) ∧
    ∀ i ∈ Region.ready md ops listed, wpOp P ops Q i (fun a' w' => (i = e ∨ listed.getD e false = true ∨ S w') ∧ wpAnyG P md ops Q S e fuel (listed.setIfInBounds i true) a' w') a w

theorem wpAny_of_G : ∀ (fuel : Nat) (listed : Array Bool) (a : Go.Act) (w : World), wpAnyG P md ops Q S e fuel listed a w → wpAny P md ops Q fuel listed a w
  | 0, _, _, _, h => h
  | fuel + 1, _, _, _, h => ⟨h.1, fun i hi => wpOp_mono (fun a' w' h' => wpAny_of_G fuel _ a' w' h'.2) (h.2 i hi)⟩

theorem wp_region_G (S : World → Prop) (e n : Nat) {id : Nat} {l : List Oper} {a : Go.Act} {w : World} (hm : P.follows .mixedOrders = true) (hn : l.length = n)
    (h : wpAnyG P .any l.toArray Q S e n (Array.replicate n false) a w.drew) : (Code.region id l.toArray true).wp P Q a w :=
  wp_region_any hm (wpAny_of_G (S := S) (e := e) _ _ _ _ (by subst hn; simpa using h))

/-- what has come up hangs on what has come up. -/
def Closed (md : Region.Mode) (ops : Array Oper) (listed : Array Bool) : Prop :=
  ∀ j o, ops[j]? = some o → listed.getD j false = true → ∀ d ∈ o.after, Region.binds md d = true → listed.getD d.on false = true
def closedB (md : Region.Mode) (ops : Array Oper) (listed : Array Bool) : Bool :=
  (List.range ops.size).all fun j => !listed.getD j false || ((ops[j]?).map fun o => o.after.all fun d => !Region.binds md d || listed.getD d.on false).getD true
theorem closedB_spec {listed : Array Bool} (h : closedB md ops listed = true) : Closed md ops listed := by
  intro j o hj hl d hd hb
  simp only [closedB, List.all_eq_true, List.mem_range] at h
  have h1 := h j (Array.getElem?_eq_some_iff.1 hj).1
  simp only [hl, hj, Bool.not_true, Bool.false_or, Option.map_some, Option.getD_some, Array.all_eq_true_iff_forall_mem] at h1
  have h2 := h1 d hd
  simpa [hb] using h2
theorem Closed.step {listed : Array Bool} {i : Nat} (h : Closed md ops listed) (hi : i ∈ Region.ready md ops listed) : Closed md ops (listed.setIfInBounds i true) := by
  intro j o hj hl d hd hb
  by_cases hij : i = j
  · subst hij
    obtain ⟨_, o', ho', hall⟩ := mem_ready.1 hi
    rw [hj] at ho'
    cases ho'
    exact getD_set_true (hall d hd hb)
  · rw [getD_set_ne false hij] at hl
    exact getD_set_true (h j o hj hl d hd hb)

def hangsB (md : Region.Mode) (ops : Array Oper) (e i : Nat) : Bool := ((ops[e]?).map fun o => o.after.any fun d => Region.binds md d && d.on == i).getD false
/-- number e hangs on number i, by the way of those in the list. -/
def pathB (md : Region.Mode) (ops : Array Oper) : Nat → List Nat → Nat → Bool
  | e, [], i => hangsB md ops e i
  | e, p :: ps, i => hangsB md ops e p && pathB md ops p ps i
theorem hangs_spec {e i : Nat} (h : hangsB md ops e i = true) : ∃ o, ops[e]? = some o ∧ ∃ d ∈ o.after, Region.binds md d = true ∧ d.on = i := by
  unfold hangsB at h
  cases ho : ops[e]? with
  | none => simp [ho] at h
  | some o =>
    simp only [ho, Option.map_some, Option.getD_some] at h
    obtain ⟨d, hd, hb⟩ := Array.any_eq_true'.1 h
    simp only [Bool.and_eq_true, beq_iff_eq] at hb
    exact ⟨o, rfl, d, hd, hb.1, hb.2⟩
theorem hangs_listed {listed : Array Bool} {e i : Nat} (hc : Closed md ops listed) (h : hangsB md ops e i = true) (he : listed.getD e false = true) : listed.getD i false = true := by
  obtain ⟨o, ho, d, hd, hb, rfl⟩ := hangs_spec h
  exact hc e o ho he d hd hb
theorem hangs_ready {listed : Array Bool} {e i : Nat} (h : hangsB md ops e i = true) (he : e ∈ Region.ready md ops listed) : listed.getD i false = true := by
  obtain ⟨o, ho, d, hd, hb, rfl⟩ := hangs_spec h
  obtain ⟨_, o', ho', hall⟩ := mem_ready.1 he
  rw [ho] at ho'
  cases ho'
  exact hall d hd hb
theorem path_listed {listed : Array Bool} (hc : Closed md ops listed) : ∀ (ps : List Nat) {e i : Nat}, pathB md ops e ps i = true → listed.getD e false = true → listed.getD i false = true
  | [], _, _, h, he => hangs_listed hc h he
  | p :: ps, _, _, h, he => by
    simp only [pathB, Bool.and_eq_true] at h
    exact path_listed hc ps h.2 (hangs_listed hc h.1 he)
theorem path_ready {listed : Array Bool} (hc : Closed md ops listed) : ∀ (ps : List Nat) {e i : Nat}, pathB md ops e ps i = true → e ∈ Region.ready md ops listed → listed.getD i false = true
  | [], _, _, h, he => hangs_ready h he
  | p :: ps, _, _, h, he => by
    simp only [pathB, Bool.and_eq_true] at h
    exact path_listed hc ps h.2 (hangs_ready h.1 he)
theorem not_listed {listed : Array Bool} {i : Nat} (h : i ∈ Region.ready md ops listed) : listed.getD i false ≠ true := by
  have h0 := (mem_ready.1 h).1
  intro h1
  rcases Nat.lt_or_ge i listed.size with h' | h'
  · simp [h'] at h0 h1; rw [h0] at h1; cases h1
  · simp [Array.getElem?_eq_none h'] at h1
theorem not_hangs {listed : Array Bool} {i j : Nat} {oj : Oper} (hr : i ∈ Region.ready md ops listed) (hj : j ∈ Region.ready md ops listed) (hoj : ops[j]? = some oj) : ∀ d ∈ oj.after, Region.binds md d = true → d.on ≠ i := fun d hd hb heq => by
  obtain ⟨_, o', ho', hall⟩ := mem_ready.1 hj
  rw [hoj] at ho'
  cases ho'
  exact not_listed hr (heq ▸ hall d hd hb)

/-- An operation that yields its value in every world that meets S, and on which number e hangs, may be taken first. -/
theorem wpAnyG_first {i : Nat} {oi : Oper} {v : Value} {ps : List Nat} (hi : ops[i]? = some oi) (hsel : ∀ (j : Nat) (o : Oper) cs b, ops[j]? = some o → o.op ≠ .select cs b)
    (hQ : ∀ c a w, Q (.panic c) (a.put oi.dst v) w → Q (.panic c) a w) (hp : pathB md ops e ps i = true) :
    ∀ (fuel : Nat) (listed : Array Bool) (a : Go.Act) (w : World),
      (∀ j oj, ops[j]? = some oj → j ≠ i → listed.getD j true = false → (∀ d ∈ oj.after, Region.binds md d = true → d.on ≠ i) → oi.apart ops oj = true) →
      Closed md ops listed → i ∈ Region.ready md ops listed → YieldsIf P ops S oi v a → S w →
      wpAnyG P md ops Q S e fuel (listed.setIfInBounds i true) (a.put oi.dst v) w → wpAnyG P md ops Q S e (fuel + 1) listed a w := by
  intro fuel
  induction fuel with
  | zero =>
    intro listed a w _ _ hr hy hS H
    refine ⟨fun h => (by rw [h] at hr; cases hr), fun j hj => ?_⟩
    by_cases hji : j = i
    · subst hji; exact hy.wpOp hi hS ⟨.inr (.inr hS), H⟩
    · have := ready_mono hj hji
      rw [H.1] at this
      cases this
  | succ fuel ih =>
    intro listed a w hfree hcl hr hy hS H
    refine ⟨fun h => (by rw [h] at hr; cases hr), fun j hj => ?_⟩
    by_cases hji : j = i
    · subst hji; exact hy.wpOp hi hS ⟨.inr (.inr hS), H⟩
    · have h1 := H.2 j (ready_mono hj hji)
      obtain ⟨hjun, oj, hoj, _⟩ := mem_ready.1 hj
      have h2 := wpOp_putIf hoj (hfree j oj hoj hji hjun (not_hangs hr hj hoj)) (fun cs b => hsel i oi cs b hi) (fun cs b => hsel j oj cs b hoj) hQ hy h1
      have hje : j ≠ e := fun h => not_listed hr (path_ready hcl ps hp (h ▸ hj))
      have hie : i ≠ e := fun h => not_listed hr (path_ready hcl ps hp (h ▸ hr))
      have hle : listed.getD e false ≠ true := fun h => not_listed hr (path_listed hcl ps hp h)
      have hfree' : ∀ k ok, ops[k]? = some ok → k ≠ i → (listed.setIfInBounds j true).getD k true = false →
          (∀ d ∈ ok.after, Region.binds md d = true → d.on ≠ i) → oi.apart ops ok = true := fun k ok hk hki hun hno => by
        refine hfree k ok hk hki ?_ hno
        by_cases hjk : j = k
        · subst hjk; exact hjun
        · rw [getD_set_ne true hjk] at hun; exact hun
      refine wpOp_mono (fun a' w' h3 => ?_) h2
      obtain ⟨hy3, hc3, hG⟩ := h3
      have hS3 : S w' := by
        rcases hc3 with h | h | h
        · exact absurd h hje
        · rw [getD_set_ne false hie] at h; exact absurd h hle
        · exact h
      refine ⟨.inr (.inr hS3), ih (listed.setIfInBounds j true) a' w' hfree' (hcl.step hj) (ready_mono hr (Ne.symm hji)) hy3 hS3 ?_⟩
      rw [Array.setIfInBounds_comm _ _ hji]
      exact hG

/-- An operation that yields its value in whatever world may be taken first. -/
theorem wpAnyG_firstW {i : Nat} {oi : Oper} {v : Value} (hi : ops[i]? = some oi) (hsel : ∀ (j : Nat) (o : Oper) cs b, ops[j]? = some o → o.op ≠ .select cs b)
    (hQ : ∀ c a w, Q (.panic c) (a.put oi.dst v) w → Q (.panic c) a w) (hie : i ≠ e) :
    ∀ (fuel : Nat) (listed : Array Bool) (a : Go.Act) (w : World),
      (∀ j oj, ops[j]? = some oj → j ≠ i → listed.getD j true = false → (∀ d ∈ oj.after, Region.binds md d = true → d.on ≠ i) → oi.apart ops oj = true) →
      listed.size = ops.size → i ∈ Region.ready md ops listed → Yields P ops oi v a → (listed.getD e false = true ∨ S w) →
      wpAnyG P md ops Q S e fuel (listed.setIfInBounds i true) (a.put oi.dst v) w → wpAnyG P md ops Q S e (fuel + 1) listed a w := by
  intro fuel
  induction fuel with
  | zero =>
    intro listed a w _ _ hr hy hS H
    refine ⟨fun h => (by rw [h] at hr; cases hr), fun j hj => ?_⟩
    by_cases hji : j = i
    · subst hji; exact hy.wpOp hi ⟨.inr hS, H⟩
    · have := ready_mono hj hji
      rw [H.1] at this
      cases this
  | succ fuel ih =>
    intro listed a w hfree hsz hr hy hS H
    refine ⟨fun h => (by rw [h] at hr; cases hr), fun j hj => ?_⟩
    by_cases hji : j = i
    · subst hji; exact hy.wpOp hi ⟨.inr hS, H⟩
    · have h1 := H.2 j (ready_mono hj hji)
      obtain ⟨hjun, oj, hoj, _⟩ := mem_ready.1 hj
      have h2 := wpOp_put hoj (hfree j oj hoj hji hjun (not_hangs hr hj hoj)) (fun cs b => hsel i oi cs b hi) (fun cs b => hsel j oj cs b hoj) hQ hy h1
      have hfree' : ∀ k ok, ops[k]? = some ok → k ≠ i → (listed.setIfInBounds j true).getD k true = false →
          (∀ d ∈ ok.after, Region.binds md d = true → d.on ≠ i) → oi.apart ops ok = true := fun k ok hk hki hun hno => by
        refine hfree k ok hk hki ?_ hno
        by_cases hjk : j = k
        · subst hjk; exact hjun
        · rw [getD_set_ne true hjk] at hun; exact hun
      refine wpOp_mono (fun a' w' h3 => ?_) h2
      obtain ⟨hy3, hc3, hG⟩ := h3
      rw [getD_set_ne false hie] at hc3
      have hlt : j < listed.size := by rw [hsz]; exact (Array.getElem?_eq_some_iff.1 hoj).1
      refine ⟨hc3, ih (listed.setIfInBounds j true) a' w' hfree' (by simpa using hsz) (ready_mono hr (Ne.symm hji)) hy3 ?_ ?_⟩
      · rcases hc3 with h | h | h
        · subst h; exact .inl (by simp [hlt])
        · exact .inl (getD_set_true h)
        · exact .inr h
      rw [Array.setIfInBounds_comm _ _ hji]
      exact hG

theorem at_of_drop {l post : List Oper} {i : Nat} {o : Oper} (h : l.drop i = o :: post) : l.toArray[i]? = some o := by
  have h2 : (l.drop i)[0]? = some o := by rw [h]; rfl
  simpa using h2
/-- Take a reading one first. -/
theorem takeR (i : Nat) (ps : List Nat) {l post : List Oper} {oi : Oper} {v : Value} {fuel : Nat} {listed : Array Bool} {a : Go.Act} {w : World} (hi : l.drop i = oi :: post)
    (hs : Region.noSelect l.toArray = true) (hf : Region.free md l.toArray listed i = true) (hc : closedB md l.toArray listed = true) (hr : (Region.ready md l.toArray listed).contains i = true) (hp : pathB md l.toArray e ps i = true)
    (hQ : ∀ c a w, Q (.panic c) (a.put oi.dst v) w → Q (.panic c) a w) (hS : S w) (hy : YieldsIf P l.toArray S oi v a)
    (h : wpAnyG P md l.toArray Q S e fuel (listed.setIfInBounds i true) (a.put oi.dst v) w) : wpAnyG P md l.toArray Q S e (fuel + 1) listed a w :=
  wpAnyG_first (at_of_drop hi) (Region.noSelect_spec hs) hQ hp fuel listed a w (Region.free_spec (at_of_drop hi) hf) (closedB_spec hc) (by simpa using hr) hy hS h
/-- Take one first that yields in whatever world. -/
theorem takeW (i : Nat) {l post : List Oper} {oi : Oper} {v : Value} {fuel : Nat} {listed : Array Bool} {a : Go.Act} {w : World} (hi : l.drop i = oi :: post)
    (hs : Region.noSelect l.toArray = true) (hf : Region.free md l.toArray listed i = true) (hr : (Region.ready md l.toArray listed).contains i = true) (hie : (i != e && listed.size == l.toArray.size) = true)
    (hQ : ∀ c a w, Q (.panic c) (a.put oi.dst v) w → Q (.panic c) a w) (hS : listed.getD e false = true ∨ S w) (hy : Yields P l.toArray oi v a)
    (h : wpAnyG P md l.toArray Q S e fuel (listed.setIfInBounds i true) (a.put oi.dst v) w) : wpAnyG P md l.toArray Q S e (fuel + 1) listed a w :=
  have h2 : i ≠ e ∧ listed.size = l.toArray.size := by simpa using hie
  wpAnyG_firstW (at_of_drop hi) (Region.noSelect_spec hs) hQ h2.1 fuel listed a w (Region.free_spec (at_of_drop hi) hf) h2.2 (by simpa using hr) hy hS h
theorem doneG {listed : Array Bool} {a : Go.Act} {w : World} (hr : Region.ready md ops listed = []) (h : Q .normal a w) : ∀ fuel, wpAnyG P md ops Q S e fuel listed a w
  | 0 => ⟨hr, h⟩
  | _ + 1 => ⟨fun _ => h, by rw [hr]; simp⟩

/-- Q, but K where the code goes on. -/
def heldPost (Q : Exit → Go.Act → World → Prop) (K : Go.Act → World → Prop) : Exit → Go.Act → World → Prop
  | .normal, a, w => K a w
  | x, a, w => Q x a w
theorem wpOp_of_list {k : Nat} {o : Oper} {K : Go.Act → World → Prop} {a : Go.Act} {w : World} (ho : ops[k]? = some o) (h : wpList P ops (heldPost Q K) [o] a w) : wpOp P ops Q k K a w := by
  unfold wpOp
  simp only [ho]
  simp only [wpList] at h
  split
  · rename_i hw
    rw [if_pos hw] at h
    refine h.imp (fun h => ?_) (fun ⟨h1, a', w', h2⟩ => ⟨h1, a', w', h2⟩)
    unfold Oper.wp at *
    generalize (execOp a.eval o).run P w = r at *
    cases r with
    | ok n w' =>
      cases n <;> simp only [Oper.upon] at h ⊢ <;>
        first
          | exact h
          | exact Calls.mono h (fun x w'' he => by cases x <;> exact he)
          | exact Rows.mono h (fun _ _ he => he)
    | halt x w' => cases x <;> simp only [Oper.upon] at h ⊢ <;> exact h
  · rename_i hw
    rw [if_neg hw] at h
    exact h
/-- The one that alone may come up. -/
theorem onlyG (k : Nat) {l post : List Oper} {o : Oper} {fuel : Nat} {listed : Array Bool} {a : Go.Act} {w : World} (ho : l.drop k = o :: post) (hr : Region.ready md l.toArray listed = [k])
    (h : ∀ K : Go.Act → World → Prop, (∀ a w, S w → wpAnyG P md l.toArray Q S e fuel (listed.setIfInBounds k true) a w → K a w) → wpList P l.toArray (heldPost Q K) [o] a w) : wpAnyG P md l.toArray Q S e (fuel + 1) listed a w :=
  ⟨fun h0 => (by rw [hr] at h0; cases h0), fun i hi => by
    rw [hr] at hi
    cases List.mem_singleton.1 hi
    exact wpOp_of_list (at_of_drop ho) (h _ (fun a w h1 h2 => ⟨.inr (.inr h1), h2⟩))⟩
/-- Number e, or one behind it. -/
theorem lastG (k : Nat) {l post : List Oper} {o : Oper} {fuel : Nat} {listed : Array Bool} {a : Go.Act} {w : World} (ho : l.drop k = o :: post) (hr : Region.ready md l.toArray listed = [k]) (hk : (k == e || listed.getD e false) = true)
    (h : ∀ K : Go.Act → World → Prop, (∀ a w, wpAnyG P md l.toArray Q S e fuel (listed.setIfInBounds k true) a w → K a w) → wpList P l.toArray (heldPost Q K) [o] a w) : wpAnyG P md l.toArray Q S e (fuel + 1) listed a w :=
  ⟨fun h0 => (by rw [hr] at h0; cases h0), fun i hi => by
    rw [hr] at hi
    cases List.mem_singleton.1 hi
    refine wpOp_of_list (at_of_drop ho) (h _ (fun a w h2 => ⟨?_, h2⟩))
    simp only [Bool.or_eq_true, beq_iff_eq] at hk
    exact hk.imp id .inl⟩
/-- each of those that may come up. -/
def AllG (P : Program) (md : Region.Mode) (ops : Array Oper) (Q : Exit → Go.Act → World → Prop) (S : World → Prop) (e : Nat) (fuel : Nat) (listed : Array Bool) (a : Go.Act) (w : World) (rs : List Nat) : Prop :=
  ∀ i ∈ rs, wpOp P ops Q i (fun a' w' => (i = e ∨ listed.getD e false = true ∨ S w') ∧ wpAnyG P md ops Q S e fuel (listed.setIfInBounds i true) a' w') a w
theorem allG_nil {fuel : Nat} {listed : Array Bool} {a : Go.Act} {w : World} : AllG P md ops Q S e fuel listed a w [] := fun _ h => by cases h
theorem allG_cons (k : Nat) {l post : List Oper} {o : Oper} {fuel : Nat} {listed : Array Bool} {a : Go.Act} {w : World} {rs : List Nat} (ho : l.drop k = o :: post)
    (h : ∀ K : Go.Act → World → Prop, (∀ a w, S w → wpAnyG P md l.toArray Q S e fuel (listed.setIfInBounds k true) a w → K a w) → wpList P l.toArray (heldPost Q K) [o] a w) (hs : AllG P md l.toArray Q S e fuel listed a w rs) : AllG P md l.toArray Q S e fuel listed a w (k :: rs) := fun j hj => by
  rcases List.mem_cons.1 hj with rfl | hj
  · exact wpOp_of_list (at_of_drop ho) (h _ (fun a w h1 h2 => ⟨.inr (.inr h1), h2⟩))
  · exact hs j hj
theorem readyG (rs : List Nat) {fuel : Nat} {listed : Array Bool} {a : Go.Act} {w : World} (hr : Region.ready md ops listed = rs) (hne : rs ≠ []) (h : AllG P md ops Q S e fuel listed a w rs) : wpAnyG P md ops Q S e (fuel + 1) listed a w :=
  ⟨fun h0 => absurd (hr ▸ h0) hne, hr ▸ h⟩
end
end Go.Proofs.YtidabcoodolddaaGreatDoor

namespace Go.Proofs.YtidabcoodolddaaGreatDoor
open Go.RowKit

/-- the head that a sector's text holds. -/
def headOf (t : List UInt8) : Option (UInt8 × UInt8) :=
  if (t.getD 18 0).toNat ≤ 1 ∧ (t.getD 19 0).toNat ≤ 55 ∧ headT (t.getD 18 0) (t.getD 19 0) = t then some (t.getD 18 0, t.getD 19 0) else none
/-- what readHead answers: the number of its error, and the head. -/
def readHeadF (s : DSt) (n : Nat) : Nat × UInt8 × UInt8 :=
  if s.readF n 0 ≠ 0 then (s.readF n 0, 0, 0) else if n < 112 then (4, 0, 0) else match headOf (s.K 0).now with | some (b, q) => (0, b, q) | none => (4, 0, 0)
theorem box2 {w : World} {g : Nat} {a b : Value} {t : TypeId} (h : w.heap[g]? = some (.cells #[a, b] t (0, 0))) : w.cell? ⟨g, 0, none⟩ = some a ∧ w.cell? ⟨g, 1, none⟩ = some b ∧ w.frozen? ⟨g, 0, none⟩ = false ∧ w.frozen? ⟨g, 1, none⟩ = false :=
  ⟨by simp [World.cell?, h], by simp [World.cell?, h], by simp [World.frozen?, h], by simp [World.frozen?, h]⟩
theorem below2 {B g : Nat} {w w' : World} (h : Below B w w') (hg : B ≤ g) (a0 a1 : Value) : Below B w ((w'.setCell ⟨g, 0, none⟩ a0).setCell ⟨g, 1, none⟩ a1) :=
  h.trans ⟨rfl, rfl, rfl, by simp [World.setCell], fun k hk => (Below.heap_setCell _ _ _ _ (Nat.ne_of_lt (Nat.lt_of_lt_of_le hk hg))).trans (Below.heap_setCell _ _ _ _ (Nat.ne_of_lt (Nat.lt_of_lt_of_le hk hg)))⟩

theorem wrap_u8 (x : UInt8) : IntKind.i64.wrap (x.toNat : Int) = (x.toNat : Int) := by
  have := x.toNat_lt
  exact IntWalk.i64_in _ ⟨by omega, by omega⟩
theorem wrap_u8' (x : UInt8) : wrap64 (x.toNat : Int) = (x.toNat : Int) := by
  have h := x.toNat_lt
  generalize x.toNat = k at *
  unfold wrap64
  omega
theorem byte_at (l : List UInt8) {i : Nat} (h : i < (⟨l.toArray⟩ : ByteArray).size) : (⟨l.toArray⟩ : ByteArray)[i] = l.getD i 0 := by
  have h2 : i < l.length := h
  rw [List.getD_eq_getElem?_getD, List.getElem?_eq_getElem h2]
  rfl
theorem errV_num {f : Nat} (h : f ≠ 0) : ∃ n : Int, errV f = .iface 82 (.int .i64 n) := by
  cases f with
  | zero => exact absurd rfl h
  | succ f => exact ⟨_, rfl⟩
set_option maxRecDepth 100000 in
set_option maxHeartbeats 4000000 in
theorem readHead_any (w : World) (B p n : Nat) (s : DSt) (h : Disk w B p n s) (hnow : (s.K 0).now.length = 64) :
    Calls Tryz.prog 67 #[.pointer (some ⟨p, 0, none⟩)] w fun e w' => e = .returned (.tuple #[.agg #[.int .i64 ((readHeadF s n).2.1.toNat : Int), .int .i64 ((readHeadF s n).2.2.toNat : Int)], errV (readHeadF s n).1]) ∧ Below w.heap.size w w' := by
  have hb0 : Below w.heap.size w (w.alloc (.cells #[.int .i64 0, .int .i64 0] 143)) := (Below.refl _ _).alloc (Nat.le_refl _) _
  have hres : (w.alloc (.cells #[.int .i64 0, .int .i64 0] 143)).heap[w.heap.size]? = some (.cells #[.int .i64 0, .int .i64 0] 143 (0, 0)) := Array.getElem?_push_size
  have hz : w.heap.size < (w.alloc (.cells #[.int .i64 0, .int .i64 0] 143)).heap.size := by simp
  have h1 := h.later hb0
  have HR := diskRead_any _ B p n s 0 h1
  generalize hW : w.alloc (.cells #[.int .i64 0, .int .i64 0] 143) = W at *
  by_cases hF : s.readF n 0 = 0
  · have hT : s.readT n 0 = ⟨(s.K 0).now.toArray⟩ := by unfold DSt.readT; rw [if_pos hF]; rfl
    have q0e : errV 0 = .nilIface := rfl
    rw [hF, q0e, hT] at HR
    have HH : Hid (readHeadF s n = if n < 112 then (4, 0, 0) else match headOf (s.K 0).now with | some (b, q) => (0, b, q) | none => (4, 0, 0)) := by unfold readHeadF; rw [if_neg (by simp [hF])]; exact rfl
    have HS := fun W (hb : Below w.heap.size w W) => diskSectors_any W B p n s (h.later hb)
    generalize hTT : (⟨(s.K 0).now.toArray⟩ : ByteArray) = T at HR
    have hTs : T.size = 64 := by rw [← hTT]; show (s.K 0).now.toArray.size = 64; simp [hnow]
    go_enter Tryz.func67, Tryz.ntmps67
    go_wp2_with fail
    refine (show Calls _ _ _ _ _ from HR).mono ?_
    rintro e w2 ⟨rfl, hb2⟩
    clear HR
    have hbA := hb0.trans (hb2.mono hb0.size)
    have hz2 : w.heap.size < w2.heap.size := Nat.lt_of_lt_of_le hz hb2.size
    have hres2 := (hb2.block _ hz).trans hres
    have HS2 := HS w2 hbA
    clear HS hb2 hres hz
    by_cases hn : n < 112
    · have HE : Hid (readHeadF s n = (4, 0, 0)) := by rw [HH.out, if_pos hn]; exact rfl
      have hn' : (n : Int) < 112 := by omega
      obtain ⟨q0, q1, f0, f1⟩ := box2 hres2
      have hNB := below2 hbA (Nat.le_refl w.heap.size) (.int .i64 0) (.int .i64 0)
      clear HH
      go_wp2_with fail
      refine (show Calls _ _ _ _ _ from HS2).mono ?_
      rintro e w3 ⟨rfl, hw3⟩
      subst hw3
      clear HS2
      go_wp2
      refine bodyPost_ret (v := .tuple #[.agg #[.int .i64 0, .int .i64 0], .iface 82 (.int .i64 4)]) (by simp [results, Tryz.results67, go_sem, q0, q1]) rfl ?_
      rw [HE.out]
      exact ⟨rfl, hNB⟩
    · have hn' : ¬ (n : Int) < 112 := by omega
      have h18 : 18 < T.size := by omega
      have h19 : 19 < T.size := by omega
      go_wp2_with fail
      refine (show Calls _ _ _ _ _ from HS2).mono ?_
      rintro e w3 ⟨rfl, hw3⟩
      subst hw3
      clear HS2
      go_wp2
      refine wp_region_G (fun _ => True) 8 9 (by kernel_rfl) rfl ?_
      have hSS : (fun _ : World => True) w3.drew := trivial
      refine takeW 0 (v := ?v1) rfl (by kernel_rfl) (by kernel_rfl) (by kernel_rfl) (by kernel_rfl) (fun _ _ _ h => h) (.inr hSS) (.inl ⟨by rfl, fun w => ?hy1⟩) ?rest1
      case hy1 => (go_simp <;> with_reducible rfl)
      simp only [Go.Act.put, List.setIfInBounds_toArray, List.set_cons_zero, List.set_cons_succ]
      refine takeW 1 (v := ?v2) rfl (by kernel_rfl) (by kernel_rfl) (by kernel_rfl) (by kernel_rfl) (fun _ _ _ h => h) (.inr hSS) (.inl ⟨by rfl, fun w => ?hy2⟩) ?rest2
      case hy2 => (go_simp <;> with_reducible rfl)
      simp only [Go.Act.put, List.setIfInBounds_toArray, List.set_cons_zero, List.set_cons_succ]
      refine takeW 2 (v := ?v3) rfl (by kernel_rfl) (by kernel_rfl) (by kernel_rfl) (by kernel_rfl) (fun _ _ _ h => h) (.inr hSS) (.inl ⟨by rfl, fun w => ?hy3⟩) ?rest3
      case hy3 => (go_simp <;> with_reducible rfl)
      simp only [Go.Act.put, List.setIfInBounds_toArray, List.set_cons_zero, List.set_cons_succ]
      refine takeW 3 (v := ?v4) rfl (by kernel_rfl) (by kernel_rfl) (by kernel_rfl) (by kernel_rfl) (fun _ _ _ h => h) (.inr hSS) (.inl ⟨by rfl, fun w => ?hy4⟩) ?rest4
      case hy4 => (go_simp <;> with_reducible rfl)
      simp only [Go.Act.put, List.setIfInBounds_toArray, List.set_cons_zero, List.set_cons_succ]
      refine takeW 4 (v := ?v5) rfl (by kernel_rfl) (by kernel_rfl) (by kernel_rfl) (by kernel_rfl) (fun _ _ _ h => h) (.inr hSS) (.inl ⟨by rfl, fun w => ?hy5⟩) ?rest5
      case hy5 => (go_simp <;> with_reducible rfl)
      simp only [Go.Act.put, List.setIfInBounds_toArray, List.set_cons_zero, List.set_cons_succ]
      refine takeW 5 (v := ?v6) rfl (by kernel_rfl) (by kernel_rfl) (by kernel_rfl) (by kernel_rfl) (fun _ _ _ h => h) (.inr hSS) (.inl ⟨by rfl, fun w => ?hy6⟩) ?rest6
      case hy6 => (go_simp <;> with_reducible rfl)
      simp only [Go.Act.put, List.setIfInBounds_toArray, List.set_cons_zero, List.set_cons_succ]
      refine takeW 6 (v := ?v7) rfl (by kernel_rfl) (by kernel_rfl) (by kernel_rfl) (by kernel_rfl) (fun _ _ _ h => h) (.inr hSS) (.inl ⟨by rfl, fun w => ?hy7⟩) ?rest7
      case hy7 => (go_simp <;> with_reducible rfl)
      simp only [Go.Act.put, List.setIfInBounds_toArray, List.set_cons_zero, List.set_cons_succ]
      refine onlyG 7 rfl (by kernel_rfl) (fun K hK => ?_)
      go_wp2_with fail
      refine hK _ _ trivial ?_
      clear hK
      refine lastG 8 rfl (by kernel_rfl) (by kernel_rfl) (fun K hK => ?_)
      go_wp2_with fail
      refine hK _ _ ?_
      clear hK
      refine doneG (by kernel_rfl) ?_ _
      have hw8 := wrap_u8 T[18]
      have hw9 := wrap_u8 T[19]
      have hv8 := wrap_u8' T[18]
      have hv9 := wrap_u8' T[19]
      have g18 : T[18] = (s.K 0).now.getD 18 0 := by subst hTT; exact byte_at _ h18
      have g19 : T[19] = (s.K 0).now.getD 19 0 := by subst hTT; exact byte_at _ h19
      simp only [hw8, hw9, hv8, hv9]
      clear hw8 hw9 hv8 hv9
      generalize T[18] = x8 at *
      generalize T[19] = x9 at *
      have G18 : Hid (x8 = (s.K 0).now.getD 18 0) := g18
      have G19 : Hid (x9 = (s.K 0).now.getD 19 0) := g19
      have HNL : Hid (T.data.toList = (s.K 0).now) := by rw [← hTT]; exact rfl
      clear g18 g19
      have hbx : Below w3.heap.size w3 (w3.alloc (.cells #[.int .i64 (x8.toNat : Int), .int .i64 (x9.toNat : Int)] 143)).drew := ((Below.refl _ _).alloc (Nat.le_refl _) _).drew
      have hbB := hbA.trans (hbx.mono (Nat.le_of_lt hz2))
      have hres4 := (hbx.block _ hz2).trans hres2
      have d0 : (w3.alloc (.cells #[.int .i64 (x8.toNat : Int), .int .i64 (x9.toNat : Int)] 143)).drew.cell? ⟨w3.heap.size, 0, none⟩ = some (.int .i64 (x8.toNat : Int)) := by simp [go_sem]
      have d1 : (w3.alloc (.cells #[.int .i64 (x8.toNat : Int), .int .i64 (x9.toNat : Int)] 143)).drew.cell? ⟨w3.heap.size, 1, none⟩ = some (.int .i64 (x9.toNat : Int)) := by simp [go_sem]
      have hlt8 := x8.toNat_lt
      have hlt9 := x9.toNat_lt
      have hz4 : w.heap.size < (w3.alloc (.cells #[.int .i64 (x8.toNat : Int), .int .i64 (x9.toNat : Int)] 143)).drew.heap.size := by simp; omega
      have hno : ¬ (x8.toNat ≤ 1 ∧ x9.toNat ≤ 55 ∧ headT x8 x9 = T.data.toList) → readHeadF s n = (4, 0, 0) := fun hh => by
        rw [HH.out, if_neg hn]
        unfold headOf
        rw [← G18.out, ← G19.out, ← HNL.out, if_neg hh]
      have hyes : (x8.toNat ≤ 1 ∧ x9.toNat ≤ 55 ∧ headT x8 x9 = T.data.toList) → readHeadF s n = (0, x8, x9) := fun hh => by
        rw [HH.out, if_neg hn]
        unfold headOf
        rw [← G18.out, ← G19.out, ← HNL.out, if_pos hh]
      have HNO : Hid (¬ (x8.toNat ≤ 1 ∧ x9.toNat ≤ 55 ∧ headT x8 x9 = T.data.toList) → readHeadF s n = (4, 0, 0)) := hno
      have HYES : Hid ((x8.toNat ≤ 1 ∧ x9.toNat ≤ 55 ∧ headT x8 x9 = T.data.toList) → readHeadF s n = (0, x8, x9)) := hyes
      clear hno hyes hTT hTs hres2 hbA
      generalize (w3.alloc (.cells #[.int .i64 (x8.toNat : Int), .int .i64 (x9.toNat : Int)] 143)).drew = w4 at *
      by_cases k1 : (1 : Int) < (x8.toNat : Int)
      · have HE : Hid (readHeadF s n = (4, 0, 0)) := HNO.out (fun hh => by omega)
        obtain ⟨q0, q1, f0, f1⟩ := box2 hres4
        have hNB := below2 hbB (Nat.le_refl w.heap.size) (.int .i64 0) (.int .i64 0)
        clear HH
        go_wp2
        refine bodyPost_ret (v := .tuple #[.agg #[.int .i64 0, .int .i64 0], .iface 82 (.int .i64 4)]) (by simp [results, Tryz.results67, go_sem, q0, q1]) rfl ?_
        rw [HE.out]
        exact ⟨rfl, hNB⟩
      by_cases k2 : (55 : Int) < (x9.toNat : Int)
      · have HE : Hid (readHeadF s n = (4, 0, 0)) := HNO.out (fun hh => by omega)
        obtain ⟨q0, q1, f0, f1⟩ := box2 hres4
        have hNB := below2 hbB (Nat.le_refl w.heap.size) (.int .i64 0) (.int .i64 0)
        clear HH
        go_wp2
        refine bodyPost_ret (v := .tuple #[.agg #[.int .i64 0, .int .i64 0], .iface 82 (.int .i64 4)]) (by simp [results, Tryz.results67, go_sem, q0, q1]) rfl ?_
        rw [HE.out]
        exact ⟨rfl, hNB⟩
      have HT := headText_any x8.toNat x9.toNat w4 (by omega) (by omega)
      have u8 : x8.toNat.toUInt8 = x8 := by simp
      have u9 : x9.toNat.toUInt8 = x9 := by simp
      rw [u8, u9] at HT
      clear u8 u9
      go_wp2_with fail
      refine (show Calls _ _ _ _ _ from HT).mono ?_
      rintro e w5 ⟨rfl, hb5⟩
      clear HT
      have hres5 := (hb5.block _ hz4).trans hres4
      have hbC := hbB.trans (hb5.mono hbB.size)
      have e0 := cell_later hb5 d0
      have e1 := cell_later hb5 d1
      obtain ⟨q0, q1, f0, f1⟩ := box2 hres5
      clear d0 d1 hbB hres4 hres5 HH
      by_cases hEq : (⟨(headT x8 x9).toArray⟩ : ByteArray) = T
      · have HE : Hid (readHeadF s n = (0, x8, x9)) := HYES.out ⟨by omega, by omega, by rw [← hEq]⟩
        have hNB := below2 hbC (Nat.le_refl w.heap.size) (.int .i64 (x8.toNat : Int)) (.int .i64 (x9.toNat : Int))
        rw [hEq]
        clear hEq
        go_wp2
        refine bodyPost_ret (v := .tuple #[.agg #[.int .i64 (x8.toNat : Int), .int .i64 (x9.toNat : Int)], .nilIface]) (by simp [results, Tryz.results67, go_sem, q0, q1]) rfl ?_
        rw [HE.out]
        exact ⟨rfl, hNB⟩
      · have HE : Hid (readHeadF s n = (4, 0, 0)) := HNO.out (fun hh => hEq (by rw [hh.2.2]))
        have hNB := below2 hbC (Nat.le_refl w.heap.size) (.int .i64 0) (.int .i64 0)
        generalize (⟨(headT x8 x9).toArray⟩ : ByteArray) = U at *
        have hne : (U.toList == T.toList) = false := by rw [toList_beq]; exact decide_eq_false hEq
        clear hEq
        go_wp2
        refine bodyPost_ret (v := .tuple #[.agg #[.int .i64 0, .int .i64 0], .iface 82 (.int .i64 4)]) (by simp [results, Tryz.results67, go_sem, q0, q1]) rfl ?_
        rw [HE.out]
        exact ⟨rfl, hNB⟩
  · have HE : Hid (readHeadF s n = (s.readF n 0, 0, 0)) := by unfold readHeadF; rw [if_pos hF]; exact rfl
    obtain ⟨z, hzz⟩ := errV_num hF
    rw [hzz] at HR
    generalize s.readT n 0 = T at *
    go_enter Tryz.func67, Tryz.ntmps67
    go_wp2_with fail
    refine (show Calls _ _ _ _ _ from HR).mono ?_
    rintro e w2 ⟨rfl, hb2⟩
    clear HR
    obtain ⟨q0, q1, f0, f1⟩ := box2 ((hb2.block _ hz).trans hres)
    have hNB := below2 (hb0.trans (hb2.mono hb0.size)) (Nat.le_refl w.heap.size) (.int .i64 0) (.int .i64 0)
    go_wp2
    refine bodyPost_ret (v := .tuple #[.agg #[.int .i64 0, .int .i64 0], .iface 82 (.int .i64 z)]) (by simp [results, Tryz.results67, go_sem, q0, q1]) rfl ?_
    rw [HE.out, hzz]
    exact ⟨rfl, hNB⟩
end Go.Proofs.YtidabcoodolddaaGreatDoor

namespace Go.Proofs.YtidabcoodolddaaGreatDoor
open Go.RowKit

/-- a head's text. -/
def headB (b q : UInt8) : ByteArray := ⟨(headT b q).toArray⟩
theorem headB_size (b q : UInt8) : (headB b q).size = 64 := by
  show (headT b q).toArray.size = 64
  simp [headT]
/-- what writeHead answers, and what the disk is behind it. -/
def DSt.headF (s : DSt) (n : Nat) (b q : UInt8) : Nat := if s.writeF n 0 (headB b q) = 0 then (s.wrote n 0 (headB b q)).flushF else s.writeF n 0 (headB b q)
def DSt.headed (s : DSt) (n : Nat) (b q : UInt8) : DSt := if s.writeF n 0 (headB b q) = 0 then (s.wrote n 0 (headB b q)).flushed else s.wrote n 0 (headB b q)

set_option maxRecDepth 100000 in
set_option maxHeartbeats 2000000 in
theorem writeHead_any (w : World) (B p n : Nat) (s : DSt) (b q : UInt8) (h : Disk w B p n s) :
    Calls Tryz.prog 64 #[.pointer (some ⟨p, 0, none⟩), .agg #[.int .i64 (b.toNat : Int), .int .i64 (q.toNat : Int)]] w fun e w' => e = .returned (errV (s.headF n b q)) ∧ Disk w' B p n (s.headed n b q) ∧ Spun B w w' := by
  have hb0 : Below w.heap.size w (w.alloc (.cells #[.int .i64 (b.toNat : Int), .int .i64 (q.toNat : Int)] 143)) := (Below.refl _ _).alloc (Nat.le_refl _) _
  have HT := headText_any b.toNat q.toNat (w.alloc (.cells #[.int .i64 (b.toNat : Int), .int .i64 (q.toNat : Int)] 143)) b.toNat_lt q.toNat_lt
  have u8 : b.toNat.toUInt8 = b := by simp
  have u9 : q.toNat.toUInt8 = q := by simp
  rw [u8, u9] at HT
  have eT : (⟨(headT b q).toArray⟩ : ByteArray) = headB b q := rfl
  rw [eT] at HT
  have hS := headB_size b q
  unfold DSt.headF DSt.headed
  generalize headB b q = T at *
  have h1 := h.later hb0
  have hB := h.base
  clear u8 u9 eT
  by_cases hF : s.writeF n 0 T = 0
  · rw [if_pos hF, if_pos hF]
    go_enter Tryz.func64, Tryz.ntmps64
    go_wp2_with fail
    refine (show Calls _ _ _ _ _ from HT).mono ?_
    rintro e w2 ⟨rfl, hb2⟩
    clear HT
    have hb3 := hb0.trans (hb2.mono hb0.size)
    have HW := diskWrite_any w2 B p n s 0 T (h.later hb3) (by rw [hS]; decide)
    clear hb0 hb2 h1
    rw [hF] at HW
    have q0 : errV 0 = .nilIface := rfl
    rw [q0] at HW
    clear hF
    go_wp2_with fail
    refine (show Calls _ _ _ _ _ from HW).mono ?_
    rintro e w4 ⟨rfl, hD, hSp⟩
    clear HW
    have hSp2 := (Spun.of hB hb3).trans hSp
    have HFl := diskFlush_any w4 B p n _ hD
    go_wp2_with fail
    refine (show Calls _ _ _ _ _ from HFl).mono ?_
    rintro e w5 ⟨rfl, hD5, hS5⟩
    clear HFl
    go_wp2
    go_ret
    exact ⟨rfl, hD5, hSp2.trans hS5⟩
  · rw [if_neg hF, if_neg hF]
    obtain ⟨z, hz⟩ := errV_num hF
    rw [hz]
    go_enter Tryz.func64, Tryz.ntmps64
    go_wp2_with fail
    refine (show Calls _ _ _ _ _ from HT).mono ?_
    rintro e w2 ⟨rfl, hb2⟩
    clear HT
    have hb3 := hb0.trans (hb2.mono hb0.size)
    have HW := diskWrite_any w2 B p n s 0 T (h.later hb3) (by rw [hS]; decide)
    clear hb0 hb2 h1
    rw [hz] at HW
    clear hF hz
    go_wp2_with fail
    refine (show Calls _ _ _ _ _ from HW).mono ?_
    rintro e w4 ⟨rfl, hD, hSp⟩
    clear HW
    have hSp2 := (Spun.of hB hb3).trans hSp
    go_wp2
    go_ret
    exact ⟨rfl, hD, hSp2⟩
end Go.Proofs.YtidabcoodolddaaGreatDoor

namespace Go.Proofs.YtidabcoodolddaaGreatDoor
open Go.RowKit

/-- entries that a shelf may have. -/
structure ShelfOk (E : Nat → EntF) (k : Nat) : Prop where
  few : k ≤ 3
  ok : ∀ i, i < k → entF (E i) = 0
  once : ∀ i j, i < k → j < k → (E i).root = (E j).root → i = j
theorem ShelfOk.ent {E : Nat → EntF} {k : Nat} (h : ShelfOk E k) {i : Nat} (hi : i < k) : EntOk (E i) := entOk (h.ok i hi)
/-- the bytes of q sectors of a body. -/
def bodyK (s : DSt) (b q : Nat) : List UInt8 := catTo (fun i => (s.K (1 + b * 55 + i)).kept) q
/-- k entries stand on a disk of n sectors, and nothing is late. -/
structure Stands (s : DSt) (n : Nat) (E : Nat → EntF) (k : Nat) : Prop where
  up : s.down = false
  many : 112 ≤ n
  calm : ∀ i, i < n → (s.K i).late = []
  good : ShelfOk E k
  head : ∃ b q : Nat, b ≤ 1 ∧ q ≤ 55 ∧ (s.K 0).kept = headT b.toUInt8 q.toUInt8 ∧ Lib.trimRightB (bodyK s b q) 0 = linesE E k
theorem bodyK_congr {s s' : DSt} {b q : Nat} (h : ∀ i, i < q → (s'.K (1 + b * 55 + i)).kept = (s.K (1 + b * 55 + i)).kept) : bodyK s' b q = bodyK s b q := by
  unfold bodyK
  induction q with
  | zero => rfl
  | succ q ih =>
    have := ih fun i hi => h i (by omega)
    simp only [catTo]
    rw [this, h q (by omega)]
theorem Stands.of {s s' : DSt} {n : Nat} {E : Nat → EntF} {k : Nat} (h : Stands s n E k) (hup : s'.down = false) (hc : ∀ i, i < n → (s'.K i).late = []) (hK : ∀ i, i < n → (s'.K i).kept = (s.K i).kept) : Stands s' n E k := by
  obtain ⟨b, q, hb, hq, hh, ht⟩ := h.head
  have hm := h.many
  refine ⟨hup, h.many, hc, h.good, b, q, hb, hq, (hK 0 (by omega)).trans hh, ?_⟩
  rw [bodyK_congr (fun i hi => hK _ (by have : b * 55 ≤ 55 := by omega
                                        omega))]
  exact ht
theorem Stands.again {s : DSt} {n : Nat} {E : Nat → EntF} {k : Nat} (h : Stands s n E k) (keep : Int) : Stands (s.again keep) n E k :=
  h.of rfl (fun _ _ => rfl) fun i hi => by show keepTo keep (s.K i).kept (s.K i).late = _; rw [h.calm i hi]; rfl
theorem Stands.same {s : DSt} {n : Nat} {E E' : Nat → EntF} {k : Nat} (h : Stands s n E k) (e : ∀ i, i < k → SameE (E i) (E' i)) : Stands s n E' k := by
  have hl : ∀ i, i < k → entF (E' i) = 0 ∧ lineE (E i) = lineE (E' i) := fun i hi => (e i hi).line (h.good.ok i hi)
  obtain ⟨b, q, hb, hq, hh, ht⟩ := h.head
  refine ⟨h.up, h.many, h.calm, ⟨h.good.few, fun i hi => (hl i hi).1, fun i j hi hj he => h.good.once i j hi hj ?_⟩, b, q, hb, hq, hh, ht.trans (linesE_congr fun i hi => (hl i hi).2)⟩
  rw [(e i hi).root, (e j hj).root]; exact he
theorem Stands.now {s : DSt} {n : Nat} {E : Nat → EntF} {k : Nat} (h : Stands s n E k) {i : Nat} (hi : i < n) : (s.K i).now = (s.K i).kept := by
  unfold Sec.now; rw [h.calm i hi]; rfl

/-- the i-th part of a text. -/
def chunk (t : List UInt8) (i : Nat) : List UInt8 := (t.drop (64 * i)).take 64
theorem chunk_len (t : List UInt8) (i : Nat) : (chunk t i).length ≤ 64 := by simp [chunk]; omega
theorem chunks (t : List UInt8) : ∀ k, catTo (fun i => padB (chunk t i)) k = t.take (64 * k) ++ List.replicate (64 * k - t.length) 0
  | 0 => by simp [catTo]
  | k + 1 => by
    simp only [catTo]
    rw [chunks t k]
    by_cases h : 64 * k ≤ t.length
    · have e0 : 64 * k - t.length = 0 := by omega
      rw [e0, List.replicate_zero, List.append_nil]
      unfold padB chunk
      rw [← List.append_assoc, show 64 * (k + 1) = 64 * k + 64 by omega, List.take_add]
      congr 2
      rw [List.length_take, List.length_drop]
      omega
    · have e1 : chunk t k = [] := by unfold chunk; rw [List.drop_of_length_le (by omega)]; rfl
      rw [e1, List.take_of_length_le (by omega), List.take_of_length_le (by omega)]
      unfold padB
      rw [List.nil_append, List.append_assoc, List.replicate_append_replicate]
      congr 2
      simp
      omega
theorem trim_zeros {t : List UInt8} (m : Nat) (h : t = [] ∨ t.getLast? = some 10) : Lib.trimRightB (t ++ List.replicate m 0) 0 = t := by
  rw [Lib.trimRightB_take (t ++ List.replicate m 0) 0 t.length (by simp) ?_ ?_]
  · simp
  · intro j b hj hb
    rw [List.getElem?_append_right hj] at hb
    have := List.mem_of_getElem? hb
    exact (List.mem_replicate.1 this).2
  · intro b hk hb
    rw [List.getElem?_append_left (by omega)] at hb
    rcases h with rfl | h
    · simp at hk
    · rw [List.getLast?_eq_getElem?, hb] at h
      injection h with h
      subst h
      decide
/-- how many sectors a text takes. -/
def many64 (t : List UInt8) : Nat := (t.length + 63) / 64
theorem chunks_all (t : List UInt8) (h : t = [] ∨ t.getLast? = some 10) : Lib.trimRightB (catTo (fun i => padB (chunk t i)) (many64 t)) 0 = t := by
  rw [chunks t (many64 t), List.take_of_length_le (by unfold many64; omega)]
  exact trim_zeros _ h
/-- k sectors of a body are written, and not flushed. -/
structure Bodied (s s1 : DSt) (b : Nat) (t : List UInt8) (k : Nat) : Prop where
  up : s1.down = false
  left : s.left = -1 → s1.left = -1
  rest : ∀ i, ¬ (1 + b * 55 ≤ i ∧ i < 1 + b * 55 + k) → s1.K i = s.K i
  body : ∀ i, i < k → ∃ bit, bit < 64 ∧ s1.K (1 + b * 55 + i) = ⟨(s.K (1 + b * 55 + i)).kept, [(bit, padB (chunk t i))]⟩
theorem Bodied.start {s : DSt} (h : s.down = false) (b : Nat) (t : List UInt8) : Bodied s s b t 0 := ⟨h, id, fun _ _ => rfl, fun i hi => by omega⟩
theorem not_falls {s : DSt} (h : s.falls = false) : s.down = false ∧ s.left ≠ 0 := by simpa [DSt.falls] using h
theorem stepped_calm {s : DSt} (h : s.left = -1) : s.stepped.left = -1 := by simp [DSt.stepped, h]
theorem Bodied.more {s s1 : DSt} {b k : Nat} {t : List UInt8} (h : Bodied s s1 b t k) (hf : s1.falls = false) (hn : s1.next < 64) (hc : (s.K (1 + b * 55 + k)).late = []) : Bodied s (s1.stepped.put (1 + b * 55 + k) (padB (chunk t k))) b t (k + 1) := by
  have hk : s1.stepped.K (1 + b * 55 + k) = s.K (1 + b * 55 + k) := h.rest _ (by omega)
  have hke : (s1.stepped.put (1 + b * 55 + k) (padB (chunk t k))).K = fun j => if j = 1 + b * 55 + k then ⟨(s1.stepped.K (1 + b * 55 + k)).kept, struck (s1.stepped.K (1 + b * 55 + k)).late s1.stepped.next ++ [(s1.stepped.next, padB (chunk t k))]⟩ else s1.stepped.K j := rfl
  refine ⟨(not_falls hf).1, fun hl => stepped_calm (h.left hl), fun i hi => ?_, fun i hi => ?_⟩
  · rw [hke]
    show (if i = 1 + b * 55 + k then _ else s1.K i) = _
    rw [if_neg (by omega)]
    exact h.rest i (by omega)
  · by_cases e : i = k
    · subst e
      refine ⟨s1.next, hn, ?_⟩
      rw [hke]
      show (if 1 + b * 55 + i = 1 + b * 55 + i then _ else _) = _
      rw [if_pos rfl, hk, hc]
      rfl
    · obtain ⟨bit, h1, h2⟩ := h.body i (by omega)
      refine ⟨bit, h1, ?_⟩
      rw [hke]
      show (if 1 + b * 55 + i = 1 + b * 55 + k then _ else s1.K (1 + b * 55 + i)) = _
      rw [if_neg (by omega)]
      exact h2
/-- behind any restart one or the other stands. -/
def Split (s : DSt) (n : Nat) (E : Nat → EntF) (k : Nat) (E' : Nat → EntF) (k' : Nat) : Prop := s.down = true ∧ ∀ keep, Stands (s.again keep) n E k ∨ Stands (s.again keep) n E' k'
/-- a disk fell whose standing body, and head, nobody wrote. -/
theorem Stands.fallen {s s1 : DSt} {n b0 q0 : Nat} {E E' : Nat → EntF} {k k' : Nat} (h : Stands s n E k) (hb0 : b0 ≤ 1) (hq0 : q0 ≤ 55) (hh : (s.K 0).kept = headT b0.toUInt8 q0.toUInt8) (ht : Lib.trimRightB (bodyK s b0 q0) 0 = linesE E k)
    (hd : s1.down = true) (hr : ∀ i, i < n → ¬ (1 + (1 - b0) * 55 ≤ i ∧ i < 1 + (1 - b0) * 55 + 55) → s1.K i = s.K i) : Split s1 n E k E' k' := by
  have hm := h.many
  have hk : ∀ keep i, i < n → ¬ (1 + (1 - b0) * 55 ≤ i ∧ i < 1 + (1 - b0) * 55 + 55) → ((s1.again keep).K i).kept = (s.K i).kept := fun keep i hi hn => by
    show keepTo keep (s1.K i).kept (s1.K i).late = _
    rw [hr i hi hn, h.calm i hi]
    rfl
  refine ⟨hd, fun keep => .inl ⟨rfl, hm, fun _ _ => rfl, h.good, b0, q0, hb0, hq0, (hk keep 0 (by omega) (by omega)).trans hh, ?_⟩⟩
  rw [bodyK_congr (s := s) (fun i hi => hk keep _ (by have : b0 * 55 ≤ 55 := by omega
                                                      omega) (by rcases Nat.le_one_iff_eq_zero_or_eq_one.1 hb0 with rfl | rfl <;> omega))]
  exact ht
/-- a body is kept beside what stands. -/
structure BodyKept (s s2 : DSt) (n b : Nat) (t : List UInt8) : Prop where
  up : s2.down = false
  left : s.left = -1 → s2.left = -1
  rest : ∀ i, i < n → ¬ (1 + b * 55 ≤ i ∧ i < 1 + b * 55 + 55) → s2.K i = s.K i
  calm : ∀ i, i < n → (s2.K i).late = []
  body : ∀ i, i < many64 t → (s2.K (1 + b * 55 + i)).kept = padB (chunk t i)
theorem bit_all {c d : List UInt8} {bit : Nat} (h : bit < 64) : keepTo 18446744073709551615 c [(bit, d)] = d := by
  show (if bitOf 18446744073709551615 bit = true then d else c) = d
  rw [bitOf_all bit h, if_pos rfl]
theorem sec_calm {S : Sec} {keep : Int} (h : S.late = []) : (⟨keepTo keep S.kept S.late, []⟩ : Sec) = S := by
  obtain ⟨c, l⟩ := S
  simp only at h
  subst h
  rfl
theorem Bodied.flush {s s1 : DSt} {n b : Nat} {t : List UInt8} (h : Bodied s s1 b t (many64 t)) (hq : many64 t ≤ 55) (hf : s1.falls = false) (hc : ∀ i, i < n → (s.K i).late = []) : BodyKept s (s1.stepped.settled 18446744073709551615) n b t := by
  refine ⟨(not_falls hf).1, fun hl => stepped_calm (h.left hl), fun i hi hn => ?_, fun _ _ => rfl, fun i hi => ?_⟩
  · have e := h.rest i (by omega)
    show (⟨keepTo _ (s1.K i).kept (s1.K i).late, []⟩ : Sec) = _
    rw [e]
    exact sec_calm (hc i hi)
  · obtain ⟨bit, h1, h2⟩ := h.body i hi
    show keepTo _ (s1.K (1 + b * 55 + i)).kept (s1.K (1 + b * 55 + i)).late = _
    rw [h2]
    exact bit_all h1
theorem many64_le {t : List UInt8} (h : t.length ≤ 2256) : many64 t ≤ 55 := by unfold many64; omega
theorem Stands.new {S : DSt} {n b : Nat} {E : Nat → EntF} {k : Nat} (hg : ShelfOk E k) (hn : 112 ≤ n) (hb : b ≤ 1) (hup : S.down = false) (hc : ∀ i, i < n → (S.K i).late = []) (h0 : (S.K 0).kept = headT b.toUInt8 (many64 (linesE E k)).toUInt8)
    (hbody : ∀ i, i < many64 (linesE E k) → (S.K (1 + b * 55 + i)).kept = padB (chunk (linesE E k) i)) : Stands S n E k := by
  refine ⟨hup, hn, hc, hg, b, many64 (linesE E k), hb, many64_le (linesE_len hg.few fun i hi => hg.ent hi), h0, ?_⟩
  have e : bodyK S b (many64 (linesE E k)) = catTo (fun i => padB (chunk (linesE E k) i)) (many64 (linesE E k)) := by
    unfold bodyK
    generalize many64 (linesE E k) = q at *
    clear h0
    induction q with
    | zero => rfl
    | succ q ih =>
      have h1 := ih fun i hi => hbody i (by omega)
      simp only [catTo]
      rw [h1, hbody q (by omega)]
  rw [e]
  exact chunks_all _ (linesE_end E k)
theorem padB_head (b q : UInt8) : padB (headB b q).data.toList = headT b q := by
  have h : (headT b q).length = 64 := by simp [headT]
  unfold padB headB
  simp [h]
theorem write_head {s : DSt} {n : Nat} (b q : UInt8) (hn : 112 ≤ n) : s.writeF n 0 (headB b q) = (if s.falls = true then 9 else 0) ∧ s.wrote n 0 (headB b q) = if s.falls = true then s.fell else s.stepped.put 0 (headT b q) := by
  have hs := headB_size b q
  have hno : ¬ (¬ ((0 : Int) ≤ 0 ∧ (0 : Int) < n) ∨ 64 < (headB b q).size) := by rw [hs]; omega
  unfold DSt.writeF DSt.wrote
  rw [if_neg hno, if_neg hno, padB_head]
  exact ⟨rfl, rfl⟩
/-- the head is written: the new entries stand, or the disk fell, and either do. -/
theorem head_done {s s2 : DSt} {n b0 q0 : Nat} {E E' : Nat → EntF} {k k' : Nat} (h : Stands s n E k) (hb0 : b0 ≤ 1) (hq0 : q0 ≤ 55) (hh : (s.K 0).kept = headT b0.toUInt8 q0.toUInt8) (ht : Lib.trimRightB (bodyK s b0 q0) 0 = linesE E k)
    (hK : BodyKept s s2 n (1 - b0) (linesE E' k')) (hg : ShelfOk E' k') (hnx : s2.next < 64) :
    (s2.headF n (1 - b0).toUInt8 (many64 (linesE E' k')).toUInt8 = 0 ∧ Stands (s2.headed n (1 - b0).toUInt8 (many64 (linesE E' k')).toUInt8) n E' k' ∧ (s.left = -1 → (s2.headed n (1 - b0).toUInt8 (many64 (linesE E' k')).toUInt8).left = -1)) ∨
    (s.left ≠ -1 ∧ s2.headF n (1 - b0).toUInt8 (many64 (linesE E' k')).toUInt8 = 9 ∧ Split (s2.headed n (1 - b0).toUInt8 (many64 (linesE E' k')).toUInt8) n E k E' k') := by
  have hn := h.many
  have hb1 : 1 - b0 ≤ 1 := by omega
  obtain ⟨e1, e2⟩ := write_head (s := s2) (n := n) (1 - b0).toUInt8 (many64 (linesE E' k')).toUInt8 hn
  have hcal := hK.calm
  have hbod := hK.body
  unfold DSt.headF DSt.headed
  rw [e1, e2]
  by_cases hf : s2.falls = true
  · rw [if_pos hf, if_pos hf, if_neg (by decide)]
    refine .inr ⟨fun hl => ?_, rfl, ?_⟩
    · have h1 := hK.left hl
      simp [DSt.falls, hK.up, h1] at hf
    · rw [if_neg (by decide)]
      exact h.fallen hb0 hq0 hh ht rfl fun i hi hn' => hK.rest i hi hn'
  · have hf' : s2.falls = false := by simpa using hf
    rw [if_neg hf, if_neg hf, if_pos rfl, if_pos rfl]
    have hk0 : s2.K 0 = s.K 0 := hK.rest 0 (by omega) (by omega)
    generalize hs3 : s2.stepped.put 0 (headT (1 - b0).toUInt8 (many64 (linesE E' k')).toUInt8) = s3
    have k0 : s3.K 0 = ⟨(s2.K 0).kept, [(s2.next, headT (1 - b0).toUInt8 (many64 (linesE E' k')).toUInt8)]⟩ := by
      rw [← hs3]
      show (if (0 : Nat) = 0 then (⟨(s2.K 0).kept, struck (s2.K 0).late s2.next ++ [(s2.next, _)]⟩ : Sec) else s2.K 0) = _
      rw [if_pos rfl, hcal 0 (by omega)]
      rfl
    have ki : ∀ i, i ≠ 0 → s3.K i = s2.K i := fun i hi => by
      rw [← hs3]
      show (if i = 0 then _ else s2.K i) = _
      rw [if_neg hi]
    have hup3 : s3.down = false := by rw [← hs3]; exact hK.up
    have hl3 : s.left = -1 → s3.left = -1 := fun hl => by rw [← hs3]; exact stepped_calm (hK.left hl)
    clear hs3
    have hnew : ∀ (S : DSt) (keep : Int), S.down = false → S.K = (fun j => ⟨keepTo keep (s3.K j).kept (s3.K j).late, []⟩) → bitOf keep s2.next = true → Stands S n E' k' := fun S keep hS hSK hbit => by
      refine Stands.new hg hn hb1 hS (fun i _ => by rw [hSK]) ?_ (fun i hi => ?_)
      · rw [hSK]
        show keepTo keep (s3.K 0).kept (s3.K 0).late = _
        rw [k0]
        show (if bitOf keep s2.next = true then _ else _) = _
        rw [if_pos hbit]
      · rw [hSK]
        have hq := many64_le (linesE_len (E := E') hg.few fun i hi => hg.ent hi)
        have hlt : 1 + (1 - b0) * 55 + i < n := by have : (1 - b0) * 55 ≤ 55 := by omega
                                                   omega
        show keepTo keep (s3.K (1 + (1 - b0) * 55 + i)).kept (s3.K (1 + (1 - b0) * 55 + i)).late = _
        rw [ki _ (by omega), hcal _ hlt]
        exact hbod i hi
    by_cases hf3 : s3.falls = true
    · refine .inr ⟨fun hl => ?_, ?_, ?_⟩
      · have h1 := hl3 hl
        simp [DSt.falls, hup3, h1] at hf3
      · unfold DSt.flushF; rw [if_pos hf3]
      · unfold DSt.flushed; rw [if_pos hf3]
        refine ⟨rfl, fun keep => ?_⟩
        by_cases hbit : bitOf keep s2.next = true
        · exact .inr (hnew _ keep rfl rfl hbit)
        · left
          have hk : ∀ i, i < n → ¬ (1 + (1 - b0) * 55 ≤ i ∧ i < 1 + (1 - b0) * 55 + 55) → ((s3.fell.again keep).K i).kept = (s.K i).kept := fun i hi hn' => by
            show keepTo keep (s3.K i).kept (s3.K i).late = _
            by_cases e : i = 0
            · subst e
              rw [k0]
              show (if bitOf keep s2.next = true then _ else (s2.K 0).kept) = _
              rw [if_neg hbit, hk0]
            · rw [ki i e, hcal i hi]
              show (s2.K i).kept = _
              rw [hK.rest i hi hn']
          refine ⟨rfl, hn, fun _ _ => rfl, h.good, b0, q0, hb0, hq0, (hk 0 (by omega) (by omega)).trans hh, ?_⟩
          rw [bodyK_congr (s := s) (fun i hi => hk _ (by have : b0 * 55 ≤ 55 := by omega
                                                         omega) (by rcases Nat.le_one_iff_eq_zero_or_eq_one.1 hb0 with rfl | rfl <;> omega))]
          exact ht
    · have hf3' : s3.falls = false := by simpa using hf3
      have hbit : bitOf 18446744073709551615 s2.next = true := bitOf_all _ hnx
      refine .inl ⟨?_, ?_, ?_⟩
      · unfold DSt.flushF; rw [if_neg hf3]
      · unfold DSt.flushed; rw [if_neg hf3]
        exact hnew _ _ hup3 rfl hbit
      · unfold DSt.flushed; rw [if_neg hf3]
        exact fun hl => stepped_calm (hl3 hl)
end Go.Proofs.YtidabcoodolddaaGreatDoor

namespace Go.Proofs.YtidabcoodolddaaGreatDoor
open Go.RowKit

/-- a call of writeBody that returned. -/
inductive BodyEnd (s : DSt) (n b : Nat) (t : List UInt8) (s' : DSt) : Ending → Prop
  | ok (h : BodyKept s s' n b t) : BodyEnd s n b t s' (.returned (.tuple #[.agg #[.int .i64 (b : Int), .int .i64 (many64 t : Int)], .nilIface]))
  | fell (x y : Int) (hl : s.left ≠ -1) (hd : s'.down = true) (hr : ∀ i, i < n → ¬ (1 + b * 55 ≤ i ∧ i < 1 + b * 55 + 55) → s'.K i = s.K i) : BodyEnd s n b t s' (.returned (.tuple #[.agg #[.int .i64 x, .int .i64 y], errV 9]))
theorem Disk.nx {w : World} {B p n : Nat} {s : DSt} (h : Disk w B p n s) : s.next < 64 := by
  obtain ⟨⟨bs, v, h⟩, _⟩ := h
  exact h.nx
/-- a block of the call's own turns. -/
theorem Spun.own {B g i : Nat} {w wr : World} (h : Spun B w wr) (hB : B ≤ w.heap.size) (hg : w.heap.size ≤ g) (v : Value) : Spun B w (wr.setCell ⟨g, i, none⟩ v) :=
  ⟨⟨h.below.os, h.below.tape, h.below.output, by simp [World.setCell]; exact h.below.size, fun k hk => (Below.heap_setCell _ _ _ _ (by show k ≠ g; omega)).trans (h.below.block k hk)⟩, fun k o hk ho => by
    have hl := (Array.getElem?_eq_some_iff.1 hk).1
    rw [Below.heap_setCell _ _ _ _ (by show k ≠ g; omega)]
    exact h.block k o hk ho⟩
theorem Disk.set {w : World} {B p n g i : Nat} {s : DSt} {C : Array Value} {t : TypeId} {f : Nat × Nat} (h : Disk w B p n s) (hg : w.heap[g]? = some (.cells C t f)) (ht : ¬ (t = 106 ∨ t = 137 ∨ t = 177)) (v : Value) : Disk (w.setCell ⟨g, i, none⟩ v) B p n s :=
  h.other fun k o hk ho => by
    by_cases e : k = g
    · subst e
      rw [hg] at hk
      injection hk with hk
      obtain ⟨c, t', f', rfl, h'⟩ := ho
      injection hk with _ h2 _
      exact absurd (h2 ▸ h') ht
    · rw [Below.heap_setCell _ _ _ _ e]; exact hk
/-- a text's part, and what is behind it. -/
theorem chunk_cut (t : List UInt8) (j : Nat) : (⟨(t.drop (64 * j)).toArray⟩ : ByteArray).extract 0 (min (⟨(t.drop (64 * j)).toArray⟩ : ByteArray).size 64) = ⟨(chunk t j).toArray⟩ ∧
    (⟨(t.drop (64 * j)).toArray⟩ : ByteArray).extract (min (⟨(t.drop (64 * j)).toArray⟩ : ByteArray).size 64) (⟨(t.drop (64 * j)).toArray⟩ : ByteArray).size = ⟨(t.drop (64 * (j + 1))).toArray⟩ := by
  rw [Lib.extract_mk, Lib.extract_mk, ba_size]
  have e : t.drop (64 * (j + 1)) = (t.drop (64 * j)).drop 64 := by rw [List.drop_drop]; rfl
  rw [e]
  unfold chunk
  generalize t.drop (64 * j) = l
  rw [List.drop_zero, Nat.sub_zero]
  by_cases h64 : 64 ≤ l.length
  · rw [Nat.min_eq_right h64, List.take_of_length_le (l := l.drop 64) (by simp)]
    exact ⟨rfl, rfl⟩
  · rw [Nat.min_eq_left (by omega), List.take_of_length_le (Nat.le_refl _), List.take_of_length_le (l := l) (by omega), List.drop_of_length_le (Nat.le_refl _), List.drop_of_length_le (l := l) (by omega)]
    exact ⟨rfl, by simp⟩
theorem head_not (C : Array Value) (f : Nat × Nat) : ¬ DiskTy (.cells C 143 f) := by
  rintro ⟨c, t, f', h, ht⟩
  injection h with _ h2 _
  subst h2
  exact absurd ht (by decide)
theorem two_new0 (w : World) (a b : Obj) : ((w.alloc a).alloc b).heap[w.heap.size]? = some a := by
  have h : w.heap.size < (w.alloc a).heap.size := by simp
  exact ((((Below.refl _ _).alloc (Nat.le_refl _) b).block _ h : ((w.alloc a).alloc b).heap[w.heap.size]? = (w.alloc a).heap[w.heap.size]?)).trans Array.getElem?_push_size
theorem two_new1 (w : World) (a b : Obj) : ((w.alloc a).alloc b).heap[w.heap.size + 1]? = some b := by
  have h : (w.alloc a).heap.size = w.heap.size + 1 := by simp
  rw [← h]
  exact Array.getElem?_push_size
set_option maxRecDepth 100000 in
set_option maxHeartbeats 4000000 in
theorem writeBody_any (w : World) (B p n : Nat) (s : DSt) (b : Nat) (t : List UInt8) (h : Disk w B p n s) (hup : s.down = false) (hn : 112 ≤ n) (hb : b ≤ 1) (ht : t.length ≤ 3520) (hc : ∀ i, i < n → (s.K i).late = []) :
    Calls Tryz.prog 86 #[.pointer (some ⟨p, 0, none⟩), .int .i64 (b : Int), .string ⟨t.toArray⟩] w fun e w' => ∃ s', BodyEnd s n b t s' e ∧ Disk w' B p n s' ∧ Spun B w w' := by
  have hB := h.base
  have hbi : (b : Int) ≤ 1 := by omega
  have hbi0 : (0 : Int) ≤ (b : Int) := by omega
  have q0 : errV 0 = .nilIface := rfl
  have q9 : errV 9 = .iface 82 (.int .i64 9) := rfl
  have hb0 : Below w.heap.size w ((w.alloc (.cells #[.int .i64 0, .int .i64 0] 143)).alloc (.cells #[.int .i64 (b : Int), .int .i64 0] 143)) := ((Below.refl _ _).alloc (Nat.le_refl _) _).alloc (by simp) _
  have r0 : ((w.alloc (.cells #[.int .i64 0, .int .i64 0] 143)).alloc (.cells #[.int .i64 (b : Int), .int .i64 0] 143)).heap[w.heap.size]? = some (.cells #[.int .i64 0, .int .i64 0] 143 (0, 0)) := two_new0 _ _ _
  have r1 : ((w.alloc (.cells #[.int .i64 0, .int .i64 0] 143)).alloc (.cells #[.int .i64 (b : Int), .int .i64 0] 143)).heap[w.heap.size + 1]? = some (.cells #[.int .i64 (b : Int), .int .i64 0] 143 (0, 0)) := two_new1 _ _ _
  go_enter Tryz.func86, Tryz.ntmps86
  go_wp2
  go_loopw [2] (fun y wr => ∃ (j : Nat) (s1 : DSt), y = .string ⟨(t.drop (64 * j)).toArray⟩ ∧ Hid (64 * j < t.length + 64) ∧ Bodied s s1 b t j ∧ Disk wr B p n s1 ∧ Spun B w wr ∧ wr.heap[w.heap.size]? = some (.cells #[.int .i64 0, .int .i64 0] 143 (0, 0)) ∧ wr.heap[w.heap.size + 1]? = some (.cells #[.int .i64 (b : Int), .int .i64 (j : Int)] 143 (0, 0))) (fun y _ => Lib.strSize y)
  case atStart => exact ⟨0, s, rfl, by show 64 * 0 < t.length + 64; omega, Bodied.start hup b t, h.later hb0, Spun.of hB hb0, r0, r1⟩
  case round =>
    clear r0 r1 hb0
    obtain ⟨j, s1, rfl, hj, hBd, hD, hSp, r0, r1⟩ := hrel
    have hsz : Hid ((⟨(t.drop (64 * j)).toArray⟩ : ByteArray).size = t.length - 64 * j) := by rw [ba_size, List.length_drop]; exact rfl
    obtain ⟨x0, x1, y0, y1⟩ := box2 r1
    have HT : Hid (_ ∧ _) := chunk_cut t j
    generalize (⟨(t.drop (64 * j)).toArray⟩ : ByteArray) = T at *
    have hjn : j < 55 ∨ T.size = 0 := by have h1 := hj.out; have h2 := hsz.out; omega
    by_cases hpos : 0 < T.size
    · have hp : (0 : Int) < (T.size : Int) := by omega
      have hj55 : j < 55 := by omega
      have hlt : 1 + b * 55 + j < n := by have : b * 55 ≤ 55 := by omega
                                          omega
      have hji : (j : Int) < 55 := by omega
      have hji0 : (0 : Int) ≤ (j : Int) := by omega
      have HA := fun W => start_any (b : Int) W hbi0 hbi
      obtain ⟨m, hm⟩ : ∃ m : Nat, m = min T.size 64 := ⟨_, rfl⟩
      have hmi : min (T.size : Int) 64 = (m : Int) := by omega
      have hm0 : (0 : Int) ≤ (m : Int) := by omega
      have hm1 : (m : Int) ≤ (T.size : Int) := by omega
      have hmT : m ≤ T.size := by omega
      have HX : Hid (T.extract 0 m = ⟨(chunk t j).toArray⟩) := by rw [hm]; exact HT.out.1
      have HY : Hid (T.extract m T.size = ⟨(t.drop (64 * (j + 1))).toArray⟩) := by rw [hm]; exact HT.out.2
      have hcs : (⟨(chunk t j).toArray⟩ : ByteArray).size ≤ 64 := by rw [ba_size]; exact chunk_len t j
      have HCD : Hid ((⟨(chunk t j).toArray⟩ : ByteArray).data.toList = chunk t j) := by show (chunk t j).toArray.toList = _; simp
      generalize (⟨(chunk t j).toArray⟩ : ByteArray) = CH at *
      have HSZ : Hid (m = min T.size 64) := hm
      clear hm hjn
      go_wp2_with fail
      have hSS : (fun w' : World => w'.cell? ⟨w.heap.size + 1, 1, none⟩ = some (.int .i64 (j : Int))) wr.drew := x1
      have hDd := hD.later (Below.refl _ wr).drew
      have hSd : Spun B w wr.drew := hSp.trans (Spun.of (Nat.le_trans hB hSp.size) (Below.refl _ wr).drew)
      have r0d : wr.drew.heap[w.heap.size]? = some (.cells #[.int .i64 0, .int .i64 0] 143 (0, 0)) := r0
      have r1d : wr.drew.heap[w.heap.size + 1]? = some (.cells #[.int .i64 (b : Int), .int .i64 (j : Int)] 143 (0, 0)) := r1
      clear hD hSp r0 r1 x0 x1 y0 y1
      refine wp_region_G (fun w' : World => w'.cell? ⟨w.heap.size + 1, 1, none⟩ = some (.int .i64 (j : Int))) 9 11 (by kernel_rfl) rfl ?_
      generalize wr.drew = w1 at *
      refine takeW 0 (v := ?v1) rfl (by kernel_rfl) (by kernel_rfl) (by kernel_rfl) (by kernel_rfl) (fun _ _ _ h => h) (.inr hSS) (.inl ⟨by rfl, fun w => ?hy1⟩) ?rest1
      case hy1 => (go_simp <;> with_reducible rfl)
      simp only [Go.Act.put, List.setIfInBounds_toArray, List.set_cons_zero, List.set_cons_succ]
      refine takeW 1 (v := ?v2) rfl (by kernel_rfl) (by kernel_rfl) (by kernel_rfl) (by kernel_rfl) (fun _ _ _ h => h) (.inr hSS) (.inl ⟨by rfl, fun w => ?hy2⟩) ?rest2
      case hy2 => (go_simp <;> with_reducible rfl)
      simp only [Go.Act.put, List.setIfInBounds_toArray, List.set_cons_zero, List.set_cons_succ]
      refine takeW 3 (v := ?v3) rfl (by kernel_rfl) (by kernel_rfl) (by kernel_rfl) (by kernel_rfl) (fun _ _ _ h => h) (.inr hSS) (.inl ⟨by rfl, fun w => ?hy3⟩) ?rest3
      case hy3 => (go_simp <;> with_reducible rfl)
      simp only [Go.Act.put, List.setIfInBounds_toArray, List.set_cons_zero, List.set_cons_succ]
      refine takeW 6 (v := ?v4) rfl (by kernel_rfl) (by kernel_rfl) (by kernel_rfl) (by kernel_rfl) (fun _ _ _ h => h) (.inr hSS) (.inl ⟨by rfl, fun w => ?hy4⟩) ?rest4
      case hy4 => (go_simp <;> with_reducible rfl)
      simp only [Go.Act.put, List.setIfInBounds_toArray, List.set_cons_zero, List.set_cons_succ]
      refine takeW 7 (v := ?v5) rfl (by kernel_rfl) (by kernel_rfl) (by kernel_rfl) (by kernel_rfl) (fun _ _ _ h => h) (.inr hSS) (.inl ⟨by rfl, fun w => ?hy5⟩) ?rest5
      case hy5 => (go_simp <;> with_reducible rfl)
      simp only [Go.Act.put, List.setIfInBounds_toArray, List.set_cons_zero, List.set_cons_succ]
      refine takeW 8 (v := ?v6) rfl (by kernel_rfl) (by kernel_rfl) (by kernel_rfl) (by kernel_rfl) (fun _ _ _ h => h) (.inr hSS) (.inl ⟨by rfl, fun w => ?hy6⟩) ?rest6
      case hy6 => (go_simp <;> with_reducible rfl)
      simp only [Go.Act.put, List.setIfInBounds_toArray, List.set_cons_zero, List.set_cons_succ]
      rw [HX.out]
      refine takeR 4 [5] (v := ?v7) rfl (by kernel_rfl) (by kernel_rfl) (by kernel_rfl) (by kernel_rfl) (by kernel_rfl) (fun _ _ _ h => h) hSS (.inl ⟨by rfl, fun w hSw => ?hy7⟩) ?rest7
      case hy7 => ((try dsimp only at hSw); go_simp <;> with_reducible rfl)
      simp only [Go.Act.put, List.setIfInBounds_toArray, List.set_cons_zero, List.set_cons_succ]
      refine onlyG 2 rfl (by kernel_rfl) (fun K hK => ?_)
      go_wp2_with fail
      refine (show Calls _ _ _ _ _ from HA _).mono ?_
      rintro e w2 ⟨rfl, hw2⟩
      subst hw2
      clear HA
      go_wp2
      refine hK _ _ hSS ?_
      clear hK
      refine takeW 5 (v := ?v9) rfl (by kernel_rfl) (by kernel_rfl) (by kernel_rfl) (by kernel_rfl) (fun _ _ _ h => h) (.inr hSS) (.inl ⟨by rfl, fun w => ?hy9⟩) ?rest9
      case hy9 => (go_simp <;> with_reducible rfl)
      simp only [Go.Act.put, List.setIfInBounds_toArray, List.set_cons_zero, List.set_cons_succ]
      have HWR := diskWrite_any w1 B p n s1 (1 + (b : Int) * 55 + (j : Int)) CH hDd (Nat.le_trans hcs (by decide))
      have hin : ¬ (¬ (0 ≤ 1 + (b : Int) * 55 + (j : Int) ∧ 1 + (b : Int) * 55 + (j : Int) < n) ∨ 64 < CH.size) := by omega
      unfold DSt.writeF DSt.wrote at HWR
      rw [if_neg hin, if_neg hin, HCD.out, show (1 + (b : Int) * 55 + (j : Int)).toNat = 1 + b * 55 + j by omega] at HWR
      refine lastG 9 rfl (by kernel_rfl) (by kernel_rfl) (fun K hK => ?_)
      cases hf : s1.falls with
      | true =>
        rw [if_pos hf, if_pos hf, q9] at HWR
        go_wp2_with fail
        refine (show Calls _ _ _ _ _ from HWR).mono ?_
        rintro e w4 ⟨rfl, hD4, hS4⟩
        clear HWR
        go_wp2
        refine hK _ _ ?_
        clear hK
        refine takeW 10 (v := ?v11) rfl (by kernel_rfl) (by kernel_rfl) (by kernel_rfl) (by kernel_rfl) (fun _ _ _ h => h) (.inl (by kernel_rfl)) (.inl ⟨by rfl, fun w => ?hy11⟩) ?rest11
        case hy11 => (go_simp <;> with_reducible rfl)
        simp only [Go.Act.put, List.setIfInBounds_toArray, List.set_cons_zero, List.set_cons_succ]
        refine doneG (by kernel_rfl) ?_ _
        have r0e := hS4.block _ _ r0d (head_not _ _)
        obtain ⟨z0, z1, z2, z3⟩ := box2 r0e
        have hSE : Spun B w ((w4.setCell ⟨w.heap.size, 0, none⟩ (.int .i64 0)).setCell ⟨w.heap.size, 1, none⟩ (.int .i64 0)) := ((hSd.trans hS4).own hB (Nat.le_refl _) _).own hB (Nat.le_refl _) _
        have hDE : Disk ((w4.setCell ⟨w.heap.size, 0, none⟩ (.int .i64 0)).setCell ⟨w.heap.size, 1, none⟩ (.int .i64 0)) B p n s1.fell := (hD4.set r0e (by decide) _).set (heap_set0 _ r0e) (by decide) _
        have HEND : BodyEnd s n b t s1.fell (.returned (.tuple #[.agg #[.int .i64 0, .int .i64 0], errV 9])) := .fell 0 0 (fun hl => by
          have h1 := hBd.left hl
          simp [DSt.falls, hBd.up, h1] at hf) rfl (fun i hi hni => hBd.rest i (by omega))
        clear hf
        go_wp2
        refine bodyPost_ret (v := .tuple #[.agg #[.int .i64 0, .int .i64 0], .iface 82 (.int .i64 9)]) (by simp [results, Tryz.results86, go_sem, z0, z1]) rfl ?_
        exact ⟨_, HEND, hDE, hSE⟩
      | false =>
        rw [if_neg (by simp [hf]), if_neg (by simp [hf]), q0] at HWR
        have hBd2 := hBd.more hf hDd.nx (hc _ hlt)
        go_wp2_with fail
        refine (show Calls _ _ _ _ _ from HWR).mono ?_
        rintro e w4 ⟨rfl, hD4, hS4⟩
        clear HWR
        go_wp2
        refine hK _ _ ?_
        clear hK
        refine takeW 10 (v := ?v13) rfl (by kernel_rfl) (by kernel_rfl) (by kernel_rfl) (by kernel_rfl) (fun _ _ _ h => h) (.inl (by kernel_rfl)) (.inl ⟨by rfl, fun w => ?hy13⟩) ?rest13
        case hy13 => (go_simp <;> with_reducible rfl)
        simp only [Go.Act.put, List.setIfInBounds_toArray, List.set_cons_zero, List.set_cons_succ]
        refine doneG (by kernel_rfl) ?_ _
        have r0e := hS4.block _ _ r0d (head_not _ _)
        have r1e := hS4.block _ _ r1d (head_not _ _)
        have hSe := hSd.trans hS4
        obtain ⟨x0, x1, y0, y1⟩ := box2 r1e
        clear hf hSS hDd hSd r0d r1d hS4
        go_wp2
        have hSS : (fun w' : World => w'.cell? ⟨w.heap.size + 1, 1, none⟩ = some (.int .i64 (j : Int))) w4.drew := x1
        have hDd := hD4.later (Below.refl _ w4).drew
        have hSd : Spun B w w4.drew := hSe.trans (Spun.of (Nat.le_trans hB hSe.size) (Below.refl _ w4).drew)
        have r0d : w4.drew.heap[w.heap.size]? = some (.cells #[.int .i64 0, .int .i64 0] 143 (0, 0)) := r0e
        have r1d : w4.drew.heap[w.heap.size + 1]? = some (.cells #[.int .i64 (b : Int), .int .i64 (j : Int)] 143 (0, 0)) := r1e
        obtain ⟨x0', x1', y0', y1'⟩ := box2 r1d
        clear hD4 hSe r0e r1e x0 x1 y0 y1
        refine wp_region_G (fun w' : World => w'.cell? ⟨w.heap.size + 1, 1, none⟩ = some (.int .i64 (j : Int))) 8 9 (by kernel_rfl) rfl ?_
        generalize w4.drew = w5 at *
        refine takeW 0 (v := ?v15) rfl (by kernel_rfl) (by kernel_rfl) (by kernel_rfl) (by kernel_rfl) (fun _ _ _ h => h) (.inr hSS) (.inl ⟨by rfl, fun w => ?hy15⟩) ?rest15
        case hy15 => (go_simp <;> with_reducible rfl)
        simp only [Go.Act.put, List.setIfInBounds_toArray, List.set_cons_zero, List.set_cons_succ]
        refine takeW 1 (v := ?v16) rfl (by kernel_rfl) (by kernel_rfl) (by kernel_rfl) (by kernel_rfl) (fun _ _ _ h => h) (.inr hSS) (.inl ⟨by rfl, fun w => ?hy16⟩) ?rest16
        case hy16 => (go_simp <;> with_reducible rfl)
        simp only [Go.Act.put, List.setIfInBounds_toArray, List.set_cons_zero, List.set_cons_succ]
        refine takeW 2 (v := ?v17) rfl (by kernel_rfl) (by kernel_rfl) (by kernel_rfl) (by kernel_rfl) (fun _ _ _ h => h) (.inr hSS) (.inl ⟨by rfl, fun w => ?hy17⟩) ?rest17
        case hy17 => (go_simp <;> with_reducible rfl)
        simp only [Go.Act.put, List.setIfInBounds_toArray, List.set_cons_zero, List.set_cons_succ]
        refine takeW 3 (v := ?v18) rfl (by kernel_rfl) (by kernel_rfl) (by kernel_rfl) (by kernel_rfl) (fun _ _ _ h => h) (.inr hSS) (.inl ⟨by rfl, fun w => ?hy18⟩) ?rest18
        case hy18 => (go_simp <;> with_reducible rfl)
        simp only [Go.Act.put, List.setIfInBounds_toArray, List.set_cons_zero, List.set_cons_succ]
        refine takeW 6 (v := ?v19) rfl (by kernel_rfl) (by kernel_rfl) (by kernel_rfl) (by kernel_rfl) (fun _ _ _ h => h) (.inr hSS) (.inl ⟨by rfl, fun w => ?hy19⟩) ?rest19
        case hy19 => (go_simp <;> with_reducible rfl)
        simp only [Go.Act.put, List.setIfInBounds_toArray, List.set_cons_zero, List.set_cons_succ]
        rw [HY.out]
        refine takeR 4 [] (v := ?v20) rfl (by kernel_rfl) (by kernel_rfl) (by kernel_rfl) (by kernel_rfl) (by kernel_rfl) (fun _ _ _ h => h) hSS (.inl ⟨by rfl, fun w hSw => ?hy20⟩) ?rest20
        case hy20 => ((try dsimp only at hSw); go_simp <;> with_reducible rfl)
        simp only [Go.Act.put, List.setIfInBounds_toArray, List.set_cons_zero, List.set_cons_succ]
        refine takeW 5 (v := ?v21) rfl (by kernel_rfl) (by kernel_rfl) (by kernel_rfl) (by kernel_rfl) (fun _ _ _ h => h) (.inr hSS) (.inl ⟨by rfl, fun w => ?hy21⟩) ?rest21
        case hy21 => (go_simp <;> with_reducible rfl)
        simp only [Go.Act.put, List.setIfInBounds_toArray, List.set_cons_zero, List.set_cons_succ]
        refine takeW 7 (v := ?v22) rfl (by kernel_rfl) (by kernel_rfl) (by kernel_rfl) (by kernel_rfl) (fun _ _ _ h => h) (.inr hSS) (.inl ⟨by rfl, fun w => ?hy22⟩) ?rest22
        case hy22 => (go_simp <;> with_reducible rfl)
        simp only [Go.Act.put, List.setIfInBounds_toArray, List.set_cons_zero, List.set_cons_succ]
        refine lastG 8 rfl (by kernel_rfl) (by kernel_rfl) (fun K hK => ?_)
        go_wp2
        refine hK _ _ ?_
        clear hK
        refine doneG (by kernel_rfl) ?_ _
        have hsz2 : (⟨(t.drop (64 * (j + 1))).toArray⟩ : ByteArray).size = t.length - 64 * (j + 1) := by rw [ba_size, List.length_drop]
        have hsz1 := hsz.out
        have r0n : (w5.setCell ⟨w.heap.size + 1, 1, none⟩ (.int .i64 ((j : Int) + 1))).heap[w.heap.size]? = some (.cells #[.int .i64 0, .int .i64 0] 143 (0, 0)) := (Below.heap_setCell _ _ _ _ (by simp)).trans r0d
        have r1n : (w5.setCell ⟨w.heap.size + 1, 1, none⟩ (.int .i64 ((j : Int) + 1))).heap[w.heap.size + 1]? = some (.cells #[.int .i64 (b : Int), .int .i64 ((j + 1 : Nat) : Int)] 143 (0, 0)) := by rw [heap_set0 _ r1d]; rfl
        have hDn := hDd.set (i := 1) r1d (by decide) (.int .i64 ((j : Int) + 1))
        have hSn := hSd.own (i := 1) hB (Nat.le_succ w.heap.size) (.int .i64 ((j : Int) + 1))
        go_wp2
        go_roundw
        case rel => exact ⟨j + 1, _, rfl, by show 64 * (j + 1) < t.length + 64; omega, hBd2, hDn, hSn, r0n, r1n⟩
        case measure => show Lib.strSize (.string _) < Lib.strSize (.string _); rw [Lib.strSize_string, Lib.strSize_string]; omega
    · have hjq : j = many64 t := by have h1 := hj.out; have h2 := hsz.out; unfold many64; omega
      have hT0 : T.size = 0 := by omega
      have hq55 : many64 t ≤ 55 := by unfold many64; omega
      subst hjq
      go_wp2
      have hSS : (fun w' : World => w'.cell? ⟨w.heap.size + 1, 0, none⟩ = some (.int .i64 (b : Int)) ∧ w'.cell? ⟨w.heap.size + 1, 1, none⟩ = some (.int .i64 (many64 t : Int))) wr.drew := ⟨x0, x1⟩
      have hDd := hD.later (Below.refl _ wr).drew
      have hSd : Spun B w wr.drew := hSp.trans (Spun.of (Nat.le_trans hB hSp.size) (Below.refl _ wr).drew)
      have r0d : wr.drew.heap[w.heap.size]? = some (.cells #[.int .i64 0, .int .i64 0] 143 (0, 0)) := r0
      have r1d : wr.drew.heap[w.heap.size + 1]? = some (.cells #[.int .i64 (b : Int), .int .i64 (many64 t : Int)] 143 (0, 0)) := r1
      clear hD hSp r0 r1 x0 x1 y0 y1 HT
      refine wp_region_G (fun w' : World => w'.cell? ⟨w.heap.size + 1, 0, none⟩ = some (.int .i64 (b : Int)) ∧ w'.cell? ⟨w.heap.size + 1, 1, none⟩ = some (.int .i64 (many64 t : Int))) 3 5 (by kernel_rfl) rfl ?_
      generalize wr.drew = w1 at *
      refine takeW 1 (v := ?v25) rfl (by kernel_rfl) (by kernel_rfl) (by kernel_rfl) (by kernel_rfl) (fun _ _ _ h => h) (.inr hSS) (.inl ⟨by rfl, fun w => ?hy25⟩) ?rest25
      case hy25 => (go_simp <;> with_reducible rfl)
      simp only [Go.Act.put, List.setIfInBounds_toArray, List.set_cons_zero, List.set_cons_succ]
      refine takeR 0 [] (v := ?v26) rfl (by kernel_rfl) (by kernel_rfl) (by kernel_rfl) (by kernel_rfl) (by kernel_rfl) (fun _ _ _ h => h) hSS (.inl ⟨by rfl, fun w hSw => ?hy26⟩) ?rest26
      case hy26 => ((try dsimp only at hSw); go_simp <;> with_reducible rfl)
      simp only [Go.Act.put, List.setIfInBounds_toArray, List.set_cons_zero, List.set_cons_succ]
      have HFL := diskFlush_any w1 B p n s1 hDd
      unfold DSt.flushF DSt.flushed at HFL
      cases hf : s1.falls with
      | true =>
        rw [if_pos hf, if_pos hf, q9] at HFL
        refine onlyG 2 rfl (by kernel_rfl) (fun K hK => ?_)
        go_wp2_with fail
        refine (show Calls _ _ _ _ _ from HFL).mono ?_
        rintro e w4 ⟨rfl, hD4, hS4⟩
        clear HFL
        have r0e := hS4.block _ _ r0d (head_not _ _)
        have r1e := hS4.block _ _ r1d (head_not _ _)
        obtain ⟨x0, x1, y0, y1⟩ := box2 r1e
        obtain ⟨z0, z1, z2, z3⟩ := box2 r0e
        go_wp2
        refine hK _ _ ⟨x0, x1⟩ ?_
        clear hK
        have hSE : Spun B w ((w4.setCell ⟨w.heap.size, 0, none⟩ (.int .i64 (b : Int))).setCell ⟨w.heap.size, 1, none⟩ (.int .i64 (many64 t : Int))) := ((hSd.trans hS4).own hB (Nat.le_refl _) _).own hB (Nat.le_refl _) _
        have hDE : Disk ((w4.setCell ⟨w.heap.size, 0, none⟩ (.int .i64 (b : Int))).setCell ⟨w.heap.size, 1, none⟩ (.int .i64 (many64 t : Int))) B p n s1.fell := (hD4.set r0e (by decide) _).set (heap_set0 _ r0e) (by decide) _
        have HEND : BodyEnd s n b t s1.fell (.returned (.tuple #[.agg #[.int .i64 (b : Int), .int .i64 (many64 t : Int)], errV 9])) := .fell _ _ (fun hl => by
          have h1 := hBd.left hl
          simp [DSt.falls, hBd.up, h1] at hf) rfl (fun i hi hni => hBd.rest i (by omega))
        clear hf
        refine lastG 3 rfl (by kernel_rfl) (by kernel_rfl) (fun K hK => ?_)
        go_wp2
        refine hK _ _ ?_
        clear hK
        refine takeW 4 (v := ?v29) rfl (by kernel_rfl) (by kernel_rfl) (by kernel_rfl) (by kernel_rfl) (fun _ _ _ h => h) (.inl (by kernel_rfl)) (.inl ⟨by rfl, fun w => ?hy29⟩) ?rest29
        case hy29 => (go_simp <;> with_reducible rfl)
        simp only [Go.Act.put, List.setIfInBounds_toArray, List.set_cons_zero, List.set_cons_succ]
        refine doneG (by kernel_rfl) ?_ _
        go_wp2
        refine bodyPost_ret (v := .tuple #[.agg #[.int .i64 (b : Int), .int .i64 (many64 t : Int)], .iface 82 (.int .i64 9)]) (by simp [results, Tryz.results86, go_sem, z0, z1]) rfl ?_
        exact ⟨_, HEND, hDE, hSE⟩
      | false =>
        rw [if_neg (by simp [hf]), if_neg (by simp [hf]), q0] at HFL
        have hKB := hBd.flush hq55 hf hc
        refine onlyG 2 rfl (by kernel_rfl) (fun K hK => ?_)
        go_wp2_with fail
        refine (show Calls _ _ _ _ _ from HFL).mono ?_
        rintro e w4 ⟨rfl, hD4, hS4⟩
        clear HFL
        have r0e := hS4.block _ _ r0d (head_not _ _)
        have r1e := hS4.block _ _ r1d (head_not _ _)
        obtain ⟨x0, x1, y0, y1⟩ := box2 r1e
        obtain ⟨z0, z1, z2, z3⟩ := box2 r0e
        go_wp2
        refine hK _ _ ⟨x0, x1⟩ ?_
        clear hK
        have hSE : Spun B w ((w4.setCell ⟨w.heap.size, 0, none⟩ (.int .i64 (b : Int))).setCell ⟨w.heap.size, 1, none⟩ (.int .i64 (many64 t : Int))) := ((hSd.trans hS4).own hB (Nat.le_refl _) _).own hB (Nat.le_refl _) _
        have hDE : Disk ((w4.setCell ⟨w.heap.size, 0, none⟩ (.int .i64 (b : Int))).setCell ⟨w.heap.size, 1, none⟩ (.int .i64 (many64 t : Int))) B p n (s1.stepped.settled 18446744073709551615) := (hD4.set r0e (by decide) _).set (heap_set0 _ r0e) (by decide) _
        have HEND : BodyEnd s n b t _ (.returned (.tuple #[.agg #[.int .i64 (b : Int), .int .i64 (many64 t : Int)], .nilIface])) := .ok hKB
        clear hf
        refine lastG 3 rfl (by kernel_rfl) (by kernel_rfl) (fun K hK => ?_)
        go_wp2
        refine hK _ _ ?_
        clear hK
        refine takeW 4 (v := ?v33) rfl (by kernel_rfl) (by kernel_rfl) (by kernel_rfl) (by kernel_rfl) (fun _ _ _ h => h) (.inl (by kernel_rfl)) (.inl ⟨by rfl, fun w => ?hy33⟩) ?rest33
        case hy33 => (go_simp <;> with_reducible rfl)
        simp only [Go.Act.put, List.setIfInBounds_toArray, List.set_cons_zero, List.set_cons_succ]
        refine doneG (by kernel_rfl) ?_ _
        go_wp2
        refine bodyPost_ret (v := .tuple #[.agg #[.int .i64 (b : Int), .int .i64 (many64 t : Int)], .nilIface]) (by simp [results, Tryz.results86, go_sem, z0, z1]) rfl ?_
        exact ⟨_, HEND, hDE, hSE⟩
end Go.Proofs.YtidabcoodolddaaGreatDoor
