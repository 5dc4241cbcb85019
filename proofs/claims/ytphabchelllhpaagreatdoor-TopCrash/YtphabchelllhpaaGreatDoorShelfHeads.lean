/-
  The head of a shelf, as a text of one sector.
  A region that draws its order, walked by hand: what only reads is taken as early as it may come up; what is left comes up alone. S: what the world keeps till operation number e has come up.
  What readHead of package shelf returns, of any disk: the head that stands in its first sector, or the number of the error.
  What writeHead of package shelf does, of any disk.
-/
import Derived.Test.YtphabchelllhpaaGreatDoorShelf
import Derived.Test.YtphabchelllhpaaGreatDoorAtAll
import Derived.Test.YtphabchelllhpaaGreatDoorErr
import Derived.Laws.IdiomStrings
import Derived.WideShapes
import Derived.OrdersHeld
import Derived.RegionTactic
import Derived.KernelRfl
import Derived.Test.YtphabchelllhpaaGreatDoorDiskAll
namespace Go.Proofs.YtphabchelllhpaaGreatDoor
open Go.RowKit

abbrev markL : List UInt8 := [109, 97, 114, 108, 105, 110, 115, 112, 105, 107, 101, 32, 115, 104, 101, 108, 102, 32]
/-- which body, how many sectors: the head's sector. -/
def headT (b s : UInt8) : List UInt8 := markL ++ [b, s] ++ List.replicate 44 0
theorem rep44 : Lib.repeatL [(0 : UInt8)] 44 = List.replicate 44 0 := by decide +kernel

set_option maxRecDepth 100000 in
set_option maxHeartbeats 2000000 in
theorem headText_any (b s : Nat) (w : World) (hb : b < 256) (hs : s < 256) :
    Calls Tryz.prog 49 #[.agg #[.int .i64 b, .int .i64 s]] w fun e w' => e = .returned (.string ⟨(headT b.toUInt8 s.toUInt8).toArray⟩) ∧ Below w.heap.size w w' := by
  have HR := fun W => Tryz.strings_Repeat ⟨#[0]⟩ 44 W (by decide) (by decide)
  have hb1 : (b : Int) < 256 := by omega
  have hs1 : (s : Int) < 256 := by omega
  have hb0 : (0 : Int) ≤ (b : Int) := by omega
  have hs0 : (0 : Int) ≤ (s : Int) := by omega
  have hcv : ∀ (src dst : TypeId), Tryz.prog.underlying src = some (.slice 5) → Tryz.prog.underlying dst = some .string → (convert src dst (.slice (some ⟨w.heap.size + 1, 0, none⟩) 2 2)).run Tryz.prog ((w.alloc (.cells #[.int .i64 b, .int .i64 s] 81)).alloc (.cells #[.int .u8 b, .int .u8 s] 5)) = .ok (.string ⟨[b.toUInt8, s.toUInt8].toArray⟩) ((w.alloc (.cells #[.int .i64 b, .int .i64 s] 81)).alloc (.cells #[.int .u8 b, .int .u8 s] 5)) := fun src dst hs' hd' => by
    have := run_convert_bytes_back (P := Tryz.prog) ((w.alloc (.cells #[.int .i64 b, .int .i64 s] 81)).alloc (.cells #[.int .u8 b, .int .u8 s] 5)) src dst 5 ⟨w.heap.size + 1, 0, none⟩ 2 [b.toUInt8, s.toUInt8] hs' Tryz.underlying5 hd' (fun j hj => by
      match j, hj with
      | 0, _ => simp [go_sem, Addr.add]; omega
      | 1, _ => simp [go_sem, Addr.add]; omega
      | j + 2, hj => exact absurd hj (by simp))
    simpa using this
  have hcv2 := hcv _ _ Tryz.underlying108 Tryz.underlying9
  have HT : Hid (headT b.toUInt8 s.toUInt8 = markL ++ [b.toUInt8, s.toUInt8] ++ Lib.repeatL [(0 : UInt8)] 44) := by rw [rep44]; rfl
  clear hcv
  go_enter Tryz.func49, Tryz.ntmps49
  go_wp2_with fail
  refine (show Calls _ _ _ _ _ from HR _).mono ?_
  rintro e w2 ⟨rfl, hb2⟩
  clear HR hcv2
  go_wp2
  go_ret
  refine ⟨?_, (((Below.refl _ w).alloc (Nat.le_refl _) _).alloc (by simp) _).trans (hb2.mono (by simp; omega))⟩
  rw [HT.out]
  refine congrArg (fun x => Ending.returned (Value.string x)) (WideShapes.bytes_inj ?_)
  simp
end Go.Proofs.YtphabchelllhpaaGreatDoor

namespace Go.Proofs.YtphabchelllhpaaGreatDoor
open Go

section
variable {P : Program} {ops : Array Oper} {Q : Exit → Go.Act → World → Prop} {md : Region.Mode} {S : World → Prop} {e : Nat}

/-- Whatever order is picked from here on, and S holds behind every operation that is carried out till number e has come up. -/
def wpAnyG (P : Program) (md : Region.Mode) (ops : Array Oper) (Q : Exit → Go.Act → World → Prop) (S : World → Prop) (e : Nat) : Nat → Array Bool → Go.Act → World → Prop
  | 0, listed, a, w => Region.ready md ops listed = [] ∧ Q .normal a w
  | fuel + 1, listed, a, w =>
    (Region.ready md ops listed = [] → Q .normal a w) ∧
    ∀ i ∈ Region.ready md ops listed, wpOp P ops Q i (fun a' w' => (i = e ∨ listed.getD e false = true ∨ S w') ∧ wpAnyG P md ops Q S e fuel (listed.setIfInBounds i true) a' w') a w

theorem wpAny_of_G : ∀ (fuel : Nat) (listed : Array Bool) (a : Go.Act) (w : World), wpAnyG P md ops Q S e fuel listed a w → wpAny P md ops Q fuel listed a w
  | 0, _, _, _, h => h
  | fuel + 1, _, _, _, h => ⟨h.1, fun i hi => wpOp_mono (fun a' w' h' => wpAny_of_G fuel _ a' w' h'.2) (h.2 i hi)⟩

theorem wp_region_G (S : World → Prop) (e n : Nat) {id : Nat} {l : List Oper} {a : Go.Act} {w : World} (hm : P.follows .mixedOrders = true) (hn : l.length = n)
    (h : wpAnyG P .any l.toArray Q S e n (Array.replicate n false) a w.drew) : (Code.region id l.toArray true).wp P Q a w :=
  wp_region_any hm (wpAny_of_G (S := S) (e := e) _ _ _ _ (by subst hn; simpa using h))

/-- what has come up hangs on what has come up. -/
def Closed (md : Region.Mode) (ops : Array Oper) (listed : Array Bool) : Prop :=
  ∀ j o, ops[j]? = some o → listed.getD j false = true → ∀ d ∈ o.after, Region.binds md d = true → listed.getD d.on false = true
def closedB (md : Region.Mode) (ops : Array Oper) (listed : Array Bool) : Bool :=
  (List.range ops.size).all fun j => !listed.getD j false || ((ops[j]?).map fun o => o.after.all fun d => !Region.binds md d || listed.getD d.on false).getD true
theorem closedB_spec {listed : Array Bool} (h : closedB md ops listed = true) : Closed md ops listed := by
  intro j o hj hl d hd hb
  simp only [closedB, List.all_eq_true, List.mem_range] at h
  have h1 := h j (Array.getElem?_eq_some_iff.1 hj).1
  simp only [hl, hj, Bool.not_true, Bool.false_or, Option.map_some, Option.getD_some, Array.all_eq_true_iff_forall_mem] at h1
  have h2 := h1 d hd
  simpa [hb] using h2
theorem Closed.step {listed : Array Bool} {i : Nat} (h : Closed md ops listed) (hi : i ∈ Region.ready md ops listed) : Closed md ops (listed.setIfInBounds i true) := by
  intro j o hj hl d hd hb
  by_cases hij : i = j
  · subst hij
    obtain ⟨_, o', ho', hall⟩ := mem_ready.1 hi
    rw [hj] at ho'
    cases ho'
    exact getD_set_true (hall d hd hb)
  · rw [getD_set_ne false hij] at hl
    exact getD_set_true (h j o hj hl d hd hb)

def hangsB (md : Region.Mode) (ops : Array Oper) (e i : Nat) : Bool := ((ops[e]?).map fun o => o.after.any fun d => Region.binds md d && d.on == i).getD false
/-- number e hangs on number i, by the way of those in the list. -/
def pathB (md : Region.Mode) (ops : Array Oper) : Nat → List Nat → Nat → Bool
  | e, [], i => hangsB md ops e i
  | e, p :: ps, i => hangsB md ops e p && pathB md ops p ps i
theorem hangs_spec {e i : Nat} (h : hangsB md ops e i = true) : ∃ o, ops[e]? = some o ∧ ∃ d ∈ o.after, Region.binds md d = true ∧ d.on = i := by
  unfold hangsB at h
  cases ho : ops[e]? with
  | none => simp [ho] at h
  | some o =>
    simp only [ho, Option.map_some, Option.getD_some] at h
    obtain ⟨d, hd, hb⟩ := Array.any_eq_true'.1 h
    simp only [Bool.and_eq_true, beq_iff_eq] at hb
    exact ⟨o, rfl, d, hd, hb.1, hb.2⟩
theorem hangs_listed {listed : Array Bool} {e i : Nat} (hc : Closed md ops listed) (h : hangsB md ops e i = true) (he : listed.getD e false = true) : listed.getD i false = true := by
  obtain ⟨o, ho, d, hd, hb, rfl⟩ := hangs_spec h
  exact hc e o ho he d hd hb
theorem hangs_ready {listed : Array Bool} {e i : Nat} (h : hangsB md ops e i = true) (he : e ∈ Region.ready md ops listed) : listed.getD i false = true := by
  obtain ⟨o, ho, d, hd, hb, rfl⟩ := hangs_spec h
  obtain ⟨_, o', ho', hall⟩ := mem_ready.1 he
  rw [ho] at ho'
  cases ho'
  exact hall d hd hb
theorem path_listed {listed : Array Bool} (hc : Closed md ops listed) : ∀ (ps : List Nat) {e i : Nat}, pathB md ops e ps i = true → listed.getD e false = true → listed.getD i false = true
  | [], _, _, h, he => hangs_listed hc h he
  | p :: ps, _, _, h, he => by
    simp only [pathB, Bool.and_eq_true] at h
    exact path_listed hc ps h.2 (hangs_listed hc h.1 he)
theorem path_ready {listed : Array Bool} (hc : Closed md ops listed) : ∀ (ps : List Nat) {e i : Nat}, pathB md ops e ps i = true → e ∈ Region.ready md ops listed → listed.getD i false = true
  | [], _, _, h, he => hangs_ready h he
  | p :: ps, _, _, h, he => by
    simp only [pathB, Bool.and_eq_true] at h
    exact path_listed hc ps h.2 (hangs_ready h.1 he)
theorem not_listed {listed : Array Bool} {i : Nat} (h : i ∈ Region.ready md ops listed) : listed.getD i false ≠ true := by
  have h0 := (mem_ready.1 h).1
  intro h1
  rcases Nat.lt_or_ge i listed.size with h' | h'
  · simp [h'] at h0 h1; rw [h0] at h1; cases h1
  · simp [Array.getElem?_eq_none h'] at h1
theorem not_hangs {listed : Array Bool} {i j : Nat} {oj : Oper} (hr : i ∈ Region.ready md ops listed) (hj : j ∈ Region.ready md ops listed) (hoj : ops[j]? = some oj) : ∀ d ∈ oj.after, Region.binds md d = true → d.on ≠ i := fun d hd hb heq => by
  obtain ⟨_, o', ho', hall⟩ := mem_ready.1 hj
  rw [hoj] at ho'
  cases ho'
  exact not_listed hr (heq ▸ hall d hd hb)

/-- An operation that yields its value in every world that meets S, and on which number e hangs, may be taken first. -/
theorem wpAnyG_first {i : Nat} {oi : Oper} {v : Value} {ps : List Nat} (hi : ops[i]? = some oi) (hsel : ∀ (j : Nat) (o : Oper) cs b, ops[j]? = some o → o.op ≠ .select cs b)
    (hQ : ∀ c a w, Q (.panic c) (a.put oi.dst v) w → Q (.panic c) a w) (hp : pathB md ops e ps i = true) :
    ∀ (fuel : Nat) (listed : Array Bool) (a : Go.Act) (w : World),
      (∀ j oj, ops[j]? = some oj → j ≠ i → listed.getD j true = false → (∀ d ∈ oj.after, Region.binds md d = true → d.on ≠ i) → oi.apart ops oj = true) →
      Closed md ops listed → i ∈ Region.ready md ops listed → YieldsIf P ops S oi v a → S w →
      wpAnyG P md ops Q S e fuel (listed.setIfInBounds i true) (a.put oi.dst v) w → wpAnyG P md ops Q S e (fuel + 1) listed a w := by
  intro fuel
  induction fuel with
  | zero =>
    intro listed a w _ _ hr hy hS H
    refine ⟨fun h => (by rw [h] at hr; cases hr), fun j hj => ?_⟩
    by_cases hji : j = i
    · subst hji; exact hy.wpOp hi hS ⟨.inr (.inr hS), H⟩
    · have := ready_mono hj hji
      rw [H.1] at this
      cases this
  | succ fuel ih =>
    intro listed a w hfree hcl hr hy hS H
    refine ⟨fun h => (by rw [h] at hr; cases hr), fun j hj => ?_⟩
    by_cases hji : j = i
    · subst hji; exact hy.wpOp hi hS ⟨.inr (.inr hS), H⟩
    · have h1 := H.2 j (ready_mono hj hji)
      obtain ⟨hjun, oj, hoj, _⟩ := mem_ready.1 hj
      have h2 := wpOp_putIf hoj (hfree j oj hoj hji hjun (not_hangs hr hj hoj)) (fun cs b => hsel i oi cs b hi) (fun cs b => hsel j oj cs b hoj) hQ hy h1
      have hje : j ≠ e := fun h => not_listed hr (path_ready hcl ps hp (h ▸ hj))
      have hie : i ≠ e := fun h => not_listed hr (path_ready hcl ps hp (h ▸ hr))
      have hle : listed.getD e false ≠ true := fun h => not_listed hr (path_listed hcl ps hp h)
      have hfree' : ∀ k ok, ops[k]? = some ok → k ≠ i → (listed.setIfInBounds j true).getD k true = false →
          (∀ d ∈ ok.after, Region.binds md d = true → d.on ≠ i) → oi.apart ops ok = true := fun k ok hk hki hun hno => by
        refine hfree k ok hk hki ?_ hno
        by_cases hjk : j = k
        · subst hjk; exact hjun
        · rw [getD_set_ne true hjk] at hun; exact hun
      refine wpOp_mono (fun a' w' h3 => ?_) h2
      obtain ⟨hy3, hc3, hG⟩ := h3
      have hS3 : S w' := by
        rcases hc3 with h | h | h
        · exact absurd h hje
        · rw [getD_set_ne false hie] at h; exact absurd h hle
        · exact h
      refine ⟨.inr (.inr hS3), ih (listed.setIfInBounds j true) a' w' hfree' (hcl.step hj) (ready_mono hr (Ne.symm hji)) hy3 hS3 ?_⟩
      rw [Array.setIfInBounds_comm _ _ hji]
      exact hG

/-- An operation that yields its value in whatever world may be taken first. -/
theorem wpAnyG_firstW {i : Nat} {oi : Oper} {v : Value} (hi : ops[i]? = some oi) (hsel : ∀ (j : Nat) (o : Oper) cs b, ops[j]? = some o → o.op ≠ .select cs b)
    (hQ : ∀ c a w, Q (.panic c) (a.put oi.dst v) w → Q (.panic c) a w) (hie : i ≠ e) :
    ∀ (fuel : Nat) (listed : Array Bool) (a : Go.Act) (w : World),
      (∀ j oj, ops[j]? = some oj → j ≠ i → listed.getD j true = false → (∀ d ∈ oj.after, Region.binds md d = true → d.on ≠ i) → oi.apart ops oj = true) →
      listed.size = ops.size → i ∈ Region.ready md ops listed → Yields P ops oi v a → (listed.getD e false = true ∨ S w) →
      wpAnyG P md ops Q S e fuel (listed.setIfInBounds i true) (a.put oi.dst v) w → wpAnyG P md ops Q S e (fuel + 1) listed a w := by
  intro fuel
  induction fuel with
  | zero =>
    intro listed a w _ _ hr hy hS H
    refine ⟨fun h => (by rw [h] at hr; cases hr), fun j hj => ?_⟩
    by_cases hji : j = i
    · subst hji; exact hy.wpOp hi ⟨.inr hS, H⟩
    · have := ready_mono hj hji
      rw [H.1] at this
      cases this
  | succ fuel ih =>
    intro listed a w hfree hsz hr hy hS H
    refine ⟨fun h => (by rw [h] at hr; cases hr), fun j hj => ?_⟩
    by_cases hji : j = i
    · subst hji; exact hy.wpOp hi ⟨.inr hS, H⟩
    · have h1 := H.2 j (ready_mono hj hji)
      obtain ⟨hjun, oj, hoj, _⟩ := mem_ready.1 hj
      have h2 := wpOp_put hoj (hfree j oj hoj hji hjun (not_hangs hr hj hoj)) (fun cs b => hsel i oi cs b hi) (fun cs b => hsel j oj cs b hoj) hQ hy h1
      have hfree' : ∀ k ok, ops[k]? = some ok → k ≠ i → (listed.setIfInBounds j true).getD k true = false →
          (∀ d ∈ ok.after, Region.binds md d = true → d.on ≠ i) → oi.apart ops ok = true := fun k ok hk hki hun hno => by
        refine hfree k ok hk hki ?_ hno
        by_cases hjk : j = k
        · subst hjk; exact hjun
        · rw [getD_set_ne true hjk] at hun; exact hun
      refine wpOp_mono (fun a' w' h3 => ?_) h2
      obtain ⟨hy3, hc3, hG⟩ := h3
      rw [getD_set_ne false hie] at hc3
      have hlt : j < listed.size := by rw [hsz]; exact (Array.getElem?_eq_some_iff.1 hoj).1
      refine ⟨hc3, ih (listed.setIfInBounds j true) a' w' hfree' (by simpa using hsz) (ready_mono hr (Ne.symm hji)) hy3 ?_ ?_⟩
      · rcases hc3 with h | h | h
        · subst h; exact .inl (by simp [hlt])
        · exact .inl (getD_set_true h)
        · exact .inr h
      rw [Array.setIfInBounds_comm _ _ hji]
      exact hG

theorem at_of_drop {l post : List Oper} {i : Nat} {o : Oper} (h : l.drop i = o :: post) : l.toArray[i]? = some o := by
  have h2 : (l.drop i)[0]? = some o := by rw [h]; rfl
  simpa using h2
/-- Take a reading one first. -/
theorem takeR (i : Nat) (ps : List Nat) {l post : List Oper} {oi : Oper} {v : Value} {fuel : Nat} {listed : Array Bool} {a : Go.Act} {w : World} (hi : l.drop i = oi :: post)
    (hs : Region.noSelect l.toArray = true) (hf : Region.free md l.toArray listed i = true) (hc : closedB md l.toArray listed = true) (hr : (Region.ready md l.toArray listed).contains i = true) (hp : pathB md l.toArray e ps i = true)
    (hQ : ∀ c a w, Q (.panic c) (a.put oi.dst v) w → Q (.panic c) a w) (hS : S w) (hy : YieldsIf P l.toArray S oi v a)
    (h : wpAnyG P md l.toArray Q S e fuel (listed.setIfInBounds i true) (a.put oi.dst v) w) : wpAnyG P md l.toArray Q S e (fuel + 1) listed a w :=
  wpAnyG_first (at_of_drop hi) (Region.noSelect_spec hs) hQ hp fuel listed a w (Region.free_spec (at_of_drop hi) hf) (closedB_spec hc) (by simpa using hr) hy hS h
/-- Take one first that yields in whatever world. -/
theorem takeW (i : Nat) {l post : List Oper} {oi : Oper} {v : Value} {fuel : Nat} {listed : Array Bool} {a : Go.Act} {w : World} (hi : l.drop i = oi :: post)
    (hs : Region.noSelect l.toArray = true) (hf : Region.free md l.toArray listed i = true) (hr : (Region.ready md l.toArray listed).contains i = true) (hie : (i != e && listed.size == l.toArray.size) = true)
    (hQ : ∀ c a w, Q (.panic c) (a.put oi.dst v) w → Q (.panic c) a w) (hS : listed.getD e false = true ∨ S w) (hy : Yields P l.toArray oi v a)
    (h : wpAnyG P md l.toArray Q S e fuel (listed.setIfInBounds i true) (a.put oi.dst v) w) : wpAnyG P md l.toArray Q S e (fuel + 1) listed a w :=
  have h2 : i ≠ e ∧ listed.size = l.toArray.size := by simpa using hie
  wpAnyG_firstW (at_of_drop hi) (Region.noSelect_spec hs) hQ h2.1 fuel listed a w (Region.free_spec (at_of_drop hi) hf) h2.2 (by simpa using hr) hy hS h
theorem doneG {listed : Array Bool} {a : Go.Act} {w : World} (hr : Region.ready md ops listed = []) (h : Q .normal a w) : ∀ fuel, wpAnyG P md ops Q S e fuel listed a w
  | 0 => ⟨hr, h⟩
  | _ + 1 => ⟨fun _ => h, by rw [hr]; simp⟩

/-- Q, but K where the code goes on. -/
def heldPost (Q : Exit → Go.Act → World → Prop) (K : Go.Act → World → Prop) : Exit → Go.Act → World → Prop
  | .normal, a, w => K a w
  | x, a, w => Q x a w
theorem heldPost_normal {Q : Exit → Go.Act → World → Prop} {K : Go.Act → World → Prop} {a : Go.Act} {w : World} (h : K a w) : heldPost Q K .normal a w := h
theorem wpOp_of_list {k : Nat} {o : Oper} {K : Go.Act → World → Prop} {a : Go.Act} {w : World} (ho : ops[k]? = some o) (h : wpList P ops (heldPost Q K) [o] a w) : wpOp P ops Q k K a w := by
  unfold wpOp
  simp only [ho]
  simp only [wpList] at h
  split
  · rename_i hw
    rw [if_pos hw] at h
    refine h.imp (fun h => ?_) (fun ⟨h1, a', w', h2⟩ => ⟨h1, a', w', h2⟩)
    unfold Oper.wp at *
    generalize (execOp a.eval o).run P w = r at *
    cases r with
    | ok n w' =>
      cases n <;> simp only [Oper.upon] at h ⊢ <;>
        first
          | exact h
          | exact Calls.mono h (fun x w'' he => by cases x <;> exact he)
          | exact Rows.mono h (fun _ _ he => he)
    | halt x w' => cases x <;> simp only [Oper.upon] at h ⊢ <;> exact h
  · rename_i hw
    rw [if_neg hw] at h
    exact h
/-- The one that alone may come up. -/
theorem onlyG (k : Nat) {l post : List Oper} {o : Oper} {fuel : Nat} {listed : Array Bool} {a : Go.Act} {w : World} (ho : l.drop k = o :: post) (hr : Region.ready md l.toArray listed = [k])
    (h : ∀ K : Go.Act → World → Prop, (∀ a w, S w → wpAnyG P md l.toArray Q S e fuel (listed.setIfInBounds k true) a w → K a w) → wpList P l.toArray (heldPost Q K) [o] a w) : wpAnyG P md l.toArray Q S e (fuel + 1) listed a w :=
  ⟨fun h0 => (by rw [hr] at h0; cases h0), fun i hi => by
    rw [hr] at hi
    cases List.mem_singleton.1 hi
    exact wpOp_of_list (at_of_drop ho) (h _ (fun a w h1 h2 => ⟨.inr (.inr h1), h2⟩))⟩
/-- Number e, or one behind it. -/
theorem lastG (k : Nat) {l post : List Oper} {o : Oper} {fuel : Nat} {listed : Array Bool} {a : Go.Act} {w : World} (ho : l.drop k = o :: post) (hr : Region.ready md l.toArray listed = [k]) (hk : (k == e || listed.getD e false) = true)
    (h : ∀ K : Go.Act → World → Prop, (∀ a w, wpAnyG P md l.toArray Q S e fuel (listed.setIfInBounds k true) a w → K a w) → wpList P l.toArray (heldPost Q K) [o] a w) : wpAnyG P md l.toArray Q S e (fuel + 1) listed a w :=
  ⟨fun h0 => (by rw [hr] at h0; cases h0), fun i hi => by
    rw [hr] at hi
    cases List.mem_singleton.1 hi
    refine wpOp_of_list (at_of_drop ho) (h _ (fun a w h2 => ⟨?_, h2⟩))
    simp only [Bool.or_eq_true, beq_iff_eq] at hk
    exact hk.imp id .inl⟩
/-- each of those that may come up. -/
def AllG (P : Program) (md : Region.Mode) (ops : Array Oper) (Q : Exit → Go.Act → World → Prop) (S : World → Prop) (e : Nat) (fuel : Nat) (listed : Array Bool) (a : Go.Act) (w : World) (rs : List Nat) : Prop :=
  ∀ i ∈ rs, wpOp P ops Q i (fun a' w' => (i = e ∨ listed.getD e false = true ∨ S w') ∧ wpAnyG P md ops Q S e fuel (listed.setIfInBounds i true) a' w') a w
theorem allG_nil {fuel : Nat} {listed : Array Bool} {a : Go.Act} {w : World} : AllG P md ops Q S e fuel listed a w [] := fun _ h => by cases h
theorem allG_cons (k : Nat) {l post : List Oper} {o : Oper} {fuel : Nat} {listed : Array Bool} {a : Go.Act} {w : World} {rs : List Nat} (ho : l.drop k = o :: post)
    (h : ∀ K : Go.Act → World → Prop, (∀ a w, S w → wpAnyG P md l.toArray Q S e fuel (listed.setIfInBounds k true) a w → K a w) → wpList P l.toArray (heldPost Q K) [o] a w) (hs : AllG P md l.toArray Q S e fuel listed a w rs) : AllG P md l.toArray Q S e fuel listed a w (k :: rs) := fun j hj => by
  rcases List.mem_cons.1 hj with rfl | hj
  · exact wpOp_of_list (at_of_drop ho) (h _ (fun a w h1 h2 => ⟨.inr (.inr h1), h2⟩))
  · exact hs j hj
theorem readyG (rs : List Nat) {fuel : Nat} {listed : Array Bool} {a : Go.Act} {w : World} (hr : Region.ready md ops listed = rs) (hne : rs ≠ []) (h : AllG P md ops Q S e fuel listed a w rs) : wpAnyG P md ops Q S e (fuel + 1) listed a w :=
  ⟨fun h0 => absurd (hr ▸ h0) hne, hr ▸ h⟩
end
end Go.Proofs.YtphabchelllhpaaGreatDoor

namespace Go.Proofs.YtphabchelllhpaaGreatDoor
open Go.RowKit

/-- the head that a sector's text holds. -/
def headOf (t : List UInt8) : Option (UInt8 × UInt8) :=
  if (t.getD 18 0).toNat ≤ 1 ∧ (t.getD 19 0).toNat ≤ 55 ∧ headT (t.getD 18 0) (t.getD 19 0) = t then some (t.getD 18 0, t.getD 19 0) else none
/-- what readHead answers: the number of its error, and the head. -/
def readHeadF (s : DSt) (n : Nat) : Nat × UInt8 × UInt8 :=
  if s.readF n 0 ≠ 0 then (s.readF n 0, 0, 0) else if n < 112 then (4, 0, 0) else match headOf (s.K 0).now with | some (b, q) => (0, b, q) | none => (4, 0, 0)
theorem box2 {w : World} {g : Nat} {a b : Value} {t : TypeId} (h : w.heap[g]? = some (.cells #[a, b] t (0, 0))) : w.cell? ⟨g, 0, none⟩ = some a ∧ w.cell? ⟨g, 1, none⟩ = some b ∧ w.frozen? ⟨g, 0, none⟩ = false ∧ w.frozen? ⟨g, 1, none⟩ = false :=
  ⟨by simp [World.cell?, h], by simp [World.cell?, h], by simp [World.frozen?, h], by simp [World.frozen?, h]⟩
theorem below2 {B g : Nat} {w w' : World} (h : Below B w w') (hg : B ≤ g) (a0 a1 : Value) : Below B w ((w'.setCell ⟨g, 0, none⟩ a0).setCell ⟨g, 1, none⟩ a1) :=
  h.trans ⟨rfl, rfl, rfl, by simp [World.setCell], fun k hk => (Below.heap_setCell _ _ _ _ (Nat.ne_of_lt (Nat.lt_of_lt_of_le hk hg))).trans (Below.heap_setCell _ _ _ _ (Nat.ne_of_lt (Nat.lt_of_lt_of_le hk hg)))⟩

theorem wrap_u8 (x : UInt8) : IntKind.i64.wrap (x.toNat : Int) = (x.toNat : Int) := by
  have := x.toNat_lt
  exact IntWalk.i64_in _ ⟨by omega, by omega⟩
theorem wrap_u8' (x : UInt8) : wrap64 (x.toNat : Int) = (x.toNat : Int) := by
  have h := x.toNat_lt
  generalize x.toNat = k at *
  unfold wrap64
  omega
theorem byte_at (l : List UInt8) {i : Nat} (h : i < (⟨l.toArray⟩ : ByteArray).size) : (⟨l.toArray⟩ : ByteArray)[i] = l.getD i 0 := by
  have h2 : i < l.length := h
  rw [List.getD_eq_getElem?_getD, List.getElem?_eq_getElem h2]
  rfl
theorem errV_some {f : Nat} (h : f ≠ 0) : ∃ n : Int, errV f = .iface 69 (.int .i64 n) := by
  cases f with
  | zero => exact absurd rfl h
  | succ f => exact ⟨_, rfl⟩
set_option maxRecDepth 100000 in
set_option maxHeartbeats 4000000 in
theorem readHead_any (w : World) (B p n : Nat) (s : DSt) (h : Disk w B p n s) (hnow : (s.K 0).now.length = 64) :
    Calls Tryz.prog 36 #[.pointer (some ⟨p, 0, none⟩)] w fun e w' => e = .returned (.tuple #[.agg #[.int .i64 ((readHeadF s n).2.1.toNat : Int), .int .i64 ((readHeadF s n).2.2.toNat : Int)], errV (readHeadF s n).1]) ∧ Below w.heap.size w w' := by
  have hb0 : Below w.heap.size w (w.alloc (.cells #[.int .i64 0, .int .i64 0] 81)) := (Below.refl _ _).alloc (Nat.le_refl _) _
  have hres : (w.alloc (.cells #[.int .i64 0, .int .i64 0] 81)).heap[w.heap.size]? = some (.cells #[.int .i64 0, .int .i64 0] 81 (0, 0)) := Array.getElem?_push_size
  have hz : w.heap.size < (w.alloc (.cells #[.int .i64 0, .int .i64 0] 81)).heap.size := by simp
  have h1 := h.later hb0
  have HR := diskRead_any _ B p n s 0 h1
  generalize hW : w.alloc (.cells #[.int .i64 0, .int .i64 0] 81) = W at *
  by_cases hF : s.readF n 0 = 0
  · have hT : s.readT n 0 = ⟨(s.K 0).now.toArray⟩ := by unfold DSt.readT; rw [if_pos hF]; rfl
    have q0e : errV 0 = .nilIface := rfl
    rw [hF, q0e, hT] at HR
    have HH : Hid (readHeadF s n = if n < 112 then (4, 0, 0) else match headOf (s.K 0).now with | some (b, q) => (0, b, q) | none => (4, 0, 0)) := by unfold readHeadF; rw [if_neg (by simp [hF])]; exact rfl
    have HS := fun W (hb : Below w.heap.size w W) => diskSectors_any W B p n s (h.later hb)
    generalize hTT : (⟨(s.K 0).now.toArray⟩ : ByteArray) = T at HR
    have hTs : T.size = 64 := by rw [← hTT]; show (s.K 0).now.toArray.size = 64; simp [hnow]
    go_enter Tryz.func36, Tryz.ntmps36
    go_wp2_with fail
    refine (show Calls _ _ _ _ _ from HR).mono ?_
    rintro e w2 ⟨rfl, hb2⟩
    clear HR
    have hbA := hb0.trans (hb2.mono hb0.size)
    have hz2 : w.heap.size < w2.heap.size := Nat.lt_of_lt_of_le hz hb2.size
    have hres2 := (hb2.block _ hz).trans hres
    have HS2 := HS w2 hbA
    clear HS hb2 hres hz
    by_cases hn : n < 112
    · have HE : Hid (readHeadF s n = (4, 0, 0)) := by rw [HH.out, if_pos hn]; exact rfl
      have hn' : (n : Int) < 112 := by omega
      obtain ⟨q0, q1, f0, f1⟩ := box2 hres2
      have hNB := below2 hbA (Nat.le_refl w.heap.size) (.int .i64 0) (.int .i64 0)
      clear HH
      go_wp2_with fail
      refine (show Calls _ _ _ _ _ from HS2).mono ?_
      rintro e w3 ⟨rfl, hw3⟩
      subst hw3
      clear HS2
      go_wp2
      refine bodyPost_ret (v := .tuple #[.agg #[.int .i64 0, .int .i64 0], .iface 69 (.int .i64 4)]) (by simp [results, Tryz.results36, go_sem, q0, q1]) rfl ?_
      rw [HE.out]
      exact ⟨rfl, hNB⟩
    · have hn' : ¬ (n : Int) < 112 := by omega
      have h18 : 18 < T.size := by omega
      have h19 : 19 < T.size := by omega
      go_wp2_with fail
      refine (show Calls _ _ _ _ _ from HS2).mono ?_
      rintro e w3 ⟨rfl, hw3⟩
      subst hw3
      clear HS2
      go_wp2
      refine wp_region_G (fun _ => True) 8 9 (by kernel_rfl) rfl ?_
      have hSS : (fun _ : World => True) w3.drew := trivial
      refine takeW 0 (v := ?v1) rfl (by kernel_rfl) (by kernel_rfl) (by kernel_rfl) (by kernel_rfl) (fun _ _ _ h => h) (.inr hSS) (.inl ⟨by rfl, fun w => ?hy1⟩) ?rest1
      case hy1 => (go_simp <;> with_reducible rfl)
      simp only [Go.Act.put, List.setIfInBounds_toArray, List.set_cons_zero, List.set_cons_succ]
      refine takeW 1 (v := ?v2) rfl (by kernel_rfl) (by kernel_rfl) (by kernel_rfl) (by kernel_rfl) (fun _ _ _ h => h) (.inr hSS) (.inl ⟨by rfl, fun w => ?hy2⟩) ?rest2
      case hy2 => (go_simp <;> with_reducible rfl)
      simp only [Go.Act.put, List.setIfInBounds_toArray, List.set_cons_zero, List.set_cons_succ]
      refine takeW 2 (v := ?v3) rfl (by kernel_rfl) (by kernel_rfl) (by kernel_rfl) (by kernel_rfl) (fun _ _ _ h => h) (.inr hSS) (.inl ⟨by rfl, fun w => ?hy3⟩) ?rest3
      case hy3 => (go_simp <;> with_reducible rfl)
      simp only [Go.Act.put, List.setIfInBounds_toArray, List.set_cons_zero, List.set_cons_succ]
      refine takeW 3 (v := ?v4) rfl (by kernel_rfl) (by kernel_rfl) (by kernel_rfl) (by kernel_rfl) (fun _ _ _ h => h) (.inr hSS) (.inl ⟨by rfl, fun w => ?hy4⟩) ?rest4
      case hy4 => (go_simp <;> with_reducible rfl)
      simp only [Go.Act.put, List.setIfInBounds_toArray, List.set_cons_zero, List.set_cons_succ]
      refine takeW 4 (v := ?v5) rfl (by kernel_rfl) (by kernel_rfl) (by kernel_rfl) (by kernel_rfl) (fun _ _ _ h => h) (.inr hSS) (.inl ⟨by rfl, fun w => ?hy5⟩) ?rest5
      case hy5 => (go_simp <;> with_reducible rfl)
      simp only [Go.Act.put, List.setIfInBounds_toArray, List.set_cons_zero, List.set_cons_succ]
      refine takeW 5 (v := ?v6) rfl (by kernel_rfl) (by kernel_rfl) (by kernel_rfl) (by kernel_rfl) (fun _ _ _ h => h) (.inr hSS) (.inl ⟨by rfl, fun w => ?hy6⟩) ?rest6
      case hy6 => (go_simp <;> with_reducible rfl)
      simp only [Go.Act.put, List.setIfInBounds_toArray, List.set_cons_zero, List.set_cons_succ]
      refine takeW 6 (v := ?v7) rfl (by kernel_rfl) (by kernel_rfl) (by kernel_rfl) (by kernel_rfl) (fun _ _ _ h => h) (.inr hSS) (.inl ⟨by rfl, fun w => ?hy7⟩) ?rest7
      case hy7 => (go_simp <;> with_reducible rfl)
      simp only [Go.Act.put, List.setIfInBounds_toArray, List.set_cons_zero, List.set_cons_succ]
      refine onlyG 7 rfl (by kernel_rfl) (fun K hK => ?_)
      go_wp2_with fail
      refine hK _ _ trivial ?_
      clear hK
      refine lastG 8 rfl (by kernel_rfl) (by kernel_rfl) (fun K hK => ?_)
      go_wp2_with fail
      refine hK _ _ ?_
      clear hK
      refine doneG (by kernel_rfl) ?_ _
      have hw8 := wrap_u8 T[18]
      have hw9 := wrap_u8 T[19]
      have hv8 := wrap_u8' T[18]
      have hv9 := wrap_u8' T[19]
      have g18 : T[18] = (s.K 0).now.getD 18 0 := by subst hTT; exact byte_at _ h18
      have g19 : T[19] = (s.K 0).now.getD 19 0 := by subst hTT; exact byte_at _ h19
      simp only [hw8, hw9, hv8, hv9]
      clear hw8 hw9 hv8 hv9
      generalize T[18] = x8 at *
      generalize T[19] = x9 at *
      have G18 : Hid (x8 = (s.K 0).now.getD 18 0) := g18
      have G19 : Hid (x9 = (s.K 0).now.getD 19 0) := g19
      have HNL : Hid (T.data.toList = (s.K 0).now) := by rw [← hTT]; exact rfl
      clear g18 g19
      have hbx : Below w3.heap.size w3 (w3.alloc (.cells #[.int .i64 (x8.toNat : Int), .int .i64 (x9.toNat : Int)] 81)).drew := ((Below.refl _ _).alloc (Nat.le_refl _) _).drew
      have hbB := hbA.trans (hbx.mono (Nat.le_of_lt hz2))
      have hres4 := (hbx.block _ hz2).trans hres2
      have d0 : (w3.alloc (.cells #[.int .i64 (x8.toNat : Int), .int .i64 (x9.toNat : Int)] 81)).drew.cell? ⟨w3.heap.size, 0, none⟩ = some (.int .i64 (x8.toNat : Int)) := by simp [go_sem]
      have d1 : (w3.alloc (.cells #[.int .i64 (x8.toNat : Int), .int .i64 (x9.toNat : Int)] 81)).drew.cell? ⟨w3.heap.size, 1, none⟩ = some (.int .i64 (x9.toNat : Int)) := by simp [go_sem]
      have hlt8 := x8.toNat_lt
      have hlt9 := x9.toNat_lt
      have hz4 : w.heap.size < (w3.alloc (.cells #[.int .i64 (x8.toNat : Int), .int .i64 (x9.toNat : Int)] 81)).drew.heap.size := by simp; omega
      have hno : ¬ (x8.toNat ≤ 1 ∧ x9.toNat ≤ 55 ∧ headT x8 x9 = T.data.toList) → readHeadF s n = (4, 0, 0) := fun hh => by
        rw [HH.out, if_neg hn]
        unfold headOf
        rw [← G18.out, ← G19.out, ← HNL.out, if_neg hh]
      have hyes : (x8.toNat ≤ 1 ∧ x9.toNat ≤ 55 ∧ headT x8 x9 = T.data.toList) → readHeadF s n = (0, x8, x9) := fun hh => by
        rw [HH.out, if_neg hn]
        unfold headOf
        rw [← G18.out, ← G19.out, ← HNL.out, if_pos hh]
      have HNO : Hid (¬ (x8.toNat ≤ 1 ∧ x9.toNat ≤ 55 ∧ headT x8 x9 = T.data.toList) → readHeadF s n = (4, 0, 0)) := hno
      have HYES : Hid ((x8.toNat ≤ 1 ∧ x9.toNat ≤ 55 ∧ headT x8 x9 = T.data.toList) → readHeadF s n = (0, x8, x9)) := hyes
      clear hno hyes hTT hTs hres2 hbA
      generalize (w3.alloc (.cells #[.int .i64 (x8.toNat : Int), .int .i64 (x9.toNat : Int)] 81)).drew = w4 at *
      by_cases k1 : (1 : Int) < (x8.toNat : Int)
      · have HE : Hid (readHeadF s n = (4, 0, 0)) := HNO.out (fun hh => by omega)
        obtain ⟨q0, q1, f0, f1⟩ := box2 hres4
        have hNB := below2 hbB (Nat.le_refl w.heap.size) (.int .i64 0) (.int .i64 0)
        clear HH
        go_wp2
        refine bodyPost_ret (v := .tuple #[.agg #[.int .i64 0, .int .i64 0], .iface 69 (.int .i64 4)]) (by simp [results, Tryz.results36, go_sem, q0, q1]) rfl ?_
        rw [HE.out]
        exact ⟨rfl, hNB⟩
      by_cases k2 : (55 : Int) < (x9.toNat : Int)
      · have HE : Hid (readHeadF s n = (4, 0, 0)) := HNO.out (fun hh => by omega)
        obtain ⟨q0, q1, f0, f1⟩ := box2 hres4
        have hNB := below2 hbB (Nat.le_refl w.heap.size) (.int .i64 0) (.int .i64 0)
        clear HH
        go_wp2
        refine bodyPost_ret (v := .tuple #[.agg #[.int .i64 0, .int .i64 0], .iface 69 (.int .i64 4)]) (by simp [results, Tryz.results36, go_sem, q0, q1]) rfl ?_
        rw [HE.out]
        exact ⟨rfl, hNB⟩
      have HT := headText_any x8.toNat x9.toNat w4 (by omega) (by omega)
      have u8 : x8.toNat.toUInt8 = x8 := by simp
      have u9 : x9.toNat.toUInt8 = x9 := by simp
      rw [u8, u9] at HT
      clear u8 u9
      go_wp2_with fail
      refine (show Calls _ _ _ _ _ from HT).mono ?_
      rintro e w5 ⟨rfl, hb5⟩
      clear HT
      have hres5 := (hb5.block _ hz4).trans hres4
      have hbC := hbB.trans (hb5.mono hbB.size)
      have e0 := cell_later hb5 d0
      have e1 := cell_later hb5 d1
      obtain ⟨q0, q1, f0, f1⟩ := box2 hres5
      clear d0 d1 hbB hres4 hres5 HH
      by_cases hEq : (⟨(headT x8 x9).toArray⟩ : ByteArray) = T
      · have HE : Hid (readHeadF s n = (0, x8, x9)) := HYES.out ⟨by omega, by omega, by rw [← hEq]⟩
        have hNB := below2 hbC (Nat.le_refl w.heap.size) (.int .i64 (x8.toNat : Int)) (.int .i64 (x9.toNat : Int))
        rw [hEq]
        clear hEq
        go_wp2
        refine bodyPost_ret (v := .tuple #[.agg #[.int .i64 (x8.toNat : Int), .int .i64 (x9.toNat : Int)], .nilIface]) (by simp [results, Tryz.results36, go_sem, q0, q1]) rfl ?_
        rw [HE.out]
        exact ⟨rfl, hNB⟩
      · have HE : Hid (readHeadF s n = (4, 0, 0)) := HNO.out (fun hh => hEq (by rw [hh.2.2]))
        have hNB := below2 hbC (Nat.le_refl w.heap.size) (.int .i64 0) (.int .i64 0)
        generalize (⟨(headT x8 x9).toArray⟩ : ByteArray) = U at *
        have hne : (U.toList == T.toList) = false := by rw [toList_beq]; exact decide_eq_false hEq
        clear hEq
        go_wp2
        refine bodyPost_ret (v := .tuple #[.agg #[.int .i64 0, .int .i64 0], .iface 69 (.int .i64 4)]) (by simp [results, Tryz.results36, go_sem, q0, q1]) rfl ?_
        rw [HE.out]
        exact ⟨rfl, hNB⟩
  · have HE : Hid (readHeadF s n = (s.readF n 0, 0, 0)) := by unfold readHeadF; rw [if_pos hF]; exact rfl
    obtain ⟨z, hzz⟩ := errV_some hF
    rw [hzz] at HR
    generalize s.readT n 0 = T at *
    go_enter Tryz.func36, Tryz.ntmps36
    go_wp2_with fail
    refine (show Calls _ _ _ _ _ from HR).mono ?_
    rintro e w2 ⟨rfl, hb2⟩
    clear HR
    obtain ⟨q0, q1, f0, f1⟩ := box2 ((hb2.block _ hz).trans hres)
    have hNB := below2 (hb0.trans (hb2.mono hb0.size)) (Nat.le_refl w.heap.size) (.int .i64 0) (.int .i64 0)
    go_wp2
    refine bodyPost_ret (v := .tuple #[.agg #[.int .i64 0, .int .i64 0], .iface 69 (.int .i64 z)]) (by simp [results, Tryz.results36, go_sem, q0, q1]) rfl ?_
    rw [HE.out, hzz]
    exact ⟨rfl, hNB⟩
end Go.Proofs.YtphabchelllhpaaGreatDoor

namespace Go.Proofs.YtphabchelllhpaaGreatDoor
open Go.RowKit

/-- a head's text. -/
def headB (b q : UInt8) : ByteArray := ⟨(headT b q).toArray⟩
theorem headB_size (b q : UInt8) : (headB b q).size = 64 := by
  show (headT b q).toArray.size = 64
  simp [headT]
/-- what writeHead answers, and what the disk is behind it. -/
def DSt.headF (s : DSt) (n : Nat) (b q : UInt8) : Nat := if s.writeF n 0 (headB b q) = 0 then (s.wrote n 0 (headB b q)).flushF else s.writeF n 0 (headB b q)
def DSt.headed (s : DSt) (n : Nat) (b q : UInt8) : DSt := if s.writeF n 0 (headB b q) = 0 then (s.wrote n 0 (headB b q)).flushed else s.wrote n 0 (headB b q)

set_option maxRecDepth 100000 in
set_option maxHeartbeats 2000000 in
theorem writeHead_any (w : World) (B p n : Nat) (s : DSt) (b q : UInt8) (h : Disk w B p n s) :
    Calls Tryz.prog 31 #[.pointer (some ⟨p, 0, none⟩), .agg #[.int .i64 (b.toNat : Int), .int .i64 (q.toNat : Int)]] w fun e w' => e = .returned (errV (s.headF n b q)) ∧ Disk w' B p n (s.headed n b q) ∧ Spun B w w' := by
  have hb0 : Below w.heap.size w (w.alloc (.cells #[.int .i64 (b.toNat : Int), .int .i64 (q.toNat : Int)] 81)) := (Below.refl _ _).alloc (Nat.le_refl _) _
  have HT := headText_any b.toNat q.toNat (w.alloc (.cells #[.int .i64 (b.toNat : Int), .int .i64 (q.toNat : Int)] 81)) b.toNat_lt q.toNat_lt
  have u8 : b.toNat.toUInt8 = b := by simp
  have u9 : q.toNat.toUInt8 = q := by simp
  rw [u8, u9] at HT
  have eT : (⟨(headT b q).toArray⟩ : ByteArray) = headB b q := rfl
  rw [eT] at HT
  have hS := headB_size b q
  unfold DSt.headF DSt.headed
  generalize headB b q = T at *
  have h1 := h.later hb0
  have hB := h.base
  clear u8 u9 eT
  by_cases hF : s.writeF n 0 T = 0
  · rw [if_pos hF, if_pos hF]
    go_enter Tryz.func31, Tryz.ntmps31
    go_wp2_with fail
    refine (show Calls _ _ _ _ _ from HT).mono ?_
    rintro e w2 ⟨rfl, hb2⟩
    clear HT
    have hb3 := hb0.trans (hb2.mono hb0.size)
    have HW := diskWrite_any w2 B p n s 0 T (h.later hb3) (by rw [hS]; decide)
    clear hb0 hb2 h1
    rw [hF] at HW
    have q0 : errV 0 = .nilIface := rfl
    rw [q0] at HW
    clear hF
    go_wp2_with fail
    refine (show Calls _ _ _ _ _ from HW).mono ?_
    rintro e w4 ⟨rfl, hD, hSp⟩
    clear HW
    have hSp2 := (Spun.of hB hb3).trans hSp
    have HFl := diskFlush_any w4 B p n _ hD
    go_wp2_with fail
    refine (show Calls _ _ _ _ _ from HFl).mono ?_
    rintro e w5 ⟨rfl, hD5, hS5⟩
    clear HFl
    go_wp2
    go_ret
    exact ⟨rfl, hD5, hSp2.trans hS5⟩
  · rw [if_neg hF, if_neg hF]
    obtain ⟨z, hz⟩ := errV_some hF
    rw [hz]
    go_enter Tryz.func31, Tryz.ntmps31
    go_wp2_with fail
    refine (show Calls _ _ _ _ _ from HT).mono ?_
    rintro e w2 ⟨rfl, hb2⟩
    clear HT
    have hb3 := hb0.trans (hb2.mono hb0.size)
    have HW := diskWrite_any w2 B p n s 0 T (h.later hb3) (by rw [hS]; decide)
    clear hb0 hb2 h1
    rw [hz] at HW
    clear hF hz
    go_wp2_with fail
    refine (show Calls _ _ _ _ _ from HW).mono ?_
    rintro e w4 ⟨rfl, hD, hSp⟩
    clear HW
    have hSp2 := (Spun.of hB hb3).trans hSp
    go_wp2
    go_ret
    exact ⟨rfl, hD, hSp2⟩
end Go.Proofs.YtphabchelllhpaaGreatDoor
