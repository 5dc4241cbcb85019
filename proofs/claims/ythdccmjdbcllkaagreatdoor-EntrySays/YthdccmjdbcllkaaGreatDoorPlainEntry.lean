/-
  Plain words on an entry and its line, with nothing of the program: what may be, the words of its text, and that they are read as it.
-/
import Derived.Test.YthdccmjdbcllkaaGreatDoorPlainNumb
namespace Go.Proofs.YthdccmjdbcllkaaGreatDoor

structure EntF where
  root : ByteArray
  nP : Nat
  pName : Nat → ByteArray
  pStamp : Nat → Int
  pBase : Nat → Int
  nQ : Nat
  qPart : Nat → Int
  qAt : Nat → Int
  qWord : Nat → Int

/-- may an entry have so many parts and patches? -/
def mayBeB (p q : Int) : Bool := decide (1 ≤ p ∧ p ≤ 6 ∧ 0 ≤ q ∧ q ≤ 36)
def stampedF (s : ByteArray) (k b : Int) : Nat := seqF (nameF s.data.toList) (if k < 1 ∨ 1000000 < k then 1 else if b < 0 ∨ 256 ≤ b ∨ b % 16 ≠ 0 then 1 else 0)
def patchedF (n p a x : Int) : Nat := if isPlaceF p n = true ∧ isPlaceF a 40 = true ∧ isWordF x = true then 0 else 1
def partsF (e : EntF) : Nat → Nat := faultTo fun i => stampedF (e.pName i) (e.pStamp i) (e.pBase i)
def patchesF (e : EntF) : Nat → Nat := faultTo fun i => patchedF e.nP (e.qPart i) (e.qAt i) (e.qWord i)
/-- the number of an entry's fault (0: none). -/
def entF (e : EntF) : Nat := seqF (nameF e.root.data.toList) (seqF (if mayBeB e.nP e.nQ = true then 0 else 2) (seqF (partsF e e.nP) (patchesF e e.nQ)))

/-- the first k rows of words, one behind the other. -/
def catW (g : Nat → List (List UInt8)) : Nat → List (List UInt8)
  | 0 => []
  | k + 1 => catW g k ++ g k
def headW (e : EntF) : List (List UInt8) := [e.root.data.toList, Lib.itoa e.nP, Lib.itoa e.nQ]
def partW (e : EntF) (i : Nat) : List (List UInt8) := [(e.pName i).data.toList, Lib.itoa (e.pStamp i), Lib.itoa (e.pBase i)]
def patW (e : EntF) (i : Nat) : List (List UInt8) := [Lib.itoa (e.qPart i), Lib.itoa (e.qAt i), Lib.itoa (e.qWord i)]
def entW (e : EntF) : List (List UInt8) := headW e ++ catW (partW e) e.nP ++ catW (patW e) e.nQ
/-- an entry's line. -/
def lineE (e : EntF) : List UInt8 := Lib.join (entW e) [32] ++ [10]
def textE (e : EntF) : Nat × List UInt8 := if entF e = 0 then (0, lineE e) else (entF e, [])

theorem catW_len {g : Nat → List (List UInt8)} (h : ∀ i, (g i).length = 3) : ∀ k, (catW g k).length = 3 * k
  | 0 => rfl
  | k + 1 => by simp only [catW, List.length_append, catW_len h k, h]; omega
theorem catW_at {g : Nat → List (List UInt8)} (h : ∀ i, (g i).length = 3) {i j : Nat} (hj : j < 3) : ∀ k, i < k → (catW g k)[3 * i + j]? = (g i)[j]?
  | 0, hk => by omega
  | k + 1, hk => by
    by_cases e : i = k
    · subst e
      simp only [catW]
      rw [List.getElem?_append_right (by rw [catW_len h]; omega), catW_len h]
      congr 1
      omega
    · simp only [catW]
      rw [List.getElem?_append_left (by rw [catW_len h]; omega)]
      exact catW_at h hj k (by omega)
theorem catW_mem {g : Nat → List (List UInt8)} {x : List UInt8} : ∀ {k : Nat}, x ∈ catW g k → ∃ i, i < k ∧ x ∈ g i
  | 0, h => by cases h
  | k + 1, h => by
    rcases List.mem_append.1 h with h | h
    · obtain ⟨i, hi, hx⟩ := catW_mem h
      exact ⟨i, by omega, hx⟩
    · exact ⟨k, by omega, h⟩
theorem entW_len (e : EntF) : (entW e).length = 3 + 3 * (e.nP + e.nQ) := by
  simp only [entW, List.length_append, catW_len (g := partW e) (fun _ => rfl), catW_len (g := patW e) (fun _ => rfl)]
  simp [headW]
  omega
theorem entW_head (e : EntF) {j : Nat} (hj : j < 3) : (entW e)[j]? = (headW e)[j]? := by
  unfold entW
  rw [List.append_assoc, List.getElem?_append_left (by simpa [headW] using hj)]
theorem entW_part (e : EntF) {i j : Nat} (hi : i < e.nP) (hj : j < 3) : (entW e)[3 + 3 * i + j]? = (partW e i)[j]? := by
  unfold entW
  rw [List.append_assoc, List.getElem?_append_right (by simp [headW]; omega), List.getElem?_append_left (by rw [catW_len (fun _ => rfl)]; simp [headW]; omega)]
  rw [← catW_at (g := partW e) (fun _ => rfl) hj e.nP hi]
  congr 1
  simp [headW]
  omega
theorem entW_pat (e : EntF) {i j : Nat} (hi : i < e.nQ) (hj : j < 3) : (entW e)[3 + 3 * e.nP + 3 * i + j]? = (patW e i)[j]? := by
  unfold entW
  rw [List.getElem?_append_right (by simp [headW, catW_len (g := partW e) (fun _ => rfl)]; omega)]
  rw [← catW_at (g := patW e) (fun _ => rfl) hj e.nQ hi]
  congr 1
  simp [headW, catW_len (g := partW e) (fun _ => rfl)]
  omega

/-- what there is of an entry without a fault. -/
structure EntOk (e : EntF) : Prop where
  root : nameF e.root.data.toList = 0
  nP0 : 1 ≤ e.nP
  nP : e.nP ≤ 6
  nQ : e.nQ ≤ 36
  parts : ∀ i, i < e.nP → nameF (e.pName i).data.toList = 0 ∧ 1 ≤ e.pStamp i ∧ e.pStamp i ≤ 1000000 ∧ 0 ≤ e.pBase i ∧ e.pBase i < 256
  pats : ∀ i, i < e.nQ → 0 ≤ e.qPart i ∧ e.qPart i < e.nP ∧ 0 ≤ e.qAt i ∧ e.qAt i < 40 ∧ -2147483648 ≤ e.qWord i ∧ e.qWord i ≤ 2147483647
theorem fault_zero {g : Nat → Nat} {n : Nat} (h : faultTo g n = 0) : ∀ i, i < n → g i = 0 := by
  induction n with
  | zero => intro i hi; omega
  | succ n ih =>
    intro i hi
    simp only [faultTo, seqF] at h
    split at h
    · by_cases e : i = n
      · subst e; exact h
      · exact ih (by assumption) i (by omega)
    · contradiction
theorem seq_zero {a b : Nat} (h : seqF a b = 0) : a = 0 ∧ b = 0 := by
  unfold seqF at h
  split at h
  · exact ⟨by assumption, h⟩
  · contradiction
theorem entOk {e : EntF} (h : entF e = 0) : EntOk e := by
  unfold entF at h
  obtain ⟨h1, h⟩ := seq_zero h
  obtain ⟨h2, h⟩ := seq_zero h
  obtain ⟨h3, h4⟩ := seq_zero h
  have hm : 1 ≤ (e.nP : Int) ∧ (e.nP : Int) ≤ 6 ∧ 0 ≤ (e.nQ : Int) ∧ (e.nQ : Int) ≤ 36 := by
    split at h2
    · rename_i hb; unfold mayBeB at hb; exact of_decide_eq_true hb
    · contradiction
  refine ⟨h1, by omega, by omega, by omega, fun i hi => ?_, fun i hi => ?_⟩
  · obtain ⟨g1, g2⟩ := seq_zero (fault_zero h3 i hi)
    refine ⟨g1, ?_⟩
    split at g2
    · contradiction
    · split at g2
      · contradiction
      · omega
  · have := fault_zero h4 i hi
    unfold patchedF at this
    split at this
    · rename_i hp
      simp only [isPlaceF, isWordF, Bool.and_eq_true, decide_eq_true_eq] at hp
      omega
    · contradiction
/-- no word of it has a blank or an end. -/
theorem entW_no {e : EntF} (h : EntOk e) (c : UInt8) (hc : c = 32 ∨ c = 10) : ∀ x ∈ entW e, c ∉ x := by
  intro x hx
  unfold entW at hx
  rcases List.mem_append.1 hx with hx | hx
  · rcases List.mem_append.1 hx with hx | hx
    · simp only [headW, List.mem_cons, List.not_mem_nil, or_false] at hx
      rcases hx with rfl | rfl | rfl
      · exact name_bytes h.root c hc
      · exact itoa_no _ c hc
      · exact itoa_no _ c hc
    · obtain ⟨i, hi, hx⟩ := catW_mem hx
      simp only [partW, List.mem_cons, List.not_mem_nil, or_false] at hx
      rcases hx with rfl | rfl | rfl
      · exact name_bytes (h.parts i hi).1 c hc
      · exact itoa_no _ c hc
      · exact itoa_no _ c hc
  · obtain ⟨i, hi, hx⟩ := catW_mem hx
    simp only [patW, List.mem_cons, List.not_mem_nil, or_false] at hx
    rcases hx with rfl | rfl | rfl <;> exact itoa_no _ c hc
theorem itoa_short (n : Int) (h0 : -9223372036854775808 ≤ n) (h1 : n ≤ 9223372036854775807) : (Lib.itoa n).length ≤ 20 := itoa_len n h0 h1
theorem entW_short {e : EntF} (h : EntOk e) : ∀ x ∈ entW e, x.length ≤ 20 := by
  intro x hx
  have h1 := h.nP
  have h2 := h.nQ
  unfold entW at hx
  rcases List.mem_append.1 hx with hx | hx
  · rcases List.mem_append.1 hx with hx | hx
    · simp only [headW, List.mem_cons, List.not_mem_nil, or_false] at hx
      rcases hx with rfl | rfl | rfl
      · exact Nat.le_trans (nameF_len h.root) (by decide)
      · exact itoa_short _ (by omega) (by omega)
      · exact itoa_short _ (by omega) (by omega)
    · obtain ⟨i, hi, hx⟩ := catW_mem hx
      have hp := h.parts i hi
      simp only [partW, List.mem_cons, List.not_mem_nil, or_false] at hx
      rcases hx with rfl | rfl | rfl
      · exact Nat.le_trans (nameF_len hp.1) (by decide)
      · exact itoa_short _ (by omega) (by omega)
      · exact itoa_short _ (by omega) (by omega)
  · obtain ⟨i, hi, hx⟩ := catW_mem hx
    have hp := h.pats i hi
    simp only [patW, List.mem_cons, List.not_mem_nil, or_false] at hx
    rcases hx with rfl | rfl | rfl <;> exact itoa_short _ (by omega) (by omega)
theorem join_len_le (ws : List (List UInt8)) (h : ∀ x ∈ ws, x.length ≤ 20) : (Lib.join ws [32]).length ≤ 21 * ws.length ∧ ws.length ≤ (Lib.join ws [32]).length + 1 := by
  cases ws with
  | nil => simp [Lib.join_nil]
  | cons x r =>
    rw [Lib.join_cons]
    have key : ∀ r : List (List UInt8), (∀ x ∈ r, x.length ≤ 20) → (Lib.joinTail [32] r).length ≤ 21 * r.length ∧ r.length ≤ (Lib.joinTail [32] r).length := by
      intro r
      induction r with
      | nil => intro _; simp [Lib.joinTail]
      | cons y r ih =>
        intro hr
        have := ih fun x hx => hr x (List.mem_cons_of_mem _ hx)
        have hy := hr y (List.mem_cons_self ..)
        have e : Lib.joinTail [32] (y :: r) = [32] ++ y ++ Lib.joinTail [32] r := by simp [Lib.joinTail]
        rw [e]
        simp only [List.length_append, List.length_cons, List.length_nil]
        omega
    have := key r fun x hx => h x (List.mem_cons_of_mem _ hx)
    have hx := h x (List.mem_cons_self ..)
    simp only [List.length_append, List.length_cons]
    omega
/-- what was joined is cut into the same words. -/
theorem split_join (c : UInt8) : ∀ (ws : List (List UInt8)) (k : Nat), (∀ x ∈ ws, c ∉ x) → ws ≠ [] → ws.length ≤ k + 1 → Lib.splitK [c] 0 k (Lib.join ws [c]) = ws
  | [], _, _, h, _ => absurd rfl h
  | [x], k, h, _, _ => by
    rw [Lib.join_one]
    have hx := h x (List.mem_cons_self ..)
    cases k with
    | zero => rfl
    | succ k =>
      rw [Lib.splitK, if_pos]
      rw [Lib.index_one, index_no c x hx]
      rfl
  | x :: y :: r, k, h, _, hk => by
    have hx := h x (List.mem_cons_self ..)
    have e : Lib.join (x :: y :: r) [c] = x ++ c :: Lib.join (y :: r) [c] := by
      rw [Lib.join_cons, Lib.join_cons]
      simp [Lib.joinTail]
    cases k with
    | zero => simp at hk
    | succ k =>
      have hi : Lib.index (x ++ c :: Lib.join (y :: r) [c]) [c] = x.length := by rw [Lib.index_one, index_mid c _ x hx]
      rw [e, Lib.splitK, if_neg (by rw [hi]; simp), hi]
      have ih := split_join c (y :: r) k (fun z hz => h z (List.mem_cons_of_mem _ hz)) (by simp) (by simp at hk ⊢; omega)
      have hd : List.drop (x.length + 1) (x ++ c :: Lib.join (y :: r) [c]) = Lib.join (y :: r) [c] := by simp
      simp only [Int.toNat_natCast, Nat.add_zero, List.take_left', List.length_cons, List.length_nil, Nat.zero_add]
      rw [hd, ih]
theorem trim_end (l : List UInt8) : Lib.trimSuffix (l ++ [10]) [10] = l := by
  unfold Lib.trimSuffix Lib.hasSuffix
  rw [if_pos (by simp)]
  simp
theorem join_no (c : UInt8) (hc : c ≠ 32) (ws : List (List UInt8)) (h : ∀ x ∈ ws, c ∉ x) : c ∉ Lib.join ws [32] := by
  cases ws with
  | nil => simp [Lib.join_nil]
  | cons x r =>
    rw [Lib.join_cons]
    intro hm
    rcases List.mem_append.1 hm with hm | hm
    · exact h x (List.mem_cons_self ..) hm
    · simp only [Lib.joinTail, List.mem_flatten, List.mem_map] at hm
      obtain ⟨l, ⟨y, hy, rfl⟩, hm⟩ := hm
      rcases List.mem_append.1 hm with hm | hm
      · simp at hm; exact hc hm
      · exact h y (List.mem_cons_of_mem _ hy) hm

def emptyE : EntF := ⟨⟨#[]⟩, 0, fun _ => ⟨#[]⟩, fun _ => 0, fun _ => 0, 0, fun _ => 0, fun _ => 0, fun _ => 0⟩
def wd (ws : List ByteArray) (i : Nat) : ByteArray := ws.getD i ⟨#[]⟩
def nu (ws : List ByteArray) (i : Nat) : Int := numF (wd ws i).data.toList
/-- what is read of words. -/
def readW (ws : List ByteArray) : EntF :=
  if 3 ≤ ws.length ∧ mayBeB (nu ws 1) (nu ws 2) = true ∧ (ws.length : Int) = 3 + 3 * (nu ws 1 + nu ws 2) then
    ⟨wd ws 0, (nu ws 1).toNat, fun i => wd ws (3 + 3 * i), fun i => nu ws (3 + 3 * i + 1), fun i => nu ws (3 + 3 * i + 2), (nu ws 2).toNat, fun i => nu ws (3 + 3 * (nu ws 1).toNat + 3 * i), fun i => nu ws (3 + 3 * (nu ws 1).toNat + 3 * i + 1), fun i => nu ws (3 + 3 * (nu ws 1).toNat + 3 * i + 2)⟩
  else emptyE
/-- a text's words. -/
def wordsE (s : ByteArray) : List ByteArray := Lib.splitB ⟨#[32]⟩ 0 (min 129 ((⟨(Lib.trimSuffix s.data.toList [10]).toArray⟩ : ByteArray).size + 1) - 1) ⟨(Lib.trimSuffix s.data.toList [10]).toArray⟩
def readE (s : ByteArray) : EntF := readW (wordsE s)
def parseE (s : ByteArray) : Nat × EntF := if (textE (readE s)).1 = 0 ∧ (textE (readE s)).2 = s.data.toList then (0, readE s) else (4, emptyE)
structure SameE (a b : EntF) : Prop where
  root : a.root = b.root
  nP : a.nP = b.nP
  nQ : a.nQ = b.nQ
  parts : ∀ i, i < b.nP → a.pName i = b.pName i ∧ a.pStamp i = b.pStamp i ∧ a.pBase i = b.pBase i
  pats : ∀ i, i < b.nQ → a.qPart i = b.qPart i ∧ a.qAt i = b.qAt i ∧ a.qWord i = b.qWord i
theorem wordsE_line {e : EntF} (h : EntOk e) {s : ByteArray} (hs : s.data.toList = lineE e) : wordsE s = (entW e).map fun l => (⟨l.toArray⟩ : ByteArray) := by
  unfold wordsE
  rw [hs]
  unfold lineE
  rw [trim_end]
  apply bytes_map
  rw [Lib.splitB_data]
  have hl := entW_len e
  have h1 := h.nP
  have h2 := h.nQ
  have h3 := (join_len_le (entW e) (entW_short h)).2
  refine split_join 32 (entW e) _ (entW_no h 32 (.inl rfl)) (fun e0 => by rw [e0] at hl; simp at hl; omega) ?_
  have : (⟨(Lib.join (entW e) [32]).toArray⟩ : ByteArray).size = (Lib.join (entW e) [32]).length := by rw [Lib.size_eq]
  rw [this]
  omega
theorem wd_map {e : EntF} {i : Nat} {x : List UInt8} (h : (entW e)[i]? = some x) : wd ((entW e).map fun l => (⟨l.toArray⟩ : ByteArray)) i = ⟨x.toArray⟩ := by
  unfold wd
  rw [List.getD_eq_getElem?_getD, List.getElem?_map, h]
  rfl
theorem nu_map {e : EntF} {i : Nat} {n : Int} (h : (entW e)[i]? = some (Lib.itoa n)) (h0 : -1000000000000 ≤ n) (h1 : n ≤ 1000000000000) : nu ((entW e).map fun l => (⟨l.toArray⟩ : ByteArray)) i = n := by
  unfold nu
  rw [wd_map h]
  exact numF_itoa n h0 h1
/-- an entry's line is read as it. -/
theorem read_line {e : EntF} (h : EntOk e) {s : ByteArray} (hs : s.data.toList = lineE e) : SameE (readE s) e := by
  unfold readE
  rw [wordsE_line h hs]
  have hp := h.nP
  have hp0 := h.nP0
  have hq := h.nQ
  have n1 : nu ((entW e).map fun l => (⟨l.toArray⟩ : ByteArray)) 1 = e.nP := nu_map (entW_head e (by decide)) (by omega) (by omega)
  have n2 : nu ((entW e).map fun l => (⟨l.toArray⟩ : ByteArray)) 2 = e.nQ := nu_map (entW_head e (by decide)) (by omega) (by omega)
  have hl := entW_len e
  unfold readW
  rw [if_pos ⟨by rw [List.length_map]; omega, by rw [n1, n2]; exact decide_eq_true (by omega), by rw [n1, n2, List.length_map]; omega⟩]
  rw [n1, n2]
  simp only [Int.toNat_natCast]
  refine ⟨?_, rfl, rfl, fun i hi => ⟨?_, ?_, ?_⟩, fun i hi => ⟨?_, ?_, ?_⟩⟩
  · exact (wd_map (i := 0) (x := e.root.data.toList) (entW_head e (by decide))).trans (by simp)
  · exact (wd_map (i := 3 + 3 * i) (x := (e.pName i).data.toList) (entW_part e (j := 0) hi (by decide))).trans (by simp)
  · have := h.parts i hi
    exact nu_map (entW_part e (j := 1) hi (by decide)) (by omega) (by omega)
  · have := h.parts i hi
    exact nu_map (entW_part e (j := 2) hi (by decide)) (by omega) (by omega)
  · have := h.pats i hi
    exact nu_map (entW_pat e (j := 0) hi (by decide)) (by omega) (by omega)
  · have := h.pats i hi
    exact nu_map (entW_pat e (j := 1) hi (by decide)) (by omega) (by omega)
  · have := h.pats i hi
    exact nu_map (entW_pat e (j := 2) hi (by decide)) (by omega) (by omega)
theorem fault_congr {g h : Nat → Nat} {n : Nat} (e : ∀ i, i < n → g i = h i) : faultTo g n = faultTo h n := by
  induction n with
  | zero => rfl
  | succ n ih => simp only [faultTo]; rw [ih fun i hi => e i (by omega), e n (by omega)]
theorem catW_congr {g h : Nat → List (List UInt8)} {n : Nat} (e : ∀ i, i < n → g i = h i) : catW g n = catW h n := by
  induction n with
  | zero => rfl
  | succ n ih => simp only [catW]; rw [ih fun i hi => e i (by omega), e n (by omega)]
theorem textE_congr {a b : EntF} (h : SameE a b) : textE a = textE b := by
  have e1 : partsF a a.nP = partsF b b.nP := by rw [h.nP]; exact fault_congr fun i hi => by rw [(h.parts i hi).1, (h.parts i hi).2.1, (h.parts i hi).2.2]
  have e2 : patchesF a a.nQ = patchesF b b.nQ := by rw [h.nQ]; exact fault_congr fun i hi => by rw [h.nP, (h.pats i hi).1, (h.pats i hi).2.1, (h.pats i hi).2.2]
  have e3 : entF a = entF b := by unfold entF; rw [e1, e2, h.root, h.nP, h.nQ]
  have e4 : catW (partW a) a.nP = catW (partW b) b.nP := by rw [h.nP]; exact catW_congr fun i hi => by unfold partW; rw [(h.parts i hi).1, (h.parts i hi).2.1, (h.parts i hi).2.2]
  have e5 : catW (patW a) a.nQ = catW (patW b) b.nQ := by rw [h.nQ]; exact catW_congr fun i hi => by unfold patW; rw [(h.pats i hi).1, (h.pats i hi).2.1, (h.pats i hi).2.2]
  unfold textE lineE entW headW
  rw [e3, e4, e5, h.root, h.nP, h.nQ]
theorem parse_line {e : EntF} {s : ByteArray} (h : (textE e).1 = 0) (hs : s.data.toList = (textE e).2) : (parseE s).1 = 0 ∧ SameE (parseE s).2 e := by
  have h0 : entF e = 0 := by
    unfold textE at h
    split at h
    · assumption
    · exact h
  have ht : textE e = (0, lineE e) := by unfold textE; rw [if_pos h0]
  rw [ht] at hs
  have hr := read_line (entOk h0) hs
  have ht2 := textE_congr hr
  unfold parseE
  rw [if_pos ⟨by rw [ht2]; exact h, by rw [ht2, ht]; exact hs.symm⟩]
  exact ⟨rfl, hr⟩
/-- its line has no end but its last byte. -/
theorem lineE_end {e : EntF} (h : EntOk e) : ∃ l : List UInt8, lineE e = l ++ [10] ∧ (10 : UInt8) ∉ l := ⟨_, rfl, join_no 10 (by decide) _ (entW_no h 10 (.inr rfl))⟩
end Go.Proofs.YthdccmjdbcllkaaGreatDoor
