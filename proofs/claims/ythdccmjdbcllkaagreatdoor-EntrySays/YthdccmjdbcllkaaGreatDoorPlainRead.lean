/-
  Plain words, with nothing of the program: a number's text is read as it; a text is cut at one byte.
  Plain words, with nothing of the program: what is read of a text, line by line; of an object's text it is that object.
-/
import Derived.Test.YthdccmjdbcllkaaGreatDoorReadBeg
import Derived.Lib.SplitLaws
import Derived.Lib.IndexBytes
import Derived.Test.YthdccmjdbcllkaaGreatDoorPlainNumb
import Derived.Test.YthdccmjdbcllkaaGreatDoorReadEnd
namespace Go.Proofs.YthdccmjdbcllkaaGreatDoor

def emptyO : ObjF := ⟨0, fun _ => ⟨#[]⟩, 0, fun _ => 0, 0, fun _ => ⟨#[]⟩, fun _ => 0, fun _ => false, 0, fun _ => 0, fun _ => 0, fun _ => 0, fun _ => ⟨#[]⟩, fun _ => false⟩
/-- the lines of a text. -/
def linesOf (s : ByteArray) : List ByteArray := Lib.splitB ⟨#[10]⟩ 0 (Lib.countB s ⟨#[10]⟩) s
/-- what is read of a text. -/
def readF (s : ByteArray) : ObjF := (linesOf s).foldl lineF emptyO

def mkB (l : List UInt8) : ByteArray := ⟨l.toArray⟩
theorem mkB_data (s : ByteArray) : mkB s.data.toList = s := by simp [mkB]
theorem data_mkB (l : List UInt8) : (mkB l).data.toList = l := by simp [mkB]
def foldT (X : ObjF) (l : List UInt8) : ObjF := (sp 10 l).foldl (fun o p => lineF o (mkB p)) X
theorem readF_foldT (s : ByteArray) : readF s = foldT emptyO s.data.toList := by
  unfold readF linesOf foldT
  rw [splitB_sp, List.foldl_map]
  rfl
theorem foldT_line (X : ObjF) (p r : List UInt8) (h : (10 : UInt8) ∉ p) : foldT X (p ++ [10] ++ r) = foldT (lineF X (mkB p)) r := by
  unfold foldT
  rw [List.append_assoc, List.singleton_append, sp_mid 10 p r h]
  rfl
theorem wordsOf_sp (l : List UInt8) : wordsOf (mkB l) = (sp 32 l).map mkB := by
  unfold wordsOf
  rw [splitB_sp, data_mkB]
  rfl
theorem foldT_nil (X : ObjF) : foldT X [] = X := by
  unfold foldT
  rw [sp_end 10 [] (by simp)]
  show wordsF X (isWeak (mkB [])) (wordsOf (mkB [])) = X
  rw [wordsOf_sp, sp_end 32 [] (by simp)]
  rfl

def weakL (b : Bool) : List UInt8 := if b = true then [119, 101, 97, 107, 32] else []
theorem lineF_weak (X : ObjF) (b : Bool) (l : List UInt8) (h : Lib.hasPrefix l [119, 101, 97, 107, 32] = false) : lineF X (mkB (weakL b ++ l)) = wordsF X b ((sp 32 l).map mkB) := by
  cases b with
  | false =>
    have e1 : isWeak (mkB (weakL false ++ l)) = false := by unfold isWeak; rw [data_mkB]; exact h
    have e2 : unWeak (mkB (weakL false ++ l)) = mkB l := by
      unfold unWeak
      rw [data_mkB]
      show mkB (Lib.trimPrefix l _) = _
      unfold Lib.trimPrefix
      rw [h]
      rfl
    unfold lineF
    rw [e1, e2, wordsOf_sp]
  | true =>
    have hp : Lib.hasPrefix (weakL true ++ l) [119, 101, 97, 107, 32] = true := by simp [Lib.hasPrefix, weakL]
    have e1 : isWeak (mkB (weakL true ++ l)) = true := by unfold isWeak; rw [data_mkB]; exact hp
    have e2 : unWeak (mkB (weakL true ++ l)) = mkB l := by
      unfold unWeak
      rw [data_mkB]
      show mkB (Lib.trimPrefix (weakL true ++ l) _) = _
      unfold Lib.trimPrefix
      rw [hp]
      rfl
    unfold lineF
    rw [e1, e2, wordsOf_sp]
theorem sp2 (a b : List UInt8) (ha : (32 : UInt8) ∉ a) (hb : (32 : UInt8) ∉ b) : sp 32 (Lib.join [a, b] [32]) = [a, b] := by
  rw [join2, List.singleton_append, sp_mid 32 a _ ha, sp_end 32 b hb]
theorem sp3 (a b c : List UInt8) (ha : (32 : UInt8) ∉ a) (hb : (32 : UInt8) ∉ b) (hc : (32 : UInt8) ∉ c) : sp 32 (Lib.join [a, b, c] [32]) = [a, b, c] := by
  rw [join3, List.append_assoc, List.singleton_append, sp_mid 32 a _ ha, List.singleton_append, sp_mid 32 b _ hb, sp_end 32 c hc]
theorem sp4 (a b c d : List UInt8) (ha : (32 : UInt8) ∉ a) (hb : (32 : UInt8) ∉ b) (hc : (32 : UInt8) ∉ c) (hd : (32 : UInt8) ∉ d) : sp 32 (Lib.join [a, b, c, d] [32]) = [a, b, c, d] := by
  rw [join4, List.append_assoc, List.append_assoc, List.singleton_append, sp_mid 32 a _ ha, List.singleton_append, sp_mid 32 b _ hb, List.singleton_append, sp_mid 32 c _ hc, sp_end 32 d hd]

/-- a line, its end taken off. -/
def bodyL (weak : Bool) (xs : List (List UInt8)) : List UInt8 := weakL weak ++ Lib.join xs [32]
theorem lineL_body (b : Bool) (xs : List (List UInt8)) : lineL b xs = bodyL b xs ++ [10] := by
  unfold lineL bodyL weakL
  rw [List.append_assoc]
theorem weakL_no (b : Bool) : (10 : UInt8) ∉ weakL b := by cases b <;> decide
theorem body2_no (b : Bool) (x y : List UInt8) (hx : (10 : UInt8) ∉ x) (hy : (10 : UInt8) ∉ y) : (10 : UInt8) ∉ bodyL b [x, y] := by
  unfold bodyL
  rw [join2]
  simp only [List.mem_append, List.mem_singleton]
  rintro (h | h | h | h)
  · exact weakL_no b h
  · exact hx h
  · exact absurd h (by decide)
  · exact hy h
theorem body3_no (b : Bool) (x y z : List UInt8) (hx : (10 : UInt8) ∉ x) (hy : (10 : UInt8) ∉ y) (hz : (10 : UInt8) ∉ z) : (10 : UInt8) ∉ bodyL b [x, y, z] := by
  unfold bodyL
  rw [join3]
  simp only [List.mem_append, List.mem_singleton]
  rintro (h | h | (h | h) | h | h)
  · exact weakL_no b h
  · exact hx h
  · exact absurd h (by decide)
  · exact hy h
  · exact absurd h (by decide)
  · exact hz h
theorem body4_no (b : Bool) (x y z u : List UInt8) (hx : (10 : UInt8) ∉ x) (hy : (10 : UInt8) ∉ y) (hz : (10 : UInt8) ∉ z) (hu : (10 : UInt8) ∉ u) : (10 : UInt8) ∉ bodyL b [x, y, z, u] := by
  unfold bodyL
  rw [join4]
  simp only [List.mem_append, List.mem_singleton]
  rintro (h | h | (h | h) | (h | h) | h | h)
  · exact weakL_no b h
  · exact hx h
  · exact absurd h (by decide)
  · exact hy h
  · exact absurd h (by decide)
  · exact hz h
  · exact absurd h (by decide)
  · exact hu h

theorem read_need (X : ObjF) (s : ByteArray) (h : nameF s.data.toList = 0) (r : List UInt8) : foldT X (needLn s ++ r) = foldT (addNeed X s) r := by
  unfold needLn
  rw [lineL_body, foldT_line _ _ _ (body2_no _ _ _ (by decide) (name_bytes h 10 (.inr rfl)))]
  congr 1
  unfold bodyL
  rw [lineF_weak _ _ _ (by rw [join2]; rfl), sp2 _ _ (by decide) (name_bytes h 32 (.inl rfl))]
  show wordsF X false [mkB [110, 101, 101, 100], mkB s.data.toList] = _
  rw [mkB_data]
  simp only [wordsF]
  exact if_pos rfl
theorem read_word (X : ObjF) (n : Int) (h0 : -1000000000000 ≤ n) (h1 : n ≤ 1000000000000) (r : List UInt8) : foldT X (wordLn n ++ r) = foldT (addWord X n) r := by
  unfold wordLn
  rw [lineL_body, foldT_line _ _ _ (body2_no _ _ _ (by decide) (itoa_no n 10 (.inr rfl)))]
  congr 1
  unfold bodyL
  rw [lineF_weak _ _ _ (by rw [join2]; rfl), sp2 _ _ (by decide) (itoa_no n 32 (.inl rfl))]
  show wordsF X false [mkB [119, 111, 114, 100], mkB (Lib.itoa n)] = _
  simp only [wordsF]
  rw [if_neg (by decide), data_mkB, numF_itoa n h0 h1]
  exact if_pos rfl
theorem read_sym (X : ObjF) (s : ByteArray) (a : Int) (b : Bool) (h : nameF s.data.toList = 0) (h0 : -1000000000000 ≤ a) (h1 : a ≤ 1000000000000) (r : List UInt8) : foldT X (symLn s a b ++ r) = foldT (addSym X s a b) r := by
  unfold symLn
  rw [lineL_body, foldT_line _ _ _ (body3_no _ _ _ _ (by decide) (name_bytes h 10 (.inr rfl)) (itoa_no a 10 (.inr rfl)))]
  congr 1
  unfold bodyL
  rw [lineF_weak _ _ _ (by rw [join3]; rfl), sp3 _ _ _ (by decide) (name_bytes h 32 (.inl rfl)) (itoa_no a 32 (.inl rfl))]
  show wordsF X b [mkB [115, 121, 109, 98, 111, 108], mkB s.data.toList, mkB (Lib.itoa a)] = _
  simp only [wordsF]
  rw [mkB_data, data_mkB, numF_itoa a h0 h1]
  exact if_pos rfl
theorem read_tie (X : ObjF) (x k d : Int) (s : ByteArray) (b : Bool) (hk : k = 1 ∧ s.size = 0 ∧ b = false ∨ (k = 2 ∨ k = 3) ∧ nameF s.data.toList = 0) (hx0 : -1000000000000 ≤ x) (hx1 : x ≤ 1000000000000) (hd0 : -1000000000000 ≤ d) (hd1 : d ≤ 1000000000000) (r : List UInt8) :
    foldT X (tieLn x k d s b ++ r) = foldT (addTie X x k d s b) r := by
  unfold tieLn
  rcases hk with ⟨rfl, hs, rfl⟩ | ⟨rfl | rfl, h⟩
  · have es : s = ⟨#[]⟩ := by
      rw [← mkB_data s, List.length_eq_zero_iff.1 (show s.data.toList.length = 0 by simpa using hs)]
      rfl
    rw [if_pos rfl, lineL_body, foldT_line _ _ _ (body3_no _ _ _ _ (by decide) (itoa_no x 10 (.inr rfl)) (itoa_no d 10 (.inr rfl)))]
    congr 1
    unfold bodyL
    rw [lineF_weak _ _ _ (by rw [join3]; rfl), sp3 _ _ _ (by decide) (itoa_no x 32 (.inl rfl)) (itoa_no d 32 (.inl rfl))]
    show wordsF X false [mkB [98, 97, 115, 101], mkB (Lib.itoa x), mkB (Lib.itoa d)] = _
    simp only [wordsF]
    rw [data_mkB, data_mkB, numF_itoa x hx0 hx1, numF_itoa d hd0 hd1, if_neg (by decide), es]
    exact if_pos rfl
  · rw [if_neg (by decide), if_pos rfl, lineL_body, foldT_line _ _ _ (body4_no _ _ _ _ _ (by decide) (itoa_no x 10 (.inr rfl)) (itoa_no d 10 (.inr rfl)) (name_bytes h 10 (.inr rfl)))]
    congr 1
    unfold bodyL
    rw [lineF_weak _ _ _ (by rw [join4]; rfl), sp4 _ _ _ _ (by decide) (itoa_no x 32 (.inl rfl)) (itoa_no d 32 (.inl rfl)) (name_bytes h 32 (.inl rfl))]
    show wordsF X b [mkB [119, 104, 111, 108, 101], mkB (Lib.itoa x), mkB (Lib.itoa d), mkB s.data.toList] = _
    simp only [wordsF]
    rw [data_mkB, data_mkB, numF_itoa x hx0 hx1, numF_itoa d hd0 hd1, mkB_data]
    exact if_pos rfl
  · rw [if_neg (by decide), if_neg (by decide), lineL_body, foldT_line _ _ _ (body4_no _ _ _ _ _ (by decide) (itoa_no x 10 (.inr rfl)) (itoa_no d 10 (.inr rfl)) (name_bytes h 10 (.inr rfl)))]
    congr 1
    unfold bodyL
    rw [lineF_weak _ _ _ (by rw [join4]; rfl), sp4 _ _ _ _ (by decide) (itoa_no x 32 (.inl rfl)) (itoa_no d 32 (.inl rfl)) (name_bytes h 32 (.inl rfl))]
    show wordsF X b [mkB [110, 101, 97, 114], mkB (Lib.itoa x), mkB (Lib.itoa d), mkB s.data.toList] = _
    simp only [wordsF]
    rw [data_mkB, data_mkB, numF_itoa x hx0 hx1, numF_itoa d hd0 hd1, mkB_data, if_neg (by decide)]
    exact if_pos rfl

/-- line by line. -/
theorem foldT_cat (g : Nat → List UInt8) (X : Nat → ObjF) (n : Nat) (h : ∀ i, i < n → ∀ r, foldT (X i) (g i ++ r) = foldT (X (i + 1)) r) : ∀ k, k ≤ n → ∀ r, foldT (X 0) (catTo g k ++ r) = foldT (X k) r
  | 0, _, _ => rfl
  | k + 1, hk, r => by
    show foldT (X 0) (catTo g k ++ g k ++ r) = _
    rw [List.append_assoc, foldT_cat g X n h k (by omega), h k (by omega)]
def itN (o X : ObjF) : Nat → ObjF
  | 0 => X
  | k + 1 => addNeed (itN o X k) (o.needs k)
def itW (o X : ObjF) : Nat → ObjF
  | 0 => X
  | k + 1 => addWord (itW o X k) (o.words k)
def itS (o X : ObjF) : Nat → ObjF
  | 0 => X
  | k + 1 => addSym (itS o X k) (o.sName k) (o.sAt k) (o.sWeak k)
def itT (o X : ObjF) : Nat → ObjF
  | 0 => X
  | k + 1 => addTie (itT o X k) (o.tAt k) (o.tKind k) (o.tAdd k) (o.tName k) (o.tWeak k)
def built (o : ObjF) : ObjF := itT o (itS o (itW o (itN o emptyO o.nN) o.nW) o.nS) o.nT
theorem read_text {o : ObjF} (h : ObjOk o) : foldT emptyO (textL o) = built o := by
  have hw := h.nW
  unfold textL needsL wordsL symsL tiesL
  rw [List.append_assoc, List.append_assoc]
  refine (foldT_cat (fun i => needLn (o.needs i)) (itN o emptyO) o.nN (fun i hi r => read_need _ _ (h.needs i hi) r) o.nN (Nat.le_refl _) _).trans ?_
  refine (foldT_cat (fun i => wordLn (o.words i)) (itW o (itN o emptyO o.nN)) o.nW (fun i hi r => read_word _ _ (by have := h.words i hi; omega) (by have := h.words i hi; omega) r) o.nW (Nat.le_refl _) _).trans ?_
  refine (foldT_cat (fun i => symLn (o.sName i) (o.sAt i) (o.sWeak i)) (itS o (itW o (itN o emptyO o.nN) o.nW)) o.nS (fun i hi r => read_sym _ _ _ _ (h.syms i hi).1 (by have := h.syms i hi; omega) (by have := h.syms i hi; omega) r) o.nS (Nat.le_refl _) _).trans ?_
  have := foldT_cat (fun i => tieLn (o.tAt i) (o.tKind i) (o.tAdd i) (o.tName i) (o.tWeak i)) (itT o (itS o (itW o (itN o emptyO o.nN) o.nW) o.nS)) o.nT (fun i hi r => read_tie _ _ _ _ _ _ (h.ties i hi).2.2.2.2 (by have := h.ties i hi; omega) (by have := h.ties i hi; omega) (by have := h.ties i hi; omega) (by have := h.ties i hi; omega) r) o.nT (Nat.le_refl _) []
  rw [List.append_nil, foldT_nil] at this
  exact this

/-- as many, and each the same. -/
structure SameO (a b : ObjF) : Prop where
  nN : a.nN = b.nN
  nW : a.nW = b.nW
  nS : a.nS = b.nS
  nT : a.nT = b.nT
  needs : ∀ i, i < b.nN → a.needs i = b.needs i
  words : ∀ i, i < b.nW → a.words i = b.words i
  syms : ∀ i, i < b.nS → a.sName i = b.sName i ∧ a.sAt i = b.sAt i ∧ a.sWeak i = b.sWeak i
  ties : ∀ i, i < b.nT → a.tAt i = b.tAt i ∧ a.tKind i = b.tKind i ∧ a.tAdd i = b.tAdd i ∧ a.tName i = b.tName i ∧ a.tWeak i = b.tWeak i
theorem itN_is (o X : ObjF) (h : X.nN = 0) : ∀ k, (itN o X k).nN = k ∧ (∀ i, i < k → (itN o X k).needs i = o.needs i) ∧ itN o X k = { X with nN := (itN o X k).nN, needs := (itN o X k).needs }
  | 0 => ⟨h, fun i hi => by omega, rfl⟩
  | k + 1 => by
    obtain ⟨h1, h2, h3⟩ := itN_is o X h k
    refine ⟨by simp [itN, addNeed, h1], fun i hi => ?_, ?_⟩
    · simp only [itN, addNeed, h1]
      split
      · rename_i e; rw [e]
      · exact h2 i (by omega)
    · show addNeed (itN o X k) (o.needs k) = _
      rw [h3]
      rfl
theorem itW_is (o X : ObjF) (h : X.nW = 0) : ∀ k, (itW o X k).nW = k ∧ (∀ i, i < k → (itW o X k).words i = o.words i) ∧ itW o X k = { X with nW := (itW o X k).nW, words := (itW o X k).words }
  | 0 => ⟨h, fun i hi => by omega, rfl⟩
  | k + 1 => by
    obtain ⟨h1, h2, h3⟩ := itW_is o X h k
    refine ⟨by simp [itW, addWord, h1], fun i hi => ?_, ?_⟩
    · simp only [itW, addWord, h1]
      split
      · rename_i e; rw [e]
      · exact h2 i (by omega)
    · show addWord (itW o X k) (o.words k) = _
      rw [h3]
      rfl
theorem itS_is (o X : ObjF) (h : X.nS = 0) : ∀ k, (itS o X k).nS = k ∧ (∀ i, i < k → (itS o X k).sName i = o.sName i ∧ (itS o X k).sAt i = o.sAt i ∧ (itS o X k).sWeak i = o.sWeak i) ∧ itS o X k = { X with nS := (itS o X k).nS, sName := (itS o X k).sName, sAt := (itS o X k).sAt, sWeak := (itS o X k).sWeak }
  | 0 => ⟨h, fun i hi => by omega, rfl⟩
  | k + 1 => by
    obtain ⟨h1, h2, h3⟩ := itS_is o X h k
    refine ⟨by simp [itS, addSym, h1], fun i hi => ?_, ?_⟩
    · simp only [itS, addSym, h1]
      split
      · rename_i e; rw [e]; exact ⟨rfl, rfl, rfl⟩
      · exact h2 i (by omega)
    · show addSym (itS o X k) _ _ _ = _
      rw [h3]
      rfl
theorem itT_is (o X : ObjF) (h : X.nT = 0) : ∀ k, (itT o X k).nT = k ∧ (∀ i, i < k → (itT o X k).tAt i = o.tAt i ∧ (itT o X k).tKind i = o.tKind i ∧ (itT o X k).tAdd i = o.tAdd i ∧ (itT o X k).tName i = o.tName i ∧ (itT o X k).tWeak i = o.tWeak i) ∧ itT o X k = { X with nT := (itT o X k).nT, tAt := (itT o X k).tAt, tKind := (itT o X k).tKind, tAdd := (itT o X k).tAdd, tName := (itT o X k).tName, tWeak := (itT o X k).tWeak }
  | 0 => ⟨h, fun i hi => by omega, rfl⟩
  | k + 1 => by
    obtain ⟨h1, h2, h3⟩ := itT_is o X h k
    refine ⟨by simp [itT, addTie, h1], fun i hi => ?_, ?_⟩
    · simp only [itT, addTie, h1]
      split
      · rename_i e; rw [e]; exact ⟨rfl, rfl, rfl, rfl, rfl⟩
      · exact h2 i (by omega)
    · show addTie (itT o X k) _ _ _ _ _ = _
      rw [h3]
      rfl
theorem built_same (o : ObjF) : SameO (built o) o := by
  obtain ⟨a1, a2, a3⟩ := itN_is o emptyO rfl o.nN
  obtain ⟨b1, b2, b3⟩ := itW_is o (itN o emptyO o.nN) (by rw [a3]; rfl) o.nW
  obtain ⟨c1, c2, c3⟩ := itS_is o (itW o (itN o emptyO o.nN) o.nW) (by rw [b3, a3]; rfl) o.nS
  obtain ⟨d1, d2, d3⟩ := itT_is o (itS o (itW o (itN o emptyO o.nN) o.nW) o.nS) (by rw [c3, b3, a3]; rfl) o.nT
  have e : built o = itT o (itS o (itW o (itN o emptyO o.nN) o.nW) o.nS) o.nT := rfl
  have q1 : (built o).nN = (itN o emptyO o.nN).nN ∧ (built o).needs = (itN o emptyO o.nN).needs := by rw [e, d3, c3, b3]; exact ⟨rfl, rfl⟩
  have q2 : (built o).nW = (itW o (itN o emptyO o.nN) o.nW).nW ∧ (built o).words = (itW o (itN o emptyO o.nN) o.nW).words := by rw [e, d3, c3]; exact ⟨rfl, rfl⟩
  have q3 : (built o).nS = (itS o (itW o (itN o emptyO o.nN) o.nW) o.nS).nS ∧ (built o).sName = (itS o (itW o (itN o emptyO o.nN) o.nW) o.nS).sName ∧ (built o).sAt = (itS o (itW o (itN o emptyO o.nN) o.nW) o.nS).sAt ∧ (built o).sWeak = (itS o (itW o (itN o emptyO o.nN) o.nW) o.nS).sWeak := by rw [e, d3]; exact ⟨rfl, rfl, rfl, rfl⟩
  exact ⟨q1.1.trans a1, q2.1.trans b1, q3.1.trans c1, d1, fun i hi => by rw [q1.2]; exact a2 i hi, fun i hi => by rw [q2.2]; exact b2 i hi, fun i hi => by rw [q3.2.1, q3.2.2.1, q3.2.2.2]; exact c2 i hi, d2⟩
end Go.Proofs.YthdccmjdbcllkaaGreatDoor
