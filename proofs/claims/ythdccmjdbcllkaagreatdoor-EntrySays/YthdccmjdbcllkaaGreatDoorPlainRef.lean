/-
  Plain words, with nothing of the program: what the document's answer reads of a text, line by line; of an object's text it is that object, so it answers as Parse does.
-/
import Derived.Test.YthdccmjdbcllkaaGreatDoorPlainTop
import Derived.Test.YthdccmjdbcllkaaGreatDoorPlainCut
namespace Go.Proofs.YthdccmjdbcllkaaGreatDoor

theorem val_dec : ∀ (k u : Nat), u ≤ k → val (Lib.decDigits u) = u := by
  intro k
  induction k with
  | zero =>
    intro u hu
    obtain rfl : u = 0 := by omega
    rw [Lib.decDigits_one (by omega)]
    rfl
  | succ k ih =>
    intro u hu
    rw [Lib.decDigits]
    by_cases h : u < 10
    · rw [dif_pos h]
      show 10 * 0 + ((UInt8.ofNat (48 + u)).toNat - 48) = u
      rw [dig_toNat u h]
      omega
    · rw [dif_neg h, val_snoc, ih (u / 10) (by omega), dig_toNat (u % 10) (by omega)]
      omega
theorem dec_all (u : Nat) : (Lib.decDigits u).all isDig = true := by
  rw [List.all_eq_true]
  intro x hx
  have := dec_bytes u u (Nat.le_refl _) x hx
  simp only [isDig, Bool.and_eq_true, decide_eq_true_eq]
  exact this
theorem dec_head : ∀ (k u : Nat), u ≤ k → 1 ≤ u → (Lib.decDigits u).head? ≠ some 48 := by
  intro k
  induction k with
  | zero => intro u hu h1; omega
  | succ k ih =>
    intro u hu h1
    rw [Lib.decDigits]
    by_cases h : u < 10
    · rw [dif_pos h]
      intro e
      have e1 : UInt8.ofNat (48 + u) = 48 := by simpa using e
      have e2 := dig_toNat u h
      rw [e1] at e2
      have e3 : (48 : UInt8).toNat = 48 := rfl
      omega
    · rw [dif_neg h]
      obtain ⟨c, r, hc⟩ := List.exists_cons_of_ne_nil (dec_ne (u / 10))
      have hq := ih (u / 10) (by omega) (by omega)
      rw [hc] at hq ⊢
      exact hq
theorem dec_head45 (u : Nat) : (Lib.decDigits u).head? ≠ some 45 := by
  intro e
  have hm := List.mem_of_mem_head? (a := 45) (l := Lib.decDigits u) (by rw [e]; rfl)
  have := dec_bytes u u (Nat.le_refl _) 45 hm
  have e3 : (45 : UInt8).toNat = 45 := rfl
  omega

theorem refNum_itoa (n : Int) (h0 : -1000000000000 ≤ n) (h1 : n ≤ 1000000000000) : refNum (Lib.itoa n) = some n := by
  unfold Lib.itoa
  by_cases hn : n < 0
  · rw [if_pos hn]
    have hm : magR (45 :: Lib.decDigits n.natAbs) = Lib.decDigits n.natAbs := if_pos rfl
    have hl := decDigits_len 12 n.natAbs (by have : (10 : Nat) ^ (12 + 1) = 10000000000000 := by decide
                                             omega)
    have hne := List.length_pos_iff.2 (dec_ne n.natAbs)
    unfold refNum
    rw [hm, if_neg, if_pos (dec_all _), if_pos (by simp), val_dec _ _ (Nat.le_refl _)]
    · congr 1
      omega
    · rintro (h | h | ⟨h, _⟩)
      · omega
      · omega
      · exact dec_head _ _ (Nat.le_refl _) (by omega) h
  · rw [if_neg hn]
    have hm : magR (Lib.decDigits n.toNat) = Lib.decDigits n.toNat := if_neg (dec_head45 _)
    have hl := decDigits_len 12 n.toNat (by have : (10 : Nat) ^ (12 + 1) = 10000000000000 := by decide
                                            omega)
    have hne := List.length_pos_iff.2 (dec_ne n.toNat)
    unfold refNum
    rw [hm, if_neg, if_pos (dec_all _), if_neg (by omega), val_dec _ _ (Nat.le_refl _)]
    · congr 1
      omega
    · rintro (h | h | ⟨h, h2⟩)
      · omega
      · omega
      · by_cases h0 : n.toNat = 0
        · rw [h0, Lib.decDigits_one (by omega)] at h2
          simp at h2
        · exact dec_head _ _ (Nat.le_refl _) (by omega) h
theorem numR_itoa (n : Int) (h0 : -1000000000000 ≤ n) (h1 : n ≤ 1000000000000) : numR (Lib.itoa n) = n := by unfold numR; rw [refNum_itoa n h0 h1]; rfl
def wWeak : List UInt8 := [119, 101, 97, 107]
/-- an object, with what a line's words say besides; none: no such line. -/
def refWords (o : ObjF) (wk : Bool) : List (List UInt8) → Option ObjF
  | [k, a] => if mkB k = kNeed then some (addNeed o (mkB a)) else if mkB k = kWord then some (addWord o (numR a)) else none
  | [k, a, b] => if mkB k = kSymbol then some (addSym o (mkB a) (numR b) wk) else if mkB k = kBase then some (addTie o (numR a) 1 (numR b) ⟨#[]⟩ wk) else none
  | [k, a, b, c] => if mkB k = kWhole then some (addTie o (numR a) 2 (numR b) (mkB c) wk) else if mkB k = kNear then some (addTie o (numR a) 3 (numR b) (mkB c) wk) else none
  | _ => none
def refLine (o : ObjF) (l : List UInt8) : Option ObjF := if (wordsR l).head? = some wWeak then refWords o true (wordsR l).tail else refWords o false (wordsR l)
def refFold (X : Option ObjF) (ls : List (List UInt8)) : Option ObjF := ls.foldl (fun o p => o.bind fun y => refLine y p) X
theorem refFold_none (ls : List (List UInt8)) : refFold none ls = none := by
  induction ls with
  | nil => rfl
  | cons l ls ih => exact ih
/-- what is read of a text; none: nothing. -/
def refT (X : ObjF) (l : List UInt8) : Option ObjF := if (cut 10 l).2 = [] then refFold (some X) (cut 10 l).1 else none
theorem refT_nil (X : ObjF) : refT X [] = some X := rfl
theorem refT_line (X Y : ObjF) (p r : List UInt8) (h : (10 : UInt8) ∉ p) (hY : refLine X p = some Y) : refT X (p ++ [10] ++ r) = refT Y r := by
  unfold refT
  rw [List.append_assoc, List.singleton_append, cut_first 10 p r h]
  have e : refFold (some X) (p :: (cut 10 r).1) = refFold (some Y) (cut 10 r).1 := by
    show refFold (refLine X p) _ = _
    rw [hY]
  simp only [e]
theorem refLine_weak (X : ObjF) (b : Bool) (l : List UInt8) (h : (wordsR l).head? ≠ some wWeak) : refLine X (weakL b ++ l) = refWords X b (wordsR l) := by
  cases b with
  | false =>
    unfold refLine
    show (if (wordsR l).head? = some wWeak then _ else refWords X false (wordsR l)) = _
    rw [if_neg h]
  | true =>
    have e : wordsR (weakL true ++ l) = wWeak :: wordsR l := wordsR_mid wWeak l (by decide)
    unfold refLine
    rw [e]
    exact if_pos rfl
theorem wr2 (a b : List UInt8) (ha : (32 : UInt8) ∉ a) (hb : (32 : UInt8) ∉ b) : wordsR (Lib.join [a, b] [32]) = [a, b] := by
  rw [join2, List.singleton_append, wordsR_mid a _ ha, wordsR_end b hb]
theorem wr3 (a b c : List UInt8) (ha : (32 : UInt8) ∉ a) (hb : (32 : UInt8) ∉ b) (hc : (32 : UInt8) ∉ c) : wordsR (Lib.join [a, b, c] [32]) = [a, b, c] := by
  rw [join3, List.append_assoc, List.singleton_append, wordsR_mid a _ ha, List.singleton_append, wordsR_mid b _ hb, wordsR_end c hc]
theorem wr4 (a b c d : List UInt8) (ha : (32 : UInt8) ∉ a) (hb : (32 : UInt8) ∉ b) (hc : (32 : UInt8) ∉ c) (hd : (32 : UInt8) ∉ d) : wordsR (Lib.join [a, b, c, d] [32]) = [a, b, c, d] := by
  rw [join4, List.append_assoc, List.append_assoc, List.singleton_append, wordsR_mid a _ ha, List.singleton_append, wordsR_mid b _ hb, List.singleton_append, wordsR_mid c _ hc, wordsR_end d hd]

theorem ref_need (X : ObjF) (s : ByteArray) (h : nameF s.data.toList = 0) (r : List UInt8) : refT X (needLn s ++ r) = refT (addNeed X s) r := by
  unfold needLn
  rw [lineL_body]
  refine refT_line _ _ _ _ (body2_no _ _ _ (by decide) (name_bytes h 10 (.inr rfl))) ?_
  unfold bodyL
  have e := wr2 [110, 101, 101, 100] s.data.toList (by decide) (name_bytes h 32 (.inl rfl))
  rw [refLine_weak _ _ _ (by rw [e]; simp [wWeak]), e]
  simp only [refWords]
  rw [if_pos (by decide), mkB_data]
theorem ref_word (X : ObjF) (n : Int) (h0 : -1000000000000 ≤ n) (h1 : n ≤ 1000000000000) (r : List UInt8) : refT X (wordLn n ++ r) = refT (addWord X n) r := by
  unfold wordLn
  rw [lineL_body]
  refine refT_line _ _ _ _ (body2_no _ _ _ (by decide) (itoa_no n 10 (.inr rfl))) ?_
  unfold bodyL
  have e := wr2 [119, 111, 114, 100] (Lib.itoa n) (by decide) (itoa_no n 32 (.inl rfl))
  rw [refLine_weak _ _ _ (by rw [e]; simp [wWeak]), e]
  simp only [refWords]
  rw [if_neg (by decide), if_pos (by decide), numR_itoa n h0 h1]
theorem ref_sym (X : ObjF) (s : ByteArray) (a : Int) (b : Bool) (h : nameF s.data.toList = 0) (h0 : -1000000000000 ≤ a) (h1 : a ≤ 1000000000000) (r : List UInt8) : refT X (symLn s a b ++ r) = refT (addSym X s a b) r := by
  unfold symLn
  rw [lineL_body]
  refine refT_line _ _ _ _ (body3_no _ _ _ _ (by decide) (name_bytes h 10 (.inr rfl)) (itoa_no a 10 (.inr rfl))) ?_
  unfold bodyL
  have e := wr3 [115, 121, 109, 98, 111, 108] s.data.toList (Lib.itoa a) (by decide) (name_bytes h 32 (.inl rfl)) (itoa_no a 32 (.inl rfl))
  rw [refLine_weak _ _ _ (by rw [e]; simp [wWeak]), e]
  simp only [refWords]
  rw [if_pos (by decide), numR_itoa a h0 h1, mkB_data]
theorem ref_tie (X : ObjF) (x k d : Int) (s : ByteArray) (b : Bool) (hk : k = 1 ∧ s.size = 0 ∧ b = false ∨ (k = 2 ∨ k = 3) ∧ nameF s.data.toList = 0) (hx0 : -1000000000000 ≤ x) (hx1 : x ≤ 1000000000000) (hd0 : -1000000000000 ≤ d) (hd1 : d ≤ 1000000000000) (r : List UInt8) :
    refT X (tieLn x k d s b ++ r) = refT (addTie X x k d s b) r := by
  unfold tieLn
  rcases hk with ⟨rfl, hs, rfl⟩ | ⟨rfl | rfl, h⟩
  · have es : s = ⟨#[]⟩ := by
      rw [← mkB_data s, List.length_eq_zero_iff.1 (show s.data.toList.length = 0 by simpa using hs)]
      rfl
    rw [if_pos rfl, lineL_body]
    refine refT_line _ _ _ _ (body3_no _ _ _ _ (by decide) (itoa_no x 10 (.inr rfl)) (itoa_no d 10 (.inr rfl))) ?_
    unfold bodyL
    have e := wr3 [98, 97, 115, 101] (Lib.itoa x) (Lib.itoa d) (by decide) (itoa_no x 32 (.inl rfl)) (itoa_no d 32 (.inl rfl))
    rw [refLine_weak _ _ _ (by rw [e]; simp [wWeak]), e]
    simp only [refWords]
    rw [numR_itoa x hx0 hx1, numR_itoa d hd0 hd1, if_neg (by decide), if_pos (by decide), es]
  · rw [if_neg (by decide), if_pos rfl, lineL_body]
    refine refT_line _ _ _ _ (body4_no _ _ _ _ _ (by decide) (itoa_no x 10 (.inr rfl)) (itoa_no d 10 (.inr rfl)) (name_bytes h 10 (.inr rfl))) ?_
    unfold bodyL
    have e := wr4 [119, 104, 111, 108, 101] (Lib.itoa x) (Lib.itoa d) s.data.toList (by decide) (itoa_no x 32 (.inl rfl)) (itoa_no d 32 (.inl rfl)) (name_bytes h 32 (.inl rfl))
    rw [refLine_weak _ _ _ (by rw [e]; simp [wWeak]), e]
    simp only [refWords]
    rw [numR_itoa x hx0 hx1, numR_itoa d hd0 hd1, if_pos (by decide), mkB_data]
  · rw [if_neg (by decide), if_neg (by decide), lineL_body]
    refine refT_line _ _ _ _ (body4_no _ _ _ _ _ (by decide) (itoa_no x 10 (.inr rfl)) (itoa_no d 10 (.inr rfl)) (name_bytes h 10 (.inr rfl))) ?_
    unfold bodyL
    have e := wr4 [110, 101, 97, 114] (Lib.itoa x) (Lib.itoa d) s.data.toList (by decide) (itoa_no x 32 (.inl rfl)) (itoa_no d 32 (.inl rfl)) (name_bytes h 32 (.inl rfl))
    rw [refLine_weak _ _ _ (by rw [e]; simp [wWeak]), e]
    simp only [refWords]
    rw [numR_itoa x hx0 hx1, numR_itoa d hd0 hd1, if_neg (by decide), if_pos (by decide), mkB_data]

theorem refT_cat (g : Nat → List UInt8) (X : Nat → ObjF) (n : Nat) (h : ∀ i, i < n → ∀ r, refT (X i) (g i ++ r) = refT (X (i + 1)) r) : ∀ k, k ≤ n → ∀ r, refT (X 0) (catTo g k ++ r) = refT (X k) r
  | 0, _, _ => rfl
  | k + 1, hk, r => by
    show refT (X 0) (catTo g k ++ g k ++ r) = _
    rw [List.append_assoc, refT_cat g X n h k (by omega), h k (by omega)]
theorem ref_text {o : ObjF} (h : ObjOk o) : refT emptyO (textL o) = some (built o) := by
  have hw := h.nW
  unfold textL needsL wordsL symsL tiesL
  rw [List.append_assoc, List.append_assoc]
  refine (refT_cat (fun i => needLn (o.needs i)) (itN o emptyO) o.nN (fun i hi r => ref_need _ _ (h.needs i hi) r) o.nN (Nat.le_refl _) _).trans ?_
  refine (refT_cat (fun i => wordLn (o.words i)) (itW o (itN o emptyO o.nN)) o.nW (fun i hi r => ref_word _ _ (by have := h.words i hi; omega) (by have := h.words i hi; omega) r) o.nW (Nat.le_refl _) _).trans ?_
  refine (refT_cat (fun i => symLn (o.sName i) (o.sAt i) (o.sWeak i)) (itS o (itW o (itN o emptyO o.nN) o.nW)) o.nS (fun i hi r => ref_sym _ _ _ _ (h.syms i hi).1 (by have := h.syms i hi; omega) (by have := h.syms i hi; omega) r) o.nS (Nat.le_refl _) _).trans ?_
  have := refT_cat (fun i => tieLn (o.tAt i) (o.tKind i) (o.tAdd i) (o.tName i) (o.tWeak i)) (itT o (itS o (itW o (itN o emptyO o.nN) o.nW) o.nS)) o.nT (fun i hi r => ref_tie _ _ _ _ _ _ (h.ties i hi).2.2.2.2 (by have := h.ties i hi; omega) (by have := h.ties i hi; omega) (by have := h.ties i hi; omega) (by have := h.ties i hi; omega) r) o.nT (Nat.le_refl _) []
  rw [List.append_nil, refT_nil] at this
  exact this

/-- what the document answers of a text: a fault's number, and the object. -/
def refF (s : ByteArray) : Nat × ObjF :=
  if 1200 < s.size then (2, emptyO) else
  match refT emptyO s.data.toList with
  | none => (4, emptyO)
  | some o => if (textF o).1 = 0 ∧ (textF o).2 = s.data.toList then (0, o) else (4, emptyO)
theorem SameO.refl (o : ObjF) : SameO o o := ⟨rfl, rfl, rfl, rfl, fun _ _ => rfl, fun _ _ => rfl, fun _ _ => ⟨rfl, rfl, rfl⟩, fun _ _ => ⟨rfl, rfl, rfl, rfl, rfl⟩⟩
theorem SameO.symm {a b : ObjF} (h : SameO a b) : SameO b a :=
  ⟨h.nN.symm, h.nW.symm, h.nS.symm, h.nT.symm, fun i hi => (h.needs i (by rw [← h.nN]; exact hi)).symm, fun i hi => (h.words i (by rw [← h.nW]; exact hi)).symm,
    fun i hi => by obtain ⟨h1, h2, h3⟩ := h.syms i (by rw [← h.nS]; exact hi); exact ⟨h1.symm, h2.symm, h3.symm⟩,
    fun i hi => by obtain ⟨h1, h2, h3, h4, h5⟩ := h.ties i (by rw [← h.nT]; exact hi); exact ⟨h1.symm, h2.symm, h3.symm, h4.symm, h5.symm⟩⟩
/-- few of each. -/
def Few (o : ObjF) : Prop := o.nN ≤ 1000000000 ∧ o.nW ≤ 1000000000 ∧ o.nS ≤ 1000000000 ∧ o.nT ≤ 1000000000
theorem objOk_few {o : ObjF} (h : ObjOk o) : Few o := by
  have := h.nN
  have := h.nW
  have := h.nS
  have := h.nT
  unfold Few
  omega
theorem ref_same (s : ByteArray) : (refF s).1 = (parseF s).1 ∧ SameO (parseF s).2 (refF s).2 ∧ Few (refF s).2 := by
  have few0 : Few emptyO := by unfold Few emptyO; simp
  by_cases hs : 1200 < s.size
  · have h1 : refF s = (2, emptyO) := if_pos hs
    have h2 : parseF s = (2, emptyO) := if_pos hs
    rw [h1, h2]
    exact ⟨rfl, SameO.refl _, few0⟩
  · by_cases h : (parseF s).1 = 0
    · obtain ⟨g1, g2, _⟩ := parse_back h
      obtain ⟨k1, _, k3⟩ := textF_zero g1
      rw [k3] at g2
      have hok := objOk k1
      have hT : refT emptyO s.data.toList = some (built (parseF s).2) := by rw [← g2]; exact ref_text hok
      have hsame := built_same (parseF s).2
      have hF : refF s = (0, built (parseF s).2) := by
        unfold refF
        rw [if_neg hs, hT]
        show (if _ then _ else _) = _
        rw [textF_congr hsame, k3, if_pos ⟨rfl, g2⟩]
      rw [hF, h]
      refine ⟨rfl, hsame.symm, ?_⟩
      have := objOk_few hok
      unfold Few at this ⊢
      rw [hsame.nN, hsame.nW, hsame.nS, hsame.nT]
      exact this
    · have hp : parseF s = (4, emptyO) := by
        unfold parseF at h ⊢
        rw [if_neg hs] at h ⊢
        split at h
        · exact absurd rfl h
        · rename_i hn
          rw [if_neg hn]
      have hF : refF s = (4, emptyO) := by
        unfold refF
        rw [if_neg hs]
        split
        · rfl
        · rename_i o _
          split
          · rename_i ht
            exact absurd (parse_text ht.1 ht.2.symm).1 h
          · rfl
      rw [hF, hp]
      exact ⟨rfl, SameO.refl _, few0⟩

theorem itoaR_five : Lib.itoa 5 = [53] := by
  unfold Lib.itoa
  rw [if_neg (by decide), Lib.decDigits_one (by decide)]
  rfl
theorem itoaR_zero : Lib.itoa 0 = [48] := by
  unfold Lib.itoa
  rw [if_neg (by decide), Lib.decDigits_one (by decide)]
  rfl
theorem itoaR_minus : Lib.itoa (-1) = [45, 49] := by
  unfold Lib.itoa
  rw [if_pos (by decide), Lib.decDigits_one (by decide)]
  rfl
/-- the object of the closed fact, and its text. -/
def factO : ObjF := addTie (addSym (addWord (addNeed emptyO ⟨#[98]⟩) 5) ⟨#[120]⟩ 0 true) 0 3 (-1) ⟨#[121]⟩ false
abbrev factS : ByteArray := ⟨#[110, 101, 101, 100, 32, 98, 10, 119, 111, 114, 100, 32, 53, 10, 119, 101, 97, 107, 32, 115, 121, 109, 98, 111, 108, 32, 120, 32, 48, 10, 110, 101, 97, 114, 32, 48, 32, 45, 49, 32, 121, 10]⟩
theorem parse_fact : (parseF factS).1 = 0 ∧ (parseF factS).2.nN = 1 ∧ (parseF factS).2.nS = 1 ∧ (parseF factS).2.sWeak 0 = true ∧ (parseF factS).2.nT = 1 ∧ (parseF factS).2.tKind 0 = 3 := by
  have ho : objF factO = 0 := by decide
  have hl : textL factO = [110, 101, 101, 100, 32, 98, 10, 119, 111, 114, 100, 32, 53, 10, 119, 101, 97, 107, 32, 115, 121, 109, 98, 111, 108, 32, 120, 32, 48, 10, 110, 101, 97, 114, 32, 48, 32, 45, 49, 32, 121, 10] := by
    show ((([] ++ lineL false [[110, 101, 101, 100], [98]]) ++ ([] ++ lineL false [[119, 111, 114, 100], Lib.itoa 5])) ++ ([] ++ lineL true [[115, 121, 109, 98, 111, 108], [120], Lib.itoa 0])) ++ ([] ++ lineL false [[110, 101, 97, 114], Lib.itoa 0, Lib.itoa (-1), [121]]) = _
    rw [itoaR_five, itoaR_zero, itoaR_minus]
    rfl
  have he : textF factO = (0, [110, 101, 101, 100, 32, 98, 10, 119, 111, 114, 100, 32, 53, 10, 119, 101, 97, 107, 32, 115, 121, 109, 98, 111, 108, 32, 120, 32, 48, 10, 110, 101, 97, 114, 32, 48, 32, 45, 49, 32, 121, 10]) := by
    unfold textF
    rw [if_pos ho, hl, if_neg (by decide)]
  obtain ⟨h1, h2⟩ := parse_text (o := factO) (t := factS) (by rw [he]) (by rw [he])
  exact ⟨h1, h2.nN, h2.nS, (h2.syms 0 (by decide)).2.2, h2.nT, (h2.ties 0 (by decide)).2.1⟩
end Go.Proofs.YthdccmjdbcllkaaGreatDoor
