/-
  What readLine does, for every line; memory that was there stays as it was.
-/
import Derived.Test.YtanfejgcjifhpaaDoorReadThree
import Derived.Test.YtanfejgcjifhpaaDoorReadBase
import Derived.Test.YtanfejgcjifhpaaDoorReadFour
import Derived.Test.YtanfejgcjifhpaaDoorReadOther
namespace Go.Proofs.YtanfejgcjifhpaaDoor
open Go.RowKit

theorem splitB_size (sep : ByteArray) : ∀ (k : Nat) (s x : ByteArray), x ∈ Lib.splitB sep 0 k s → x.size ≤ s.size
  | 0, s, x, h => by
    rw [Lib.splitB_zero, List.mem_singleton] at h
    rw [h]; exact Nat.le_refl _
  | k + 1, s, x, h => by
    unfold Lib.splitB at h
    split at h
    · rw [List.mem_singleton] at h
      rw [h]; exact Nat.le_refl _
    · rcases List.mem_cons.1 h with h | h
      · rw [h]; simp; omega
      · have := splitB_size sep k _ x h
        have h2 : (s.extract ((Lib.indexB s sep).toNat + sep.size) s.size).size ≤ s.size := by simp
        omega

def kNeed : ByteArray := ⟨#[110, 101, 101, 100]⟩
def kWord : ByteArray := ⟨#[119, 111, 114, 100]⟩
def kSymbol : ByteArray := ⟨#[115, 121, 109, 98, 111, 108]⟩
def kBase : ByteArray := ⟨#[98, 97, 115, 101]⟩
def kWhole : ByteArray := ⟨#[119, 104, 111, 108, 101]⟩
def kNear : ByteArray := ⟨#[110, 101, 97, 114]⟩
/-- an object, with what a line's words say besides. -/
def wordsF (o : ObjF) (wk : Bool) : List ByteArray → ObjF
  | [k, a] => if k = kNeed then addNeed o a else if k = kWord then addWord o (numF a.data.toList) else o
  | [k, a, b] => if k = kSymbol then addSym o a (numF b.data.toList) wk else if k = kBase then addTie o (numF a.data.toList) 1 (numF b.data.toList) ⟨#[]⟩ wk else o
  | [k, a, b, c] => if k = kWhole then addTie o (numF a.data.toList) 2 (numF b.data.toList) c wk else if k = kNear then addTie o (numF a.data.toList) 3 (numF b.data.toList) c wk else o
  | _ => o
def isWeak (l : ByteArray) : Bool := Lib.hasPrefix l.data.toList [119, 101, 97, 107, 32]
def unWeak (l : ByteArray) : ByteArray := ⟨(Lib.trimPrefix l.data.toList [119, 101, 97, 107, 32]).toArray⟩
def lineF (o : ObjF) (l : ByteArray) : ObjF := wordsF o (isWeak l) (wordsOf (unWeak l))

theorem unWeak_size (l : ByteArray) : (unWeak l).size ≤ l.size := by
  have h : (Lib.trimPrefix l.data.toList [119, 101, 97, 107, 32]).length ≤ l.data.toList.length := by
    unfold Lib.trimPrefix
    split <;> simp
  have e : (unWeak l).size = (Lib.trimPrefix l.data.toList [119, 101, 97, 107, 32]).length := by simp [unWeak, ByteArray.size]
  have e2 : l.data.toList.length = l.size := by simp
  omega

theorem wordsF_counts (o : ObjF) (wk : Bool) (xs : List ByteArray) (n : Nat) (h : o.nN ≤ n ∧ o.nW ≤ n ∧ o.nS ≤ n ∧ o.nT ≤ n) : (wordsF o wk xs).nN ≤ n + 1 ∧ (wordsF o wk xs).nW ≤ n + 1 ∧ (wordsF o wk xs).nS ≤ n + 1 ∧ (wordsF o wk xs).nT ≤ n + 1 := by
  unfold wordsF
  split
  · split
    · simp only [addNeed]; omega
    · split
      · simp only [addWord]; omega
      · omega
  · split
    · simp only [addSym]; omega
    · split
      · simp only [addTie]; omega
      · omega
  · split
    · simp only [addTie]; omega
    · split
      · simp only [addTie]; omega
      · omega
  · omega

theorem len_two {α : Type} {l : List α} (h : l.length = 2) : ∃ a b, l = [a, b] := by
  match l, h with
  | [a, b], _ => exact ⟨a, b, rfl⟩
theorem len_three {α : Type} {l : List α} (h : l.length = 3) : ∃ a b c, l = [a, b, c] := by
  match l, h with
  | [a, b, c], _ => exact ⟨a, b, c, rfl⟩

theorem readLine_any (B bo : Nat) (vN vW vS vT : Value) (o : ObjF) (l : ByteArray) (w : World) (hE : Env w) (hR : Reading B w bo vN vW vS vT o) (hl : l.size ≤ 1000000) (hn : o.nN + 1 ≤ 1000000 ∧ o.nW + 1 ≤ 1000000 ∧ o.nS + 1 ≤ 1000000 ∧ o.nT + 1 ≤ 1000000) :
    Calls Tryd.prog 37 #[.pointer (some ⟨bo, 0, none⟩), .string l] w fun e w' => e = .returned (.tuple #[]) ∧ (∃ v0 v1 v2 v3, Reading B w' bo v0 v1 v2 v3 (lineF o l)) ∧ Kept B bo w w' := by
  have hu := unWeak_size l
  have hsz : ∀ x ∈ wordsOf (unWeak l), x.size ≤ 1000000 := fun x hx => by
    have := splitB_size _ _ _ _ hx
    omega
  unfold lineF
  have hne : wordsOf (unWeak l) ≠ [] := by
    intro h
    have h2 := Lib.splitB_all ⟨#[32]⟩ (by decide) 0 _ (unWeak l) rfl
    unfold wordsOf at h
    rw [h] at h2
    simp at h2
  obtain ⟨k, rest, hws⟩ := List.exists_cons_of_ne_nil hne
  rw [hws] at hsz ⊢
  by_cases h1 : k = kNeed ∧ rest.length = 1
  · obtain ⟨rfl, h1⟩ := h1
    obtain ⟨a, rfl⟩ := List.length_eq_one_iff.1 h1
    exact readLine_need B bo vN vW vS vT o l (isWeak l) (unWeak l) a w hE hR (by omega) rfl rfl hws (hsz a (by simp)) hn.1
  by_cases h2 : k = kWord ∧ rest.length = 1
  · obtain ⟨rfl, h2⟩ := h2
    obtain ⟨a, rfl⟩ := List.length_eq_one_iff.1 h2
    exact readLine_word B bo vN vW vS vT o l (isWeak l) (unWeak l) a w hE hR (by omega) rfl rfl hws (hsz a (by simp)) hn.2.1
  by_cases h3 : k = kSymbol ∧ rest.length = 2
  · obtain ⟨rfl, h3⟩ := h3
    obtain ⟨a, b, rfl⟩ := len_two h3
    exact readLine_symbol B bo vN vW vS vT o l (isWeak l) (unWeak l) a b w hE hR (by omega) rfl rfl hws (hsz a (by simp)) (hsz b (by simp)) hn.2.2.1
  by_cases h4 : k = kBase ∧ rest.length = 2
  · obtain ⟨rfl, h4⟩ := h4
    obtain ⟨a, b, rfl⟩ := len_two h4
    exact readLine_base B bo vN vW vS vT o l (isWeak l) (unWeak l) a b w hE hR (by omega) rfl rfl hws (hsz a (by simp)) (hsz b (by simp)) hn.2.2.2
  by_cases h5 : k = kWhole ∧ rest.length = 3
  · obtain ⟨rfl, h5⟩ := h5
    obtain ⟨a, b, c, rfl⟩ := len_three h5
    exact readLine_whole B bo vN vW vS vT o l (isWeak l) (unWeak l) a b c w hE hR (by omega) rfl rfl hws (hsz a (by simp)) (hsz b (by simp)) (hsz c (by simp)) hn.2.2.2
  by_cases h6 : k = kNear ∧ rest.length = 3
  · obtain ⟨rfl, h6⟩ := h6
    obtain ⟨a, b, c, rfl⟩ := len_three h6
    exact readLine_near B bo vN vW vS vT o l (isWeak l) (unWeak l) a b c w hE hR (by omega) rfl rfl hws (hsz a (by simp)) (hsz b (by simp)) (hsz c (by simp)) hn.2.2.2
  have hF : wordsF o (isWeak l) (k :: rest) = o := by
    match rest with
    | [] => rfl
    | [a] =>
      simp only [wordsF]
      rw [if_neg (fun e => h1 ⟨e, rfl⟩), if_neg (fun e => h2 ⟨e, rfl⟩)]
    | [a, b] =>
      simp only [wordsF]
      rw [if_neg (fun e => h3 ⟨e, rfl⟩), if_neg (fun e => h4 ⟨e, rfl⟩)]
    | [a, b, c] =>
      simp only [wordsF]
      rw [if_neg (fun e => h5 ⟨e, rfl⟩), if_neg (fun e => h6 ⟨e, rfl⟩)]
    | _ :: _ :: _ :: _ :: _ => rfl
  rw [hF]
  exact readLine_other B bo vN vW vS vT o l (isWeak l) (unWeak l) k rest w hE hR (by omega) rfl rfl hws (fun e h => h1 ⟨e, h⟩) (fun e h => h2 ⟨e, h⟩) (fun e h => h3 ⟨e, h⟩) (fun e h => h4 ⟨e, h⟩) (fun e h => h5 ⟨e, h⟩) (fun e h => h6 ⟨e, h⟩)
end Go.Proofs.YtanfejgcjifhpaaDoor
