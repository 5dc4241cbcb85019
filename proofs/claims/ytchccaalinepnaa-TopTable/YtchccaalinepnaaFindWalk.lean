/-
  What Find returns, for every table, list and name: what is found along the chain; memory that was there stays as it was.
-/
import Derived.Test.YtchccaalinepnaaTableWalks
namespace Go.Proofs.Ytchccaalinepnaa
open Go.RowKit

/-- what Find finds. -/
def findF (f : Nat → Int) (nf : Nat) (g : Nat → Int) (nn n : Nat) (nm : Nat → ByteArray) (s : ByteArray) : Int :=
  if nf = 0 then -1 else alongF g nn n (fun i => (nm i).toList == s.toList) n (f (hashL s.data.toList % nf))

set_option maxHeartbeats 400000 in
theorem find_zero (af an al : Option Addr) (cf nn cn n cap : Nat) (s : ByteArray) (w : World) :
    Calls Try.prog 15 #[.agg #[.slice af 0 cf, .slice an nn cn], .slice al n cap, .string s] w fun e w' => e = .returned (.int .i64 (-1)) ∧ Below w.heap.size w w' := by
  go_enter Try.func15, Try.ntmps15
  go_wp2
  go_ret
  exact ⟨rfl, (((Below.refl _ _).alloc (Nat.le_refl _) _).alloc (by simp) _).alloc (by simp; omega) _⟩

set_option maxHeartbeats 1000000 in
theorem find_any (f g : Nat → Int) (af an al : Option Addr) (nf cf nn cn n cap : Nat) (nm : Nat → ByteArray) (s : ByteArray) (w : World) (hs : s.size ≤ maxLen)
    (hnf : nf ≤ 1000000) (hnn : nn ≤ 1000000) (hn : n ≤ 1000000)
    (hf : RowAt w af nf fun i => .int .i64 (f i)) (hg : RowAt w an nn fun i => .int .i64 (g i)) (hl : SymsAt w al n nm) :
    Calls Try.prog 15 #[.agg #[.slice af nf cf, .slice an nn cn], .slice al n cap, .string s] w fun e w' => e = .returned (.int .i64 (findF f nf g nn n nm s)) ∧ Below w.heap.size w w' := by
  rcases hf with h0 | ⟨bf, of, rfl, hf⟩
  · subst h0
    exact find_zero af an al cf nn cn n cap s w
  · by_cases h0 : nf = 0
    · subst h0
      exact find_zero _ an al cf nn cn n cap s w
    · have hx : hashL s.data.toList % nf < nf := Nat.mod_lt _ (by omega)
      have HF : Hid (findF f nf g nn n nm s = alongF g nn n (fun i => (nm i).toList == s.toList) n (f (hashL s.data.toList % nf))) := by
        show findF f nf g nn n nm s = _
        unfold findF
        rw [if_neg h0]
      have hb3 : ∀ o1 o2 o3 : Obj, Below w.heap.size w (((w.alloc o1).alloc o2).alloc o3) := fun o1 o2 o3 => (((Below.refl _ _).alloc (Nat.le_refl _) _).alloc (by simp) _).alloc (by simp; omega) _
      have hcf := hf _ hx
      have HB := fun (w : World) => (bucket_any s nf w hs (by omega) hnf).mono (fun e w' (h : _ ∧ _) => (⟨h.1, h.2.symm⟩ : _ ∧ w' = w))
      generalize hashL s.data.toList % nf = x at *
      have hxi : (x : Int) < (nf : Int) := by omega
      have hnz : ((nf : Int) == 0) = false := by rw [beq_eq_false_iff_ne]; omega
      have hcf3 : ∀ o1 o2 o3 : Obj, (((w.alloc o1).alloc o2).alloc o3).cell? ⟨bf, of + x, none⟩ = some (.int .i64 (f x)) := fun o1 o2 o3 => cell_later (hb3 o1 o2 o3) hcf
      clear hf hcf h0
      go_enter Try.func15, Try.ntmps15
      go_wp2
      go_quiet ((go_at_call 18; exact Calls.quiet_of_same (HB _)))
      go_wp2_with fail
      refine (along_any g an nn cn (f x) al n cap (w.heap.size + 1) (w.heap.size + 1 + 1) nm s _ hn hnn ?_ ?_ ?_ ?_).mono ?_
      · exact hg.later (below_drewN (hb3 _ _ _) nq)
      · simp [go_sem]
      · simp [go_sem]
      · exact hl.later (below_drewN (hb3 _ _ _) nq)
      · rintro e w' ⟨rfl, j, rfl⟩
        go_wp2
        go_ret
        exact ⟨ret_int HF.out.symm, below_drewN (hb3 _ _ _) _⟩
end Go.Proofs.Ytchccaalinepnaa
