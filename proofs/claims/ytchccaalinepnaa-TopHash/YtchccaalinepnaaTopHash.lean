/-
  A hash has 28 bits, and a letter more shifts it by four bits: the law TopHash returns true at every input, and changes nothing.
-/
import Derived.Test.YtchccaalinepnaaRows
import Derived.Test.YtchccaalinepnaaHashConsts
import Derived.WalkKit
import Derived.ProofKit
import Derived.OpenShut
import Derived.ShutString
import Derived.Laws.BytesString
import Derived.Maps.AppendAt
namespace Go.Proofs.Ytchccaalinepnaa.topHash
open Go.ChangeShapes Go.WideShapes Go.ChangeAt Go.RowKit
open Go.ChangeMaps (open_string shut_string)
set_option linter.unusedVariables false

theorem own : ownKnob Try.prog.godebug = none := by kernel_rfl

theorem byte_string (w : World) (n : Int) :
    (convert 41 9 (.slice (some ⟨w.heap.size, 0, none⟩) 1 1)).run Try.prog (w.alloc (.cells #[.int .u8 n] 5)) = .ok (.string ⟨#[UInt8.ofNat n.toNat]⟩) (w.alloc (.cells #[.int .u8 n] 5)) := by
  rw [run_convert_bytes_string _ _ _ 5 _ _ _ Try.underlying41 Try.underlying5 Try.underlying9]
  refine (run_bytesToString _ _ 1 1 [n] (run_loadCells_list (w := w.alloc (.cells #[.int .u8 n] 5)) (P := Try.prog) _ [.int .u8 n] (cell_one_new w (.int .u8 n) 5))).trans ?_
  rfl

theorem hash_more (s : ByteArray) (c : UInt8) (w : World) (hs : s.size ≤ 100) :
    Calls Try.prog 11 #[.string (s ++ ByteArray.mk #[c])] w fun e w' => e = .returned (.int .u32 ((hstep (hashL s.data.toList) c.toNat : Nat) : Int)) ∧ w = w' := by
  refine (hash_any (s ++ ByteArray.mk #[c]) w ?_).mono ?_
  · rw [ByteArray.size_append]
    have : (ByteArray.mk #[c]).size = 1 := rfl
    unfold maxLen
    omega
  · rintro e w' ⟨rfl, rfl⟩
    refine ⟨ret_int ?_, rfl⟩
    have e : (s ++ ByteArray.mk #[c]).data.toList = s.data.toList ++ [c] := by simp
    rw [e, hashL_snoc]

set_option maxRecDepth 100000 in
theorem walk (a0 : ByteArray) (a1 : Int) (w0 : a0.size ≤ maxLen) (w1 : (Lit.int .u8 a1).wf = true) (w : World) :
    Calls Try.prog 5 #[.string a0, .int .u8 a1] w fun e w' => e = .returned (.bool true) ∧ Grown w w' := by
  have hs := w0
  have hcv := byte_string
  unfold maxLen at hs
  have hw1 : 0 ≤ a1 ∧ a1 ≤ 255 := by simpa [Lit.wf, IntKind.min, IntKind.max, IntKind.signed, IntKind.bits] using w1
  by_cases hz : (100 : Int) < a0.size
  · go_enter Try.func5, Try.ntmps5
    go_wp2_with fail
    refine (hash_empty _).mono ?_
    rintro e w' ⟨rfl, rfl⟩
    go_wp2_with fail
    refine (hash_a _).mono ?_
    rintro e w' ⟨rfl, rfl⟩
    go_wp2
    go_ret
    exact ⟨rfl, Grown.refl _⟩
  · go_enter Try.func5, Try.ntmps5
    go_wp2_with fail
    refine (hash_empty _).mono ?_
    rintro e w' ⟨rfl, rfl⟩
    go_wp2_with fail
    refine (hash_a _).mono ?_
    rintro e w' ⟨rfl, rfl⟩
    go_wp2_with fail
    refine (hash_any _ _ w0).mono ?_
    rintro e w' ⟨rfl, rfl⟩
    go_wp2_with fail
    refine (hash_more _ _ _ (by omega)).mono ?_
    rintro e w' ⟨rfl, rfl⟩
    have hx := hashL_lt a0.data.toList
    have hn : (UInt8.ofNat a1.toNat).toNat = a1.toNat := by
      rw [UInt8.toNat_ofNat']
      omega
    rw [hn]
    clear hn hcv
    have hg := hstep_lt (hashL a0.data.toList) a1.toNat
    by_cases hh : hashL a0.data.toList < 16777200
    · have HE : Hid (hstep (hashL a0.data.toList) a1.toNat = 16 * hashL a0.data.toList + a1.toNat) := hstep_small _ _ hh (by omega)
      generalize hstep (hashL a0.data.toList) a1.toNat = g at *
      generalize hashL a0.data.toList = x at *
      have d1 : decide ((x : Int) < 268435456) = true := by simp; omega
      have d2 : decide ((g : Int) < 268435456) = true := by simp; omega
      have d3 : decide ((16777200 : Int) ≤ x) = false := by simp; omega
      have hq : ((g : Int) == 16 * (x : Int) + a1) = true := by
        have := HE.out
        rw [beq_iff_eq]
        omega
      have hu : (x : Int) < 16777200 := by omega
      clear hx hg hh w1 hs
      go_wp2
      go_ret
      exact ⟨rfl, by repeat (first | exact Grown.refl _ | apply Grown.drew | apply Grown.alloc)⟩
    · generalize hstep (hashL a0.data.toList) a1.toNat = g at *
      generalize hashL a0.data.toList = x at *
      have d1 : decide ((x : Int) < 268435456) = true := by simp; omega
      have d2 : decide ((g : Int) < 268435456) = true := by simp; omega
      have d3 : decide ((16777200 : Int) ≤ x) = true := by simp; omega
      clear hx hg hh w1 hs
      go_wp2
      go_ret
      exact ⟨rfl, by repeat (first | exact Grown.refl _ | apply Grown.drew | apply Grown.alloc)⟩

set_option maxRecDepth 100000 in
theorem lifted (os : Os) (started : os.Started) (H : Type) (enc : TypeId × Value → H) :
    ReturnsInHanded {} Try.checked os 5 .any (Rows.topHashSpec.pre6 enc Try.prog Try.f5 Rows.topHashRow.domain false) (Rows.topHashSpec.post enc Try.prog Try.f5 false true false false) := by
  refine returnsInHanded_of_change (C := Try.checked) own started (by kernel_rfl) Try.func5
    (ChangeSpec.witness6 (enc := enc) (C := Try.checked) false ⟨#[], #[.string ByteArray.empty, .int .u8 0], []⟩ 8 (by kernel_rfl) (by kernel_rfl) (by kernel_rfl) (by kernel_rfl)) ?_
  intro W base args ds gs before hval0 hW hcnd _
  have hval : ∀ (j : Nat) t v, Try.f5.params[j]? = some t → args[j]? = some v → Value.okWide Try.prog W .any base t v := hval0
  have hW' := hW
  obtain ⟨p, q, hA0, hV, rfl, hfz, hnd⟩ := hW
  have hA : DataW.TrodAll enc Try.prog W 0 (fun _ => true) true Try.f5.params.toList args.toList ds p := hA0
  rw [Try.params5] at hA hval
  obtain ⟨v0, vs0, d0, ds0, p0, q0, hargs, rfl, rfl, h0, r0⟩ := trodAll_cons hA
  obtain ⟨v1, vs1, d1, ds1, p1, q1, rfl, rfl, rfl, h1, r1⟩ := trodAll_cons r0
  obtain ⟨rfl, rfl, rfl⟩ := trodAll_nil r1
  obtain rfl : args = #[v0, v1] := by cases args; simp_all
  obtain ⟨rfl, rfl⟩ := trodVars_none hV
  obtain ⟨a0, rfl, rfl, rfl, w0⟩ := open_string Try.underlying9 (hval 0 9 v0 rfl rfl) h0
  obtain ⟨a1, rfl, rfl, rfl, w1⟩ := open_int Try.underlying5 (hval 1 5 v1 rfl rfl) h1
  clear hA0 hval0
  simp only [List.append_nil] at hW'
  refine (walk a0 a1 w0 w1 W).mono fun e W' ⟨he, hg⟩ => ?_
  subst he
  exact ⟨_, rfl, post_of_same (pa := []) (pv := []) hW' (fun _ _ _ => (trodAll_cons_mk (shut_bool Try.underlying4 _) trodAll_mk0)) (fun sp _ => (trodAll_cons_mk (shut_string Try.underlying9 w0) (trodAll_cons_mk (shut_int Try.underlying5 w1) trodAll_mk0))) (fun _ _ => rfl) rfl
    (hg.frame _) hg.2.1 (ok_one (by kernel_rfl) rfl (okWide_bool_mk Try.underlying4 _))⟩

theorem over : Rows.topHashRow.holds Try.pinned (OpenSpec.ofChange Rows.topHashSpec) :=
  OpenClaim.holds_of_wide 5 Try.f5 rfl rfl rfl rfl rfl rfl rfl ⟨rfl, rfl, rfl, rfl, rfl⟩ rfl rfl rfl rfl rfl (by kernel_rfl) Try.func5 (by kernel_rfl)
    (of_decide_eq_true (by kernel_rfl)) (by unfold Func.isWrapper; first | (rw [if_pos (by decide +kernel)]; kernel_rfl) | (rw [if_neg (by decide +kernel)]; exact ⟨rfl, rfl⟩))
    (fun os started H enc _ => lifted os started H enc)

theorem proved : Rows.TopHashSaid := over
end Go.Proofs.Ytchccaalinepnaa.topHash

namespace Go.Proofs.Ytchccaalinepnaa
theorem topHash_holds : Rows.TopHashSaid := topHash.proved
end Go.Proofs.Ytchccaalinepnaa
