/-
  Plain arithmetic of a name's hash, with nothing of the program: one step, the hash of a list of bytes, and what each stands for in the two Go texts.
-/
import Derived.Laws.BitsAllLaws
namespace Go.Proofs.Ytchccaalinepnaa
def hstep (h c : Nat) : Nat := ((16 * h + c) % 4294967296 % 268435456) ^^^ (16 * ((16 * h + c) % 4294967296 / 268435456))
theorem hstep_lt (h c : Nat) : hstep h c < 268435456 := by
  unfold hstep
  exact Nat.xor_lt_two_pow (n := 28) (by omega) (by omega)
theorem hstep_code (x c : Nat) :
    bits .and .u32 (bits .xor .u32 (((x : Int) * 16 + (c : Int)) % 4294967296) (((x : Int) * 16 + (c : Int)) % 4294967296 / 268435456 * 16)) 268435455 = ((hstep x c : Nat) : Int) := by
  have e1 : ((x : Int) * 16 + (c : Int)) % 4294967296 = (((16 * x + c) % 4294967296 : Nat) : Int) := by omega
  rw [e1]
  have hy : (16 * x + c) % 4294967296 < 4294967296 := by omega
  unfold hstep
  generalize (16 * x + c) % 4294967296 = y at *
  have e2 : (y : Int) / 268435456 * 16 = ((16 * (y / 268435456) : Nat) : Int) := by omega
  rw [e2, u32_xor_nat _ _ hy (by omega)]
  have hz : y ^^^ (16 * (y / 268435456)) < 2 ^ 32 := Nat.xor_lt_two_pow (by omega) (by omega)
  have e3 : (268435455 : Int) = ((268435455 : Nat) : Int) := by decide
  rw [e3, u32_and_nat _ _ (by omega) (by omega)]
  have e4 := Nat.and_two_pow_sub_one_eq_mod (y ^^^ (16 * (y / 268435456))) 28
  have e5 : (2 ^ 28 - 1 : Nat) = 268435455 := by decide
  rw [e5] at e4
  rw [e4, Nat.xor_mod_two_pow]
  have e6 : (2 ^ 28 : Nat) = 268435456 := by decide
  rw [e6, Nat.mod_eq_of_lt (a := 16 * (y / 268435456)) (by omega)]
theorem xor_i64 (a b : Nat) (ha : a < 9223372036854775808) (hb : b < 9223372036854775808) : bits .xor .i64 (a : Int) (b : Int) = ((a ^^^ b : Nat) : Int) := by
  have hx : a ^^^ b < 2 ^ 63 := Nat.xor_lt_two_pow (by omega) (by omega)
  have h1 : (BitVec.ofInt 64 (a : Int)).toNat = a := by
    rw [BitVec.ofInt_natCast, BitVec.toNat_ofNat]; exact Nat.mod_eq_of_lt (by omega)
  have h2 : (BitVec.ofInt 64 (b : Int)).toNat = b := by
    rw [BitVec.ofInt_natCast, BitVec.toNat_ofNat]; exact Nat.mod_eq_of_lt (by omega)
  show IntKind.i64.wrap ((BitVec.ofInt 64 (a : Int) ^^^ BitVec.ofInt 64 (b : Int)).toNat : Int) = _
  rw [BitVec.toNat_xor, h1, h2]
  simp [IntKind.wrap, IntKind.bits, IntKind.signed]
  omega
theorem hstep_ref (x c : Nat) :
    bits .xor .i64 ((16 * (x : Int) + (c : Int)) % 268435456) (16 * ((16 * (x : Int) + (c : Int)) % 4294967296 / 268435456)) = ((hstep x c : Nat) : Int) := by
  have e1 : (16 * (x : Int) + (c : Int)) % 4294967296 = (((16 * x + c) % 4294967296 : Nat) : Int) := by omega
  have e0 : (16 * (x : Int) + (c : Int)) % 268435456 = (((16 * x + c) % 4294967296 : Nat) : Int) % 268435456 := by omega
  rw [e0, e1]
  unfold hstep
  have hy : (16 * x + c) % 4294967296 < 4294967296 := by omega
  generalize (16 * x + c) % 4294967296 = y at *
  have e2 : (y : Int) % 268435456 = ((y % 268435456 : Nat) : Int) := by omega
  have e3 : 16 * ((y : Int) / 268435456) = ((16 * (y / 268435456) : Nat) : Int) := by omega
  rw [e2, e3]
  exact xor_i64 _ _ (by omega) (by omega)
def hashL (l : List UInt8) : Nat := l.foldl (fun h c => hstep h c.toNat) 0
theorem hashL_snoc (l : List UInt8) (c : UInt8) : hashL (l ++ [c]) = hstep (hashL l) c.toNat := by
  simp [hashL, List.foldl_append]
theorem hashL_lt (l : List UInt8) : hashL l < 268435456 := by
  rcases List.eq_nil_or_concat l with rfl | ⟨l', c, rfl⟩
  · decide
  · rw [List.concat_eq_append, hashL_snoc]; exact hstep_lt _ _
theorem hstep_small (h c : Nat) (hh : h < 16777200) (hc : c < 256) : hstep h c = 16 * h + c := by
  unfold hstep
  have e : (16 * h + c) % 4294967296 / 268435456 = 0 := by omega
  rw [e]
  simp
  omega
theorem take_snoc (s : ByteArray) (k : Nat) (h : k < s.size) : s.data.toList.take (k + 1) = s.data.toList.take k ++ [s[k]] := by
  rw [List.take_succ_eq_append_getElem (by simpa using h)]; rfl
end Go.Proofs.Ytchccaalinepnaa
