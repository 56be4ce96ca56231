/- Masks of low bits of an int, and an int shifted right by eight bits. -/
import Derived.Laws.BitsAllLaws
import Derived.WalkKit
import Derived.RowKit3
namespace Go.Proofs.Ytlnobnkgllemjaa
open Go

theorem i64_mask (n m : Int) (k : Nat) (hm : (BitVec.ofInt 64 m).toNat = 2 ^ k - 1) (hk : (2 : Nat) ^ k ≤ 4611686018427387904) : bits .and .i64 n m = (((n % 18446744073709551616).toNat % 2 ^ k : Nat) : Int) := by
  have key : (BitVec.ofInt 64 n &&& BitVec.ofInt 64 m).toNat = (n % ((2 ^ 64 : Nat) : Int)).toNat % 2 ^ k := by
    rw [BitVec.toNat_and, BitVec.toNat_ofInt, hm, Nat.and_two_pow_sub_one_eq_mod]
  have key' : (BitVec.ofInt 64 n &&& BitVec.ofInt 64 m).toNat = (n % 18446744073709551616).toNat % 2 ^ k := key
  show IntKind.i64.wrap ((BitVec.ofInt 64 n &&& BitVec.ofInt 64 m).toNat : Nat) = _
  have hp : 0 < 2 ^ k := Nat.two_pow_pos k
  have hl := Nat.mod_lt (n % 18446744073709551616).toNat hp
  rw [key', IntKind.wrap_i64]
  generalize (n % 18446744073709551616).toNat % 2 ^ k = r at *
  generalize (2 : Nat) ^ k = t at *
  omega

theorem mask31 (n : Int) : 0 ≤ bits .and .i64 n 31 ∧ bits .and .i64 n 31 ≤ 31 := by
  rw [i64_mask n 31 5 (by decide) (by decide)]; omega

theorem mask255 (n : Int) : 0 ≤ bits .and .i64 n 255 ∧ bits .and .i64 n 255 ≤ 255 := by
  rw [i64_mask n 255 8 (by decide) (by decide)]; omega

theorem mask511 (n : Int) : 0 ≤ bits .and .i64 n 511 ∧ bits .and .i64 n 511 ≤ 511 := by
  rw [i64_mask n 511 9 (by decide) (by decide)]; omega

theorem mask24 (n : Int) : 0 ≤ bits .and .i64 n 16777215 ∧ bits .and .i64 n 16777215 ≤ 16777215 := by
  rw [i64_mask n 16777215 24 (by decide) (by decide)]; omega

/-- A mask twice is a mask once. -/
theorem mask24_id (n : Int) : bits .and .i64 (bits .and .i64 n 16777215) 16777215 = bits .and .i64 n 16777215 := by
  rw [i64_mask n 16777215 24 (by decide) (by decide), i64_mask _ 16777215 24 (by decide) (by decide)]; omega

end Go.Proofs.Ytlnobnkgllemjaa
