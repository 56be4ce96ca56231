/- Layer 7: masks of a word of 32 bits, over whole numbers. -/
import Derived.Laws.BitsAllLaws
import Derived.WalkKit
import Derived.RowKit3
namespace Go.Proofs.Ytdiijmjdnnolgaa
open Go

theorem split8 (x m : Nat) : x &&& m = (x / 256 &&& m / 256) * 256 + (x % 256 &&& m % 256) := by
  have h1 := Nat.and_div_two_pow (a := x) (b := m) (n := 8)
  have h2 := Nat.and_mod_two_pow (a := x) (b := m) (n := 8)
  simp only [show (2 : Nat) ^ 8 = 256 from rfl] at h1 h2
  omega

theorem all24 (x : Nat) (h : x < 4294967296) : x / 256 &&& 16777215 = x / 256 := by
  rw [show (16777215 : Nat) = 2 ^ 24 - 1 from rfl]
  exact Nat.and_two_pow_sub_one_of_lt_two_pow (by omega)

theorem low7 : ∀ n < 256, n &&& 7 = n % 8 := by decide +kernel
theorem low1 : ∀ n < 256, n &&& 1 = n % 2 := by decide +kernel
theorem low2 : ∀ n < 256, n &&& 2 = n / 2 % 2 * 2 := by decide +kernel
theorem low4 : ∀ n < 256, n &&& 4 = n / 4 % 2 * 4 := by decide +kernel
theorem low248 : ∀ n < 256, n &&& 248 = n / 8 * 8 := by decide +kernel
theorem low255 : ∀ n < 256, n &&& 255 = n := by decide +kernel

section
variable (a : Int) (h0 : 0 ≤ a) (h1 : a < 4294967296)
include h0 h1

theorem and255 : bits .and .u32 a 255 = a % 256 := by
  rw [u32_and a 255 h0 h1 (by omega) (by omega), split8]
  have := low255 (a.toNat % 256) (by omega)
  simp at this ⊢; omega

theorem and1 : bits .and .u32 a 1 = a % 2 := by
  rw [u32_and a 1 h0 h1 (by omega) (by omega), split8]
  have := low1 (a.toNat % 256) (by omega)
  simp at this ⊢; omega

theorem and2 : bits .and .u32 a 2 = a / 2 % 2 * 2 := by
  rw [u32_and a 2 h0 h1 (by omega) (by omega), split8]
  have := low2 (a.toNat % 256) (by omega)
  simp at this ⊢; omega

theorem and4 : bits .and .u32 a 4 = a / 4 % 2 * 4 := by
  rw [u32_and a 4 h0 h1 (by omega) (by omega), split8]
  have := low4 (a.toNat % 256) (by omega)
  simp at this ⊢; omega

theorem and248 : bits .and .u32 a 248 = a % 256 / 8 * 8 := by
  rw [u32_and a 248 h0 h1 (by omega) (by omega), split8]
  have := low248 (a.toNat % 256) (by omega)
  simp at this ⊢; omega

theorem andHigh : bits .and .u32 a 4294967040 = a / 256 * 256 := by
  rw [u32_and a 4294967040 h0 h1 (by omega) (by omega), split8]
  have := all24 a.toNat (by omega)
  simp at this ⊢; omega

theorem andHigh7 : bits .and .u32 a 4294967047 = a / 256 * 256 + a % 8 := by
  rw [u32_and a 4294967047 h0 h1 (by omega) (by omega), split8]
  have := all24 a.toNat (by omega)
  have := low7 (a.toNat % 256) (by omega)
  simp at *; omega

theorem andNot255 : bits .andNot .u32 a 255 = a / 256 * 256 := by
  rw [u32_andNot a 255 h0 h1 (by omega) (by omega), split8]
  have := all24 a.toNat (by omega)
  simp at this ⊢; omega

theorem andNot248 : bits .andNot .u32 a 248 = a / 256 * 256 + a % 8 := by
  rw [u32_andNot a 248 h0 h1 (by omega) (by omega), split8]
  have := all24 a.toNat (by omega)
  have := low7 (a.toNat % 256) (by omega)
  simp at *; omega

theorem orLow (b : Int) : bits .or .u32 (a / 256 * 256) (b % 256) = a / 256 * 256 + b % 256 := by
  rw [u32_or _ _ (by omega) (by omega) (by omega) (by omega)]
  rw [nat_join 8 (a / 256 * 256).toNat (b % 256).toNat (by simp; omega) (by simp; omega)]
  omega
end

theorem and7 (n : Int) : bits .and .i64 n 7 = n % 8 := by
  have e : (BitVec.ofInt 64 n &&& BitVec.ofInt 64 7).toNat = (n % 18446744073709551616).toNat % 8 := by
    rw [BitVec.toNat_and, BitVec.toNat_ofInt, BitVec.toNat_ofInt]
    have := Nat.and_two_pow_sub_one_eq_mod (n % 18446744073709551616).toNat 3
    exact this
  show IntKind.i64.wrap ((BitVec.ofInt 64 n &&& BitVec.ofInt 64 7).toNat : Int) = n % 8
  rw [e]
  simp [IntKind.wrap, IntKind.bits, IntKind.signed]
  omega

end Go.Proofs.Ytdiijmjdnnolgaa
