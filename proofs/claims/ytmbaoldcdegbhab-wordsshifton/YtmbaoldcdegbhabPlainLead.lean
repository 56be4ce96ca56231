/- The plain arithmetic of the bits ahead of a word: how many are alike, halved and halved again. No condition but that the number is a word. -/
import Derived.Test.YtmbaoldcdegbhabPlain
import Derived.Lib.BitFns
namespace Go.Proofs.Ytmbaoldcdegbhab

theorem half_pow (j : Nat) : (2147483648 : Int) / 2 ^ j / 2 = 2147483648 / 2 ^ (j + 1) := by
  rw [Int.pow_succ, Int.ediv_ediv_of_nonneg (Int.pow_nonneg (by decide))]
theorem q_pow (j : Nat) (h : j < 32) : (2147483648 : Int) / 2 ^ j = 2 ^ (31 - j) := by
  have e : (2147483648 : Int) = 2 ^ (31 - j) * 2 ^ j := by
    rw [← Int.pow_add, Nat.sub_add_cancel (by omega)]; rfl
  exact Int.ediv_eq_of_eq_mul_left (by have : (0 : Int) < 2 ^ j := Int.pow_pos (by decide); omega) e
def leadV (one : Bool) (a : Int) : Int := 32 - (Lib.bitLen (if one then 4294967295 - a else a).toNat : Nat)
theorem bitLen_at (x m : Nat) (h : m < 32) (h1 : 2 ^ m ≤ x) (h2 : x < 2 ^ (m + 1)) : Lib.bitLen x = m + 1 := by
  have h3 : (2 : Nat) ^ (m + 1) ≤ 2 ^ 64 := Nat.pow_le_pow_right (by decide) (by omega)
  rw [Lib.bitLen_shift m x h1 (by omega)]
  have h4 : 1 ≤ x / 2 ^ m := (Nat.le_div_iff_mul_le (Nat.two_pow_pos m)).2 (by omega)
  have h5 : x / 2 ^ m < 2 := (Nat.div_lt_iff_lt_mul (Nat.two_pow_pos m)).2 (by rw [Nat.pow_succ] at h2; omega)
  have h6 : x / 2 ^ m = 1 := by omega
  rw [h6]; rfl
theorem lead_at (one : Bool) (a : Int) (j : Nat) (hj : j < 32) (x0 : 0 ≤ (if one then 4294967295 - a else a)) (h1 : 2 ^ (31 - j) ≤ (if one then 4294967295 - a else a))
    (h2 : (if one then 4294967295 - a else a) < 2 ^ (32 - j)) : leadV one a = j := by
  unfold leadV
  obtain ⟨x, hx⟩ := Int.eq_ofNat_of_zero_le x0
  rw [hx] at h1 h2 ⊢
  have e1 : ((2 ^ (31 - j) : Nat) : Int) = (2 : Int) ^ (31 - j) := by simp
  have e2 : ((2 ^ (32 - j) : Nat) : Int) = (2 : Int) ^ (32 - j) := by simp
  rw [← e1] at h1; rw [← e2] at h2
  have e3 : 32 - j = 31 - j + 1 := by omega
  rw [Int.toNat_natCast, bitLen_at x (31 - j) (by omega) (by omega) (by rw [← e3]; omega)]
  omega
theorem lead_end (one : Bool) (a : Int) (x0 : (if one then 4294967295 - a else a) = 0) : leadV one a = 32 := by
  unfold leadV; rw [x0]; rfl
theorem bit_no (a q : Int) (hq : 0 < q) (a0 : 0 ≤ a) (h : a < 2 * q) : (a / q % 2 == 1) = decide (q ≤ a) := by
  have h2 : a / q < 2 := Int.ediv_lt_of_lt_mul hq (by omega)
  have h1 : 0 ≤ a / q := Int.ediv_nonneg a0 (by omega)
  have h3 := Int.ediv_mul_add_emod a q
  have h4 := Int.emod_nonneg a (show q ≠ 0 by omega)
  have h5 := Int.emod_lt_of_pos a hq
  rw [Bool.eq_iff_iff]; simp
  have : a / q = 0 ∨ a / q = 1 := by omega
  rcases this with h | h <;> rw [h] at h3 ⊢ <;> omega
theorem bit_yes (a q t : Int) (hq : 0 < q) (ht : t * 2 * q = 4294967296) (x0 : 0 ≤ 4294967295 - a) (h : 4294967295 - a < 2 * q) : (a / q % 2 == 1) = !decide (q ≤ 4294967295 - a) := by
  have e : a = (a - 4294967296 + 2 * q) + (t - 1) * 2 * q := by rw [Int.sub_mul, Int.sub_mul]; omega
  have e2 : a / q = (a - 4294967296 + 2 * q) / q + (t - 1) * 2 := by
    have := Int.add_mul_ediv_right (a - 4294967296 + 2 * q) ((t - 1) * 2) (show q ≠ 0 by omega)
    rw [← this, ← e]
  have e3 : a / q % 2 = (a - 4294967296 + 2 * q) / q % 2 := by rw [e2]; omega
  rw [e3, bit_no _ q hq (by omega) (by omega), Bool.eq_iff_iff]; simp; omega
theorem t_pow (j : Nat) (h : j < 32) : (2 : Int) ^ j * 2 * (2147483648 / 2 ^ j) = 4294967296 := by
  rw [q_pow j h]
  have : (2 : Int) ^ j * 2 * 2 ^ (31 - j) = 2 ^ (j + 1 + (31 - j)) := by rw [Int.pow_add, Int.pow_succ]
  rw [this]
  have : j + 1 + (31 - j) = 32 := by omega
  rw [this]; rfl

end Go.Proofs.Ytmbaoldcdegbhab
