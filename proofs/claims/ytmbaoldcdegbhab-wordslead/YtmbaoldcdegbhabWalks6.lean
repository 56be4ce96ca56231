/- Contracts of the document's shifts and extensions, and of the leading bits of both. -/
import Derived.Test.YtmbaoldcdegbhabWalks5
import Derived.Test.YtmbaoldcdegbhabPlainLead
namespace Go.Proofs.Ytmbaoldcdegbhab
open Go.RowKit
set_option linter.unusedVariables false

theorem modmod (x : Int) : x % 4294967296 % 4294967296 = x % 4294967296 := by omega
theorem pow_succ2 (j : Nat) : (2 : Int) ^ j * 2 = 2 ^ (j + 1) := (Int.pow_succ 2 j).symm

theorem shl_rem (a : Int) (j : Nat) (h : j < 32) (a0 : 0 ≤ a) : a % (4294967296 / 2 ^ j) * 2 ^ j = a * 2 ^ j % 4294967296 ∧ 1 ≤ (4294967296 : Int) / 2 ^ j ∧ 0 ≤ a % (4294967296 / 2 ^ j) * 2 ^ j ∧ a % (4294967296 / 2 ^ j) * 2 ^ j < 4294967296 := by
  have e : (4294967296 : Int) = 2 ^ (32 - j) * 2 ^ j := by
    rw [← Int.pow_add, Nat.sub_add_cancel (by omega)]; rfl
  have hp := pow_lt j h
  have hq : (1 : Int) ≤ 2 ^ (32 - j) := by have : (0 : Int) < 2 ^ (32 - j) := Int.pow_pos (by decide); omega
  have hd : (4294967296 : Int) / 2 ^ j = 2 ^ (32 - j) := Int.ediv_eq_of_eq_mul_left (by omega) e
  rw [hd]
  have h1 : a % 2 ^ (32 - j) * 2 ^ j = a * 2 ^ j % 4294967296 := by
    rw [e, Int.mul_comm _ (2 ^ j), Int.mul_comm a, Int.mul_comm (2 ^ (32 - j)), Int.mul_emod_mul_of_pos _ _ (by omega)]
  refine ⟨h1, hq, ?_, ?_⟩
  · rw [h1]; omega
  · rw [h1]; omega

theorem shiftV_of (k a n : Int) (j : Nat) (h : (n % 32).toNat = j) : shiftV k a n = if k = 0 then a * 2 ^ j % 4294967296 else if k = 1 then a / 2 ^ j else if k = 2 then mean a / 2 ^ j % 4294967296 else a := by
  subst h; rfl
theorem shiftV_0 (k a n : Int) (j : Nat) (h : (n % 32).toNat = j) (hk : (k == 0) = true) : shiftV k a n = a * 2 ^ j % 4294967296 := by
  rw [shiftV_of k a n j h, if_pos (eq_of_beq hk)]
theorem shiftV_1 (k a n : Int) (j : Nat) (h : (n % 32).toNat = j) (hk : (k == 1) = true) : shiftV k a n = a / 2 ^ j := by
  have := eq_of_beq hk
  rw [shiftV_of k a n j h, if_neg (by omega), if_pos this]
theorem shiftV_2 (k a n : Int) (j : Nat) (h : (n % 32).toNat = j) (hk : (k == 2) = true) : shiftV k a n = mean a / 2 ^ j % 4294967296 := by
  have := eq_of_beq hk
  rw [shiftV_of k a n j h, if_neg (by omega), if_neg (by omega), if_pos this]
theorem shiftV_3 (k a n : Int) (h0 : (k == 0) = false) (h1 : (k == 1) = false) (h2 : (k == 2) = false) : shiftV k a n = a := by
  simp only [beq_eq_false_iff_ne, ne_eq] at h0 h1 h2
  rw [shiftV, if_neg h0, if_neg h1, if_neg h2]
theorem shr_small (a : Int) (j : Nat) (a0 : 0 ≤ a) (a1 : a < 4294967296) : a / 2 ^ j % 4294967296 = a / 2 ^ j := by
  have h1 : a / 2 ^ j ≤ a := Int.ediv_le_self _ a0
  have h2 : 0 ≤ a / 2 ^ j := Int.ediv_nonneg a0 (Int.pow_nonneg (by decide))
  exact Int.emod_eq_of_lt h2 (by omega)

theorem extV_yes (a : Int) (j : Nat) (s : Bool) (k0 : 1 ≤ j) (k1 : j < 32) (l0 : 0 ≤ a % 2 ^ j) (l1 : a % 2 ^ j < 2 ^ j) (hp : (2 : Int) ^ j ≤ 2147483648 ∧ (1 : Int) ≤ 2 ^ j) (hs : s = true) (h : (2 : Int) ^ j / 2 ≤ a % 2 ^ j) : (a % 2 ^ j - 2 ^ j) % 4294967296 = extV s a j := by
  have hn : ¬ ((j : Int) < 1 ∨ 32 ≤ (j : Int)) := by omega
  have e := pow_succ2 (j - 1)
  rw [Nat.sub_add_cancel k0] at e
  rw [extV, if_neg hn, Int.toNat_natCast, if_pos ⟨hs, by omega⟩]
  omega
theorem extV_no (a : Int) (j : Nat) (s : Bool) (k0 : 1 ≤ j) (k1 : j < 32) (l0 : 0 ≤ a % 2 ^ j) (l1 : a % 2 ^ j < 2 ^ j) (hp : (2 : Int) ^ j ≤ 2147483648 ∧ (1 : Int) ≤ 2 ^ j) (h : ¬ (s = true ∧ (2 : Int) ^ j / 2 ≤ a % 2 ^ j)) : a % 2 ^ j % 4294967296 = extV s a j := by
  have hn : ¬ ((j : Int) < 1 ∨ 32 ≤ (j : Int)) := by omega
  have e := pow_succ2 (j - 1)
  rw [Nat.sub_add_cancel k0] at e
  rw [extV, if_neg hn, Int.toNat_natCast, if_neg (fun g => h ⟨g.1, by omega⟩)]
  exact Int.emod_eq_of_lt l0 (by omega)

end Go.Proofs.Ytmbaoldcdegbhab
