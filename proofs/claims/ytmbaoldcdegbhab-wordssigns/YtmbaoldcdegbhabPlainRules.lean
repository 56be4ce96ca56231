/- The plain arithmetic of what follows of words: there and back. Of words alone. -/
import Derived.Test.YtmbaoldcdegbhabPlain
namespace Go.Proofs.Ytmbaoldcdegbhab

theorem back (a b : Int) (a0 : 0 ≤ a) (a1 : a < 4294967296) : ((a + b) % 4294967296 - b) % 4294967296 = a := by omega
theorem word_bd (x : Int) : 0 ≤ x % 4294967296 ∧ x % 4294967296 < 4294967296 := by omega
theorem meanB_cong (s : Bool) (x : Int) : ∃ k, meanB s (x % 4294967296) = x + 4294967296 * k := by
  cases s
  · exact ⟨-(x / 4294967296), by show x % 4294967296 = _; omega⟩
  · show ∃ k, mean (x % 4294967296) = x + 4294967296 * k
    unfold mean
    split
    · exact ⟨-(x / 4294967296) - 1, by omega⟩
    · exact ⟨-(x / 4294967296), by omega⟩
theorem meanB_self (s : Bool) (a : Int) : ∃ k, meanB s a = a + 4294967296 * k := by
  cases s
  · exact ⟨0, by show a = _; omega⟩
  · show ∃ k, mean a = a + 4294967296 * k
    unfold mean
    split
    · exact ⟨-1, by omega⟩
    · exact ⟨0, by omega⟩
/-- quotient times divisor, and what is left, are the dividend -/
theorem quot_back (s : Bool) (a b : Int) (a0 : 0 ≤ a) (a1 : a < 4294967296) :
    (meanB s ((meanB s a).tdiv (meanB s b) % 4294967296) * meanB s b % 4294967296 + (meanB s a).tmod (meanB s b) % 4294967296) % 4294967296 = a := by
  obtain ⟨k, hk⟩ := meanB_cong s ((meanB s a).tdiv (meanB s b))
  obtain ⟨m, hm⟩ := meanB_self s a
  have h := Int.tdiv_mul_add_tmod (meanB s a) (meanB s b)
  rw [hk, Int.add_mul, Int.mul_assoc]
  generalize (meanB s a).tdiv (meanB s b) * meanB s b = p at *
  generalize (meanB s a).tmod (meanB s b) = r at *
  generalize k * meanB s b = t at *
  omega
theorem rest_below (a b : Int) (a0 : 0 ≤ a) (b0 : 0 < b) (b1 : b < 4294967296) : decide (meanB false ((meanB false a).tmod (meanB false b) % 4294967296) < meanB false b) = true := by
  show decide (a.tmod b % 4294967296 < b) = true
  rw [Int.tmod_eq_emod_of_nonneg a0]
  have h1 := Int.emod_nonneg a (show b ≠ 0 by omega)
  have h2 := Int.emod_lt_of_pos a b0
  rw [Int.emod_eq_of_lt h1 (by omega)]
  exact decide_eq_true h2

theorem two_pows (j : Nat) (h : j ≤ 32) : (4294967296 : Int) = 2 ^ j * 2 ^ (32 - j) := by
  rw [← Int.pow_add, show j + (32 - j) = 32 by omega]; rfl
theorem pow_ge (j : Nat) : (1 : Int) ≤ 2 ^ j := by
  have : (0 : Int) < 2 ^ j := Int.pow_pos (by decide)
  omega
theorem up_is (a : Int) (j : Nat) (h : j ≤ 32) : a * 2 ^ j % 4294967296 = 2 ^ j * (a % 2 ^ (32 - j)) := by
  rw [two_pows j h, Int.mul_comm a, Int.mul_emod_mul_of_pos _ _ (by have := pow_ge j; omega)]
theorem up_down (a : Int) (j : Nat) (h : j ≤ 32) : a * 2 ^ j % 4294967296 / 2 ^ j = a % 2 ^ (32 - j) := by
  rw [up_is a j h, Int.mul_ediv_cancel_left _ (by have := pow_ge j; omega)]
theorem shift_back_u (a : Int) (j : Nat) (h : j < 32) (a0 : 0 ≤ a) (a1 : a < 4294967296) : shiftV 1 (shiftV 0 a j) j = extV false a (32 - j) := by
  have e : ((j : Int) % 32).toNat = j := by omega
  have e2 : ((32 : Int) - j).toNat = 32 - j := by omega
  simp only [shiftV, e, extV, e2, if_true, Int.reduceEq, if_false, Bool.false_eq_true, false_and]
  rw [up_down a j (by omega)]
  by_cases hz : j = 0
  · subst hz; rw [if_pos (by omega)]; exact Int.emod_eq_of_lt a0 a1
  · rw [if_neg (by omega)]
theorem shift_back_s (a : Int) (j : Nat) (h : j < 32) (a0 : 0 ≤ a) (a1 : a < 4294967296) : shiftV 2 (shiftV 0 a j) j = extV true a (32 - j) := by
  have e : ((j : Int) % 32).toNat = j := by omega
  have e2 : ((32 : Int) - j).toNat = 32 - j := by omega
  have ep := two_pows j (by omega)
  have eh : (2 : Int) ^ (32 - j) = 2 ^ (32 - j - 1) * 2 := by rw [← Int.pow_succ]; congr 1; omega
  have p1 := pow_ge j
  have p2 := pow_ge (32 - j - 1)
  have l0 : 0 ≤ a % 2 ^ (32 - j) := Int.emod_nonneg _ (by omega)
  have l1 : a % 2 ^ (32 - j) < 2 ^ (32 - j) := Int.emod_lt_of_pos _ (by omega)
  have hx : (if (32 : Int) - j < 1 ∨ 32 ≤ (32 : Int) - j then a else if True ∧ 2 ^ (32 - j - 1) ≤ a % 2 ^ (32 - j) then a % 2 ^ (32 - j) + (4294967296 - 2 ^ (32 - j)) else a % 2 ^ (32 - j)) = if 2 ^ (32 - j - 1) ≤ a % 2 ^ (32 - j) then a % 2 ^ (32 - j) + (4294967296 - 2 ^ (32 - j)) else a % 2 ^ (32 - j) := by
    by_cases hz : j = 0
    · subst hz
      rw [if_pos (by omega)]
      have : a % 2 ^ (32 - 0) = a := Int.emod_eq_of_lt a0 a1
      rw [this]
      split
      · show a = a + (4294967296 - 4294967296); omega
      · rfl
    · rw [if_neg (by omega)]; simp only [true_and]
  simp only [shiftV, e, extV, e2, if_true, Int.reduceEq, if_false]
  rw [hx, up_is a j (by omega)]
  unfold mean
  have hbig : (2147483648 : Int) = 2 ^ j * 2 ^ (32 - j - 1) := by
    rw [← Int.pow_add, show j + (32 - j - 1) = 31 by omega]; rfl
  have hcond : (2147483648 : Int) ≤ 2 ^ j * (a % 2 ^ (32 - j)) ↔ 2 ^ (32 - j - 1) ≤ a % 2 ^ (32 - j) := by
    rw [hbig]
    constructor
    · intro g; exact Int.le_of_mul_le_mul_left g (by omega)
    · intro g; exact Int.mul_le_mul_of_nonneg_left g (by omega)
  by_cases hc : 2 ^ (32 - j - 1) ≤ a % 2 ^ (32 - j)
  · rw [if_pos (hcond.2 hc), if_pos hc]
    have : 2 ^ j * (a % 2 ^ (32 - j)) - 4294967296 = 2 ^ j * (a % 2 ^ (32 - j) - 2 ^ (32 - j)) := by
      rw [Int.mul_sub, ← ep]
    rw [this, Int.mul_ediv_cancel_left _ (by omega)]
    have hle : (2 : Int) ^ (32 - j) ≤ 4294967296 := by
      rw [ep]
      have := Int.mul_le_mul_of_nonneg_right p1 (show (0 : Int) ≤ 2 ^ (32 - j) by omega)
      omega
    omega
  · rw [if_neg (fun g => hc (hcond.1 g)), if_neg hc, Int.mul_ediv_cancel_left _ (by omega)]
    have hle : (2 : Int) ^ (32 - j) ≤ 4294967296 := by
      rw [ep]
      have := Int.mul_le_mul_of_nonneg_right p1 (show (0 : Int) ≤ 2 ^ (32 - j) by omega)
      omega
    exact Int.emod_eq_of_lt l0 (by omega)
theorem shiftV_bd (k a n : Int) (a0 : 0 ≤ a) (a1 : a < 4294967296) : 0 ≤ shiftV k a n ∧ shiftV k a n < 4294967296 := by
  unfold shiftV
  have h1 : a / 2 ^ (n % 32).toNat ≤ a := Int.ediv_le_self _ a0
  have h2 : 0 ≤ a / 2 ^ (n % 32).toNat := Int.ediv_nonneg a0 (Int.pow_nonneg (by decide))
  split
  · omega
  · split
    · omega
    · split <;> omega
theorem extV_bd (s : Bool) (a n : Int) (a0 : 0 ≤ a) (a1 : a < 4294967296) : 0 ≤ extV s a n ∧ extV s a n < 4294967296 := by
  unfold extV
  split
  · exact ⟨a0, a1⟩
  · rename_i h
    have hp := pow_lt n.toNat (by omega)
    have l0 : 0 ≤ a % 2 ^ n.toNat := Int.emod_nonneg _ (by omega)
    have l1 : a % 2 ^ n.toNat < 2 ^ n.toNat := Int.emod_lt_of_pos _ (by omega)
    split <;> omega

end Go.Proofs.Ytmbaoldcdegbhab
