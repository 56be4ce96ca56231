/- The plain arithmetic of signs, of shifts one behind the other, and of the bits ahead. Of words alone. -/
import Derived.Test.YtmbaoldcdegbhabPlainRules
import Derived.Test.YtmbaoldcdegbhabPlainLead
namespace Go.Proofs.Ytmbaoldcdegbhab

theorem signs (a b : Int) (a0 : 0 ≤ a) (a1 : a < 4294967296) (b0 : 0 ≤ b) (b1 : b < 4294967296) :
    decide (meanB true a < meanB true b) = (decide (meanB true ((a - b) % 4294967296) < meanB true 0) != outB (mean a - mean b)) := by
  show decide (mean a < mean b) = (decide (mean ((a - b) % 4294967296) < 0) != outB (mean a - mean b))
  have hm : mean ((a - b) % 4294967296) = if 2147483648 ≤ (a - b) % 4294967296 then (a - b) % 4294967296 - 4294967296 else (a - b) % 4294967296 := rfl
  have ha : mean a = if 2147483648 ≤ a then a - 4294967296 else a := rfl
  have hb : mean b = if 2147483648 ≤ b then b - 4294967296 else b := rfl
  unfold outB
  by_cases p : mean a < mean b <;> by_cases q : mean ((a - b) % 4294967296) < 0 <;> by_cases r : mean a - mean b < -2147483648 <;> by_cases t : 2147483647 < mean a - mean b
  all_goals simp only [p, q, r, t, decide_true, decide_false, Bool.or_true, Bool.or_false, bne_self_eq_false, Bool.bne_true, Bool.bne_false, Bool.not_false]
  all_goals first | rfl | (exfalso; split at hm <;> split at ha <;> split at hb <;> omega)
theorem ext_twice (a n : Int) : extV true (extV true a n) n = extV true a n ∧ extV false (extV true a n) n = extV false a n := by
  by_cases h : n < 1 ∨ 32 ≤ n
  · have e : ∀ (s : Bool) (y : Int), extV s y n = y := fun s y => by simp only [extV, if_pos h]
    exact ⟨by rw [e, e], by rw [e, e, e]⟩
  · have hp := pow_lt n.toNat (by omega)
    have l0 : 0 ≤ a % 2 ^ n.toNat := Int.emod_nonneg _ (by omega)
    have l1 : a % 2 ^ n.toNat < 2 ^ n.toNat := Int.emod_lt_of_pos _ (by omega)
    have e32 := two_pows n.toNat (by omega)
    have hm : ∀ y : Int, (y + (4294967296 - 2 ^ n.toNat)) % 2 ^ n.toNat = y % 2 ^ n.toNat := by
      intro y
      have : y + ((4294967296 : Int) - 2 ^ n.toNat) = y + 2 ^ n.toNat * (2 ^ (32 - n.toNat) - 1) := by rw [Int.mul_sub, ← e32]; omega
      rw [this, Int.add_mul_emod_self_left]
    have hs : (a % 2 ^ n.toNat) % 2 ^ n.toNat = a % 2 ^ n.toNat := Int.emod_emod_of_dvd _ ⟨1, by omega⟩
    simp only [extV, if_neg h, Bool.false_eq_true, false_and, if_false, true_and]
    by_cases hc : 2 ^ (n.toNat - 1) ≤ a % 2 ^ n.toNat
    · simp only [if_pos hc, hm, hs]; exact ⟨trivial, trivial⟩
    · simp only [if_neg hc, hs]; exact ⟨trivial, trivial⟩

theorem mean_word (x : Int) (h0 : -2147483648 ≤ x) (h1 : x ≤ 2147483647) : mean (x % 4294967296) = x := by
  unfold mean; split <;> omega
theorem shift_on (k a : Int) (x y : Nat) (hx : x < 16) (hy : y < 16) (hk : k = 0 ∨ k = 1 ∨ k = 2) (a0 : 0 ≤ a) (a1 : a < 4294967296) : shiftV k (shiftV k a x) y = shiftV k a (x + y) := by
  have e1 : ((x : Int) % 32).toNat = x := by omega
  have e2 : ((y : Int) % 32).toNat = y := by omega
  have e3 : (((x : Int) + y) % 32).toNat = x + y := by omega
  have px := pow_ge x
  have mm : ∀ z : Int, z % 4294967296 % 4294967296 = z % 4294967296 := fun z => by omega
  rcases hk with rfl | rfl | rfl
  · simp only [shiftV, e1, e2, e3, if_true]
    rw [Int.pow_add, ← Int.mul_assoc, Int.mul_emod, mm, ← Int.mul_emod]
  · simp only [shiftV, e1, e2, e3, if_true, Int.reduceEq, if_false]
    rw [Int.pow_add, Int.ediv_ediv_of_nonneg (by omega)]
  · simp only [shiftV, e1, e2, e3, if_true, Int.reduceEq, if_false]
    have hm := mean_bd a a0 a1
    have hq : -2147483648 ≤ mean a / 2 ^ x ∧ mean a / 2 ^ x ≤ 2147483647 := by
      constructor
      · exact Int.le_ediv_of_mul_le (by omega) (by have := Int.mul_le_mul_of_nonneg_left px (show (0 : Int) ≤ 2147483648 by decide); omega)
      · rcases Int.lt_or_le (mean a) 0 with h | h
        · have := Int.ediv_neg_of_neg_of_pos h (show (0 : Int) < 2 ^ x by omega); omega
        · have := Int.ediv_le_self (2 ^ x) h; omega
    rw [mean_word _ hq.1 hq.2, Int.pow_add, Int.ediv_ediv_of_nonneg (by omega)]
theorem shift_none (k a : Int) (hk : k = 0 ∨ k = 1 ∨ k = 2) (a0 : 0 ≤ a) (a1 : a < 4294967296) : shiftV k a 0 = a ∧ shiftV k a 32 = a := by
  have e1 : ((0 : Int) % 32).toNat = 0 := by decide
  have e2 : ((32 : Int) % 32).toNat = 0 := by decide
  rcases hk with rfl | rfl | rfl
  · simp only [shiftV, e1, e2, if_true, Int.pow_zero, Int.mul_one]; omega
  · simp only [shiftV, e1, e2, if_true, Int.pow_zero, Int.reduceEq, if_false, Int.ediv_one]; exact ⟨trivial, trivial⟩
  · simp only [shiftV, e1, e2, if_true, Int.pow_zero, Int.reduceEq, if_false, Int.ediv_one, mean_mod]; omega

theorem len_spec (x : Nat) (h0 : x ≠ 0) (h1 : x < 4294967296) : 1 ≤ Lib.bitLen x ∧ Lib.bitLen x ≤ 32 ∧ 2 ^ (Lib.bitLen x - 1) ≤ x ∧ x < 2 ^ Lib.bitLen x := by
  have hl := Nat.log2_self_le h0
  have hu : x < 2 ^ (x.log2 + 1) := Nat.lt_log2_self
  have hm : x.log2 < 32 := (Nat.log2_lt h0).2 h1
  have e := bitLen_at x x.log2 hm hl hu
  rw [e]
  exact ⟨by omega, by omega, hl, hu⟩
theorem leads (a : Int) (a0 : 0 < a) (a1 : a < 4294967296) : ∃ n : Nat, leadV false a = n ∧ n < 32 ∧ shiftV 0 a n / 2147483648 = 1 ∧ shiftV 1 a (31 - n) = 1 := by
  obtain ⟨x, rfl⟩ := Int.eq_ofNat_of_zero_le (show 0 ≤ a by omega)
  obtain ⟨l0, l1, l2, l3⟩ := len_spec x (by omega) (by omega)
  refine ⟨32 - Lib.bitLen x, ?_, by omega, ?_, ?_⟩
  · show 32 - (Lib.bitLen (x : Int).toNat : Int) = _
    rw [Int.toNat_natCast]; omega
  · generalize Lib.bitLen x = L at *
    have e : (((32 - L : Nat) : Int) % 32).toNat = 32 - L := by omega
    simp only [shiftV, e, if_true]
    have h2 : 2 ^ (L - 1) * 2 ^ (32 - L) = 2147483648 := by rw [← Nat.pow_add, show L - 1 + (32 - L) = 31 by omega]
    have h3 : 2 ^ L * 2 ^ (32 - L) = 4294967296 := by rw [← Nat.pow_add, show L + (32 - L) = 32 by omega]
    have h4 : 2147483648 ≤ x * 2 ^ (32 - L) := by rw [← h2]; exact Nat.mul_le_mul_right _ l2
    have h5 : x * 2 ^ (32 - L) < 4294967296 := by rw [← h3]; exact Nat.mul_lt_mul_of_pos_right l3 (Nat.two_pow_pos _)
    have h6 : ((x * 2 ^ (32 - L) : Nat) : Int) = (x : Int) * 2 ^ (32 - L) := by simp
    rw [← h6]; omega
  · generalize Lib.bitLen x = L at *
    have e : (((31 : Int) - ((32 - L : Nat) : Int)) % 32).toNat = L - 1 := by omega
    simp only [shiftV, e, if_true, Int.reduceEq, if_false]
    have e2 : (2 : Nat) ^ L = 2 ^ (L - 1) * 2 := by rw [← Nat.pow_succ]; congr 1; omega
    have h4 : 1 ≤ x / 2 ^ (L - 1) := (Nat.le_div_iff_mul_le (Nat.two_pow_pos _)).2 (by omega)
    have h5 : x / 2 ^ (L - 1) < 2 := (Nat.div_lt_iff_lt_mul (Nat.two_pow_pos _)).2 (by omega)
    have h6 : ((x / 2 ^ (L - 1) : Nat) : Int) = (x : Int) / 2 ^ (L - 1) := by simp
    rw [← h6]; omega
theorem lead_nil : leadV false 0 = 32 := by decide
theorem lead_turn (a : Int) : leadV true (4294967295 - a) = leadV false a := by
  show 32 - ((Lib.bitLen (4294967295 - (4294967295 - a)).toNat : Nat) : Int) = 32 - ((Lib.bitLen a.toNat : Nat) : Int)
  rw [show 4294967295 - (4294967295 - a) = a by omega]

end Go.Proofs.Ytmbaoldcdegbhab
