/- The plain arithmetic of words of 32 bits, over whole numbers: what a word means with a sign, and whether a number leaves those with a sign. No condition. -/
import GoSem.Claim
import Derived.Laws.BitsAllLaws
import Derived.WalkKit
namespace Go.Proofs.Ytmbaoldcdegbhab

/-- what a word means with a sign -/
def mean (a : Int) : Int := if 2147483648 ≤ a then a - 4294967296 else a
/-- what a word means, with a sign or without -/
def meanB (s : Bool) (a : Int) : Int := if s then mean a else a
/-- does a number leave those with a sign? -/
def outB (n : Int) : Bool := decide (n < -2147483648) || decide (2147483647 < n)

theorem mean_bd (a : Int) (h0 : 0 ≤ a) (h1 : a < 4294967296) : -2147483648 ≤ mean a ∧ mean a ≤ 2147483647 := by
  unfold mean; split <;> omega
theorem meanB_bd (s : Bool) (a : Int) (h0 : 0 ≤ a) (h1 : a < 4294967296) : -2147483648 ≤ meanB s a ∧ meanB s a < 4294967296 := by
  have := mean_bd a h0 h1
  unfold meanB; split <;> omega
theorem meanB_ne (s : Bool) (a : Int) (h0 : 0 < a) (h1 : a < 4294967296) : meanB s a ≠ 0 := by
  unfold meanB mean; split <;> (try split) <;> omega
theorem mean_mod (a : Int) : mean a % 4294967296 = a % 4294967296 := by
  unfold mean; split <;> omega

theorem mul_lo (x y : Int) : IntKind.u64.wrap (IntKind.u64.wrap x * IntKind.u64.wrap y) % 4294967296 = x * y % 4294967296 := by
  simp only [IntKind.wrap_u64, ← Int.mul_emod]; omega
theorem mul_hi (x y : Int) : IntKind.u64.wrap (IntKind.u64.wrap x * IntKind.u64.wrap y) / 4294967296 % 4294967296 = x * y / 4294967296 % 4294967296 := by
  simp only [IntKind.wrap_u64, ← Int.mul_emod]; omega

theorem wrap64_nn (n : Int) : RowKit.wrap64 (-RowKit.wrap64 (-n)) % 4294967296 = n % 4294967296 := by
  unfold RowKit.wrap64; omega
theorem wrap64_mod (n : Int) : RowKit.wrap64 n % 4294967296 = n % 4294967296 := by
  unfold RowKit.wrap64; omega

/-- a word shifted: to the left, to the right, to the right with its sign; of another kind the word itself -/
def shiftV (k a n : Int) : Int :=
  if k = 0 then a * 2 ^ (n % 32).toNat % 4294967296 else if k = 1 then a / 2 ^ (n % 32).toNat else if k = 2 then mean a / 2 ^ (n % 32).toNat % 4294967296 else a
/-- the low bits of a word, extended -/
def extV (s : Bool) (a n : Int) : Int :=
  if n < 1 ∨ 32 ≤ n then a else if s = true ∧ 2 ^ (n.toNat - 1) ≤ a % 2 ^ n.toNat then a % 2 ^ n.toNat + (4294967296 - 2 ^ n.toNat) else a % 2 ^ n.toNat
theorem and31 (n : Int) : bits .and .i64 n 31 = n % 32 := by
  have e : (BitVec.ofInt 64 n &&& BitVec.ofInt 64 31).toNat = (n % 18446744073709551616).toNat % 32 := by
    rw [BitVec.toNat_and, BitVec.toNat_ofInt, BitVec.toNat_ofInt]
    exact nat_mask5 _
  show IntKind.i64.wrap ((BitVec.ofInt 64 n &&& BitVec.ofInt 64 31).toNat : Int) = n % 32
  rw [e]
  simp [IntKind.wrap, IntKind.bits, IntKind.signed]
  omega
theorem pow_lt (k : Nat) (h : k < 32) : (2 : Int) ^ k ≤ 2147483648 ∧ (1 : Int) ≤ 2 ^ k := by
  have h1 : 2 ^ k ≤ 2 ^ 31 := Nat.pow_le_pow_right (by decide) (by omega)
  have h2 : 0 < 2 ^ k := Nat.two_pow_pos k
  have e : ((2 ^ k : Nat) : Int) = (2 : Int) ^ k := by simp
  rw [← e]; omega
theorem and_mask (a : Int) (k : Nat) (a0 : 0 ≤ a) (a1 : a < 4294967296) (h : k < 32) : bits .and .u32 a (2 ^ k - 1) = a % 2 ^ k := by
  have hp := pow_lt k h
  rw [u32_and a _ a0 a1 (by omega) (by omega)]
  have e : ((2 : Int) ^ k - 1).toNat = 2 ^ k - 1 := by
    have e : ((2 ^ k : Nat) : Int) = (2 : Int) ^ k := by simp
    rw [← e]; omega
  rw [e, Nat.and_two_pow_sub_one_eq_mod]
  have : ((a.toNat : Nat) : Int) = a := Int.toNat_of_nonneg a0
  rw [Int.natCast_emod, this]; simp
theorem xor_max (m : Int) (m0 : 0 ≤ m) (m1 : m < 4294967296) : bits .xor .u32 IntKind.u32.max m = 4294967295 - m := by
  have e : IntKind.u32.max = 4294967295 := by decide
  rw [e, u32_xor _ m (by decide) (by decide) m0 m1]
  obtain ⟨k, rfl⟩ := Int.eq_ofNat_of_zero_le m0
  simp only [Int.toNat_natCast]
  have : (4294967295 : Int).toNat ^^^ k = 4294967295 - k := by
    have hk : k < 2 ^ 32 := by omega
    show 2 ^ 32 - 1 ^^^ k = 2 ^ 32 - 1 - k
    have h1 := BitVec.toNat_not (x := BitVec.ofNat 32 k)
    have h2 := BitVec.xor_allOnes (x := BitVec.ofNat 32 k)
    have h3 := congrArg BitVec.toNat h2
    rw [h1, BitVec.toNat_xor, BitVec.toNat_allOnes, BitVec.toNat_ofNat, Nat.mod_eq_of_lt hk, Nat.xor_comm] at h3
    exact h3
  rw [this]; omega
theorem or_high (l : Int) (k : Nat) (h : k < 32) (l0 : 0 ≤ l) (l1 : l < 2 ^ k) : bits .or .u32 l (bits .xor .u32 IntKind.u32.max (2 ^ k - 1)) = l + (4294967296 - 2 ^ k) := by
  have hp := pow_lt k h
  rw [xor_max _ (by omega) (by omega), u32_or l _ l0 (by omega) (by omega) (by omega)]
  have e : (4294967295 - ((2 : Int) ^ k - 1)).toNat = 2 ^ 32 - 2 ^ k := by
    have e : ((2 ^ k : Nat) : Int) = (2 : Int) ^ k := by simp
    rw [← e]; omega
  rw [e, Nat.or_comm, nat_join k]
  · have e : ((2 ^ k : Nat) : Int) = (2 : Int) ^ k := by simp
    rw [← e] at hp ⊢; omega
  · have : 2 ^ 32 = 2 ^ k * 2 ^ (32 - k) := by rw [← Nat.pow_add]; congr 1; omega
    rw [this]
    have h2 : 2 ^ k * 2 ^ (32 - k) - 2 ^ k = 2 ^ k * (2 ^ (32 - k) - 1) := by rw [Nat.mul_sub, Nat.mul_one]
    rw [h2]; exact Nat.mul_mod_right _ _
  · have e : ((2 ^ k : Nat) : Int) = (2 : Int) ^ k := by simp
    rw [← e] at l1; omega
theorem top_bit (l : Int) (k : Nat) (k0 : 1 ≤ k) (l1 : l < 2 ^ k) : (l / 2 ^ (k - 1) == 1) = decide (2 ^ (k - 1) ≤ l) := by
  have e : (2 : Int) ^ k = 2 ^ (k - 1) * 2 := by rw [← Int.pow_succ]; congr 1; omega
  have hp : (0 : Int) < 2 ^ (k - 1) := Int.pow_pos (by decide)
  rw [e] at l1
  generalize (2 : Int) ^ (k - 1) = p at *
  rw [Bool.eq_iff_iff]; simp
  constructor
  · intro h
    have := Int.ediv_mul_le l (show p ≠ 0 by omega)
    rw [h] at this; omega
  · intro h
    have h1 : 1 ≤ l / p := Int.le_ediv_of_mul_le hp (by omega)
    have h2 : l / p < 2 := Int.ediv_lt_of_lt_mul hp (by omega)
    omega

end Go.Proofs.Ytmbaoldcdegbhab
