/- The plain arithmetic of words of 32 bits, over whole numbers: what a word means with a sign, and whether a number leaves those with a sign. No condition. -/
import GoSem.Claim
import Derived.Laws.BitsAllLaws
import Derived.WalkKit
import Derived.Test.YtmegghgjllbamaaGreatDoorRows
import Derived.WalkSpells
import Derived.WalkLawsBesides
import Derived.Lib.BitFns
namespace Go.Proofs.YtmegghgjllbamaaGreatDoor.Wo

/-- what a word means with a sign -/
def mean (a : Int) : Int := if 2147483648 ≤ a then a - 4294967296 else a
/-- what a word means, with a sign or without -/
def meanB (s : Bool) (a : Int) : Int := if s then mean a else a
/-- does a number leave those with a sign? -/
def outB (n : Int) : Bool := decide (n < -2147483648) || decide (2147483647 < n)

theorem mean_bd (a : Int) (h0 : 0 ≤ a) (h1 : a < 4294967296) : -2147483648 ≤ mean a ∧ mean a ≤ 2147483647 := by
  unfold mean; split <;> omega
theorem meanB_bd (s : Bool) (a : Int) (h0 : 0 ≤ a) (h1 : a < 4294967296) : -2147483648 ≤ meanB s a ∧ meanB s a < 4294967296 := by
  have := mean_bd a h0 h1
  unfold meanB; split <;> omega
theorem meanB_ne (s : Bool) (a : Int) (h0 : 0 < a) (h1 : a < 4294967296) : meanB s a ≠ 0 := by
  unfold meanB mean; split <;> (try split) <;> omega
theorem mean_mod (a : Int) : mean a % 4294967296 = a % 4294967296 := by
  unfold mean; split <;> omega

theorem mul_lo (x y : Int) : IntKind.u64.wrap (IntKind.u64.wrap x * IntKind.u64.wrap y) % 4294967296 = x * y % 4294967296 := by
  simp only [IntKind.wrap_u64, ← Int.mul_emod]; omega
theorem mul_hi (x y : Int) : IntKind.u64.wrap (IntKind.u64.wrap x * IntKind.u64.wrap y) / 4294967296 % 4294967296 = x * y / 4294967296 % 4294967296 := by
  simp only [IntKind.wrap_u64, ← Int.mul_emod]; omega

theorem wrap64_nn (n : Int) : RowKit.wrap64 (-RowKit.wrap64 (-n)) % 4294967296 = n % 4294967296 := by
  unfold RowKit.wrap64; omega
theorem wrap64_mod (n : Int) : RowKit.wrap64 n % 4294967296 = n % 4294967296 := by
  unfold RowKit.wrap64; omega

/-- a word shifted: to the left, to the right, to the right with its sign; of another kind the word itself -/
def shiftV (k a n : Int) : Int :=
  if k = 0 then a * 2 ^ (n % 32).toNat % 4294967296 else if k = 1 then a / 2 ^ (n % 32).toNat else if k = 2 then mean a / 2 ^ (n % 32).toNat % 4294967296 else a
/-- the low bits of a word, extended -/
def extV (s : Bool) (a n : Int) : Int :=
  if n < 1 ∨ 32 ≤ n then a else if s = true ∧ 2 ^ (n.toNat - 1) ≤ a % 2 ^ n.toNat then a % 2 ^ n.toNat + (4294967296 - 2 ^ n.toNat) else a % 2 ^ n.toNat
theorem and31 (n : Int) : bits .and .i64 n 31 = n % 32 := by
  have e : (BitVec.ofInt 64 n &&& BitVec.ofInt 64 31).toNat = (n % 18446744073709551616).toNat % 32 := by
    rw [BitVec.toNat_and, BitVec.toNat_ofInt, BitVec.toNat_ofInt]
    exact nat_mask5 _
  show IntKind.i64.wrap ((BitVec.ofInt 64 n &&& BitVec.ofInt 64 31).toNat : Int) = n % 32
  rw [e]
  simp [IntKind.wrap, IntKind.bits, IntKind.signed]
  omega
theorem pow_lt (k : Nat) (h : k < 32) : (2 : Int) ^ k ≤ 2147483648 ∧ (1 : Int) ≤ 2 ^ k := by
  have h1 : 2 ^ k ≤ 2 ^ 31 := Nat.pow_le_pow_right (by decide) (by omega)
  have h2 : 0 < 2 ^ k := Nat.two_pow_pos k
  have e : ((2 ^ k : Nat) : Int) = (2 : Int) ^ k := by simp
  rw [← e]; omega
theorem and_mask (a : Int) (k : Nat) (a0 : 0 ≤ a) (a1 : a < 4294967296) (h : k < 32) : bits .and .u32 a (2 ^ k - 1) = a % 2 ^ k := by
  have hp := pow_lt k h
  rw [u32_and a _ a0 a1 (by omega) (by omega)]
  have e : ((2 : Int) ^ k - 1).toNat = 2 ^ k - 1 := by
    have e : ((2 ^ k : Nat) : Int) = (2 : Int) ^ k := by simp
    rw [← e]; omega
  rw [e, Nat.and_two_pow_sub_one_eq_mod]
  have : ((a.toNat : Nat) : Int) = a := Int.toNat_of_nonneg a0
  rw [Int.natCast_emod, this]; simp
theorem xor_max (m : Int) (m0 : 0 ≤ m) (m1 : m < 4294967296) : bits .xor .u32 IntKind.u32.max m = 4294967295 - m := by
  have e : IntKind.u32.max = 4294967295 := by decide
  rw [e, u32_xor _ m (by decide) (by decide) m0 m1]
  obtain ⟨k, rfl⟩ := Int.eq_ofNat_of_zero_le m0
  simp only [Int.toNat_natCast]
  have : (4294967295 : Int).toNat ^^^ k = 4294967295 - k := by
    have hk : k < 2 ^ 32 := by omega
    show 2 ^ 32 - 1 ^^^ k = 2 ^ 32 - 1 - k
    have h1 := BitVec.toNat_not (x := BitVec.ofNat 32 k)
    have h2 := BitVec.xor_allOnes (x := BitVec.ofNat 32 k)
    have h3 := congrArg BitVec.toNat h2
    rw [h1, BitVec.toNat_xor, BitVec.toNat_allOnes, BitVec.toNat_ofNat, Nat.mod_eq_of_lt hk, Nat.xor_comm] at h3
    exact h3
  rw [this]; omega
theorem or_high (l : Int) (k : Nat) (h : k < 32) (l0 : 0 ≤ l) (l1 : l < 2 ^ k) : bits .or .u32 l (bits .xor .u32 IntKind.u32.max (2 ^ k - 1)) = l + (4294967296 - 2 ^ k) := by
  have hp := pow_lt k h
  rw [xor_max _ (by omega) (by omega), u32_or l _ l0 (by omega) (by omega) (by omega)]
  have e : (4294967295 - ((2 : Int) ^ k - 1)).toNat = 2 ^ 32 - 2 ^ k := by
    have e : ((2 ^ k : Nat) : Int) = (2 : Int) ^ k := by simp
    rw [← e]; omega
  rw [e, Nat.or_comm, nat_join k]
  · have e : ((2 ^ k : Nat) : Int) = (2 : Int) ^ k := by simp
    rw [← e] at hp ⊢; omega
  · have : 2 ^ 32 = 2 ^ k * 2 ^ (32 - k) := by rw [← Nat.pow_add]; congr 1; omega
    rw [this]
    have h2 : 2 ^ k * 2 ^ (32 - k) - 2 ^ k = 2 ^ k * (2 ^ (32 - k) - 1) := by rw [Nat.mul_sub, Nat.mul_one]
    rw [h2]; exact Nat.mul_mod_right _ _
  · have e : ((2 ^ k : Nat) : Int) = (2 : Int) ^ k := by simp
    rw [← e] at l1; omega
theorem top_bit (l : Int) (k : Nat) (k0 : 1 ≤ k) (l1 : l < 2 ^ k) : (l / 2 ^ (k - 1) == 1) = decide (2 ^ (k - 1) ≤ l) := by
  have e : (2 : Int) ^ k = 2 ^ (k - 1) * 2 := by rw [← Int.pow_succ]; congr 1; omega
  have hp : (0 : Int) < 2 ^ (k - 1) := Int.pow_pos (by decide)
  rw [e] at l1
  generalize (2 : Int) ^ (k - 1) = p at *
  rw [Bool.eq_iff_iff]; simp
  constructor
  · intro h
    have := Int.ediv_mul_le l (show p ≠ 0 by omega)
    rw [h] at this; omega
  · intro h
    have h1 : 1 ≤ l / p := Int.le_ediv_of_mul_le hp (by omega)
    have h2 : l / p < 2 := Int.ediv_lt_of_lt_mul hp (by omega)
    omega

end Go.Proofs.YtmegghgjllbamaaGreatDoor.Wo

/- Contracts of the program's and the document's small functions on words. -/
namespace Go.Proofs.YtmegghgjllbamaaGreatDoor.Wo
open Go.RowKit
set_option linter.unusedVariables false
set_option maxRecDepth 100000

theorem hide {p : Prop} (h : p) : Hid p := h
theorem ret_int {k : IntKind} {a b : Int} (h : a = b) : Ending.returned (.int k a) = .returned (.int k b) := by rw [h]
theorem ret_bool {a b : Bool} (h : a = b) : Ending.returned (.bool a) = .returned (.bool b) := by rw [h]


theorem ret_int2 {k l : IntKind} {a b c d : Int} (h : a = b) (h' : c = d) : Ending.returned (.tuple #[.int k a, .int l c]) = .returned (.tuple #[.int k b, .int l d]) := by rw [h, h']
theorem ret_int3 {k l m : IntKind} {a b c d x y : Int} (h : a = b) (h' : c = d) (h'' : x = y) : Ending.returned (.tuple #[.int k a, .int l c, .int m x]) = .returned (.tuple #[.int k b, .int l d, .int m y]) := by rw [h, h', h'']
theorem tmod_neg (n m : Int) (hm : 0 < m) (h : n.tmod m < 0) : n.tmod m + m = n % m := by
  rw [Int.tmod_eq_emod] at h ⊢
  have := Int.emod_nonneg n (Int.ne_of_gt hm)
  have := Int.emod_lt_of_pos n hm
  split at h <;> split <;> omega
theorem tmod_pos (n m : Int) (hm : 0 < m) (h : 0 ≤ n.tmod m) : n.tmod m = n % m := by
  rw [Int.tmod_eq_emod] at h ⊢
  have := Int.emod_nonneg n (Int.ne_of_gt hm)
  have := Int.emod_lt_of_pos n hm
  split at h <;> split <;> omega

set_option maxHeartbeats 400000 in
theorem leaves_any (n : Int) (w : World) :
    Calls Tryz.prog 131 #[.int .i64 n] w fun e w' => e = .returned (.bool (outB n)) ∧ w' = w := by
  go_enter Tryz.func131, Tryz.ntmps131
  go_wp2
  all_goals go_ret
  all_goals exact ⟨ret_bool (by simp [outB, *]), rfl⟩

set_option maxHeartbeats 400000 in
theorem meaning_any (a : Int) (s : Bool) (w : World) (h0 : 0 ≤ a) (h1 : a < 4294967296) :
    Calls Tryz.prog 113 #[.int .u32 a, .bool s] w fun e w' => e = .returned (.int .i64 (meanB s a)) ∧ w' = w := by
  go_enter Tryz.func113, Tryz.ntmps113
  go_wp2
  all_goals go_ret
  · exact ⟨ret_int (by simp [meanB, mean, *]), rfl⟩
  · exact ⟨ret_int (by simp [meanB, mean, *]; omega), rfl⟩
  · exact ⟨ret_int (by simp [meanB, *]), rfl⟩

end Go.Proofs.YtmegghgjllbamaaGreatDoor.Wo

/- Contracts of the sums, differences, products, quotients and comparisons of words, of the program's and of the document's. -/
namespace Go.Proofs.YtmegghgjllbamaaGreatDoor.Wo
open Go.RowKit
set_option linter.unusedVariables false
set_option maxRecDepth 100000

set_option maxHeartbeats 400000 in
theorem add_any (a b : Int) (w : World) (a0 : 0 ≤ a) (a1 : a < 4294967296) (b0 : 0 ≤ b) (b1 : b < 4294967296) :
    Calls Tryz.prog 123 #[.int .u32 a, .int .u32 b] w fun e w' => e = .returned (.tuple #[.int .u32 ((a + b) % 4294967296), .bool (outB (mean a + mean b))]) ∧ w' = w := by
  have ha := mean_bd a a0 a1
  have hb := mean_bd b b0 b1
  go_enter Tryz.func123, Tryz.ntmps123
  go_wp2_with (first | (go_at_call 113; refine (meaning_any _ _ _ (by assumption) (by assumption)).mono ?_; rintro e w' ⟨rfl, rfl⟩; simp only [meanB, if_true]) | (go_at_call 131; refine (leaves_any _ _).mono ?_; rintro e w' ⟨rfl, rfl⟩))
  go_ret2
  exact ⟨rfl, rfl⟩

set_option maxHeartbeats 400000 in
theorem sub_any (a b : Int) (w : World) (a0 : 0 ≤ a) (a1 : a < 4294967296) (b0 : 0 ≤ b) (b1 : b < 4294967296) :
    Calls Tryz.prog 124 #[.int .u32 a, .int .u32 b] w fun e w' => e = .returned (.tuple #[.int .u32 ((a - b) % 4294967296), .bool (outB (mean a - mean b))]) ∧ w' = w := by
  have ha := mean_bd a a0 a1
  have hb := mean_bd b b0 b1
  go_enter Tryz.func124, Tryz.ntmps124
  go_wp2_with (first | (go_at_call 113; refine (meaning_any _ _ _ (by assumption) (by assumption)).mono ?_; rintro e w' ⟨rfl, rfl⟩; simp only [meanB, if_true]) | (go_at_call 131; refine (leaves_any _ _).mono ?_; rintro e w' ⟨rfl, rfl⟩))
  go_ret2
  exact ⟨rfl, rfl⟩

set_option maxHeartbeats 400000 in
theorem less_any (a b : Int) (s : Bool) (w : World) (a0 : 0 ≤ a) (a1 : a < 4294967296) (b0 : 0 ≤ b) (b1 : b < 4294967296) :
    Calls Tryz.prog 78 #[.int .u32 a, .int .u32 b, .bool s] w fun e w' => e = .returned (.bool (decide (meanB s a < meanB s b))) ∧ w' = w := by
  go_enter Tryz.func78, Tryz.ntmps78
  go_wp2_with (go_at_call 113; refine (meaning_any _ _ _ (by assumption) (by assumption)).mono ?_; rintro e w' ⟨rfl, rfl⟩)
  go_ret
  exact ⟨rfl, rfl⟩

set_option maxHeartbeats 400000 in
theorem mul_any (a b : Int) (s : Bool) (w : World) (a0 : 0 ≤ a) (a1 : a < 4294967296) (b0 : 0 ≤ b) (b1 : b < 4294967296) :
    Calls Tryz.prog 91 #[.int .u32 a, .int .u32 b, .bool s] w fun e w' => e = .returned (.tuple #[.int .u32 (meanB s a * meanB s b / 4294967296 % 4294967296), .int .u32 (meanB s a * meanB s b % 4294967296)]) ∧ w' = w := by
  go_enter Tryz.func91, Tryz.ntmps91
  go_wp2_with (go_at_call 113; refine (meaning_any _ _ _ (by assumption) (by assumption)).mono ?_; rintro e w' ⟨rfl, rfl⟩)
  go_ret2
  exact ⟨ret_int2 (mul_hi _ _) (mul_lo _ _), rfl⟩

set_option maxHeartbeats 400000 in
theorem div_any (a b : Int) (s : Bool) (w : World) (a0 : 0 ≤ a) (a1 : a < 4294967296) (b0 : 0 < b) (b1 : b < 4294967296) :
    Calls Tryz.prog 92 #[.int .u32 a, .int .u32 b, .bool s] w fun e w' => e = .returned (.tuple #[.int .u32 ((meanB s a).tdiv (meanB s b) % 4294967296), .int .u32 ((meanB s a).tmod (meanB s b) % 4294967296), .int .i64 0]) ∧ w' = w.drew := by
  have ha := meanB_bd s a a0 a1
  have hb := meanB_bd s b (by omega) b1
  have hz : (b == 0) = false := by simp; omega
  have hnz : meanB s b ≠ 0 := meanB_ne s b b0 b1
  go_enter Tryz.func92, Tryz.ntmps92
  go_wp2_with (go_at_call 113; refine (meaning_any _ _ _ (by omega) (by assumption)).mono ?_; rintro e w' ⟨rfl, rfl⟩)
  go_region
  go_wp2
  go_ret3
  exact ⟨ret_int3 (wrap64_mod _) rfl rfl, rfl⟩

set_option maxHeartbeats 400000 in
theorem div_zero (a : Int) (s : Bool) (w : World) :
    Calls Tryz.prog 92 #[.int .u32 a, .int .u32 0, .bool s] w fun e w' => e = .returned (.tuple #[.int .u32 0, .int .u32 0, .int .i64 10]) ∧ w' = w := by
  go_enter Tryz.func92, Tryz.ntmps92
  go_wp2
  go_ret3
  exact ⟨rfl, rfl⟩

end Go.Proofs.YtmegghgjllbamaaGreatDoor.Wo

/- Contracts of the document's product, quotient and comparison of words. -/
namespace Go.Proofs.YtmegghgjllbamaaGreatDoor.Wo
open Go.RowKit
set_option linter.unusedVariables false
set_option maxRecDepth 100000

theorem td_nn (x y : Int) (hx : 0 ≤ x) : x / y = x.tdiv y := (Int.tdiv_eq_ediv_of_nonneg hx).symm
theorem tm_nn (x y : Int) (hx : 0 ≤ x) : x % y = x.tmod y := (Int.tmod_eq_emod_of_nonneg hx).symm

end Go.Proofs.YtmegghgjllbamaaGreatDoor.Wo

/- Contract of the document's product of words. -/
namespace Go.Proofs.YtmegghgjllbamaaGreatDoor.Wo
open Go.RowKit
set_option linter.unusedVariables false
set_option maxRecDepth 100000

theorem prod_bd (x y : Int) (x0 : 0 ≤ x) (x1 : x < 65536) (y0 : 0 ≤ y) (y1 : y < 4294967296) : 0 ≤ x * y ∧ x * y ≤ 281470681677825 := by
  refine ⟨Int.mul_nonneg x0 y0, ?_⟩
  have h1 : x * y ≤ 65535 * y := Int.mul_le_mul_of_nonneg_right (by omega) y0
  omega
theorem low_bd (x y : Int) (x0 : 0 ≤ x) (x1 : x < 4294967296) (y0 : 0 ≤ y) (y1 : y < 4294967296) : 0 ≤ x % 65536 * y ∧ x % 65536 * y ≤ 281470681677825 :=
  prod_bd _ _ (by omega) (by omega) y0 y1
theorem mid_bd (x y : Int) (x0 : 0 ≤ x) (x1 : x < 4294967296) (y0 : 0 ≤ y) (y1 : y < 4294967296) : 0 ≤ x / 65536 * y ∧ x / 65536 * y ≤ 281470681677825 :=
  prod_bd _ _ (by omega) (by omega) y0 y1
theorem halves (x y : Int) : x * y = x / 65536 * y * 65536 + x % 65536 * y := by
  have h : x = x / 65536 * 65536 + x % 65536 := by omega
  have h2 : x * y = (x / 65536 * 65536 + x % 65536) * y := by rw [← h]
  rw [h2, Int.add_mul, Int.mul_right_comm]

end Go.Proofs.YtmegghgjllbamaaGreatDoor.Wo

/- Contracts of shifts, extensions and leading bits of words, of the program's and of the document's. -/
namespace Go.Proofs.YtmegghgjllbamaaGreatDoor.Wo
open Go.RowKit
set_option linter.unusedVariables false
set_option maxRecDepth 100000

theorem tdiv_floor_neg (n p : Int) (hp : 0 < p) (h : n.tmod p < 0) : n.tdiv p - 1 = n / p := by
  have h1 := Int.tdiv_mul_add_tmod n p
  have h2 := tmod_neg n p hp h
  have h3 := Int.ediv_mul_add_emod n p
  have : (n.tdiv p - 1) * p = n / p * p := by rw [Int.sub_mul]; omega
  exact Int.eq_of_mul_eq_mul_right (by omega) this
theorem tdiv_floor_pos (n p : Int) (hp : 0 < p) (h : 0 ≤ n.tmod p) : n.tdiv p = n / p := by
  have h1 := Int.tdiv_mul_add_tmod n p
  have h2 := tmod_pos n p hp h
  have h3 := Int.ediv_mul_add_emod n p
  have : (n.tdiv p) * p = n / p * p := by omega
  exact Int.eq_of_mul_eq_mul_right (by omega) this

set_option maxHeartbeats 400000 in
theorem shift_any (k a n : Int) (w : World) (a0 : 0 ≤ a) (a1 : a < 4294967296) :
    Calls Tryz.prog 79 #[.int .i64 k, .int .u32 a, .int .i64 n] w fun e w' => e = .returned (.int .u32 (shiftV k a n)) ∧ w' = w := by
  have hn := and31 n
  have n0 : 0 ≤ n % 32 := by omega
  have n1 : n % 32 < 32 := by omega
  have hm := mean_bd a a0 a1
  go_enter Tryz.func79, Tryz.ntmps79
  go_wp2_with (go_at_call 113; refine (meaning_any _ _ _ (by assumption) (by assumption)).mono ?_; rintro e w' ⟨rfl, rfl⟩; simp only [meanB, if_true])
  all_goals go_ret
  all_goals refine ⟨ret_int ?_, rfl⟩
  all_goals simp_all [shiftV]

set_option maxHeartbeats 400000 in
theorem ext_in (a : Int) (k : Nat) (s : Bool) (w : World) (a0 : 0 ≤ a) (a1 : a < 4294967296) (k0 : 1 ≤ k) (k1 : k < 32) :
    Calls Tryz.prog 101 #[.int .u32 a, .int .i64 k, .bool s] w fun e w' => e = .returned (.int .u32 (extV s a k)) ∧ w' = w := by
  have hp := pow_lt k k1
  have l0 : 0 ≤ a % 2 ^ k := Int.emod_nonneg _ (by omega)
  have l1 : a % 2 ^ k < 2 ^ k := Int.emod_lt_of_pos _ (by omega)
  have hb := top_bit (a % 2 ^ k) k k0 l1
  have ho := or_high (a % 2 ^ k) k k1 l0 l1
  have ha := and_mask a k a0 a1 k1
  have HB := hide hb
  have HO := hide ho
  have HA := hide ha
  clear hb ho ha
  go_enter Tryz.func101, Tryz.ntmps101
  go_wp2
  all_goals go_ret
  all_goals refine ⟨ret_int ?_, rfl⟩
  all_goals have hB := HB.out
  all_goals have hA := HA.out
  all_goals have hO := HO.out
  all_goals have hn : ¬ ((k : Int) < 1 ∨ 32 ≤ (k : Int)) := by omega
  all_goals simp only [extV, if_neg hn, Int.toNat_natCast]
  · rename_i hs ht hx
    rw [hA, hB] at hx
    rw [if_pos ⟨by first | trivial | exact ht, of_decide_eq_true hx⟩, hA]; exact hO
  · rename_i hs ht
    rw [hA, hB] at ht
    rw [if_neg (fun h => of_decide_eq_false ht h.2), hA]
  · rename_i hs
    rw [if_neg (fun h => hs h.1), hA]

set_option maxHeartbeats 400000 in
theorem ext_out (a n : Int) (s : Bool) (w : World) (h : n < 1 ∨ 32 ≤ n) :
    Calls Tryz.prog 101 #[.int .u32 a, .int .i64 n, .bool s] w fun e w' => e = .returned (.int .u32 (extV s a n)) ∧ w' = w := by
  have e : extV s a n = a := by simp only [extV, if_pos h]
  rw [e]
  rcases h with h | h
  · go_enter Tryz.func101, Tryz.ntmps101
    go_wp2
    go_ret
    exact ⟨rfl, rfl⟩
  · have h' : decide (n < 1) = false := by simp; omega
    go_enter Tryz.func101, Tryz.ntmps101
    go_wp2
    go_ret
    exact ⟨rfl, rfl⟩

theorem ext_any (a n : Int) (s : Bool) (w : World) (a0 : 0 ≤ a) (a1 : a < 4294967296) :
    Calls Tryz.prog 101 #[.int .u32 a, .int .i64 n, .bool s] w fun e w' => e = .returned (.int .u32 (extV s a n)) ∧ w' = w := by
  by_cases h : n < 1 ∨ 32 ≤ n
  · exact ext_out a n s w h
  · obtain ⟨k, rfl⟩ := Int.eq_ofNat_of_zero_le (show 0 ≤ n by omega)
    exact ext_in a k s w a0 a1 (by omega) (by omega)

end Go.Proofs.YtmegghgjllbamaaGreatDoor.Wo

/- The plain arithmetic of the bits ahead of a word: how many are alike, halved and halved again. No condition but that the number is a word. -/
namespace Go.Proofs.YtmegghgjllbamaaGreatDoor.Wo

theorem half_pow (j : Nat) : (2147483648 : Int) / 2 ^ j / 2 = 2147483648 / 2 ^ (j + 1) := by
  rw [Int.pow_succ, Int.ediv_ediv_of_nonneg (Int.pow_nonneg (by decide))]
theorem q_pow (j : Nat) (h : j < 32) : (2147483648 : Int) / 2 ^ j = 2 ^ (31 - j) := by
  have e : (2147483648 : Int) = 2 ^ (31 - j) * 2 ^ j := by
    rw [← Int.pow_add, Nat.sub_add_cancel (by omega)]; rfl
  exact Int.ediv_eq_of_eq_mul_left (by have : (0 : Int) < 2 ^ j := Int.pow_pos (by decide); omega) e
def leadV (one : Bool) (a : Int) : Int := 32 - (Lib.bitLen (if one then 4294967295 - a else a).toNat : Nat)
theorem bitLen_at (x m : Nat) (h : m < 32) (h1 : 2 ^ m ≤ x) (h2 : x < 2 ^ (m + 1)) : Lib.bitLen x = m + 1 := by
  have h3 : (2 : Nat) ^ (m + 1) ≤ 2 ^ 64 := Nat.pow_le_pow_right (by decide) (by omega)
  rw [Lib.bitLen_shift m x h1 (by omega)]
  have h4 : 1 ≤ x / 2 ^ m := (Nat.le_div_iff_mul_le (Nat.two_pow_pos m)).2 (by omega)
  have h5 : x / 2 ^ m < 2 := (Nat.div_lt_iff_lt_mul (Nat.two_pow_pos m)).2 (by rw [Nat.pow_succ] at h2; omega)
  have h6 : x / 2 ^ m = 1 := by omega
  rw [h6]; rfl
theorem lead_at (one : Bool) (a : Int) (j : Nat) (hj : j < 32) (x0 : 0 ≤ (if one then 4294967295 - a else a)) (h1 : 2 ^ (31 - j) ≤ (if one then 4294967295 - a else a))
    (h2 : (if one then 4294967295 - a else a) < 2 ^ (32 - j)) : leadV one a = j := by
  unfold leadV
  obtain ⟨x, hx⟩ := Int.eq_ofNat_of_zero_le x0
  rw [hx] at h1 h2 ⊢
  have e1 : ((2 ^ (31 - j) : Nat) : Int) = (2 : Int) ^ (31 - j) := by simp
  have e2 : ((2 ^ (32 - j) : Nat) : Int) = (2 : Int) ^ (32 - j) := by simp
  rw [← e1] at h1; rw [← e2] at h2
  have e3 : 32 - j = 31 - j + 1 := by omega
  rw [Int.toNat_natCast, bitLen_at x (31 - j) (by omega) (by omega) (by rw [← e3]; omega)]
  omega
theorem lead_end (one : Bool) (a : Int) (x0 : (if one then 4294967295 - a else a) = 0) : leadV one a = 32 := by
  unfold leadV; rw [x0]; rfl
theorem bit_no (a q : Int) (hq : 0 < q) (a0 : 0 ≤ a) (h : a < 2 * q) : (a / q % 2 == 1) = decide (q ≤ a) := by
  have h2 : a / q < 2 := Int.ediv_lt_of_lt_mul hq (by omega)
  have h1 : 0 ≤ a / q := Int.ediv_nonneg a0 (by omega)
  have h3 := Int.ediv_mul_add_emod a q
  have h4 := Int.emod_nonneg a (show q ≠ 0 by omega)
  have h5 := Int.emod_lt_of_pos a hq
  rw [Bool.eq_iff_iff]; simp
  have : a / q = 0 ∨ a / q = 1 := by omega
  rcases this with h | h <;> rw [h] at h3 ⊢ <;> omega
theorem bit_yes (a q t : Int) (hq : 0 < q) (ht : t * 2 * q = 4294967296) (x0 : 0 ≤ 4294967295 - a) (h : 4294967295 - a < 2 * q) : (a / q % 2 == 1) = !decide (q ≤ 4294967295 - a) := by
  have e : a = (a - 4294967296 + 2 * q) + (t - 1) * 2 * q := by rw [Int.sub_mul, Int.sub_mul]; omega
  have e2 : a / q = (a - 4294967296 + 2 * q) / q + (t - 1) * 2 := by
    have := Int.add_mul_ediv_right (a - 4294967296 + 2 * q) ((t - 1) * 2) (show q ≠ 0 by omega)
    rw [← this, ← e]
  have e3 : a / q % 2 = (a - 4294967296 + 2 * q) / q % 2 := by rw [e2]; omega
  rw [e3, bit_no _ q hq (by omega) (by omega), Bool.eq_iff_iff]; simp; omega
theorem t_pow (j : Nat) (h : j < 32) : (2 : Int) ^ j * 2 * (2147483648 / 2 ^ j) = 4294967296 := by
  rw [q_pow j h]
  have : (2 : Int) ^ j * 2 * 2 ^ (31 - j) = 2 ^ (j + 1 + (31 - j)) := by rw [Int.pow_add, Int.pow_succ]
  rw [this]
  have : j + 1 + (31 - j) = 32 := by omega
  rw [this]; rfl

end Go.Proofs.YtmegghgjllbamaaGreatDoor.Wo

/- Contracts of the document's shifts and extensions, and of the leading bits of both. -/
namespace Go.Proofs.YtmegghgjllbamaaGreatDoor.Wo
open Go.RowKit
set_option linter.unusedVariables false
set_option maxRecDepth 100000

theorem modmod (x : Int) : x % 4294967296 % 4294967296 = x % 4294967296 := by omega
theorem pow_succ2 (j : Nat) : (2 : Int) ^ j * 2 = 2 ^ (j + 1) := (Int.pow_succ 2 j).symm

theorem shl_rem (a : Int) (j : Nat) (h : j < 32) (a0 : 0 ≤ a) : a % (4294967296 / 2 ^ j) * 2 ^ j = a * 2 ^ j % 4294967296 ∧ 1 ≤ (4294967296 : Int) / 2 ^ j ∧ 0 ≤ a % (4294967296 / 2 ^ j) * 2 ^ j ∧ a % (4294967296 / 2 ^ j) * 2 ^ j < 4294967296 := by
  have e : (4294967296 : Int) = 2 ^ (32 - j) * 2 ^ j := by
    rw [← Int.pow_add, Nat.sub_add_cancel (by omega)]; rfl
  have hp := pow_lt j h
  have hq : (1 : Int) ≤ 2 ^ (32 - j) := by have : (0 : Int) < 2 ^ (32 - j) := Int.pow_pos (by decide); omega
  have hd : (4294967296 : Int) / 2 ^ j = 2 ^ (32 - j) := Int.ediv_eq_of_eq_mul_left (by omega) e
  rw [hd]
  have h1 : a % 2 ^ (32 - j) * 2 ^ j = a * 2 ^ j % 4294967296 := by
    rw [e, Int.mul_comm _ (2 ^ j), Int.mul_comm a, Int.mul_comm (2 ^ (32 - j)), Int.mul_emod_mul_of_pos _ _ (by omega)]
  refine ⟨h1, hq, ?_, ?_⟩
  · rw [h1]; omega
  · rw [h1]; omega

theorem shiftV_of (k a n : Int) (j : Nat) (h : (n % 32).toNat = j) : shiftV k a n = if k = 0 then a * 2 ^ j % 4294967296 else if k = 1 then a / 2 ^ j else if k = 2 then mean a / 2 ^ j % 4294967296 else a := by
  subst h; rfl
theorem shiftV_0 (k a n : Int) (j : Nat) (h : (n % 32).toNat = j) (hk : (k == 0) = true) : shiftV k a n = a * 2 ^ j % 4294967296 := by
  rw [shiftV_of k a n j h, if_pos (eq_of_beq hk)]
theorem shiftV_1 (k a n : Int) (j : Nat) (h : (n % 32).toNat = j) (hk : (k == 1) = true) : shiftV k a n = a / 2 ^ j := by
  have := eq_of_beq hk
  rw [shiftV_of k a n j h, if_neg (by omega), if_pos this]
theorem shiftV_2 (k a n : Int) (j : Nat) (h : (n % 32).toNat = j) (hk : (k == 2) = true) : shiftV k a n = mean a / 2 ^ j % 4294967296 := by
  have := eq_of_beq hk
  rw [shiftV_of k a n j h, if_neg (by omega), if_neg (by omega), if_pos this]
theorem shiftV_3 (k a n : Int) (h0 : (k == 0) = false) (h1 : (k == 1) = false) (h2 : (k == 2) = false) : shiftV k a n = a := by
  simp only [beq_eq_false_iff_ne, ne_eq] at h0 h1 h2
  rw [shiftV, if_neg h0, if_neg h1, if_neg h2]
theorem shr_small (a : Int) (j : Nat) (a0 : 0 ≤ a) (a1 : a < 4294967296) : a / 2 ^ j % 4294967296 = a / 2 ^ j := by
  have h1 : a / 2 ^ j ≤ a := Int.ediv_le_self _ a0
  have h2 : 0 ≤ a / 2 ^ j := Int.ediv_nonneg a0 (Int.pow_nonneg (by decide))
  exact Int.emod_eq_of_lt h2 (by omega)

theorem extV_yes (a : Int) (j : Nat) (s : Bool) (k0 : 1 ≤ j) (k1 : j < 32) (l0 : 0 ≤ a % 2 ^ j) (l1 : a % 2 ^ j < 2 ^ j) (hp : (2 : Int) ^ j ≤ 2147483648 ∧ (1 : Int) ≤ 2 ^ j) (hs : s = true) (h : (2 : Int) ^ j / 2 ≤ a % 2 ^ j) : (a % 2 ^ j - 2 ^ j) % 4294967296 = extV s a j := by
  have hn : ¬ ((j : Int) < 1 ∨ 32 ≤ (j : Int)) := by omega
  have e := pow_succ2 (j - 1)
  rw [Nat.sub_add_cancel k0] at e
  rw [extV, if_neg hn, Int.toNat_natCast, if_pos ⟨hs, by omega⟩]
  omega
theorem extV_no (a : Int) (j : Nat) (s : Bool) (k0 : 1 ≤ j) (k1 : j < 32) (l0 : 0 ≤ a % 2 ^ j) (l1 : a % 2 ^ j < 2 ^ j) (hp : (2 : Int) ^ j ≤ 2147483648 ∧ (1 : Int) ≤ 2 ^ j) (h : ¬ (s = true ∧ (2 : Int) ^ j / 2 ≤ a % 2 ^ j)) : a % 2 ^ j % 4294967296 = extV s a j := by
  have hn : ¬ ((j : Int) < 1 ∨ 32 ≤ (j : Int)) := by omega
  have e := pow_succ2 (j - 1)
  rw [Nat.sub_add_cancel k0] at e
  rw [extV, if_neg hn, Int.toNat_natCast, if_neg (fun g => h ⟨g.1, by omega⟩)]
  exact Int.emod_eq_of_lt l0 (by omega)

end Go.Proofs.YtmegghgjllbamaaGreatDoor.Wo

/- Contracts of the leading bits of a word, of the program's and of the document's. -/
namespace Go.Proofs.YtmegghgjllbamaaGreatDoor.Wo
open Go.RowKit
set_option linter.unusedVariables false
set_option maxRecDepth 100000

theorem len_3 (x : Int) (h0 : 0 ≤ x) (h1 : x < 4294967296) (h : 16777216 ≤ x) : 24 + Lib.len8 (x / 65536 / 256) = (Lib.bitLen x.toNat : Int) ∧ 0 ≤ Lib.len8 (x / 65536 / 256) ∧ Lib.len8 (x / 65536 / 256) ≤ 8 := by
  rw [Lib.len8_of (x / 65536 / 256) (by omega) (by omega)]
  have e : (x / 65536 / 256).toNat = x.toNat / 16777216 := by omega
  have l := Lib.bitLen_le8' (x / 65536 / 256) (by omega) (by omega)
  have s := Lib.bitLen_shift24 x.toNat (by omega) (by omega)
  rw [e] at l ⊢
  omega
theorem len_2 (x : Int) (h0 : 0 ≤ x) (h1 : x < 16777216) (h : 65536 ≤ x) : 16 + Lib.len8 (x / 65536) = (Lib.bitLen x.toNat : Int) ∧ 0 ≤ Lib.len8 (x / 65536) ∧ Lib.len8 (x / 65536) ≤ 8 := by
  rw [Lib.len8_of (x / 65536) (by omega) (by omega)]
  have e : (x / 65536).toNat = x.toNat / 65536 := by omega
  have l := Lib.bitLen_le8' (x / 65536) (by omega) (by omega)
  have s := Lib.bitLen_shift16 x.toNat (by omega) (by omega)
  rw [e] at l ⊢
  omega
theorem len_1 (x : Int) (h0 : 0 ≤ x) (h1 : x < 65536) (h : 256 ≤ x) : 8 + Lib.len8 (x / 256) = (Lib.bitLen x.toNat : Int) ∧ 0 ≤ Lib.len8 (x / 256) ∧ Lib.len8 (x / 256) ≤ 8 := by
  rw [Lib.len8_of (x / 256) (by omega) (by omega)]
  have e : (x / 256).toNat = x.toNat / 256 := by omega
  have l := Lib.bitLen_le8' (x / 256) (by omega) (by omega)
  have s := Lib.bitLen_shift8 x.toNat (by omega) (by omega)
  rw [e] at l ⊢
  omega
theorem len_0 (x : Int) (h0 : 0 ≤ x) (h1 : x < 256) : Lib.len8 (x) = (Lib.bitLen x.toNat : Int) ∧ 0 ≤ Lib.len8 (x) ∧ Lib.len8 (x) ≤ 8 := by
  rw [Lib.len8_of (x) (by omega) (by omega)]
  have e : (x).toNat = x.toNat := by omega
  have l := Lib.bitLen_le8' (x) (by omega) (by omega)
  rw [e] at l ⊢
  omega

set_option maxHeartbeats 1000000 in
set_option maxRecDepth 100000 in
theorem len32_3 (x : Int) (w : World) (h0 : 0 ≤ x) (h1 : x < 4294967296) (h : 16777216 ≤ x) :
    Calls Tryz.prog 137 #[.int .u32 x] w fun e w' => e = .returned (.int .i64 (Lib.bitLen x.toNat)) ∧ w' = w := by
  obtain ⟨hl, hl0, hl1⟩ := len_3 x h0 h1 h
  have HL := hide hl
  clear hl
  have hidx : ∀ wx, (Instr.index 9 (.string Lib.len8tab) (.int .u8 (x / 65536 / 256))).run Tryz.prog wx = .ok (.int .u8 (Lib.len8 (x / 65536 / 256))) wx :=
    fun wx => Lib.run_index_len8tab wx 9 .u8 (x / 65536 / 256) Tryz.underlying9 (by omega) (by omega)
  have t1 : decide (65536 ≤ x) = true := by simp; omega
  have t2 : decide (256 ≤ x / 65536) = true := by simp; omega
  go_enter Tryz.func137, Tryz.ntmps137
  go_wp2
  go_ret
  exact ⟨ret_int (by rw [← HL.out]), rfl⟩

set_option maxHeartbeats 1000000 in
set_option maxRecDepth 100000 in
theorem len32_2 (x : Int) (w : World) (h0 : 0 ≤ x) (h1 : x < 16777216) (h : 65536 ≤ x) :
    Calls Tryz.prog 137 #[.int .u32 x] w fun e w' => e = .returned (.int .i64 (Lib.bitLen x.toNat)) ∧ w' = w := by
  obtain ⟨hl, hl0, hl1⟩ := len_2 x h0 h1 h
  have HL := hide hl
  clear hl
  have hidx : ∀ wx, (Instr.index 9 (.string Lib.len8tab) (.int .u8 (x / 65536))).run Tryz.prog wx = .ok (.int .u8 (Lib.len8 (x / 65536))) wx :=
    fun wx => Lib.run_index_len8tab wx 9 .u8 (x / 65536) Tryz.underlying9 (by omega) (by omega)
  have t1 : decide (65536 ≤ x) = true := by simp; omega
  have t2 : decide (256 ≤ x / 65536) = false := by simp; omega
  go_enter Tryz.func137, Tryz.ntmps137
  go_wp2
  go_ret
  exact ⟨ret_int (by rw [← HL.out]), rfl⟩

set_option maxHeartbeats 1000000 in
set_option maxRecDepth 100000 in
theorem len32_1 (x : Int) (w : World) (h0 : 0 ≤ x) (h1 : x < 65536) (h : 256 ≤ x) :
    Calls Tryz.prog 137 #[.int .u32 x] w fun e w' => e = .returned (.int .i64 (Lib.bitLen x.toNat)) ∧ w' = w := by
  obtain ⟨hl, hl0, hl1⟩ := len_1 x h0 h1 h
  have HL := hide hl
  clear hl
  have hidx : ∀ wx, (Instr.index 9 (.string Lib.len8tab) (.int .u8 (x / 256))).run Tryz.prog wx = .ok (.int .u8 (Lib.len8 (x / 256))) wx :=
    fun wx => Lib.run_index_len8tab wx 9 .u8 (x / 256) Tryz.underlying9 (by omega) (by omega)
  have t1 : decide (65536 ≤ x) = false := by simp; omega
  have t2 : decide (256 ≤ x) = true := by simp; omega
  go_enter Tryz.func137, Tryz.ntmps137
  go_wp2
  go_ret
  exact ⟨ret_int (by rw [← HL.out]), rfl⟩

set_option maxHeartbeats 1000000 in
set_option maxRecDepth 100000 in
theorem len32_0 (x : Int) (w : World) (h0 : 0 ≤ x) (h1 : x < 256) :
    Calls Tryz.prog 137 #[.int .u32 x] w fun e w' => e = .returned (.int .i64 (Lib.bitLen x.toNat)) ∧ w' = w := by
  obtain ⟨hl, hl0, hl1⟩ := len_0 x h0 h1
  have HL := hide hl
  clear hl
  have hidx : ∀ wx, (Instr.index 9 (.string Lib.len8tab) (.int .u8 (x))).run Tryz.prog wx = .ok (.int .u8 (Lib.len8 (x))) wx :=
    fun wx => Lib.run_index_len8tab wx 9 .u8 (x) Tryz.underlying9 (by omega) (by omega)
  have t1 : decide (65536 ≤ x) = false := by simp; omega
  have t2 : decide (256 ≤ x) = false := by simp; omega
  go_enter Tryz.func137, Tryz.ntmps137
  go_wp2
  go_ret
  exact ⟨ret_int (by rw [← HL.out]), rfl⟩

theorem len32_any (x : Int) (w : World) (h0 : 0 ≤ x) (h1 : x < 4294967296) :
    Calls Tryz.prog 137 #[.int .u32 x] w fun e w' => e = .returned (.int .i64 (Lib.bitLen x.toNat)) ∧ w' = w := by
  rcases Int.lt_or_le x 256 with h | h
  · exact len32_0 x w h0 h
  · rcases Int.lt_or_le x 65536 with g | g
    · exact len32_1 x w h0 g h
    · rcases Int.lt_or_le x 16777216 with f | f
      · exact len32_2 x w h0 f g
      · exact len32_3 x w h0 h1 f

theorem bitLen_word (x : Int) (h0 : 0 ≤ x) (h1 : x < 4294967296) : Lib.bitLen x.toNat ≤ 32 := Lib.bitLen_le x.toNat 32 (by decide) (by omega)

set_option maxHeartbeats 400000 in
theorem zeros_any (x : Int) (w : World) (h0 : 0 ≤ x) (h1 : x < 4294967296) :
    Calls Tryz.prog 132 #[.int .u32 x] w fun e w' => e = .returned (.int .i64 (32 - (Lib.bitLen x.toNat : Nat))) ∧ w' = w := by
  have hb := bitLen_word x h0 h1
  go_enter Tryz.func132, Tryz.ntmps132
  go_wp2_with (go_at_call 137; refine (len32_any _ _ (by assumption) (by assumption)).mono ?_; rintro e w' ⟨rfl, rfl⟩)
  go_ret
  exact ⟨rfl, rfl⟩

set_option maxHeartbeats 400000 in
theorem lead_any (a : Int) (one : Bool) (w : World) (a0 : 0 ≤ a) (a1 : a < 4294967296) :
    Calls Tryz.prog 126 #[.int .u32 a, .bool one] w fun e w' => e = .returned (.int .i64 (leadV one a)) ∧ w' = w := by
  cases one
  · go_enter Tryz.func126, Tryz.ntmps126
    go_wp2_with (go_at_call 132; refine (zeros_any _ _ (by assumption) (by assumption)).mono ?_; rintro e w' ⟨rfl, rfl⟩)
    go_ret
    exact ⟨rfl, rfl⟩
  · have hx := xor_max a a0 a1
    have hm : IntKind.u32.max = 4294967295 := by decide
    rw [hm] at hx
    go_enter Tryz.func126, Tryz.ntmps126
    go_wp2_with (go_at_call 132; refine (zeros_any _ _ (by omega) (by omega)).mono ?_; rintro e w' ⟨rfl, rfl⟩)
    go_ret
    exact ⟨rfl, rfl⟩

end Go.Proofs.YtmegghgjllbamaaGreatDoor.Wo
