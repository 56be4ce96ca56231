/- The plain arithmetic of words of 32 bits, over whole numbers: what a word means with a sign, and whether a number leaves those with a sign. No condition. -/
import GoSem.Claim
import Derived.Laws.BitsAllLaws
import Derived.WalkKit
import Derived.Test.YthjcijlabpinkaaGreatDoorRows
import Derived.WalkSpells
import Derived.WalkLawsBesides
import Derived.Lib.BitFns
namespace Go.Proofs.YthjcijlabpinkaaGreatDoor.Wo

def mean (a : Int) : Int := if 2147483648 ≤ a then a - 4294967296 else a
def meanB (s : Bool) (a : Int) : Int := if s then mean a else a
def outB (n : Int) : Bool := decide (n < -2147483648) || decide (2147483647 < n)

theorem mean_bd (a : Int) (h0 : 0 ≤ a) (h1 : a < 4294967296) : -2147483648 ≤ mean a ∧ mean a ≤ 2147483647 := by
  unfold mean; split <;> omega
theorem meanB_bd (s : Bool) (a : Int) (h0 : 0 ≤ a) (h1 : a < 4294967296) : -2147483648 ≤ meanB s a ∧ meanB s a < 4294967296 := by
  have := mean_bd a h0 h1
  unfold meanB; split <;> omega
theorem meanB_ne (s : Bool) (a : Int) (h0 : 0 < a) (h1 : a < 4294967296) : meanB s a ≠ 0 := by
  unfold meanB mean; split <;> (try split) <;> omega
theorem mean_mod (a : Int) : mean a % 4294967296 = a % 4294967296 := by
  unfold mean; split <;> omega

theorem mul_lo (x y : Int) : IntKind.u64.wrap (IntKind.u64.wrap x * IntKind.u64.wrap y) % 4294967296 = x * y % 4294967296 := by
  simp only [IntKind.wrap_u64, ← Int.mul_emod]; omega
theorem mul_hi (x y : Int) : IntKind.u64.wrap (IntKind.u64.wrap x * IntKind.u64.wrap y) / 4294967296 % 4294967296 = x * y / 4294967296 % 4294967296 := by
  simp only [IntKind.wrap_u64, ← Int.mul_emod]; omega

theorem wrap64_nn (n : Int) : RowKit.wrap64 (-RowKit.wrap64 (-n)) % 4294967296 = n % 4294967296 := by
  unfold RowKit.wrap64; omega
theorem wrap64_mod (n : Int) : RowKit.wrap64 n % 4294967296 = n % 4294967296 := by
  unfold RowKit.wrap64; omega

def shiftV (k a n : Int) : Int :=
  if k = 0 then a * 2 ^ (n % 32).toNat % 4294967296 else if k = 1 then a / 2 ^ (n % 32).toNat else if k = 2 then mean a / 2 ^ (n % 32).toNat % 4294967296 else a
def extV (s : Bool) (a n : Int) : Int :=
  if n < 1 ∨ 32 ≤ n then a else if s = true ∧ 2 ^ (n.toNat - 1) ≤ a % 2 ^ n.toNat then a % 2 ^ n.toNat + (4294967296 - 2 ^ n.toNat) else a % 2 ^ n.toNat
theorem and31 (n : Int) : bits .and .i64 n 31 = n % 32 := by
  have e : (BitVec.ofInt 64 n &&& BitVec.ofInt 64 31).toNat = (n % 18446744073709551616).toNat % 32 := by
    rw [BitVec.toNat_and, BitVec.toNat_ofInt, BitVec.toNat_ofInt]
    exact nat_mask5 _
  show IntKind.i64.wrap ((BitVec.ofInt 64 n &&& BitVec.ofInt 64 31).toNat : Int) = n % 32
  rw [e]
  simp [IntKind.wrap, IntKind.bits, IntKind.signed]
  omega
theorem pow_lt (k : Nat) (h : k < 32) : (2 : Int) ^ k ≤ 2147483648 ∧ (1 : Int) ≤ 2 ^ k := by
  have h1 : 2 ^ k ≤ 2 ^ 31 := Nat.pow_le_pow_right (by decide) (by omega)
  have h2 : 0 < 2 ^ k := Nat.two_pow_pos k
  have e : ((2 ^ k : Nat) : Int) = (2 : Int) ^ k := by simp
  rw [← e]; omega
theorem and_mask (a : Int) (k : Nat) (a0 : 0 ≤ a) (a1 : a < 4294967296) (h : k < 32) : bits .and .u32 a (2 ^ k - 1) = a % 2 ^ k := by
  have hp := pow_lt k h
  rw [u32_and a _ a0 a1 (by omega) (by omega)]
  have e : ((2 : Int) ^ k - 1).toNat = 2 ^ k - 1 := by
    have e : ((2 ^ k : Nat) : Int) = (2 : Int) ^ k := by simp
    rw [← e]; omega
  rw [e, Nat.and_two_pow_sub_one_eq_mod]
  have : ((a.toNat : Nat) : Int) = a := Int.toNat_of_nonneg a0
  rw [Int.natCast_emod, this]; simp
theorem xor_max (m : Int) (m0 : 0 ≤ m) (m1 : m < 4294967296) : bits .xor .u32 IntKind.u32.max m = 4294967295 - m := by
  have e : IntKind.u32.max = 4294967295 := by decide
  rw [e, u32_xor _ m (by decide) (by decide) m0 m1]
  obtain ⟨k, rfl⟩ := Int.eq_ofNat_of_zero_le m0
  simp only [Int.toNat_natCast]
  have : (4294967295 : Int).toNat ^^^ k = 4294967295 - k := by
    have hk : k < 2 ^ 32 := by omega
    show 2 ^ 32 - 1 ^^^ k = 2 ^ 32 - 1 - k
    have h1 := BitVec.toNat_not (x := BitVec.ofNat 32 k)
    have h2 := BitVec.xor_allOnes (x := BitVec.ofNat 32 k)
    have h3 := congrArg BitVec.toNat h2
    rw [h1, BitVec.toNat_xor, BitVec.toNat_allOnes, BitVec.toNat_ofNat, Nat.mod_eq_of_lt hk, Nat.xor_comm] at h3
    exact h3
  rw [this]; omega
theorem or_high (l : Int) (k : Nat) (h : k < 32) (l0 : 0 ≤ l) (l1 : l < 2 ^ k) : bits .or .u32 l (bits .xor .u32 IntKind.u32.max (2 ^ k - 1)) = l + (4294967296 - 2 ^ k) := by
  have hp := pow_lt k h
  rw [xor_max _ (by omega) (by omega), u32_or l _ l0 (by omega) (by omega) (by omega)]
  have e : (4294967295 - ((2 : Int) ^ k - 1)).toNat = 2 ^ 32 - 2 ^ k := by
    have e : ((2 ^ k : Nat) : Int) = (2 : Int) ^ k := by simp
    rw [← e]; omega
  rw [e, Nat.or_comm, nat_join k]
  · have e : ((2 ^ k : Nat) : Int) = (2 : Int) ^ k := by simp
    rw [← e] at hp ⊢; omega
  · have : 2 ^ 32 = 2 ^ k * 2 ^ (32 - k) := by rw [← Nat.pow_add]; congr 1; omega
    rw [this]
    have h2 : 2 ^ k * 2 ^ (32 - k) - 2 ^ k = 2 ^ k * (2 ^ (32 - k) - 1) := by rw [Nat.mul_sub, Nat.mul_one]
    rw [h2]; exact Nat.mul_mod_right _ _
  · have e : ((2 ^ k : Nat) : Int) = (2 : Int) ^ k := by simp
    rw [← e] at l1; omega
theorem top_bit (l : Int) (k : Nat) (k0 : 1 ≤ k) (l1 : l < 2 ^ k) : (l / 2 ^ (k - 1) == 1) = decide (2 ^ (k - 1) ≤ l) := by
  have e : (2 : Int) ^ k = 2 ^ (k - 1) * 2 := by rw [← Int.pow_succ]; congr 1; omega
  have hp : (0 : Int) < 2 ^ (k - 1) := Int.pow_pos (by decide)
  rw [e] at l1
  generalize (2 : Int) ^ (k - 1) = p at *
  rw [Bool.eq_iff_iff]; simp
  constructor
  · intro h
    have := Int.ediv_mul_le l (show p ≠ 0 by omega)
    rw [h] at this; omega
  · intro h
    have h1 : 1 ≤ l / p := Int.le_ediv_of_mul_le hp (by omega)
    have h2 : l / p < 2 := Int.ediv_lt_of_lt_mul hp (by omega)
    omega

end Go.Proofs.YthjcijlabpinkaaGreatDoor.Wo

/- Contracts of the program's and the document's small functions on words. -/
namespace Go.Proofs.YthjcijlabpinkaaGreatDoor.Wo
open Go.RowKit
set_option linter.unusedVariables false
set_option maxRecDepth 100000

theorem hide {p : Prop} (h : p) : Hid p := h
theorem ret_int {k : IntKind} {a b : Int} (h : a = b) : Ending.returned (.int k a) = .returned (.int k b) := by rw [h]
theorem ret_bool {a b : Bool} (h : a = b) : Ending.returned (.bool a) = .returned (.bool b) := by rw [h]


theorem ret_int2 {k l : IntKind} {a b c d : Int} (h : a = b) (h' : c = d) : Ending.returned (.tuple #[.int k a, .int l c]) = .returned (.tuple #[.int k b, .int l d]) := by rw [h, h']
theorem ret_int3 {k l m : IntKind} {a b c d x y : Int} (h : a = b) (h' : c = d) (h'' : x = y) : Ending.returned (.tuple #[.int k a, .int l c, .int m x]) = .returned (.tuple #[.int k b, .int l d, .int m y]) := by rw [h, h', h'']
theorem tmod_neg (n m : Int) (hm : 0 < m) (h : n.tmod m < 0) : n.tmod m + m = n % m := by
  rw [Int.tmod_eq_emod] at h ⊢
  have := Int.emod_nonneg n (Int.ne_of_gt hm)
  have := Int.emod_lt_of_pos n hm
  split at h <;> split <;> omega
theorem tmod_pos (n m : Int) (hm : 0 < m) (h : 0 ≤ n.tmod m) : n.tmod m = n % m := by
  rw [Int.tmod_eq_emod] at h ⊢
  have := Int.emod_nonneg n (Int.ne_of_gt hm)
  have := Int.emod_lt_of_pos n hm
  split at h <;> split <;> omega

set_option maxHeartbeats 400000 in
theorem leaves_any (n : Int) (w : World) :
    Calls Tryz.prog 254 #[.int .i64 n] w fun e w' => e = .returned (.bool (outB n)) ∧ w' = w := by
  go_enter Tryz.func254, Tryz.ntmps254
  go_wp2
  all_goals go_ret
  all_goals exact ⟨ret_bool (by simp [outB, *]), rfl⟩

set_option maxHeartbeats 400000 in
theorem meaning_any (a : Int) (s : Bool) (w : World) (h0 : 0 ≤ a) (h1 : a < 4294967296) :
    Calls Tryz.prog 243 #[.int .u32 a, .bool s] w fun e w' => e = .returned (.int .i64 (meanB s a)) ∧ w' = w := by
  go_enter Tryz.func243, Tryz.ntmps243
  go_wp2
  all_goals go_ret
  · exact ⟨ret_int (by simp [meanB, mean, *]), rfl⟩
  · exact ⟨ret_int (by simp [meanB, mean, *]; omega), rfl⟩
  · exact ⟨ret_int (by simp [meanB, *]), rfl⟩

set_option maxHeartbeats 400000 in
theorem word_any (n : Int) (w : World) :
    Calls Tryz.prog 68 #[.int .i64 n] w fun e w' => e = .returned (.int .u32 (n % 4294967296)) ∧ w' = w := by
  have hb := Int.emod_nonneg n (show (4294967296 : Int) ≠ 0 by decide)
  have hc := Int.emod_lt_of_pos n (show (0 : Int) < 4294967296 by decide)
  have ht := Int.tmod_eq_emod (a := n) (b := 4294967296)
  have hl : -4294967296 < n.tmod 4294967296 ∧ n.tmod 4294967296 < 4294967296 := by rw [ht]; split <;> omega
  clear ht
  go_enter Tryz.func68, Tryz.ntmps68
  go_wp2
  all_goals go_ret
  · refine ⟨ret_int ?_, rfl⟩
    rw [tmod_neg n _ (by decide) ‹_›]
  · refine ⟨ret_int ?_, rfl⟩
    rw [tmod_pos n _ (by decide) ‹_›]

end Go.Proofs.YthjcijlabpinkaaGreatDoor.Wo

/- Contracts of the sums, differences, products, quotients and comparisons of words, of the program's and of the document's. -/
namespace Go.Proofs.YthjcijlabpinkaaGreatDoor.Wo
open Go.RowKit
set_option linter.unusedVariables false
set_option maxRecDepth 100000

set_option maxHeartbeats 400000 in
theorem add_any (a b : Int) (w : World) (a0 : 0 ≤ a) (a1 : a < 4294967296) (b0 : 0 ≤ b) (b1 : b < 4294967296) :
    Calls Tryz.prog 246 #[.int .u32 a, .int .u32 b] w fun e w' => e = .returned (.tuple #[.int .u32 ((a + b) % 4294967296), .bool (outB (mean a + mean b))]) ∧ w' = w := by
  have ha := mean_bd a a0 a1
  have hb := mean_bd b b0 b1
  go_enter Tryz.func246, Tryz.ntmps246
  go_wp2_with (first | (go_at_call 243; refine (meaning_any _ _ _ (by assumption) (by assumption)).mono ?_; rintro e w' ⟨rfl, rfl⟩; simp only [meanB, if_true]) | (go_at_call 254; refine (leaves_any _ _).mono ?_; rintro e w' ⟨rfl, rfl⟩))
  go_ret2
  exact ⟨rfl, rfl⟩

set_option maxHeartbeats 400000 in
theorem sub_any (a b : Int) (w : World) (a0 : 0 ≤ a) (a1 : a < 4294967296) (b0 : 0 ≤ b) (b1 : b < 4294967296) :
    Calls Tryz.prog 247 #[.int .u32 a, .int .u32 b] w fun e w' => e = .returned (.tuple #[.int .u32 ((a - b) % 4294967296), .bool (outB (mean a - mean b))]) ∧ w' = w := by
  have ha := mean_bd a a0 a1
  have hb := mean_bd b b0 b1
  go_enter Tryz.func247, Tryz.ntmps247
  go_wp2_with (first | (go_at_call 243; refine (meaning_any _ _ _ (by assumption) (by assumption)).mono ?_; rintro e w' ⟨rfl, rfl⟩; simp only [meanB, if_true]) | (go_at_call 254; refine (leaves_any _ _).mono ?_; rintro e w' ⟨rfl, rfl⟩))
  go_ret2
  exact ⟨rfl, rfl⟩

set_option maxHeartbeats 400000 in
theorem less_any (a b : Int) (s : Bool) (w : World) (a0 : 0 ≤ a) (a1 : a < 4294967296) (b0 : 0 ≤ b) (b1 : b < 4294967296) :
    Calls Tryz.prog 242 #[.int .u32 a, .int .u32 b, .bool s] w fun e w' => e = .returned (.bool (decide (meanB s a < meanB s b))) ∧ w' = w := by
  go_enter Tryz.func242, Tryz.ntmps242
  go_wp2_with (go_at_call 243; refine (meaning_any _ _ _ (by assumption) (by assumption)).mono ?_; rintro e w' ⟨rfl, rfl⟩)
  go_ret
  exact ⟨rfl, rfl⟩

set_option maxHeartbeats 400000 in
theorem mul_any (a b : Int) (s : Bool) (w : World) (a0 : 0 ≤ a) (a1 : a < 4294967296) (b0 : 0 ≤ b) (b1 : b < 4294967296) :
    Calls Tryz.prog 201 #[.int .u32 a, .int .u32 b, .bool s] w fun e w' => e = .returned (.tuple #[.int .u32 (meanB s a * meanB s b / 4294967296 % 4294967296), .int .u32 (meanB s a * meanB s b % 4294967296)]) ∧ w' = w := by
  go_enter Tryz.func201, Tryz.ntmps201
  go_wp2_with (go_at_call 243; refine (meaning_any _ _ _ (by assumption) (by assumption)).mono ?_; rintro e w' ⟨rfl, rfl⟩)
  go_ret2
  exact ⟨ret_int2 (mul_hi _ _) (mul_lo _ _), rfl⟩

set_option maxHeartbeats 400000 in
theorem div_any (a b : Int) (s : Bool) (w : World) (a0 : 0 ≤ a) (a1 : a < 4294967296) (b0 : 0 < b) (b1 : b < 4294967296) :
    Calls Tryz.prog 202 #[.int .u32 a, .int .u32 b, .bool s] w fun e w' => e = .returned (.tuple #[.int .u32 ((meanB s a).tdiv (meanB s b) % 4294967296), .int .u32 ((meanB s a).tmod (meanB s b) % 4294967296), .int .i64 0]) ∧ w' = w.drew := by
  have ha := meanB_bd s a a0 a1
  have hb := meanB_bd s b (by omega) b1
  have hz : (b == 0) = false := by simp; omega
  have hnz : meanB s b ≠ 0 := meanB_ne s b b0 b1
  go_enter Tryz.func202, Tryz.ntmps202
  go_wp2_with (go_at_call 243; refine (meaning_any _ _ _ (by omega) (by assumption)).mono ?_; rintro e w' ⟨rfl, rfl⟩)
  go_region
  go_wp2
  go_ret3
  exact ⟨ret_int3 (wrap64_mod _) rfl rfl, rfl⟩

set_option maxHeartbeats 400000 in
theorem div_zero (a : Int) (s : Bool) (w : World) :
    Calls Tryz.prog 202 #[.int .u32 a, .int .u32 0, .bool s] w fun e w' => e = .returned (.tuple #[.int .u32 0, .int .u32 0, .int .i64 10]) ∧ w' = w := by
  go_enter Tryz.func202, Tryz.ntmps202
  go_wp2
  go_ret3
  exact ⟨rfl, rfl⟩

end Go.Proofs.YthjcijlabpinkaaGreatDoor.Wo

/- Contracts of the document's product, quotient and comparison of words. -/
namespace Go.Proofs.YthjcijlabpinkaaGreatDoor.Wo
open Go.RowKit
set_option linter.unusedVariables false
set_option maxRecDepth 100000

end Go.Proofs.YthjcijlabpinkaaGreatDoor.Wo

/- Contract of the document's product of words. -/
namespace Go.Proofs.YthjcijlabpinkaaGreatDoor.Wo
open Go.RowKit
set_option linter.unusedVariables false
set_option maxRecDepth 100000

end Go.Proofs.YthjcijlabpinkaaGreatDoor.Wo

/- Contracts of shifts, extensions and leading bits of words, of the program's and of the document's. -/
namespace Go.Proofs.YthjcijlabpinkaaGreatDoor.Wo
open Go.RowKit
set_option linter.unusedVariables false
set_option maxRecDepth 100000

set_option maxHeartbeats 400000 in
theorem mod_any (n : Int) (w : World) :
    Calls Tryz.prog 250 #[.int .i64 n] w fun e w' => e = .returned (.int .i64 (n % 32)) ∧ w' = w := by
  have hb := Int.emod_nonneg n (show (32 : Int) ≠ 0 by decide)
  have hc := Int.emod_lt_of_pos n (show (0 : Int) < 32 by decide)
  have ht := Int.tmod_eq_emod (a := n) (b := 32)
  have hl : -32 < n.tmod 32 ∧ n.tmod 32 < 32 := by rw [ht]; split <;> omega
  clear ht
  go_enter Tryz.func250, Tryz.ntmps250
  go_wp2
  all_goals go_ret
  · refine ⟨ret_int ?_, rfl⟩
    rw [tmod_neg n _ (by decide) ‹_›]
  · refine ⟨ret_int ?_, rfl⟩
    rw [tmod_pos n _ (by decide) ‹_›]

set_option maxHeartbeats 400000 in
theorem shift_any (k a n : Int) (w : World) (a0 : 0 ≤ a) (a1 : a < 4294967296) :
    Calls Tryz.prog 248 #[.int .i64 k, .int .u32 a, .int .i64 n] w fun e w' => e = .returned (.int .u32 (shiftV k a n)) ∧ w' = w := by
  have hn := and31 n
  have n0 : 0 ≤ n % 32 := by omega
  have n1 : n % 32 < 32 := by omega
  have hm := mean_bd a a0 a1
  go_enter Tryz.func248, Tryz.ntmps248
  go_wp2_with (go_at_call 243; refine (meaning_any _ _ _ (by assumption) (by assumption)).mono ?_; rintro e w' ⟨rfl, rfl⟩; simp only [meanB, if_true])
  all_goals go_ret
  all_goals refine ⟨ret_int ?_, rfl⟩
  all_goals simp_all [shiftV]

set_option maxHeartbeats 400000 in
theorem ext_in (a : Int) (k : Nat) (s : Bool) (w : World) (a0 : 0 ≤ a) (a1 : a < 4294967296) (k0 : 1 ≤ k) (k1 : k < 32) :
    Calls Tryz.prog 211 #[.int .u32 a, .int .i64 k, .bool s] w fun e w' => e = .returned (.int .u32 (extV s a k)) ∧ w' = w := by
  have hp := pow_lt k k1
  have l0 : 0 ≤ a % 2 ^ k := Int.emod_nonneg _ (by omega)
  have l1 : a % 2 ^ k < 2 ^ k := Int.emod_lt_of_pos _ (by omega)
  have hb := top_bit (a % 2 ^ k) k k0 l1
  have ho := or_high (a % 2 ^ k) k k1 l0 l1
  have ha := and_mask a k a0 a1 k1
  have HB := hide hb
  have HO := hide ho
  have HA := hide ha
  clear hb ho ha
  go_enter Tryz.func211, Tryz.ntmps211
  go_wp2
  all_goals go_ret
  all_goals refine ⟨ret_int ?_, rfl⟩
  all_goals have hB := HB.out
  all_goals have hA := HA.out
  all_goals have hO := HO.out
  all_goals have hn : ¬ ((k : Int) < 1 ∨ 32 ≤ (k : Int)) := by omega
  all_goals simp only [extV, if_neg hn, Int.toNat_natCast]
  · rename_i hs ht hx
    rw [hA, hB] at hx
    rw [if_pos ⟨by first | trivial | exact ht, of_decide_eq_true hx⟩, hA]; exact hO
  · rename_i hs ht
    rw [hA, hB] at ht
    rw [if_neg (fun h => of_decide_eq_false ht h.2), hA]
  · rename_i hs
    rw [if_neg (fun h => hs h.1), hA]

set_option maxHeartbeats 400000 in
theorem ext_out (a n : Int) (s : Bool) (w : World) (h : n < 1 ∨ 32 ≤ n) :
    Calls Tryz.prog 211 #[.int .u32 a, .int .i64 n, .bool s] w fun e w' => e = .returned (.int .u32 (extV s a n)) ∧ w' = w := by
  have e : extV s a n = a := by simp only [extV, if_pos h]
  rw [e]
  rcases h with h | h
  · go_enter Tryz.func211, Tryz.ntmps211
    go_wp2
    go_ret
    exact ⟨rfl, rfl⟩
  · have h' : decide (n < 1) = false := by simp; omega
    go_enter Tryz.func211, Tryz.ntmps211
    go_wp2
    go_ret
    exact ⟨rfl, rfl⟩

theorem ext_any (a n : Int) (s : Bool) (w : World) (a0 : 0 ≤ a) (a1 : a < 4294967296) :
    Calls Tryz.prog 211 #[.int .u32 a, .int .i64 n, .bool s] w fun e w' => e = .returned (.int .u32 (extV s a n)) ∧ w' = w := by
  by_cases h : n < 1 ∨ 32 ≤ n
  · exact ext_out a n s w h
  · obtain ⟨k, rfl⟩ := Int.eq_ofNat_of_zero_le (show 0 ≤ n by omega)
    exact ext_in a k s w a0 a1 (by omega) (by omega)

end Go.Proofs.YthjcijlabpinkaaGreatDoor.Wo

/- The plain arithmetic of the bits ahead of a word: how many are alike, halved and halved again. No condition but that the number is a word. -/
namespace Go.Proofs.YthjcijlabpinkaaGreatDoor.Wo

theorem half_pow (j : Nat) : (2147483648 : Int) / 2 ^ j / 2 = 2147483648 / 2 ^ (j + 1) := by
  rw [Int.pow_succ, Int.ediv_ediv_of_nonneg (Int.pow_nonneg (by decide))]
theorem q_pow (j : Nat) (h : j < 32) : (2147483648 : Int) / 2 ^ j = 2 ^ (31 - j) := by
  have e : (2147483648 : Int) = 2 ^ (31 - j) * 2 ^ j := by
    rw [← Int.pow_add, Nat.sub_add_cancel (by omega)]; rfl
  exact Int.ediv_eq_of_eq_mul_left (by have : (0 : Int) < 2 ^ j := Int.pow_pos (by decide); omega) e
def leadV (one : Bool) (a : Int) : Int := 32 - (Lib.bitLen (if one then 4294967295 - a else a).toNat : Nat)
theorem bitLen_at (x m : Nat) (h : m < 32) (h1 : 2 ^ m ≤ x) (h2 : x < 2 ^ (m + 1)) : Lib.bitLen x = m + 1 := by
  have h3 : (2 : Nat) ^ (m + 1) ≤ 2 ^ 64 := Nat.pow_le_pow_right (by decide) (by omega)
  rw [Lib.bitLen_shift m x h1 (by omega)]
  have h4 : 1 ≤ x / 2 ^ m := (Nat.le_div_iff_mul_le (Nat.two_pow_pos m)).2 (by omega)
  have h5 : x / 2 ^ m < 2 := (Nat.div_lt_iff_lt_mul (Nat.two_pow_pos m)).2 (by rw [Nat.pow_succ] at h2; omega)
  have h6 : x / 2 ^ m = 1 := by omega
  rw [h6]; rfl
theorem lead_at (one : Bool) (a : Int) (j : Nat) (hj : j < 32) (x0 : 0 ≤ (if one then 4294967295 - a else a)) (h1 : 2 ^ (31 - j) ≤ (if one then 4294967295 - a else a))
    (h2 : (if one then 4294967295 - a else a) < 2 ^ (32 - j)) : leadV one a = j := by
  unfold leadV
  obtain ⟨x, hx⟩ := Int.eq_ofNat_of_zero_le x0
  rw [hx] at h1 h2 ⊢
  have e1 : ((2 ^ (31 - j) : Nat) : Int) = (2 : Int) ^ (31 - j) := by simp
  have e2 : ((2 ^ (32 - j) : Nat) : Int) = (2 : Int) ^ (32 - j) := by simp
  rw [← e1] at h1; rw [← e2] at h2
  have e3 : 32 - j = 31 - j + 1 := by omega
  rw [Int.toNat_natCast, bitLen_at x (31 - j) (by omega) (by omega) (by rw [← e3]; omega)]
  omega
theorem lead_end (one : Bool) (a : Int) (x0 : (if one then 4294967295 - a else a) = 0) : leadV one a = 32 := by
  unfold leadV; rw [x0]; rfl
theorem bit_no (a q : Int) (hq : 0 < q) (a0 : 0 ≤ a) (h : a < 2 * q) : (a / q % 2 == 1) = decide (q ≤ a) := by
  have h2 : a / q < 2 := Int.ediv_lt_of_lt_mul hq (by omega)
  have h1 : 0 ≤ a / q := Int.ediv_nonneg a0 (by omega)
  have h3 := Int.ediv_mul_add_emod a q
  have h4 := Int.emod_nonneg a (show q ≠ 0 by omega)
  have h5 := Int.emod_lt_of_pos a hq
  rw [Bool.eq_iff_iff]; simp
  have : a / q = 0 ∨ a / q = 1 := by omega
  rcases this with h | h <;> rw [h] at h3 ⊢ <;> omega
theorem bit_yes (a q t : Int) (hq : 0 < q) (ht : t * 2 * q = 4294967296) (x0 : 0 ≤ 4294967295 - a) (h : 4294967295 - a < 2 * q) : (a / q % 2 == 1) = !decide (q ≤ 4294967295 - a) := by
  have e : a = (a - 4294967296 + 2 * q) + (t - 1) * 2 * q := by rw [Int.sub_mul, Int.sub_mul]; omega
  have e2 : a / q = (a - 4294967296 + 2 * q) / q + (t - 1) * 2 := by
    have := Int.add_mul_ediv_right (a - 4294967296 + 2 * q) ((t - 1) * 2) (show q ≠ 0 by omega)
    rw [← this, ← e]
  have e3 : a / q % 2 = (a - 4294967296 + 2 * q) / q % 2 := by rw [e2]; omega
  rw [e3, bit_no _ q hq (by omega) (by omega), Bool.eq_iff_iff]; simp; omega
theorem t_pow (j : Nat) (h : j < 32) : (2 : Int) ^ j * 2 * (2147483648 / 2 ^ j) = 4294967296 := by
  rw [q_pow j h]
  have : (2 : Int) ^ j * 2 * 2 ^ (31 - j) = 2 ^ (j + 1 + (31 - j)) := by rw [Int.pow_add, Int.pow_succ]
  rw [this]
  have : j + 1 + (31 - j) = 32 := by omega
  rw [this]; rfl

end Go.Proofs.YthjcijlabpinkaaGreatDoor.Wo

/- Contracts of the document's shifts and extensions, and of the leading bits of both. -/
namespace Go.Proofs.YthjcijlabpinkaaGreatDoor.Wo
open Go.RowKit
set_option linter.unusedVariables false
set_option maxRecDepth 100000

end Go.Proofs.YthjcijlabpinkaaGreatDoor.Wo

/- Contracts of the leading bits of a word, of the program's and of the document's. -/
namespace Go.Proofs.YthjcijlabpinkaaGreatDoor.Wo
open Go.RowKit
set_option linter.unusedVariables false
set_option maxRecDepth 100000

theorem len_3 (x : Int) (h0 : 0 ≤ x) (h1 : x < 4294967296) (h : 16777216 ≤ x) : 24 + Lib.len8 (x / 65536 / 256) = (Lib.bitLen x.toNat : Int) ∧ 0 ≤ Lib.len8 (x / 65536 / 256) ∧ Lib.len8 (x / 65536 / 256) ≤ 8 := by
  rw [Lib.len8_of (x / 65536 / 256) (by omega) (by omega)]
  have e : (x / 65536 / 256).toNat = x.toNat / 16777216 := by omega
  have l := Lib.bitLen_le8' (x / 65536 / 256) (by omega) (by omega)
  have s := Lib.bitLen_shift24 x.toNat (by omega) (by omega)
  rw [e] at l ⊢
  omega
theorem len_2 (x : Int) (h0 : 0 ≤ x) (h1 : x < 16777216) (h : 65536 ≤ x) : 16 + Lib.len8 (x / 65536) = (Lib.bitLen x.toNat : Int) ∧ 0 ≤ Lib.len8 (x / 65536) ∧ Lib.len8 (x / 65536) ≤ 8 := by
  rw [Lib.len8_of (x / 65536) (by omega) (by omega)]
  have e : (x / 65536).toNat = x.toNat / 65536 := by omega
  have l := Lib.bitLen_le8' (x / 65536) (by omega) (by omega)
  have s := Lib.bitLen_shift16 x.toNat (by omega) (by omega)
  rw [e] at l ⊢
  omega
theorem len_1 (x : Int) (h0 : 0 ≤ x) (h1 : x < 65536) (h : 256 ≤ x) : 8 + Lib.len8 (x / 256) = (Lib.bitLen x.toNat : Int) ∧ 0 ≤ Lib.len8 (x / 256) ∧ Lib.len8 (x / 256) ≤ 8 := by
  rw [Lib.len8_of (x / 256) (by omega) (by omega)]
  have e : (x / 256).toNat = x.toNat / 256 := by omega
  have l := Lib.bitLen_le8' (x / 256) (by omega) (by omega)
  have s := Lib.bitLen_shift8 x.toNat (by omega) (by omega)
  rw [e] at l ⊢
  omega
theorem len_0 (x : Int) (h0 : 0 ≤ x) (h1 : x < 256) : Lib.len8 (x) = (Lib.bitLen x.toNat : Int) ∧ 0 ≤ Lib.len8 (x) ∧ Lib.len8 (x) ≤ 8 := by
  rw [Lib.len8_of (x) (by omega) (by omega)]
  have e : (x).toNat = x.toNat := by omega
  have l := Lib.bitLen_le8' (x) (by omega) (by omega)
  rw [e] at l ⊢
  omega

set_option maxHeartbeats 1000000 in
set_option maxRecDepth 100000 in
theorem len32_3 (x : Int) (w : World) (h0 : 0 ≤ x) (h1 : x < 4294967296) (h : 16777216 ≤ x) :
    Calls Tryz.prog 260 #[.int .u32 x] w fun e w' => e = .returned (.int .i64 (Lib.bitLen x.toNat)) ∧ w' = w := by
  obtain ⟨hl, hl0, hl1⟩ := len_3 x h0 h1 h
  have HL := hide hl
  clear hl
  have hidx : ∀ wx, (Instr.index 9 (.string Lib.len8tab) (.int .u8 (x / 65536 / 256))).run Tryz.prog wx = .ok (.int .u8 (Lib.len8 (x / 65536 / 256))) wx :=
    fun wx => Lib.run_index_len8tab wx 9 .u8 (x / 65536 / 256) Tryz.underlying9 (by omega) (by omega)
  have t1 : decide (65536 ≤ x) = true := by simp; omega
  have t2 : decide (256 ≤ x / 65536) = true := by simp; omega
  go_enter Tryz.func260, Tryz.ntmps260
  go_wp2
  go_ret
  exact ⟨ret_int (by rw [← HL.out]), rfl⟩

set_option maxHeartbeats 1000000 in
set_option maxRecDepth 100000 in
theorem len32_2 (x : Int) (w : World) (h0 : 0 ≤ x) (h1 : x < 16777216) (h : 65536 ≤ x) :
    Calls Tryz.prog 260 #[.int .u32 x] w fun e w' => e = .returned (.int .i64 (Lib.bitLen x.toNat)) ∧ w' = w := by
  obtain ⟨hl, hl0, hl1⟩ := len_2 x h0 h1 h
  have HL := hide hl
  clear hl
  have hidx : ∀ wx, (Instr.index 9 (.string Lib.len8tab) (.int .u8 (x / 65536))).run Tryz.prog wx = .ok (.int .u8 (Lib.len8 (x / 65536))) wx :=
    fun wx => Lib.run_index_len8tab wx 9 .u8 (x / 65536) Tryz.underlying9 (by omega) (by omega)
  have t1 : decide (65536 ≤ x) = true := by simp; omega
  have t2 : decide (256 ≤ x / 65536) = false := by simp; omega
  go_enter Tryz.func260, Tryz.ntmps260
  go_wp2
  go_ret
  exact ⟨ret_int (by rw [← HL.out]), rfl⟩

set_option maxHeartbeats 1000000 in
set_option maxRecDepth 100000 in
theorem len32_1 (x : Int) (w : World) (h0 : 0 ≤ x) (h1 : x < 65536) (h : 256 ≤ x) :
    Calls Tryz.prog 260 #[.int .u32 x] w fun e w' => e = .returned (.int .i64 (Lib.bitLen x.toNat)) ∧ w' = w := by
  obtain ⟨hl, hl0, hl1⟩ := len_1 x h0 h1 h
  have HL := hide hl
  clear hl
  have hidx : ∀ wx, (Instr.index 9 (.string Lib.len8tab) (.int .u8 (x / 256))).run Tryz.prog wx = .ok (.int .u8 (Lib.len8 (x / 256))) wx :=
    fun wx => Lib.run_index_len8tab wx 9 .u8 (x / 256) Tryz.underlying9 (by omega) (by omega)
  have t1 : decide (65536 ≤ x) = false := by simp; omega
  have t2 : decide (256 ≤ x) = true := by simp; omega
  go_enter Tryz.func260, Tryz.ntmps260
  go_wp2
  go_ret
  exact ⟨ret_int (by rw [← HL.out]), rfl⟩

set_option maxHeartbeats 1000000 in
set_option maxRecDepth 100000 in
theorem len32_0 (x : Int) (w : World) (h0 : 0 ≤ x) (h1 : x < 256) :
    Calls Tryz.prog 260 #[.int .u32 x] w fun e w' => e = .returned (.int .i64 (Lib.bitLen x.toNat)) ∧ w' = w := by
  obtain ⟨hl, hl0, hl1⟩ := len_0 x h0 h1
  have HL := hide hl
  clear hl
  have hidx : ∀ wx, (Instr.index 9 (.string Lib.len8tab) (.int .u8 (x))).run Tryz.prog wx = .ok (.int .u8 (Lib.len8 (x))) wx :=
    fun wx => Lib.run_index_len8tab wx 9 .u8 (x) Tryz.underlying9 (by omega) (by omega)
  have t1 : decide (65536 ≤ x) = false := by simp; omega
  have t2 : decide (256 ≤ x) = false := by simp; omega
  go_enter Tryz.func260, Tryz.ntmps260
  go_wp2
  go_ret
  exact ⟨ret_int (by rw [← HL.out]), rfl⟩

theorem len32_any (x : Int) (w : World) (h0 : 0 ≤ x) (h1 : x < 4294967296) :
    Calls Tryz.prog 260 #[.int .u32 x] w fun e w' => e = .returned (.int .i64 (Lib.bitLen x.toNat)) ∧ w' = w := by
  rcases Int.lt_or_le x 256 with h | h
  · exact len32_0 x w h0 h
  · rcases Int.lt_or_le x 65536 with g | g
    · exact len32_1 x w h0 g h
    · rcases Int.lt_or_le x 16777216 with f | f
      · exact len32_2 x w h0 f g
      · exact len32_3 x w h0 h1 f

theorem bitLen_word (x : Int) (h0 : 0 ≤ x) (h1 : x < 4294967296) : Lib.bitLen x.toNat ≤ 32 := Lib.bitLen_le x.toNat 32 (by decide) (by omega)

set_option maxHeartbeats 400000 in
theorem zeros_any (x : Int) (w : World) (h0 : 0 ≤ x) (h1 : x < 4294967296) :
    Calls Tryz.prog 255 #[.int .u32 x] w fun e w' => e = .returned (.int .i64 (32 - (Lib.bitLen x.toNat : Nat))) ∧ w' = w := by
  have hb := bitLen_word x h0 h1
  go_enter Tryz.func255, Tryz.ntmps255
  go_wp2_with (go_at_call 260; refine (len32_any _ _ (by assumption) (by assumption)).mono ?_; rintro e w' ⟨rfl, rfl⟩)
  go_ret
  exact ⟨rfl, rfl⟩

set_option maxHeartbeats 400000 in
theorem lead_any (a : Int) (one : Bool) (w : World) (a0 : 0 ≤ a) (a1 : a < 4294967296) :
    Calls Tryz.prog 249 #[.int .u32 a, .bool one] w fun e w' => e = .returned (.int .i64 (leadV one a)) ∧ w' = w := by
  cases one
  · go_enter Tryz.func249, Tryz.ntmps249
    go_wp2_with (go_at_call 255; refine (zeros_any _ _ (by assumption) (by assumption)).mono ?_; rintro e w' ⟨rfl, rfl⟩)
    go_ret
    exact ⟨rfl, rfl⟩
  · have hx := xor_max a a0 a1
    have hm : IntKind.u32.max = 4294967295 := by decide
    rw [hm] at hx
    go_enter Tryz.func249, Tryz.ntmps249
    go_wp2_with (go_at_call 255; refine (zeros_any _ _ (by omega) (by omega)).mono ?_; rintro e w' ⟨rfl, rfl⟩)
    go_ret
    exact ⟨rfl, rfl⟩

end Go.Proofs.YthjcijlabpinkaaGreatDoor.Wo
