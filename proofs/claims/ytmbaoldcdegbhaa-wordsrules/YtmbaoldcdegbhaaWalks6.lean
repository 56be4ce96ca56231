/- Contracts of the document's shifts and extensions, and of the leading bits of both. -/
import Derived.Test.YtmbaoldcdegbhaaWalks5
import Derived.Test.YtmbaoldcdegbhaaPlainLead
namespace Go.Proofs.Ytmbaoldcdegbhaa
open Go.RowKit
set_option linter.unusedVariables false

theorem modmod (x : Int) : x % 4294967296 % 4294967296 = x % 4294967296 := by omega
theorem pow_succ2 (j : Nat) : (2 : Int) ^ j * 2 = 2 ^ (j + 1) := (Int.pow_succ 2 j).symm

theorem shl_rem (a : Int) (j : Nat) (h : j < 32) (a0 : 0 ≤ a) : a % (4294967296 / 2 ^ j) * 2 ^ j = a * 2 ^ j % 4294967296 ∧ 1 ≤ (4294967296 : Int) / 2 ^ j ∧ 0 ≤ a % (4294967296 / 2 ^ j) * 2 ^ j ∧ a % (4294967296 / 2 ^ j) * 2 ^ j < 4294967296 := by
  have e : (4294967296 : Int) = 2 ^ (32 - j) * 2 ^ j := by
    rw [← Int.pow_add, Nat.sub_add_cancel (by omega)]; rfl
  have hp := pow_lt j h
  have hq : (1 : Int) ≤ 2 ^ (32 - j) := by have : (0 : Int) < 2 ^ (32 - j) := Int.pow_pos (by decide); omega
  have hd : (4294967296 : Int) / 2 ^ j = 2 ^ (32 - j) := Int.ediv_eq_of_eq_mul_left (by omega) e
  rw [hd]
  have h1 : a % 2 ^ (32 - j) * 2 ^ j = a * 2 ^ j % 4294967296 := by
    rw [e, Int.mul_comm _ (2 ^ j), Int.mul_comm a, Int.mul_comm (2 ^ (32 - j)), Int.mul_emod_mul_of_pos _ _ (by omega)]
  refine ⟨h1, hq, ?_, ?_⟩
  · rw [h1]; omega
  · rw [h1]; omega

theorem shiftV_of (k a n : Int) (j : Nat) (h : (n % 32).toNat = j) : shiftV k a n = if k = 0 then a * 2 ^ j % 4294967296 else if k = 1 then a / 2 ^ j else if k = 2 then mean a / 2 ^ j % 4294967296 else a := by
  subst h; rfl
theorem shiftV_0 (k a n : Int) (j : Nat) (h : (n % 32).toNat = j) (hk : (k == 0) = true) : shiftV k a n = a * 2 ^ j % 4294967296 := by
  rw [shiftV_of k a n j h, if_pos (eq_of_beq hk)]
theorem shiftV_1 (k a n : Int) (j : Nat) (h : (n % 32).toNat = j) (hk : (k == 1) = true) : shiftV k a n = a / 2 ^ j := by
  have := eq_of_beq hk
  rw [shiftV_of k a n j h, if_neg (by omega), if_pos this]
theorem shiftV_2 (k a n : Int) (j : Nat) (h : (n % 32).toNat = j) (hk : (k == 2) = true) : shiftV k a n = mean a / 2 ^ j % 4294967296 := by
  have := eq_of_beq hk
  rw [shiftV_of k a n j h, if_neg (by omega), if_neg (by omega), if_pos this]
theorem shiftV_3 (k a n : Int) (h0 : (k == 0) = false) (h1 : (k == 1) = false) (h2 : (k == 2) = false) : shiftV k a n = a := by
  simp only [beq_eq_false_iff_ne, ne_eq] at h0 h1 h2
  rw [shiftV, if_neg h0, if_neg h1, if_neg h2]
theorem shr_small (a : Int) (j : Nat) (a0 : 0 ≤ a) (a1 : a < 4294967296) : a / 2 ^ j % 4294967296 = a / 2 ^ j := by
  have h1 : a / 2 ^ j ≤ a := Int.ediv_le_self _ a0
  have h2 : 0 ≤ a / 2 ^ j := Int.ediv_nonneg a0 (Int.pow_nonneg (by decide))
  exact Int.emod_eq_of_lt h2 (by omega)

set_option maxHeartbeats 1000000 in
theorem rshift_any (k a n : Int) (w : World) (a0 : 0 ≤ a) (a1 : a < 4294967296) :
    Calls Try.prog 21 #[.int .i64 k, .int .u32 a, .int .i64 n] w fun e w' => e = .returned (.int .u32 (shiftV k a n)) ∧ w' = w := by
  have n0 : 0 ≤ n % 32 := by omega
  have n1 : n % 32 < 32 := by omega
  have hm := mean_bd a a0 a1
  go_enter Try.func21, Try.ntmps21
  go_wp2
  go_loop [7, 8] (fun p i => ∃ j : Nat, (j : Int) ≤ n % 32 ∧ i = .int .i64 j ∧ p = .int .i64 (2 ^ j)) (fun _ i => 32 - (intOf i).toNat)
  case atStart => exact ⟨0, by omega, rfl, rfl⟩
  case round =>
    obtain ⟨j, hj, rfl, rfl⟩ := hrel
    have hp := pow_lt j (by omega)
    by_cases hlt : (j : Int) < n % 32
    · go_wp2_with (go_at_call 31; refine (mod_any _ _).mono ?_; rintro e w' ⟨rfl, rfl⟩)
      go_round
      case rel => exact ⟨j + 1, by omega, by go_num, by rw [pow_succ2]⟩
      case measure => simp [intOf]; omega
    · have hd : decide ((j : Int) < n % 32) = false := by simp; omega
      have hjn : (n % 32).toNat = j := by omega
      have HJ := hide hjn
      clear hjn
      obtain ⟨hs1, hs2, hs3, hs4⟩ := shl_rem a j (by omega) a0
      have HS := hide hs1
      clear hs1
      go_wp2_with (first | (go_at_call 31; refine (mod_any _ _).mono ?_; rintro e w' ⟨rfl, rfl⟩) | (go_at_call 28; refine (word_any _ _).mono ?_; rintro e w' ⟨rfl, rfl⟩) | (go_at_call 30; refine (mean_any _ _ (by assumption) (by assumption)).mono ?_; rintro e w' ⟨rfl, rfl⟩) | (go_at_call 32; refine (down_any _ _ _ (by omega) (by omega) (by omega)).mono ?_; rintro e w' ⟨rfl, rfl⟩))
      all_goals go_ret
      all_goals refine ⟨ret_int ?_, rfl⟩
      · rw [HS.out, modmod, shiftV_0 k a n j HJ.out (by assumption)]
      · rw [shr_small a j a0 a1, shiftV_1 k a n j HJ.out (by assumption)]
      · rw [shiftV_2 k a n j HJ.out (by assumption)]
      · rw [shiftV_3 k a n (by assumption) (by assumption) (by assumption)]

theorem extV_yes (a : Int) (j : Nat) (s : Bool) (k0 : 1 ≤ j) (k1 : j < 32) (l0 : 0 ≤ a % 2 ^ j) (l1 : a % 2 ^ j < 2 ^ j) (hp : (2 : Int) ^ j ≤ 2147483648 ∧ (1 : Int) ≤ 2 ^ j) (hs : s = true) (h : (2 : Int) ^ j / 2 ≤ a % 2 ^ j) : (a % 2 ^ j - 2 ^ j) % 4294967296 = extV s a j := by
  have hn : ¬ ((j : Int) < 1 ∨ 32 ≤ (j : Int)) := by omega
  have e := pow_succ2 (j - 1)
  rw [Nat.sub_add_cancel k0] at e
  rw [extV, if_neg hn, Int.toNat_natCast, if_pos ⟨hs, by omega⟩]
  omega
theorem extV_no (a : Int) (j : Nat) (s : Bool) (k0 : 1 ≤ j) (k1 : j < 32) (l0 : 0 ≤ a % 2 ^ j) (l1 : a % 2 ^ j < 2 ^ j) (hp : (2 : Int) ^ j ≤ 2147483648 ∧ (1 : Int) ≤ 2 ^ j) (h : ¬ (s = true ∧ (2 : Int) ^ j / 2 ≤ a % 2 ^ j)) : a % 2 ^ j % 4294967296 = extV s a j := by
  have hn : ¬ ((j : Int) < 1 ∨ 32 ≤ (j : Int)) := by omega
  have e := pow_succ2 (j - 1)
  rw [Nat.sub_add_cancel k0] at e
  rw [extV, if_neg hn, Int.toNat_natCast, if_neg (fun g => h ⟨g.1, by omega⟩)]
  exact Int.emod_eq_of_lt l0 (by omega)

set_option maxHeartbeats 1000000 in
theorem rext_in (a : Int) (k : Nat) (s : Bool) (w : World) (a0 : 0 ≤ a) (a1 : a < 4294967296) (k0 : 1 ≤ k) (k1 : k < 32) :
    Calls Try.prog 23 #[.int .u32 a, .int .i64 k, .bool s] w fun e w' => e = .returned (.int .u32 (extV s a k)) ∧ w' = w := by
  have hk1 : decide ((k : Int) < 1) = false := by simp; omega
  have hk2 : decide (31 < (k : Int)) = false := by simp; omega
  go_enter Try.func23, Try.ntmps23
  go_wp2
  go_loop [7, 8] (fun p i => ∃ j : Nat, j ≤ k ∧ i = .int .i64 j ∧ p = .int .i64 (2 ^ j)) (fun _ i => 32 - (intOf i).toNat)
  case atStart => exact ⟨0, by omega, rfl, rfl⟩
  case round =>
    obtain ⟨j, hj, rfl, rfl⟩ := hrel
    have hp := pow_lt j (by omega)
    by_cases hlt : j < k
    · go_wp2
      go_round
      case rel => exact ⟨j + 1, by omega, by go_num, by rw [pow_succ2]⟩
      case measure => simp [intOf]; omega
    · have hd : decide ((j : Int) < (k : Int)) = false := by simp; omega
      have hjk : j = k := by omega
      subst hjk
      have l0 : 0 ≤ a % 2 ^ j := Int.emod_nonneg _ (by omega)
      have l1 : a % 2 ^ j < 2 ^ j := Int.emod_lt_of_pos _ (by omega)
      go_wp2_with (go_at_call 28; refine (word_any _ _).mono ?_; rintro e w' ⟨rfl, rfl⟩)
      all_goals go_ret
      all_goals refine ⟨ret_int ?_, rfl⟩
      · exact extV_yes a j s k0 k1 l0 l1 hp (by assumption) (by assumption)
      · exact extV_no a j s k0 k1 l0 l1 hp (fun g => absurd g.2 (Int.not_le.mpr (by assumption)))
      · exact extV_no a j s k0 k1 l0 l1 hp (fun g => absurd g.1 (by assumption))

set_option maxHeartbeats 400000 in
theorem rext_out (a n : Int) (s : Bool) (w : World) (h : n < 1 ∨ 32 ≤ n) :
    Calls Try.prog 23 #[.int .u32 a, .int .i64 n, .bool s] w fun e w' => e = .returned (.int .u32 (extV s a n)) ∧ w' = w := by
  have e : extV s a n = a := by simp only [extV, if_pos h]
  rw [e]
  rcases h with h | h
  · go_enter Try.func23, Try.ntmps23
    go_wp2
    go_ret
    exact ⟨rfl, rfl⟩
  · have h' : decide (n < 1) = false := by simp; omega
    have h'' : decide (31 < n) = true := by simp; omega
    go_enter Try.func23, Try.ntmps23
    go_wp2
    go_ret
    exact ⟨rfl, rfl⟩

theorem rext_any (a n : Int) (s : Bool) (w : World) (a0 : 0 ≤ a) (a1 : a < 4294967296) :
    Calls Try.prog 23 #[.int .u32 a, .int .i64 n, .bool s] w fun e w' => e = .returned (.int .u32 (extV s a n)) ∧ w' = w := by
  by_cases h : n < 1 ∨ 32 ≤ n
  · exact rext_out a n s w h
  · obtain ⟨k, rfl⟩ := Int.eq_ofNat_of_zero_le (show 0 ≤ n by omega)
    exact rext_in a k s w a0 a1 (by omega) (by omega)

end Go.Proofs.Ytmbaoldcdegbhaa
