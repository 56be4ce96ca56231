/- Contract of the document's product of words. -/
import Derived.Test.YtmbaoldcdegbhaaWalks3
namespace Go.Proofs.Ytmbaoldcdegbhaa
open Go.RowKit
set_option linter.unusedVariables false

theorem prod_bd (x y : Int) (x0 : 0 ≤ x) (x1 : x < 65536) (y0 : 0 ≤ y) (y1 : y < 4294967296) : 0 ≤ x * y ∧ x * y ≤ 281470681677825 := by
  refine ⟨Int.mul_nonneg x0 y0, ?_⟩
  have h1 : x * y ≤ 65535 * y := Int.mul_le_mul_of_nonneg_right (by omega) y0
  omega
theorem low_bd (x y : Int) (x0 : 0 ≤ x) (x1 : x < 4294967296) (y0 : 0 ≤ y) (y1 : y < 4294967296) : 0 ≤ x % 65536 * y ∧ x % 65536 * y ≤ 281470681677825 :=
  prod_bd _ _ (by omega) (by omega) y0 y1
theorem mid_bd (x y : Int) (x0 : 0 ≤ x) (x1 : x < 4294967296) (y0 : 0 ≤ y) (y1 : y < 4294967296) : 0 ≤ x / 65536 * y ∧ x / 65536 * y ≤ 281470681677825 :=
  prod_bd _ _ (by omega) (by omega) y0 y1
theorem halves (x y : Int) : x * y = x / 65536 * y * 65536 + x % 65536 * y := by
  have h : x = x / 65536 * 65536 + x % 65536 := by omega
  have h2 : x * y = (x / 65536 * 65536 + x % 65536) * y := by rw [← h]
  rw [h2, Int.add_mul, Int.mul_right_comm]

theorem mean_as (a x : Int) (h : mean a = x) (w : World) (h0 : 0 ≤ a) (h1 : a < 4294967296) :
    Calls Try.prog 30 #[.int .u32 a] w fun e w' => e = .returned (.int .i64 x) ∧ w' = w := h ▸ mean_any a w h0 h1

set_option maxHeartbeats 400000 in
theorem rmul_u (a b : Int) (w : World) (a0 : 0 ≤ a) (a1 : a < 4294967296) (b0 : 0 ≤ b) (b1 : b < 4294967296) :
    Calls Try.prog 15 #[.int .u32 a, .int .u32 b, .bool false] w fun e w' => e = .returned (.tuple #[.int .u32 (a * b / 4294967296 % 4294967296), .int .u32 (a * b % 4294967296)]) ∧ w' = w := by
  have hl := low_bd a b a0 a1 b0 b1
  have hm := mid_bd a b a0 a1 b0 b1
  go_enter Try.func15, Try.ntmps15
  go_wp2_with (go_at_call 28; refine (word_any _ _).mono ?_; rintro e w' ⟨rfl, rfl⟩)
  go_ret2
  have hh := halves a b
  refine ⟨ret_int2 ?_ ?_, rfl⟩
  all_goals (rw [hh]; omega)

set_option maxHeartbeats 400000 in
theorem rmul_pp (a b m n : Int) (w : World) (a0 : 0 ≤ a) (a1 : a < 4294967296) (b0 : 0 ≤ b) (b1 : b < 4294967296)
    (ha : mean a = m) (hb : mean b = n) (m0 : 0 ≤ m) (m1 : m < 4294967296) (n0 : 0 ≤ n) (n1 : n < 4294967296) :
    Calls Try.prog 15 #[.int .u32 a, .int .u32 b, .bool true] w fun e w' => e = .returned (.tuple #[.int .u32 (m * n / 4294967296 % 4294967296), .int .u32 (m * n % 4294967296)]) ∧ w' = w := by
  have hl := low_bd m n m0 m1 n0 n1
  have hm := mid_bd m n m0 m1 n0 n1
  have hxd : decide (m < 0) = false := by simp; omega
  have hyd : decide (n < 0) = false := by simp; omega
  have HA : Hid (mean a = m) := ha
  have HB : Hid (mean b = n) := hb
  clear ha hb
  go_enter Try.func15, Try.ntmps15
  go_wp2_with fail
  refine (mean_as _ _ HA.out _ a0 a1).mono ?_; rintro e w' ⟨rfl, rfl⟩
  go_wp2_with fail
  refine (mean_as _ _ HB.out _ b0 b1).mono ?_; rintro e w' ⟨rfl, rfl⟩
  go_wp2_with (go_at_call 28; refine (word_any _ _).mono ?_; rintro e w' ⟨rfl, rfl⟩)
  go_ret2
  have hh := halves m n
  refine ⟨ret_int2 ?_ ?_, rfl⟩
  all_goals (rw [hh]; omega)

set_option maxHeartbeats 400000 in
theorem rmul_nn (a b m n : Int) (w : World) (a0 : 0 ≤ a) (a1 : a < 4294967296) (b0 : 0 ≤ b) (b1 : b < 4294967296)
    (ha : mean a = -m) (hb : mean b = -n) (m0 : 0 < m) (m1 : m < 4294967296) (n0 : 0 < n) (n1 : n < 4294967296) :
    Calls Try.prog 15 #[.int .u32 a, .int .u32 b, .bool true] w fun e w' => e = .returned (.tuple #[.int .u32 (m * n / 4294967296 % 4294967296), .int .u32 (m * n % 4294967296)]) ∧ w' = w := by
  have hl := low_bd m n (by omega) m1 (by omega) n1
  have hm := mid_bd m n (by omega) m1 (by omega) n1
  have HA : Hid (mean a = -m) := ha
  have HB : Hid (mean b = -n) := hb
  clear ha hb
  go_enter Try.func15, Try.ntmps15
  go_wp2_with fail
  refine (mean_as _ _ HA.out _ a0 a1).mono ?_; rintro e w' ⟨rfl, rfl⟩
  go_wp2_with fail
  refine (mean_as _ _ HB.out _ b0 b1).mono ?_; rintro e w' ⟨rfl, rfl⟩
  go_wp2_with (go_at_call 28; refine (word_any _ _).mono ?_; rintro e w' ⟨rfl, rfl⟩)
  all_goals go_ret2
  all_goals have hh := halves m n
  all_goals refine ⟨ret_int2 ?_ ?_, rfl⟩
  all_goals (rw [hh]; omega)

set_option maxHeartbeats 400000 in
theorem rmul_pn (a b m n : Int) (w : World) (a0 : 0 ≤ a) (a1 : a < 4294967296) (b0 : 0 ≤ b) (b1 : b < 4294967296)
    (ha : mean a = m) (hb : mean b = -n) (m0 : 0 ≤ m) (m1 : m < 4294967296) (n0 : 0 < n) (n1 : n < 4294967296) :
    Calls Try.prog 15 #[.int .u32 a, .int .u32 b, .bool true] w fun e w' => e = .returned (.tuple #[.int .u32 (-(m * n) / 4294967296 % 4294967296), .int .u32 (-(m * n) % 4294967296)]) ∧ w' = w := by
  have hl := low_bd m n (by omega) m1 (by omega) n1
  have hm := mid_bd m n (by omega) m1 (by omega) n1
  have hxd : decide (m < 0) = false := by simp; omega
  have HA : Hid (mean a = m) := ha
  have HB : Hid (mean b = -n) := hb
  clear ha hb
  go_enter Try.func15, Try.ntmps15
  go_wp2_with fail
  refine (mean_as _ _ HA.out _ a0 a1).mono ?_; rintro e w' ⟨rfl, rfl⟩
  go_wp2_with fail
  refine (mean_as _ _ HB.out _ b0 b1).mono ?_; rintro e w' ⟨rfl, rfl⟩
  go_wp2_with (go_at_call 28; refine (word_any _ _).mono ?_; rintro e w' ⟨rfl, rfl⟩)
  all_goals go_ret2
  all_goals have hh := halves m n
  all_goals refine ⟨ret_int2 ?_ ?_, rfl⟩
  all_goals (rw [hh]; simp_all; omega)

set_option maxHeartbeats 400000 in
theorem rmul_np (a b m n : Int) (w : World) (a0 : 0 ≤ a) (a1 : a < 4294967296) (b0 : 0 ≤ b) (b1 : b < 4294967296)
    (ha : mean a = -m) (hb : mean b = n) (m0 : 0 < m) (m1 : m < 4294967296) (n0 : 0 ≤ n) (n1 : n < 4294967296) :
    Calls Try.prog 15 #[.int .u32 a, .int .u32 b, .bool true] w fun e w' => e = .returned (.tuple #[.int .u32 (-(m * n) / 4294967296 % 4294967296), .int .u32 (-(m * n) % 4294967296)]) ∧ w' = w := by
  have hl := low_bd m n (by omega) m1 (by omega) n1
  have hm := mid_bd m n (by omega) m1 (by omega) n1
  have hyd : decide (n < 0) = false := by simp; omega
  have HA : Hid (mean a = -m) := ha
  have HB : Hid (mean b = n) := hb
  clear ha hb
  go_enter Try.func15, Try.ntmps15
  go_wp2_with fail
  refine (mean_as _ _ HA.out _ a0 a1).mono ?_; rintro e w' ⟨rfl, rfl⟩
  go_wp2_with fail
  refine (mean_as _ _ HB.out _ b0 b1).mono ?_; rintro e w' ⟨rfl, rfl⟩
  go_wp2_with (go_at_call 28; refine (word_any _ _).mono ?_; rintro e w' ⟨rfl, rfl⟩)
  all_goals go_ret2
  all_goals have hh := halves m n
  all_goals refine ⟨ret_int2 ?_ ?_, rfl⟩
  all_goals (rw [hh]; simp_all; omega)

theorem rmul_any (a b : Int) (s : Bool) (w : World) (a0 : 0 ≤ a) (a1 : a < 4294967296) (b0 : 0 ≤ b) (b1 : b < 4294967296) :
    Calls Try.prog 15 #[.int .u32 a, .int .u32 b, .bool s] w fun e w' => e = .returned (.tuple #[.int .u32 (meanB s a * meanB s b / 4294967296 % 4294967296), .int .u32 (meanB s a * meanB s b % 4294967296)]) ∧ w' = w := by
  have ha := mean_bd a a0 a1
  have hb := mean_bd b b0 b1
  cases s
  · exact rmul_u a b w a0 a1 b0 b1
  · show Calls Try.prog 15 #[.int .u32 a, .int .u32 b, .bool true] w fun e w' => e = .returned (.tuple #[.int .u32 (mean a * mean b / 4294967296 % 4294967296), .int .u32 (mean a * mean b % 4294967296)]) ∧ w' = w
    rcases Int.lt_or_le (mean a) 0 with hx | hx <;> rcases Int.lt_or_le (mean b) 0 with hy | hy
    · have h := rmul_nn a b (-mean a) (-mean b) w a0 a1 b0 b1 (by omega) (by omega) (by omega) (by omega) (by omega) (by omega)
      rwa [Int.neg_mul_neg] at h
    · have h := rmul_np a b (-mean a) (mean b) w a0 a1 b0 b1 (by omega) (by omega) (by omega) (by omega) (by omega) (by omega)
      rwa [Int.neg_mul, Int.neg_neg] at h
    · have h := rmul_pn a b (mean a) (-mean b) w a0 a1 b0 b1 (by omega) (by omega) (by omega) (by omega) (by omega) (by omega)
      rwa [Int.mul_neg, Int.neg_neg] at h
    · exact rmul_pp a b (mean a) (mean b) w a0 a1 b0 b1 (by omega) (by omega) (by omega) (by omega) (by omega) (by omega)

end Go.Proofs.Ytmbaoldcdegbhaa
