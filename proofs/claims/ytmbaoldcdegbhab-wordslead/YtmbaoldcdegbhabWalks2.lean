/- Contracts of the sums, differences, products, quotients and comparisons of words, of the program's and of the document's. -/
import Derived.Test.YtmbaoldcdegbhabWalks
namespace Go.Proofs.Ytmbaoldcdegbhab
open Go.RowKit
set_option linter.unusedVariables false

set_option maxHeartbeats 400000 in
theorem add_any (a b : Int) (w : World) (a0 : 0 ≤ a) (a1 : a < 4294967296) (b0 : 0 ≤ b) (b1 : b < 4294967296) :
    Calls Try.prog 14 #[.int .u32 a, .int .u32 b] w fun e w' => e = .returned (.tuple #[.int .u32 ((a + b) % 4294967296), .bool (outB (mean a + mean b))]) ∧ w' = w := by
  have ha := mean_bd a a0 a1
  have hb := mean_bd b b0 b1
  go_enter Try.func14, Try.ntmps14
  go_wp2_with (first | (go_at_call 13; refine (meaning_any _ _ _ (by assumption) (by assumption)).mono ?_; rintro e w' ⟨rfl, rfl⟩; simp only [meanB, if_true]) | (go_at_call 12; refine (leaves_any _ _).mono ?_; rintro e w' ⟨rfl, rfl⟩))
  go_ret2
  exact ⟨rfl, rfl⟩

set_option maxHeartbeats 400000 in
theorem sub_any (a b : Int) (w : World) (a0 : 0 ≤ a) (a1 : a < 4294967296) (b0 : 0 ≤ b) (b1 : b < 4294967296) :
    Calls Try.prog 6 #[.int .u32 a, .int .u32 b] w fun e w' => e = .returned (.tuple #[.int .u32 ((a - b) % 4294967296), .bool (outB (mean a - mean b))]) ∧ w' = w := by
  have ha := mean_bd a a0 a1
  have hb := mean_bd b b0 b1
  go_enter Try.func6, Try.ntmps6
  go_wp2_with (first | (go_at_call 13; refine (meaning_any _ _ _ (by assumption) (by assumption)).mono ?_; rintro e w' ⟨rfl, rfl⟩; simp only [meanB, if_true]) | (go_at_call 12; refine (leaves_any _ _).mono ?_; rintro e w' ⟨rfl, rfl⟩))
  go_ret2
  exact ⟨rfl, rfl⟩

set_option maxHeartbeats 400000 in
theorem less_any (a b : Int) (s : Bool) (w : World) (a0 : 0 ≤ a) (a1 : a < 4294967296) (b0 : 0 ≤ b) (b1 : b < 4294967296) :
    Calls Try.prog 9 #[.int .u32 a, .int .u32 b, .bool s] w fun e w' => e = .returned (.bool (decide (meanB s a < meanB s b))) ∧ w' = w := by
  go_enter Try.func9, Try.ntmps9
  go_wp2_with (go_at_call 13; refine (meaning_any _ _ _ (by assumption) (by assumption)).mono ?_; rintro e w' ⟨rfl, rfl⟩)
  go_ret
  exact ⟨rfl, rfl⟩

set_option maxHeartbeats 400000 in
theorem mul_any (a b : Int) (s : Bool) (w : World) (a0 : 0 ≤ a) (a1 : a < 4294967296) (b0 : 0 ≤ b) (b1 : b < 4294967296) :
    Calls Try.prog 15 #[.int .u32 a, .int .u32 b, .bool s] w fun e w' => e = .returned (.tuple #[.int .u32 (meanB s a * meanB s b / 4294967296 % 4294967296), .int .u32 (meanB s a * meanB s b % 4294967296)]) ∧ w' = w := by
  go_enter Try.func15, Try.ntmps15
  go_wp2_with (go_at_call 13; refine (meaning_any _ _ _ (by assumption) (by assumption)).mono ?_; rintro e w' ⟨rfl, rfl⟩)
  go_ret2
  exact ⟨ret_int2 (mul_hi _ _) (mul_lo _ _), rfl⟩

set_option maxHeartbeats 400000 in
theorem div_any (a b : Int) (s : Bool) (w : World) (a0 : 0 ≤ a) (a1 : a < 4294967296) (b0 : 0 < b) (b1 : b < 4294967296) :
    Calls Try.prog 16 #[.int .u32 a, .int .u32 b, .bool s] w fun e w' => e = .returned (.tuple #[.int .u32 ((meanB s a).tdiv (meanB s b) % 4294967296), .int .u32 ((meanB s a).tmod (meanB s b) % 4294967296), .int .i64 0]) ∧ w' = w.drew := by
  have ha := meanB_bd s a a0 a1
  have hb := meanB_bd s b (by omega) b1
  have hz : (b == 0) = false := by simp; omega
  have hnz : meanB s b ≠ 0 := meanB_ne s b b0 b1
  go_enter Try.func16, Try.ntmps16
  go_wp2_with (go_at_call 13; refine (meaning_any _ _ _ (by omega) (by assumption)).mono ?_; rintro e w' ⟨rfl, rfl⟩)
  go_region
  go_wp2
  go_ret3
  exact ⟨ret_int3 (wrap64_mod _) rfl rfl, rfl⟩

set_option maxHeartbeats 400000 in
theorem div_zero (a : Int) (s : Bool) (w : World) :
    Calls Try.prog 16 #[.int .u32 a, .int .u32 0, .bool s] w fun e w' => e = .returned (.tuple #[.int .u32 0, .int .u32 0, .int .i64 10]) ∧ w' = w := by
  go_enter Try.func16, Try.ntmps16
  go_wp2
  go_ret3
  exact ⟨rfl, rfl⟩

end Go.Proofs.Ytmbaoldcdegbhab
