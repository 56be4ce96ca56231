/- Contracts of the document's product, quotient and comparison of words. -/
import Derived.Test.YtmbaoldcdegbhaaWalks2
namespace Go.Proofs.Ytmbaoldcdegbhaa
open Go.RowKit
set_option linter.unusedVariables false

set_option maxHeartbeats 400000 in
theorem rless_any (a b : Int) (s : Bool) (w : World) (a0 : 0 ≤ a) (a1 : a < 4294967296) (b0 : 0 ≤ b) (b1 : b < 4294967296) :
    Calls Try.prog 19 #[.int .u32 a, .int .u32 b, .bool s] w fun e w' => e = .returned (.bool (decide (meanB s a < meanB s b))) ∧ w' = w := by
  cases s
  all_goals
    go_enter Try.func19, Try.ntmps19
    go_wp2_with (go_at_call 30; refine (mean_any _ _ (by assumption) (by assumption)).mono ?_; rintro e w' ⟨rfl, rfl⟩)
    go_ret
    exact ⟨rfl, rfl⟩

set_option maxHeartbeats 400000 in
theorem rdiv_zero (a : Int) (s : Bool) (w : World) :
    Calls Try.prog 17 #[.int .u32 a, .int .u32 0, .bool s] w fun e w' => e = .returned (.tuple #[.int .u32 0, .int .u32 0, .int .i64 10]) ∧ w' = w := by
  go_enter Try.func17, Try.ntmps17
  go_wp2
  go_ret3
  exact ⟨rfl, rfl⟩

theorem td_nn (x y : Int) (hx : 0 ≤ x) : x / y = x.tdiv y := (Int.tdiv_eq_ediv_of_nonneg hx).symm
theorem tm_nn (x y : Int) (hx : 0 ≤ x) : x % y = x.tmod y := (Int.tmod_eq_emod_of_nonneg hx).symm

set_option maxHeartbeats 400000 in
theorem rdiv_any (a b : Int) (s : Bool) (w : World) (a0 : 0 ≤ a) (a1 : a < 4294967296) (b0 : 0 < b) (b1 : b < 4294967296) :
    Calls Try.prog 17 #[.int .u32 a, .int .u32 b, .bool s] w fun e w' => e = .returned (.tuple #[.int .u32 ((meanB s a).tdiv (meanB s b) % 4294967296), .int .u32 ((meanB s a).tmod (meanB s b) % 4294967296), .int .i64 0]) ∧ w' = w := by
  have hz : (b == 0) = false := by simp; omega
  cases s
  · have hx : decide (a < 0) = false := by simp; omega
    have hy : decide (b < 0) = false := by simp; omega
    go_enter Try.func17, Try.ntmps17
    go_wp2_with (go_at_call 28; refine (word_any _ _).mono ?_; rintro e w' ⟨rfl, rfl⟩)
    go_ret3
    refine ⟨ret_int3 ?_ ?_ rfl, rfl⟩
    · rw [td_nn _ _ a0]; rfl
    · rw [tm_nn _ _ a0]; rfl
  · have ha := mean_bd a a0 a1
    have hb := mean_bd b (by omega) b1
    have hnz : mean b ≠ 0 := meanB_ne true b b0 b1
    cases hxd : decide (mean a < 0) <;> cases hyd : decide (mean b < 0)
    all_goals
      first | have hx := of_decide_eq_true hxd | have hx : 0 ≤ mean a := Int.not_lt.mp (of_decide_eq_false hxd)
      first | have hy := of_decide_eq_true hyd | have hy : 0 ≤ mean b := Int.not_lt.mp (of_decide_eq_false hyd)
      go_enter Try.func17, Try.ntmps17
      go_wp2_with (first | (go_at_call 28; refine (word_any _ _).mono ?_; rintro e w' ⟨rfl, rfl⟩) | (go_at_call 30; refine (mean_any _ _ (by omega) (by assumption)).mono ?_; rintro e w' ⟨rfl, rfl⟩))
      all_goals go_ret3
      all_goals refine ⟨ret_int3 ?_ ?_ rfl, rfl⟩
      all_goals first | (rw [wrap64_mod]; rfl) | (rw [wrap64_nn]; rfl) | (rw [td_nn _ _ hx]; rfl) | (rw [tm_nn _ _ hx]; rfl) | (exfalso; simp_all; done) | trace_state

end Go.Proofs.Ytmbaoldcdegbhaa
