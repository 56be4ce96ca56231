/- The calls whose answers the document fixes: the law's own helper answers true. -/
import Derived.Test.YtmbaoldcdegbhabWalks7
namespace Go.Proofs.Ytmbaoldcdegbhab
open Go.RowKit
set_option linter.unusedVariables false

theorem fx_add : outB (mean 2147483647 + mean 1) = true := by decide
theorem fx_mul1 : meanB true 4294967295 * meanB true 2 / 4294967296 % 4294967296 = 4294967295 := by decide
theorem fx_mul2 : meanB true 4294967295 * meanB true 2 % 4294967296 = 4294967294 := by decide
theorem fx_div1 : (meanB true 2147483648).tdiv (meanB true 4294967295) % 4294967296 = 2147483648 := by decide
theorem fx_div2 : (meanB true 2147483648).tmod (meanB true 4294967295) % 4294967296 = 0 := by decide
theorem fx_ext : extV true 128 8 = 4294967168 := by decide
theorem fx_lead : leadV false 1 = 31 := by decide
theorem fx_less : decide (meanB true 2147483648 < meanB true 0) = true := by decide

set_option maxHeartbeats 1000000 in
theorem fixed_any (w : World) :
    Calls Try.prog 8 #[] w fun e w' => e = .returned (.bool true) ∧ w' = w.drew := by
  go_enter Try.func8, Try.ntmps8
  go_wp2_with fail
  refine (add_any _ _ _ (by decide) (by decide) (by decide) (by decide)).mono ?_; rintro e w' ⟨rfl, rfl⟩
  rw [fx_add]
  go_wp2_with fail
  refine (mul_any _ _ _ _ (by decide) (by decide) (by decide) (by decide)).mono ?_; rintro e w' ⟨rfl, rfl⟩
  rw [fx_mul1, fx_mul2]
  go_wp2_with fail
  refine (div_any _ _ _ _ (by decide) (by decide) (by decide) (by decide)).mono ?_; rintro e w' ⟨rfl, rfl⟩
  rw [fx_div1, fx_div2]
  go_wp2_with fail
  refine (div_zero _ _ _).mono ?_; rintro e w' ⟨rfl, rfl⟩
  go_wp2_with fail
  refine (ext_any _ _ _ _ (by decide) (by decide)).mono ?_; rintro e w' ⟨rfl, rfl⟩
  rw [fx_ext]
  go_wp2_with fail
  refine (lead_any _ _ _ (by decide) (by decide)).mono ?_; rintro e w' ⟨rfl, rfl⟩
  rw [fx_lead]
  go_wp2_with fail
  refine (less_any _ _ _ _ (by decide) (by decide) (by decide) (by decide)).mono ?_; rintro e w' ⟨rfl, rfl⟩
  rw [fx_less]
  go_wp2
  go_ret
  exact ⟨rfl, rfl⟩

end Go.Proofs.Ytmbaoldcdegbhab
