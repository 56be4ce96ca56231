/- Contract of the document's product of words. -/
import Derived.Test.YtmbaoldcdegbhabWalks3
namespace Go.Proofs.Ytmbaoldcdegbhab
open Go.RowKit
set_option linter.unusedVariables false

theorem prod_bd (x y : Int) (x0 : 0 ≤ x) (x1 : x < 65536) (y0 : 0 ≤ y) (y1 : y < 4294967296) : 0 ≤ x * y ∧ x * y ≤ 281470681677825 := by
  refine ⟨Int.mul_nonneg x0 y0, ?_⟩
  have h1 : x * y ≤ 65535 * y := Int.mul_le_mul_of_nonneg_right (by omega) y0
  omega
theorem low_bd (x y : Int) (x0 : 0 ≤ x) (x1 : x < 4294967296) (y0 : 0 ≤ y) (y1 : y < 4294967296) : 0 ≤ x % 65536 * y ∧ x % 65536 * y ≤ 281470681677825 :=
  prod_bd _ _ (by omega) (by omega) y0 y1
theorem mid_bd (x y : Int) (x0 : 0 ≤ x) (x1 : x < 4294967296) (y0 : 0 ≤ y) (y1 : y < 4294967296) : 0 ≤ x / 65536 * y ∧ x / 65536 * y ≤ 281470681677825 :=
  prod_bd _ _ (by omega) (by omega) y0 y1
theorem halves (x y : Int) : x * y = x / 65536 * y * 65536 + x % 65536 * y := by
  have h : x = x / 65536 * 65536 + x % 65536 := by omega
  have h2 : x * y = (x / 65536 * 65536 + x % 65536) * y := by rw [← h]
  rw [h2, Int.add_mul, Int.mul_right_comm]

end Go.Proofs.Ytmbaoldcdegbhab
