/- Contracts of the document's product, quotient and comparison of words. -/
import Derived.Test.YtmbaoldcdegbhabWalks2
namespace Go.Proofs.Ytmbaoldcdegbhab
open Go.RowKit
set_option linter.unusedVariables false

theorem td_nn (x y : Int) (hx : 0 ≤ x) : x / y = x.tdiv y := (Int.tdiv_eq_ediv_of_nonneg hx).symm
theorem tm_nn (x y : Int) (hx : 0 ≤ x) : x % y = x.tmod y := (Int.tmod_eq_emod_of_nonneg hx).symm

end Go.Proofs.Ytmbaoldcdegbhab
