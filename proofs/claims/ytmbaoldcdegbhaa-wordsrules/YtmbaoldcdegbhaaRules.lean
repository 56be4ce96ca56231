/- One contract more of the quotient: of a divisor that is 0, whatever it is called. -/
import Derived.Test.YtmbaoldcdegbhaaFixed
import Derived.Test.YtmbaoldcdegbhaaPlainRules
namespace Go.Proofs.Ytmbaoldcdegbhaa
open Go.RowKit

theorem div_nil (a b : Int) (s : Bool) (w : World) (h : b = 0) :
    Calls Try.prog 16 #[.int .u32 a, .int .u32 b, .bool s] w fun e w' => e = .returned (.tuple #[.int .u32 0, .int .u32 0, .int .i64 10]) ∧ w' = w := by
  subst h; exact div_zero a s w

end Go.Proofs.Ytmbaoldcdegbhaa
