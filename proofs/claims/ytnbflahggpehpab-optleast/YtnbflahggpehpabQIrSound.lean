/- Layer 14: contract of isSound. -/
import Derived.Test.YtnbflahggpehpabQIrWalks
namespace Go.Proofs.Ytnbflahggpehpab.Ir
open Go.RowKit
set_option linter.unusedVariables false
set_option maxRecDepth 100000
set_option linter.unusedSimpArgs false

/-- May an operation be, whatever its Count? -/
def soundB (m : Mi) : Bool :=
  if m.k = 0 then decide (m.d = 0) && (decide (m.a = 0) && (decide (m.b = 0) && decide (m.m = 0))) else if wrB m = false then false else if m.k = 1 then m.a == 0 && m.b == 0
  else if m.k = 2 ∧ ¬ m.b = 0 then false else oprB m.a && (oprB m.b && (m.m == 0 || (m.a == 32 || m.b == 32)))

end Go.Proofs.Ytnbflahggpehpab.Ir
