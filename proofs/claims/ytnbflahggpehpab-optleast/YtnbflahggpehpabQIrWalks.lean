/- Layer 14: contracts of the program's inner functions. -/
import Derived.Test.YtnbflahggpehpabQIrRules
namespace Go.Proofs.Ytnbflahggpehpab.Ir
open Go.RowKit
set_option linter.unusedVariables false
set_option maxRecDepth 100000
set_option linter.unusedSimpArgs false

/-- Is a number a register's? -/
def regB (n : Int) : Bool := decide (0 ≤ n) && decide (n < 32)

/-- Is it an operand's? -/
def oprB (n : Int) : Bool := decide (0 ≤ n) && decide (n < 33)

/-- Does an operation write a register? -/
def wrB (m : Mi) : Bool := decide (0 < m.k) && decide (m.k < 14) && decide (0 < m.d) && decide (m.d < 32)

/-- What an operand means. -/
def meanO (n imm : Int) (R : Nat → Int) : Int := if n = 32 then imm else if regB n then R n.toNat else 0

/-- The registers behind an operation. -/
def behV (m : Mi) (R : Nat → Int) : Nat → Int := if wrB m then putR R m.d.toNat (valV m.k (meanO m.a m.m R) (meanO m.b m.m R) m.m) else R

end Go.Proofs.Ytnbflahggpehpab.Ir
