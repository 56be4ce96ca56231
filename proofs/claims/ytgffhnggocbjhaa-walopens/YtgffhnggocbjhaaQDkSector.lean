/- Layer 18: the law's sector: bytes, each another one. -/
import Derived.Test.YtgffhnggocbjhaaQDkBas
namespace Go.Proofs.Ytgffhnggocbjhaa
open Go.RowKit
set_option linter.unusedVariables false
set_option maxRecDepth 100000
set_option linter.unusedSimpArgs false

/-- How long a sector of the law is, its bytes. -/
def secN (m : Int) : Nat := (64 + max (-64) (min m 100)).toNat

def secB (v : Nat) : Nat → Nat := fun j => (v + j) % 256

def secT (v : Nat) (m : Int) : ByteArray := textOf (secN m) (secB v)

theorem secN_le (m : Int) : secN m ≤ 164 := by unfold secN; omega

theorem secT_size (v : Nat) (m : Int) : (secT v m).size = secN m := textOf_size _ _

theorem secT_64 (v : Nat) : (secT v 0).size = 64 := by rw [secT_size]; unfold secN; omega

end Go.Proofs.Ytgffhnggocbjhaa
