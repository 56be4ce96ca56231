/- Layer 10: contracts of a uart's bytes, the program's and the document's. -/
import Derived.Test.YthjcijlabpinkabGreatDoorPUaAll
namespace Go.Proofs.YthjcijlabpinkabGreatDoor.Ua
open Go.RowKit
set_option linter.unusedVariables false
set_option maxRecDepth 100000
set_option linter.unusedSimpArgs false

def one (b : Bool) : Int := if b then 1 else 0

def countV (s : ByteArray) : ByteArray := byteT s.size ++ s

def textV (u : Ua) : ByteArray := byteT (one u.n) ++ countV u.i ++ countV u.o

theorem one_w (b : Bool) : 0 ≤ one b ∧ one b < 2 := by cases b <;> decide

end Go.Proofs.YthjcijlabpinkabGreatDoor.Ua
