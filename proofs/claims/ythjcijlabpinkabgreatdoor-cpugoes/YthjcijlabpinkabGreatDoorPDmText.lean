/- Layer 11: contracts of a state's bytes, the program's. -/
import Derived.Test.YthjcijlabpinkabGreatDoorPDmTwo
import Derived.Laws.AppendOwn
import Derived.RegionTactic
import Derived.Deep.RegionLaw
namespace Go.Proofs.YthjcijlabpinkabGreatDoor.Dm
open Go.RowKit
set_option linter.unusedVariables false
set_option maxRecDepth 100000

def quad (v : Int) : List Int := [v / 16777216, v / 65536 % 256, v / 256 % 256, v % 256]

def four (d : Dm) : List Int := [d.a, d.n, d.b, d.y]

def quads (d : Dm) (j : Nat) : List Int := ((four d).take j).flatMap quad

def one (b : Bool) : Int := if b then 1 else 0

def textV (d : Dm) : ByteArray := strOfNums (quads d 4 ++ [one d.r])

end Go.Proofs.YthjcijlabpinkabGreatDoor.Dm
