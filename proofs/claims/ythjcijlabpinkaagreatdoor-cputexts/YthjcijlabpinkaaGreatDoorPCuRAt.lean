/- Layer 13: the document's at. -/
import Derived.Test.YthjcijlabpinkaaGreatDoorPCuEig
import Derived.Test.YthjcijlabpinkaaGreatDoorPDmRef
namespace Go.Proofs.YthjcijlabpinkaaGreatDoor
open Go.RowKit
set_option linter.unusedVariables false
set_option maxRecDepth 100000
set_option linter.unusedSimpArgs false

theorem num_cut (s : ByteArray) (a b : Nat) (hb : b ≤ s.size) (h : a + 4 ≤ b) : ((numOf (byteAt (s.extract a b)) 0 4 : Nat) : Int) = numS s a := by
  unfold numS
  rw [Dm.num4, Dm.num4, Dm.byteAt_cut s a b 0 hb (by omega), Dm.byteAt_cut s a b (0 + 1) hb (by omega), Dm.byteAt_cut s a b (0 + 2) hb (by omega), Dm.byteAt_cut s a b (0 + 3) hb (by omega)]
  simp

end Go.Proofs.YthjcijlabpinkaaGreatDoor
