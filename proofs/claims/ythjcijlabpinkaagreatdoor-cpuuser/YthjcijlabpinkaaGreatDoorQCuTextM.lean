/- Layer 13: laws of a state's text. -/
import Derived.Test.YthjcijlabpinkaaGreatDoorQCuEig
namespace Go.Proofs.YthjcijlabpinkaaGreatDoor
open Go.RowKit
set_option linter.unusedVariables false
set_option maxRecDepth 100000
set_option linter.unusedSimpArgs false

/-- The four bytes of the number at place n. -/
theorem quad_num (s : ByteArray) (n : Nat) : [numS s n / 16777216, numS s n / 65536 % 256, numS s n / 256 % 256, numS s n % 256] = [((byteAt s n : Nat) : Int), ((byteAt s (n + 1) : Nat) : Int), ((byteAt s (n + 2) : Nat) : Int), ((byteAt s (n + 3) : Nat) : Int)] := by
  have h0 := byteAt_lt s n
  have h1 := byteAt_lt s (n + 1)
  have h2 := byteAt_lt s (n + 2)
  have h3 := byteAt_lt s (n + 3)
  unfold numS
  rw [Dm.num4]
  unfold Dm.be
  generalize byteAt s n = b0 at *
  generalize byteAt s (n + 1) = b1 at *
  generalize byteAt s (n + 2) = b2 at *
  generalize byteAt s (n + 3) = b3 at *
  rw [show ((((b0 * 256 + b1) * 256 + b2) * 256 + b3 : Nat) : Int) / 16777216 = (b0 : Int) by omega, show ((((b0 * 256 + b1) * 256 + b2) * 256 + b3 : Nat) : Int) / 65536 % 256 = (b1 : Int) by omega,
    show ((((b0 * 256 + b1) * 256 + b2) * 256 + b3 : Nat) : Int) / 256 % 256 = (b2 : Int) by omega, show ((((b0 * 256 + b1) * 256 + b2) * 256 + b3 : Nat) : Int) % 256 = (b3 : Int) by omega]

/-- Sixty-three numbers of a text, as bytes, are its bytes. -/
theorem bytesW_nums (s : ByteArray) (k : Nat) : bytesW ((List.range k).map fun j => numS s (4 * j)) = (List.range (4 * k)).map fun j => ((byteAt s j : Nat) : Int) := by
  induction k with
  | zero => rfl
  | succ k ih =>
    rw [List.range_succ, List.map_append, List.map_cons, List.map_nil, bytesW_snoc, ih, quad_num, show 4 * (k + 1) = 4 * k + 1 + 1 + 1 + 1 by omega, List.range_succ, List.range_succ, List.range_succ, List.range_succ]
    simp

end Go.Proofs.YthjcijlabpinkaaGreatDoor
