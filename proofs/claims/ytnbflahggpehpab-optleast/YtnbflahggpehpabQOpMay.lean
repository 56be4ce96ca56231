/- Layer 15: the law's may. -/
import Derived.Test.YtnbflahggpehpabQOpOpen
import Derived.Test.YtnbflahggpehpabQIrRMay2
namespace Go.Proofs.Ytnbflahggpehpab.Ir
open Go.RowKit
set_option linter.unusedVariables false
set_option maxRecDepth 100000
set_option linter.unusedSimpArgs false

/-- The law's may: a slice that is cut to sixteen, and whether it may be. -/
theorem lmay_any {w : World} {ad : Option Addr} {n c K : Nat} {l : List Mi} (hnc : n ≤ c) (hK : (n ≤ 16 ∧ K = n) ∨ (16 < n ∧ K = 16)) (h : IsOps w (.slice ad K c) l) :
    Calls Try.prog 5 #[.slice ad n c] w fun e w' => e = .returned (.tuple #[.slice ad K c, .bool (mayB l)]) ∧ Below w.heap.size w w' := by
  have c2 := hide (rmay_any h)
  generalize mayB l = B at *
  clear h
  obtain ⟨e1, e2⟩ : min (n : Int) 16 = (K : Int) ∧ (min (n : Int) 16).toNat = K := by omega
  clear hK
  go_enter Try.func5, Try.ntmps5
  go_wp2_with fail
  refine c2.out.mono ?_
  rintro e w1 ⟨rfl, h1⟩
  replace h1 := hide h1
  clear c2 e1 e2
  go_wp2
  go_ret2
  exact ⟨rfl, h1.out⟩

end Go.Proofs.Ytnbflahggpehpab.Ir
