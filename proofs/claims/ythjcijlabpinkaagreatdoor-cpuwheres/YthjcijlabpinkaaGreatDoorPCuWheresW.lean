/- Where any address is, in any state, or which exception it is, is as the document says. -/
import Derived.Test.YthjcijlabpinkaaGreatDoorPCuFx
import Derived.Test.YthjcijlabpinkaaGreatDoorPCuRWh
import Derived.Test.YthjcijlabpinkaaGreatDoorPCuOpens
import Derived.Deep.RegionHeld3
namespace Go.Proofs.YthjcijlabpinkaaGreatDoor
open Go.RowKit
set_option linter.unusedVariables false
set_option maxRecDepth 100000
set_option linter.unusedSimpArgs false

set_option maxHeartbeats 4000000 in
set_option maxRecDepth 100000 in
theorem wheres_walk (w : World) (c : Cs) (hc : Wc c) (a : Int) (wa : (Lit.int .u32 a).wf = true) (tb : De.Tabs w) :
    Calls Tryz.prog 3 #[.agg (cellsC c), .int .u32 a] w fun e w' => e = .returned (.bool true) ∧ Below w.heap.size w w' := by
  obtain ⟨z1, z2, z3, z4, z5, z6, z7, z8, z9, z10, z11, z12, z13, z14, z15⟩ := cSizes
  have ha : Cp.W32 a := wf_u32c wa
  clear wa
  have c1 := hide fun (y : Bool) x hx => where_any (w := x) (b := w.heap.size) hx hc a ha y
  have c2 := hide fun (y : Bool) x hx => rwhere_any (w := x) (b := w.heap.size) hx hc a ha y
  have X0 := hide (Box.new w (cellsC c) 31)
  have B0 := hide (grow w (.cells (cellsC c) 31))
  have tb0 := hide (tb.on B0.out)
  generalize hA : (whereV c a false).1 = A at *
  generalize hK : (whereV c a false).2.1 = K at *
  generalize hF : (whereV c a false).2.2 = F at *
  generalize hA2 : (whereV c a true).1 = A2 at *
  generalize hK2 : (whereV c a true).2.1 = K2' at *
  generalize hF2 : (whereV c a true).2.2 = F2' at *
  have hq := fun w => eqlC C0 w
  have cr1 := hide reset_any
  have cr2 := hide rreset_any
  clear tb ha
  go_enter Tryz.func3, Tryz.ntmps3
  go_wp2_with fail
  generalize w.alloc (.cells (cellsC c) 31) = x0 at *
  refine (c1.out false _ X0.out).mono ?_
  rintro e x1 ⟨rfl, b1⟩
  rw [hA, hK, hF]
  replace X0 := hide (X0.out.on b1)
  replace tb0 := hide (tb0.out.on b1)
  replace B0 := hide (onto B0.out (Nat.le_refl _) b1)
  clear b1
  go_wp2_with fail
  refine (c2.out false _ X0.out).mono ?_
  rintro e x2 ⟨rfl, b2⟩
  rw [hA, hK, hF]
  replace X0 := hide (X0.out.on b2)
  replace tb0 := hide (tb0.out.on b2)
  replace B0 := hide (onto B0.out (Nat.le_refl _) b2)
  clear b2
  go_wp2_with fail
  refine (c1.out true _ X0.out).mono ?_
  rintro e x3 ⟨rfl, b3⟩
  rw [hA2, hK2, hF2]
  replace X0 := hide (X0.out.on b3)
  replace tb0 := hide (tb0.out.on b3)
  replace B0 := hide (onto B0.out (Nat.le_refl _) b3)
  clear b3
  go_wp2_with fail
  refine (c2.out true _ X0.out).mono ?_
  rintro e x4 ⟨rfl, b4⟩
  rw [hA2, hK2, hF2]
  replace tb0 := hide (tb0.out.on b4)
  replace B0 := hide (onto B0.out (Nat.le_refl _) b4)
  clear b4 X0 c1 c2
  go_wp2_with fail
  refine (fixed13 _ tb0.out).mono ?_
  rintro e x5 ⟨rfl, b5⟩
  replace B0 := hide (onto B0.out (Nat.le_refl _) b5)
  clear b5 tb0
  generalize C0 = c0 at *
  go_wp2_with fail
  refine (cr1.out _).mono ?_
  rintro e x6 ⟨rfl, b6⟩
  replace B0 := hide (onto B0.out (Nat.le_refl _) b6)
  clear b6
  go_wp2_with fail
  refine (cr2.out _).mono ?_
  rintro e x7 ⟨rfl, b7⟩
  replace B0 := hide (onto B0.out (Nat.le_refl _) b7)
  clear b7
  go_wp2
  go_ret
  exact ⟨rfl, B0.out⟩

end Go.Proofs.YthjcijlabpinkaaGreatDoor
