/- Layer 13: the document's at. -/
import Derived.Test.YthjcijlabpinkaaGreatDoorQCuEig
import Derived.Test.YthjcijlabpinkaaGreatDoorQDmRef
namespace Go.Proofs.YthjcijlabpinkaaGreatDoor
open Go.RowKit
set_option linter.unusedVariables false
set_option maxRecDepth 100000
set_option linter.unusedSimpArgs false

theorem num_cut (s : ByteArray) (a b : Nat) (hb : b ≤ s.size) (h : a + 4 ≤ b) : ((numOf (byteAt (s.extract a b)) 0 4 : Nat) : Int) = numS s a := by
  unfold numS
  rw [Dm.num4, Dm.num4, Dm.byteAt_cut s a b 0 hb (by omega), Dm.byteAt_cut s a b (0 + 1) hb (by omega), Dm.byteAt_cut s a b (0 + 2) hb (by omega), Dm.byteAt_cut s a b (0 + 3) hb (by omega)]
  simp

theorem rat_any {s : ByteArray} (hs : s.size = 252) (n : Nat) (hn : n < 63) (w : World) :
    Calls Tryz.prog 99 #[.string s, .int .i64 n] w fun e w' => e = .returned (.int .u32 (numS s (4 * n))) ∧ Below w.heap.size w w' := by
  have hv := fun w => Dm.rval_any (s.extract (4 * n) (4 * n + 4)) (by rw [ByteArray.size_extract]; omega) w
  rw [num_cut s (4 * n) (4 * n + 4) (by omega) (by omega)] at hv
  replace hv := hide hv
  generalize numS s (4 * n) = N at *
  have l1 : (0 : Int) ≤ 4 * (n : Int) := by omega
  have l2 : 4 * (n : Int) + 4 ≤ 252 := by omega
  have l3 : (4 * (n : Int)).toNat = 4 * n := by omega
  have l4 : (4 * (n : Int) + 4).toNat = 4 * n + 4 := by omega
  have l5 : IntKind.i64.wrap (4 * (n : Int)) = 4 * (n : Int) := by rw [IntKind.wrap_i64]; omega
  have l6 : IntKind.i64.wrap (4 * (n : Int) + 4) = 4 * (n : Int) + 4 := by rw [IntKind.wrap_i64]; omega
  have l7 : 4 * (n : Int) ≤ 4 * (n : Int) + 4 := by omega
  have l8 : (0 : Int) ≤ 4 * (n : Int) + 4 := by omega
  go_enter Tryz.func99, Tryz.ntmps99
  go_wp2_with fail
  refine (hv.out _).mono ?_
  rintro e w1 ⟨rfl, rfl⟩
  go_wp2
  go_ret
  exact ⟨rfl, Below.refl _ _⟩

end Go.Proofs.YthjcijlabpinkaaGreatDoor
