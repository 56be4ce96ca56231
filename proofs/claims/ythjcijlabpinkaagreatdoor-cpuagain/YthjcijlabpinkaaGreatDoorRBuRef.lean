/- Layer 12: the contracts of Load and Store, the document's. -/
import Derived.Test.YthjcijlabpinkaaGreatDoorRBuOne
import Derived.Test.YthjcijlabpinkaaGreatDoorRRngAll
namespace Go.Proofs.YthjcijlabpinkaaGreatDoor
open Go.RowKit
set_option linter.unusedVariables false
set_option maxRecDepth 100000

theorem rdev_yes (a : Int) (h0 : 520093696 ≤ a) (h1 : a < 520094720) (w : World) : Calls Tryz.prog 89 #[.int .u32 a] w fun e w' => e = .returned (.bool true) ∧ w' = w := by
  have d1 : decide (520093696 ≤ a) = true := by simpa using h0
  have d2 : decide (a ≤ 520094719) = true := by simp; omega
  clear h0 h1
  go_enter Tryz.func89, Tryz.ntmps89
  go_wp2
  go_ret
  exact ⟨rfl, rfl⟩

theorem rdev_no (a : Int) (h : a < 520093696 ∨ 520094720 ≤ a) (w : World) : Calls Tryz.prog 89 #[.int .u32 a] w fun e w' => e = .returned (.bool false) ∧ w' = w := by
  by_cases h0 : 520093696 ≤ a
  · have d1 : decide (520093696 ≤ a) = true := by simpa using h0
    have d2 : decide (a ≤ 520094719) = false := by simp; omega
    clear h0 h
    go_enter Tryz.func89, Tryz.ntmps89
    go_wp2
    go_ret
    exact ⟨rfl, rfl⟩
  · have d1 : decide (520093696 ≤ a) = false := by simpa using h0
    clear h0 h
    go_enter Tryz.func89, Tryz.ntmps89
    go_wp2
    go_ret
    exact ⟨rfl, rfl⟩

theorem rin_yes (a c r : Int) (hr : a - c = r) (c0 : 0 ≤ c) (c1 : c ≤ 520094464) (r0 : 0 ≤ r) (r1 : r < 256) (w : World) : Calls Tryz.prog 92 #[.int .u32 a, .int .u32 c] w fun e w' => e = .returned (.int .i64 r) ∧ w' = w := by
  have d1 : decide (a < c) = false := by simp; omega
  have d2 : decide (c + 255 < a) = false := by simp; omega
  go_enter Tryz.func92, Tryz.ntmps92
  go_wp2
  go_ret
  exact ⟨rfl, rfl⟩

theorem rin_no (a c : Int) (a0 : 0 ≤ a) (a1 : a < 4294967296) (c0 : 0 ≤ c) (c1 : c ≤ 520094464) (h : c + 255 < a) (w : World) : Calls Tryz.prog 92 #[.int .u32 a, .int .u32 c] w fun e w' => e = .returned (.int .i64 (-1)) ∧ w' = w := by
  have d1 : decide (a < c) = false := by simp; omega
  have d2 : decide (c + 255 < a) = true := by simpa using h
  go_enter Tryz.func92, Tryz.ntmps92
  go_wp2
  go_ret
  exact ⟨rfl, rfl⟩

def allE (E : Int) : Int := if E = 0 then 0 else 121

theorem rall_any (E : Int) (w : World) : Calls Tryz.prog 90 #[.int .i64 E] w fun e w' => e = .returned (.int .i64 (allE E)) ∧ w' = w := by
  unfold allE
  by_cases h : E = 0
  · subst h
    go_enter Tryz.func90, Tryz.ntmps90
    go_wp2
    go_ret
    exact ⟨rfl, rfl⟩
  · have h' : (E == 0) = false := by simpa using h
    rw [if_neg h]
    clear h
    go_enter Tryz.func90, Tryz.ntmps90
    go_wp2
    go_ret
    exact ⟨rfl, rfl⟩

end Go.Proofs.YthjcijlabpinkaaGreatDoor
