/- Layer 15: the document's readsA, readsB. -/
import Derived.Test.YtnbflahggpehpaaQOpEach2
namespace Go.Proofs.Ytnbflahggpehpaa.Ir
open Go.RowKit
set_option linter.unusedVariables false
set_option maxRecDepth 100000
set_option linter.unusedSimpArgs false

/-- Does an operation read a register, as the document says? -/
def drA (m : Mi) (n : Int) : Bool := decide (1 < m.k) && (m.a == n && decide (n < 32))
def drB (m : Mi) (n : Int) : Bool := decide (2 < m.k) && (m.b == n && decide (n < 32))

set_option maxHeartbeats 2000000 in
theorem rreadsA_any (m : Mi) (n : Int) (w : World) : Calls Try.prog 42 #[.agg (cellsM m), .int .i64 n] w fun e w' => e = .returned (.bool (drA m n)) ∧ Below w.heap.size w w' := by
  obtain ⟨r1, r2, r3, r4, r5, r6, r7, r8, r9⟩ := rowRules
  obtain ⟨s1, s2, s3, s4, s5, s6, s7, s8, s9, s10⟩ := irSizes
  obtain ⟨p1, p2, p3, p4, p5, p6, p7⟩ := irParts
  have g := hide (grow w (.cells (cellsM m) 34))
  unfold drA
  by_cases h1 : 1 < m.k
  · have d1 : decide (1 < m.k) = true := by simpa using h1
    by_cases h2 : m.a = n
    · have d2 : (m.a == n) = true := by simpa using h2
      rw [d1, d2]
      clear h2
      go_enter Try.func42, Try.ntmps42
      go_wp2
      go_ret
      exact ⟨by simp, g.out⟩
    · have d2 : (m.a == n) = false := by simpa using h2
      rw [d1, d2]
      go_enter Try.func42, Try.ntmps42
      go_wp2
      go_ret
      exact ⟨by simp, g.out⟩
  · have d1 : decide (1 < m.k) = false := by simpa using h1
    rw [d1]
    go_enter Try.func42, Try.ntmps42
    go_wp2
    go_ret
    exact ⟨by simp, g.out⟩

set_option maxHeartbeats 2000000 in
theorem rreadsB_any (m : Mi) (n : Int) (w : World) : Calls Try.prog 43 #[.agg (cellsM m), .int .i64 n] w fun e w' => e = .returned (.bool (drB m n)) ∧ Below w.heap.size w w' := by
  obtain ⟨r1, r2, r3, r4, r5, r6, r7, r8, r9⟩ := rowRules
  obtain ⟨s1, s2, s3, s4, s5, s6, s7, s8, s9, s10⟩ := irSizes
  obtain ⟨p1, p2, p3, p4, p5, p6, p7⟩ := irParts
  have g := hide (grow w (.cells (cellsM m) 34))
  unfold drB
  by_cases h1 : 2 < m.k
  · have d1 : decide (2 < m.k) = true := by simpa using h1
    by_cases h2 : m.b = n
    · have d2 : (m.b == n) = true := by simpa using h2
      rw [d1, d2]
      clear h2
      go_enter Try.func43, Try.ntmps43
      go_wp2
      go_ret
      exact ⟨by simp, g.out⟩
    · have d2 : (m.b == n) = false := by simpa using h2
      rw [d1, d2]
      go_enter Try.func43, Try.ntmps43
      go_wp2
      go_ret
      exact ⟨by simp, g.out⟩
  · have d1 : decide (2 < m.k) = false := by simpa using h1
    rw [d1]
    go_enter Try.func43, Try.ntmps43
    go_wp2
    go_ret
    exact ⟨by simp, g.out⟩

end Go.Proofs.Ytnbflahggpehpaa.Ir
