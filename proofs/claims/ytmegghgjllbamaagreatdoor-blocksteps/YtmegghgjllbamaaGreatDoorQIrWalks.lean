/- Layer 14: contracts of the program's inner functions. -/
import Derived.Test.YtmegghgjllbamaaGreatDoorQIrRules
namespace Go.Proofs.YtmegghgjllbamaaGreatDoor.Ir
open Go.RowKit
set_option linter.unusedVariables false
set_option maxRecDepth 100000
set_option linter.unusedSimpArgs false

/-- Is a number a register's? -/
def regB (n : Int) : Bool := decide (0 ≤ n) && decide (n < 32)

/-- Is it an operand's? -/
def oprB (n : Int) : Bool := decide (0 ≤ n) && decide (n < 33)

/-- Does an operation write a register? -/
def wrB (m : Mi) : Bool := decide (0 < m.k) && decide (m.k < 14) && decide (0 < m.d) && decide (m.d < 32)

/-- What an operand means. -/
def meanO (n imm : Int) (R : Nat → Int) : Int := if n = 32 then imm else if regB n then R n.toNat else 0

/-- The registers behind an operation. -/
def behV (m : Mi) (R : Nat → Int) : Nat → Int := if wrB m then putR R m.d.toNat (valV m.k (meanO m.a m.m R) (meanO m.b m.m R) m.m) else R

theorem isRegister_any (n : Int) (w : World) : Calls Tryz.prog 76 #[.int .i64 n] w fun e w' => e = .returned (.bool (regB n)) ∧ w' = w := by
  unfold regB
  by_cases h : 0 ≤ n
  · have hd : decide (0 ≤ n) = true := by simpa using h
    by_cases k : n < 32
    · have kd : decide (n < 32) = true := by simpa using k
      go_enter Tryz.func76, Tryz.ntmps76
      go_wp2
      go_ret
      exact ⟨by simp [h, k], rfl⟩
    · have kd : decide (n < 32) = false := by simpa using k
      go_enter Tryz.func76, Tryz.ntmps76
      go_wp2
      go_ret
      exact ⟨by simp [k], rfl⟩
  · have hd : decide (0 ≤ n) = false := by simpa using h
    go_enter Tryz.func76, Tryz.ntmps76
    go_wp2
    go_ret
    exact ⟨by simp [h], rfl⟩

theorem isOperand_any (n : Int) (w : World) : Calls Tryz.prog 43 #[.int .i64 n] w fun e w' => e = .returned (.bool (oprB n)) ∧ w' = w := by
  have c := hide (isRegister_any n)
  by_cases h : regB n = true
  · have q : oprB n = true := by simp [regB] at h; simp [oprB]; omega
    rw [q]
    rw [h] at c
    go_enter Tryz.func43, Tryz.ntmps43
    go_wp2_with fail
    refine (c.out _).mono ?_
    rintro e w1 ⟨rfl, rfl⟩
    go_wp2
    go_ret
    exact ⟨rfl, rfl⟩
  · have h' : regB n = false := by simpa using h
    have q : oprB n = (n == 32) := by
      rw [Bool.eq_iff_iff]
      simp [regB] at h
      simp [oprB]
      omega
    rw [q]
    rw [h'] at c
    clear q h h'
    go_enter Tryz.func43, Tryz.ntmps43
    go_wp2_with fail
    refine (c.out _).mono ?_
    rintro e w1 ⟨rfl, rfl⟩
    go_wp2
    go_ret
    exact ⟨rfl, rfl⟩

set_option maxHeartbeats 2000000 in
theorem writes_any (m : Mi) (w : World) : Calls Tryz.prog 42 #[.agg (cellsM m)] w fun e w' => e = .returned (.bool (wrB m)) ∧ Below w.heap.size w w' := by
  obtain ⟨r1, r2, r3, r4, r5, r6, r7, r8, r9⟩ := rowRules
  obtain ⟨s1, s2, s3, s4, s5, s6, s7, s8, s9, s10⟩ := irSizes
  obtain ⟨p1, p2, p3, p4, p5, p6, p7⟩ := irParts
  have c := hide (isRegister_any m.d)
  unfold regB at c
  unfold wrB
  have g := hide (grow w (.cells (cellsM m) 66))
  by_cases h1 : 0 < m.k
  · have d1 : decide (0 < m.k) = true := by simpa using h1
    by_cases h2 : m.k < 14
    · have d2 : decide (m.k < 14) = true := by simpa using h2
      by_cases h3 : 0 < m.d
      · have d3 : decide (0 < m.d) = true := by simpa using h3
        have d4 : decide (0 ≤ m.d) = true := by simp; omega
        rw [d4] at c
        rw [d1, d2, d3]
        simp only [Bool.true_and] at c ⊢
        clear d4
        go_enter Tryz.func42, Tryz.ntmps42
        go_wp2_with fail
        refine (c.out _).mono ?_
        rintro e w1 ⟨rfl, rfl⟩
        go_wp2
        go_ret
        exact ⟨rfl, g.out⟩
      · have d3 : decide (0 < m.d) = false := by simpa using h3
        rw [d1, d2, d3]
        go_enter Tryz.func42, Tryz.ntmps42
        go_wp2
        go_ret
        exact ⟨by simp, g.out⟩
    · have d2 : decide (m.k < 14) = false := by simpa using h2
      rw [d1, d2]
      go_enter Tryz.func42, Tryz.ntmps42
      go_wp2
      go_ret
      exact ⟨by simp, g.out⟩
  · have d1 : decide (0 < m.k) = false := by simpa using h1
    rw [d1]
    go_enter Tryz.func42, Tryz.ntmps42
    go_wp2
    go_ret
    exact ⟨by simp, g.out⟩

set_option maxHeartbeats 2000000 in
theorem meaning_any (n imm : Int) (R : Nat → Int) (w : World) : Calls Tryz.prog 45 #[.int .i64 n, .int .u32 imm, .agg (cellsX R)] w fun e w' => e = .returned (.int .u32 (meanO n imm R)) ∧ Below w.heap.size w w' := by
  obtain ⟨r1, r2, r3, r4, r5, r6, r7, r8, r9⟩ := rowRules
  obtain ⟨s1, s2, s3, s4, s5, s6, s7, s8, s9, s10⟩ := irSizes
  obtain ⟨p1, p2, p3, p4, p5, p6, p7⟩ := irParts
  have c := hide (isRegister_any n)
  have g := hide (grow w (.cells (cellsX R) 24))
  unfold meanO
  by_cases h1 : n = 32
  · subst h1
    rw [if_pos rfl]
    go_enter Tryz.func45, Tryz.ntmps45
    go_wp2
    go_ret
    exact ⟨rfl, g.out⟩
  · have d1 : (n == 32) = false := by simpa using h1
    rw [if_neg h1]
    by_cases h2 : regB n = true
    · rw [h2] at c ⊢
      rw [if_pos rfl]
      obtain ⟨k, rfl⟩ : ∃ k : Nat, n = (k : Int) := ⟨n.toNat, by simp [regB] at h2; omega⟩
      have hk : k < 32 := by simp [regB] at h2; omega
      have g0 := p7 R k hk
      go_enter Tryz.func45, Tryz.ntmps45
      go_wp2_with fail
      refine (c.out _).mono ?_
      rintro e w1 ⟨rfl, rfl⟩
      go_wp2
      go_ret
      exact ⟨rfl, g.out⟩
    · have h2' : regB n = false := by simpa using h2
      rw [h2'] at c ⊢
      rw [if_neg (by decide)]
      clear h2 h2'
      go_enter Tryz.func45, Tryz.ntmps45
      go_wp2_with fail
      refine (c.out _).mono ?_
      rintro e w1 ⟨rfl, rfl⟩
      go_wp2
      go_ret
      exact ⟨rfl, g.out⟩

end Go.Proofs.YtmegghgjllbamaaGreatDoor.Ir
