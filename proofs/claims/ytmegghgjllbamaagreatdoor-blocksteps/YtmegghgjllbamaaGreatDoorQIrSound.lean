/- Layer 14: contract of isSound. -/
import Derived.Test.YtmegghgjllbamaaGreatDoorQIrWalks
namespace Go.Proofs.YtmegghgjllbamaaGreatDoor.Ir
open Go.RowKit
set_option linter.unusedVariables false
set_option maxRecDepth 100000
set_option linter.unusedSimpArgs false

/-- May an operation be, whatever its Count? -/
def soundB (m : Mi) : Bool :=
  if m.k = 0 then decide (m.d = 0) && (decide (m.a = 0) && (decide (m.b = 0) && decide (m.m = 0))) else if wrB m = false then false else if m.k = 1 then m.a == 0 && m.b == 0
  else if m.k = 2 ∧ ¬ m.b = 0 then false else oprB m.a && (oprB m.b && (m.m == 0 || (m.a == 32 || m.b == 32)))

set_option maxHeartbeats 4000000 in
theorem isSound_any (m : Mi) (w : World) : Calls Tryz.prog 18 #[.agg (cellsM m)] w fun e w' => e = .returned (.bool (soundB m)) ∧ Below w.heap.size w w' := by
  obtain ⟨r1, r2, r3, r4, r5, r6, r7, r8, r9⟩ := rowRules
  obtain ⟨s1, s2, s3, s4, s5, s6, s7, s8, s9, s10⟩ := irSizes
  obtain ⟨q1, q2, q3, q4, q5, q6⟩ := irWhole
  obtain ⟨p1, p2, p3, p4, p5, p6, p7⟩ := irParts
  obtain ⟨t1, t2, t3, t4, t5, t6, t7⟩ := irSets
  have cw := hide (writes_any m)
  have ca := hide (isOperand_any m.a)
  have cb := hide (isOperand_any m.b)
  have he := eqlM
  have b0 := hide (Box.new w (cellsM m) 66)
  have g := hide (grow w (.cells (cellsM m) 66))
  obtain ⟨k, d, a, b, mm, c⟩ := m
  unfold soundB
  simp only
  by_cases h0 : k = 0
  · subst h0
    rw [if_pos rfl]
    go_enter Tryz.func18, Tryz.ntmps18
    go_wp2
    go_ret
    exact ⟨by simp [M0]; congr, g.out⟩
  · have n0 : (k == 0) = false := by simpa using h0
    rw [if_neg h0]
    generalize wrB ⟨k, d, a, b, mm, c⟩ = W at *
    cases W
    · rw [if_pos rfl]
      go_enter Tryz.func18, Tryz.ntmps18
      go_wp2_with fail
      refine (cw.out _).mono ?_
      rintro e w1 ⟨rfl, h1⟩
      have b1 := onto g.out (Nat.le_refl _) h1
      clear b0
      go_wp2
      go_ret
      exact ⟨rfl, b1⟩
    · rw [if_neg (by decide)]
      by_cases h1 : k = 1
      · subst h1
        rw [if_pos rfl]
        by_cases ha : a = 0
        · subst ha
          go_enter Tryz.func18, Tryz.ntmps18
          go_wp2_with fail
          refine (cw.out _).mono ?_
          rintro e w1 ⟨rfl, h1⟩
          have b1 := onto g.out (Nat.le_refl _) h1
          obtain ⟨x1, x2, x3⟩ := b0.out.on h1
          have x4 := cell_rowAt w1 w.heap.size
          clear b0
          go_wp2
          go_ret
          exact ⟨by simp, b1⟩
        · have na : (a == 0) = false := by simpa using ha
          go_enter Tryz.func18, Tryz.ntmps18
          go_wp2_with fail
          refine (cw.out _).mono ?_
          rintro e w1 ⟨rfl, h1⟩
          have b1 := onto g.out (Nat.le_refl _) h1
          obtain ⟨x1, x2, x3⟩ := b0.out.on h1
          have x4 := cell_rowAt w1 w.heap.size
          clear b0
          go_wp2
          go_ret
          exact ⟨by simp [na], b1⟩
      · rw [if_neg h1]
        have em : mm = 0 ∨ (mm == 0) = false := by by_cases h : mm = 0 <;> simp [h]
        have n1 : (k == 1) = false := by simpa using h1
        by_cases h2 : k = 2
        · subst h2
          by_cases hb : b = 0
          · subst hb
            rw [if_neg (by simp)]
            generalize oprB a = OA at *
            generalize oprB 0 = OB at *
            by_cases ha : a = 32
            · subst ha
              go_enter Tryz.func18, Tryz.ntmps18
              go_wp2_with fail
              refine (cw.out _).mono ?_
              rintro e w1 ⟨rfl, h1⟩
              have b1 := onto g.out (Nat.le_refl _) h1
              obtain ⟨x1, x2, x3⟩ := b0.out.on h1
              have x4 := cell_rowAt w1 w.heap.size
              clear b0 h1
              go_wp2_with fail
              refine (ca.out _).mono ?_
              rintro e w2 ⟨rfl, rfl⟩
              cases OA
              · go_wp2
                go_ret
                exact ⟨rfl, b1⟩
              go_wp2_with fail
              refine (cb.out _).mono ?_
              rintro e w2 ⟨rfl, rfl⟩
              cases OB
              · go_wp2
                go_ret
                exact ⟨rfl, b1⟩
              rcases em with rfl | em
              · go_wp2
                go_ret
                exact ⟨by simp, b1⟩
              · go_wp2
                go_ret
                exact ⟨by simp , b1⟩
            · have na : (a == 32) = false := by simpa using ha
              go_enter Tryz.func18, Tryz.ntmps18
              go_wp2_with fail
              refine (cw.out _).mono ?_
              rintro e w1 ⟨rfl, h1⟩
              have b1 := onto g.out (Nat.le_refl _) h1
              obtain ⟨x1, x2, x3⟩ := b0.out.on h1
              have x4 := cell_rowAt w1 w.heap.size
              clear b0 h1
              go_wp2_with fail
              refine (ca.out _).mono ?_
              rintro e w2 ⟨rfl, rfl⟩
              cases OA
              · go_wp2
                go_ret
                exact ⟨rfl, b1⟩
              go_wp2_with fail
              refine (cb.out _).mono ?_
              rintro e w2 ⟨rfl, rfl⟩
              cases OB
              · go_wp2
                go_ret
                exact ⟨rfl, b1⟩
              rcases em with rfl | em
              · go_wp2
                go_ret
                exact ⟨by simp, b1⟩
              · go_wp2
                go_ret
                exact ⟨by simp [na, em], b1⟩
          · rw [if_pos ⟨rfl, hb⟩]
            have nb : (b == 0) = false := by simpa using hb
            go_enter Tryz.func18, Tryz.ntmps18
            go_wp2_with fail
            refine (cw.out _).mono ?_
            rintro e w1 ⟨rfl, h1⟩
            have b1 := onto g.out (Nat.le_refl _) h1
            obtain ⟨x1, x2, x3⟩ := b0.out.on h1
            have x4 := cell_rowAt w1 w.heap.size
            clear b0 h1
            go_wp2
            go_ret
            exact ⟨rfl, b1⟩
        · have n2 : (k == 2) = false := by simpa using h2
          rw [if_neg (by simp [h2])]
          generalize oprB a = OA at *
          generalize oprB b = OB at *
          by_cases ha : a = 32
          · subst ha
            go_enter Tryz.func18, Tryz.ntmps18
            go_wp2_with fail
            refine (cw.out _).mono ?_
            rintro e w1 ⟨rfl, h1⟩
            have b1 := onto g.out (Nat.le_refl _) h1
            obtain ⟨x1, x2, x3⟩ := b0.out.on h1
            have x4 := cell_rowAt w1 w.heap.size
            clear b0 h1
            go_wp2_with fail
            refine (ca.out _).mono ?_
            rintro e w2 ⟨rfl, rfl⟩
            cases OA
            · go_wp2
              go_ret
              exact ⟨rfl, b1⟩
            go_wp2_with fail
            refine (cb.out _).mono ?_
            rintro e w2 ⟨rfl, rfl⟩
            cases OB
            · go_wp2
              go_ret
              exact ⟨rfl, b1⟩
            rcases em with rfl | em
            · go_wp2
              go_ret
              exact ⟨by simp, b1⟩
            · go_wp2
              go_ret
              exact ⟨by simp , b1⟩
          · have na : (a == 32) = false := by simpa using ha
            by_cases hb : b = 32
            · subst hb
              go_enter Tryz.func18, Tryz.ntmps18
              go_wp2_with fail
              refine (cw.out _).mono ?_
              rintro e w1 ⟨rfl, h1⟩
              have b1 := onto g.out (Nat.le_refl _) h1
              obtain ⟨x1, x2, x3⟩ := b0.out.on h1
              have x4 := cell_rowAt w1 w.heap.size
              clear b0 h1
              go_wp2_with fail
              refine (ca.out _).mono ?_
              rintro e w2 ⟨rfl, rfl⟩
              cases OA
              · go_wp2
                go_ret
                exact ⟨rfl, b1⟩
              go_wp2_with fail
              refine (cb.out _).mono ?_
              rintro e w2 ⟨rfl, rfl⟩
              cases OB
              · go_wp2
                go_ret
                exact ⟨rfl, b1⟩
              rcases em with rfl | em
              · go_wp2
                go_ret
                exact ⟨by simp, b1⟩
              · go_wp2
                go_ret
                exact ⟨by simp [na], b1⟩
            · have nb : (b == 32) = false := by simpa using hb
              go_enter Tryz.func18, Tryz.ntmps18
              go_wp2_with fail
              refine (cw.out _).mono ?_
              rintro e w1 ⟨rfl, h1⟩
              have b1 := onto g.out (Nat.le_refl _) h1
              obtain ⟨x1, x2, x3⟩ := b0.out.on h1
              have x4 := cell_rowAt w1 w.heap.size
              clear b0 h1
              go_wp2_with fail
              refine (ca.out _).mono ?_
              rintro e w2 ⟨rfl, rfl⟩
              cases OA
              · go_wp2
                go_ret
                exact ⟨rfl, b1⟩
              go_wp2_with fail
              refine (cb.out _).mono ?_
              rintro e w2 ⟨rfl, rfl⟩
              cases OB
              · go_wp2
                go_ret
                exact ⟨rfl, b1⟩
              rcases em with rfl | em
              · go_wp2
                go_ret
                exact ⟨by simp, b1⟩
              · go_wp2
                go_ret
                exact ⟨by simp [na, nb, em], b1⟩

end Go.Proofs.YtmegghgjllbamaaGreatDoor.Ir
