/- Layer 9: the calls whose answers the document fixes are answered so. -/
import Derived.Test.YtbcebcapbhadpaaTmParse2
namespace Go.Proofs.Ytbcebcapbhadpaa
open Go.RowKit
set_option linter.unusedVariables false

theorem wt_of {e l : Int} (r : Bool) (h : (0 ≤ e ∧ e < 4294967296) ∧ (0 ≤ l ∧ l < 4294967296)) : Wt ⟨e, l, r⟩ := ⟨h.1, h.2⟩

theorem fixed_calls : (∀ w, Calls Try.prog 11 #[.agg (cellsT T0), .int .u32 0, .int .u32 3] w fun e w' => e = .returned (.tuple #[.agg (cellsT ⟨3, 3, false⟩), .int .i64 0]) ∧ Below w.heap.size w w') ∧
    (∀ w, Calls Try.prog 14 #[.agg (cellsT ⟨3, 3, false⟩)] w fun e w' => e = .returned (.agg (cellsT ⟨3, 2, false⟩)) ∧ Below w.heap.size w w') ∧
    (∀ w, Calls Try.prog 14 #[.agg (cellsT ⟨3, 2, false⟩)] w fun e w' => e = .returned (.agg (cellsT ⟨3, 1, false⟩)) ∧ Below w.heap.size w w') ∧
    (∀ w, Calls Try.prog 14 #[.agg (cellsT ⟨3, 1, false⟩)] w fun e w' => e = .returned (.agg (cellsT ⟨3, 3, true⟩)) ∧ Below w.heap.size w w') ∧
    (∀ w, Calls Try.prog 16 #[.agg (cellsT ⟨7, 2, false⟩), .int .i64 1000000] w fun e w' => e = .returned (.agg (cellsT ⟨7, 1, true⟩)) ∧ Below w.heap.size w w') ∧
    (∀ w, Calls Try.prog 9 #[.agg (cellsT ⟨3, 3, false⟩), .int .u32 12] w fun e w' => e = .returned (.tuple #[.int .u32 0, .int .i64 90]) ∧ Below w.heap.size w w') ∧
    (∀ w, Calls Try.prog 17 #[.string ⟨#[120]⟩] w fun e w' => e = .returned (.tuple #[.agg (cellsT T0), .int .i64 90]) ∧ Below w.heap.size w w') ∧
    (∀ w, Calls Try.prog 19 #[.agg (cellsT ⟨3, 3, true⟩)] w fun e w' => e = .returned (.string ⟨#[0, 0, 0, 3, 0, 0, 0, 3, 1]⟩) ∧ Below w.heap.size w w') := by
  refine ⟨fun w => write_any T0 0 3 w, fun w => tick_any (wt_of false (by decide)) w, fun w => tick_any (wt_of false (by decide)) w, fun w => tick_any (wt_of false (by decide)) w, fun w => ?_, fun w => read_any _ 12 w, fun w => parse_no (by decide) (by decide) w, fun w => ?_⟩
  · have := ticks_any (t := ⟨7, 2, false⟩) (wt_of false (by decide)) 1000000 w
    rwa [show ticksV ⟨7, 2, false⟩ 1000000 = ⟨7, 1, true⟩ by decide +kernel] at this
  · have := text_any (t := ⟨3, 3, true⟩) (wt_of true (by decide)) w
    rwa [show textV ⟨3, 3, true⟩ = ⟨#[0, 0, 0, 3, 0, 0, 0, 3, 1]⟩ by decide +kernel] at this

set_option maxHeartbeats 2000000 in
theorem fixed_any (w : World) : Calls Try.prog 13 #[] w fun e w' => e = .returned (.bool true) ∧ Below w.heap.size w w' := by
  obtain ⟨t1, t2, t3, t4, t5, t6, t7, t8, t9⟩ := tmRules
  obtain ⟨p0, p1, p2⟩ := tmParts
  obtain ⟨s0, s1, s2⟩ := tmSets
  obtain ⟨c1, c2, c3, c4, c5, c6, c7, c8⟩ := fixed_calls
  have z0 : T0.r = false := rfl
  have he := fun r w => eq_self r w
  replace c1 := hide c1
  replace c2 := hide c2
  replace c3 := hide c3
  replace c4 := hide c4
  replace c5 := hide c5
  replace c6 := hide c6
  replace c7 := hide c7
  replace c8 := hide c8
  go_enter Try.func13, Try.ntmps13
  go_wp2_with fail
  refine (c1.out _).mono ?_
  rintro e w1 ⟨rfl, b1⟩
  have B := hide (onto b1 (Nat.le_refl _) (grow w1 (.cells (cellsT ⟨3, 3, false⟩) 24)))
  have R1 := Rat.new w1 ⟨3, 3, false⟩ 24
  have l1 := R1.load
  clear b1
  go_wp2_with fail
  generalize w1.alloc (.cells (cellsT ⟨3, 3, false⟩) 24) = v1 at *
  generalize w1.heap.size = L1 at *
  refine (c2.out _).mono ?_
  rintro e w2 ⟨rfl, b2⟩
  replace R1 := R1.on b2
  replace B := hide (onto B.out (Nat.le_refl _) b2)
  clear b2 l1
  go_wp2_with fail
  refine (c3.out _).mono ?_
  rintro e w3 ⟨rfl, b3⟩
  have g3 := grow w3 (.cells (cellsT ⟨3, 1, false⟩) 24)
  replace R1 := (R1.on b3).on g3
  have R2 := Rat.new w3 ⟨3, 1, false⟩ 24
  replace B := hide (onto (onto B.out (Nat.le_refl _) b3) (Nat.le_refl _) g3)
  have l2 := R2.load
  clear b3 g3
  go_wp2_with fail
  generalize w3.alloc (.cells (cellsT ⟨3, 1, false⟩) 24) = v3 at *
  generalize w3.heap.size = L2 at *
  refine (c4.out _).mono ?_
  rintro e w4 ⟨rfl, b4⟩
  have g4 := grow w4 (.cells (cellsT ⟨3, 3, true⟩) 24)
  replace R1 := (R1.on b4).on g4
  replace R2 := (R2.on b4).on g4
  have R3 := Rat.new w4 ⟨3, 3, true⟩ 24
  replace B := hide (onto (onto B.out (Nat.le_refl _) b4) (Nat.le_refl _) g4)
  clear b4 g4 l2
  go_wp2_with fail
  generalize w4.alloc (.cells (cellsT ⟨3, 3, true⟩) 24) = v4 at *
  generalize w4.heap.size = L3 at *
  refine (c5.out _).mono ?_
  rintro e w5 ⟨rfl, b5⟩
  have g5 := grow w5 (.cells (cellsT ⟨7, 1, true⟩) 24)
  replace R1 := (R1.on b5).on g5
  replace R2 := (R2.on b5).on g5
  replace R3 := (R3.on b5).on g5
  have R4 := Rat.new w5 ⟨7, 1, true⟩ 24
  replace B := hide (onto (onto B.out (Nat.le_refl _) b5) (Nat.le_refl _) g5)
  have l1 := R1.load
  clear b5 g5
  go_wp2_with fail
  generalize w5.alloc (.cells (cellsT ⟨7, 1, true⟩) 24) = v5 at *
  generalize w5.heap.size = L4 at *
  refine (c6.out _).mono ?_
  rintro e w6 ⟨rfl, b6⟩
  replace R2 := R2.on b6
  replace R3 := R3.on b6
  replace R4 := R4.on b6
  replace B := hide (onto B.out (Nat.le_refl _) b6)
  clear b6 l1 R1
  go_wp2_with fail
  refine (c7.out _).mono ?_
  rintro e w7 ⟨rfl, b7⟩
  have g7 := grow w7 (.cells (cellsT T0) 24)
  replace R2 := (R2.on b7).on g7
  replace R3 := (R3.on b7).on g7
  replace R4 := (R4.on b7).on g7
  replace B := hide (onto (onto B.out (Nat.le_refl _) b7) (Nat.le_refl _) g7)
  have l2 := R2.load
  have l3 := R3.load
  have l4 := R4.load
  clear b7 g7
  go_wp2_with fail
  refine (c8.out _).mono ?_
  rintro e w8 ⟨rfl, b8⟩
  replace B := hide (onto B.out (Nat.le_refl _) b8)
  clear b8 R2 R3 R4 l2 l3 l4
  go_wp2
  go_ret
  exact ⟨rfl, B.out⟩

end Go.Proofs.Ytbcebcapbhadpaa
