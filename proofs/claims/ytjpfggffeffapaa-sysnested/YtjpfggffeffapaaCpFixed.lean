/- Layer 8: the calls whose answers the document fixes are answered so. -/
import Derived.Test.YtjpfggffeffapaaCpWalks3
namespace Go.Proofs.Ytjpfggffeffapaa
open Go.RowKit
set_option linter.unusedVariables false

/-- The registers of the document's examples: behind a write of ones to Status; behind an exception; behind the return; a user's; one ahead of Compare; behind its step; behind a bad address. -/
def F1 : Regs := ⟨0, 0, 0, 0, 0, 0, 65299, 0, 0⟩
def F2 : Regs := ⟨0, 0, 0, 0, 0, 0, 2, 2147483680, 256⟩
def F3 : Regs := ⟨0, 0, 0, 0, 0, 0, 0, 2147483680, 256⟩
def F4 : Regs := ⟨0, 0, 0, 0, 0, 0, 16, 0, 0⟩
def F5 : Regs := ⟨0, 0, 0, 0, 0, 1, 0, 0, 0⟩
def F6 : Regs := ⟨0, 0, 0, 1, 0, 1, 0, 33792, 0⟩
def F7 : Regs := ⟨0, 0, 4660, 0, 4608, 0, 0, 0, 0⟩

theorem F2_w : Wr F2 := ⟨w0, w0, w0, w0, w0, w0, w_of _ (by decide) (by decide), w_of _ (by decide) (by decide), w_of _ (by decide) (by decide)⟩
theorem F4_w : Wr F4 := ⟨w0, w0, w0, w0, w0, w0, w_of _ (by decide) (by decide), w0, w0⟩
theorem F5_w : Wr F5 := ⟨w0, w0, w0, w0, w0, w_of _ (by decide) (by decide), w0, w0, w0⟩

theorem fixed_calls : (∀ w, Calls Try.prog 12 #[.agg (cellsR R0), .int .i64 12, .int .u32 4294967295] w fun e w' => e = .returned (.agg (cellsR F1)) ∧ Below w.heap.size w w') ∧
    (∀ w, Calls Try.prog 14 #[.agg (cellsR R0), .int .i64 8, .bool false, .int .u32 260, .bool true] w fun e w' => e = .returned (.tuple #[.agg (cellsR F2), .int .u32 2147484032]) ∧ Below w.heap.size w w') ∧
    (∀ w, Calls Try.prog 16 #[.agg (cellsR F2)] w fun e w' => e = .returned (.tuple #[.agg (cellsR F3), .int .u32 256]) ∧ Below w.heap.size w w') ∧
    (∀ w, Calls Try.prog 10 #[.agg (cellsR F2), .int .i64 14] w fun e w' => e = .returned (.int .u32 256) ∧ Below w.heap.size w w') ∧
    (∀ w, Calls Try.prog 10 #[.agg (cellsR F2), .int .i64 1] w fun e w' => e = .returned (.int .u32 0) ∧ Below w.heap.size w w') ∧
    (∀ w, Calls Try.prog 24 #[.agg (cellsR F4)] w fun e w' => e = .returned (.bool true) ∧ Below w.heap.size w w') ∧
    (∀ w, Calls Try.prog 22 #[.agg (cellsR R0)] w fun e w' => e = .returned (.bool false) ∧ Below w.heap.size w w') ∧
    (∀ w, Calls Try.prog 20 #[.agg (cellsR F5), .int .u32 1] w fun e w' => e = .returned (.agg (cellsR F6)) ∧ Below w.heap.size w w') ∧
    (∀ w, Calls Try.prog 18 #[.agg (cellsR R0), .int .u32 4660, .bool true] w fun e w' => e = .returned (.agg (cellsR F7)) ∧ Below w.heap.size w w') := by
  refine ⟨fun w => ?_, fun w => ?_, fun w => ?_, fun w => read_any F2 14 w, fun w => read_any F2 1 w, fun w => user_any F4_w w, fun w => ?_, fun w => ?_, fun w => ?_⟩
  · have := write_any R0_w 12 (v := 4294967295) (w_of _ (by decide) (by decide)) w
    rwa [show writeV R0 12 4294967295 = F1 by decide +kernel] at this
  · have := raise_any R0_w 8 false (pc := 260) (w_of _ (by decide) (by decide)) true w
    rwa [show raiseV R0 8 false 260 true = F2 by decide +kernel, show toV R0 false = 2147484032 by decide +kernel] at this
  · have := ret_any F2_w w
    rwa [show retV F2 = F3 by decide +kernel, show F2.e = 256 from rfl] at this
  · have := pend_any R0_w w
    rwa [show pendV R0 = false by decide +kernel] at this
  · have := tick_any F5_w (l := 1) (w_of _ (by decide) (by decide)) w
    rwa [show tickV F5 1 = F6 by decide +kernel] at this
  · have := bad_any R0_w (a := 4660) (w_of _ (by decide) (by decide)) true w
    rwa [show badV R0 4660 true = F7 by decide +kernel] at this

theorem fieldR (r : Regs) (w : World) : (Instr.field 24 (.agg (cellsR r)) 7).run Try.prog w = .ok (.int .u32 r.c) w ∧ (Instr.field 24 (.agg (cellsR r)) 4).run Try.prog w = .ok (.int .u32 r.h) w := by
  constructor <;> kernel_rfl

set_option maxHeartbeats 2000000 in
theorem fixed_any (w : World) : Calls Try.prog 9 #[] w fun e w' => e = .returned (.bool true) ∧ Below w.heap.size w w' := by
  obtain ⟨t1, t2, t3, t4, t5, t6, t7, t8, t9⟩ := cpRules
  obtain ⟨p0, p1, p2, p3, p4, p5, p6, p7, p8⟩ := cpParts
  obtain ⟨c1, c2, c3, c4, c5, c6, c7, c8, c9⟩ := fixed_calls
  have f1 := fun w => (fieldR F6 w).1
  have f2 := fun w => (fieldR F7 w).2
  replace c1 := hide c1
  replace c2 := hide c2
  replace c3 := hide c3
  replace c4 := hide c4
  replace c5 := hide c5
  replace c6 := hide c6
  replace c7 := hide c7
  replace c8 := hide c8
  replace c9 := hide c9
  go_enter Try.func9, Try.ntmps9
  go_wp2_with fail
  refine (c1.out _).mono ?_
  rintro e w1 ⟨rfl, b1⟩
  have B := hide (onto b1 (Nat.le_refl _) (grow w1 (.cells (cellsR F1) 24)))
  have R1 := Rat.new w1 F1 24
  clear b1
  go_wp2_with fail
  generalize w1.alloc (.cells (cellsR F1) 24) = v1 at *
  generalize w1.heap.size = L1 at *
  refine (c2.out _).mono ?_
  rintro e w2 ⟨rfl, b2⟩
  have g2 := grow w2 (.cells (cellsR F2) 24)
  replace R1 := (R1.on b2).on g2
  have R2 := Rat.new w2 F2 24
  replace B := hide (onto (onto B.out (Nat.le_refl _) b2) (Nat.le_refl _) g2)
  have l2 := R2.load
  clear b2 g2
  go_wp2_with fail
  generalize w2.alloc (.cells (cellsR F2) 24) = v2 at *
  generalize w2.heap.size = L2 at *
  refine (c3.out _).mono ?_
  rintro e w3 ⟨rfl, b3⟩
  have g3 := grow w3 (.cells (cellsR F3) 24)
  replace R1 := (R1.on b3).on g3
  replace R2 := (R2.on b3).on g3
  have R3 := Rat.new w3 F3 24
  replace B := hide (onto (onto B.out (Nat.le_refl _) b3) (Nat.le_refl _) g3)
  replace l2 := R2.load
  have e1 : (w3.alloc (.cells (cellsR F3) 24)).cell? ⟨L1, 6, none⟩ = some (.int .u32 65299) := R1.cell 6
  have e2 : (w3.alloc (.cells (cellsR F3) 24)).cell? ⟨L2, 8, none⟩ = some (.int .u32 256) := R2.cell 8
  have e3 : (w3.alloc (.cells (cellsR F3) 24)).cell? ⟨L2, 7, none⟩ = some (.int .u32 2147483680) := R2.cell 7
  have e4 : (w3.alloc (.cells (cellsR F3) 24)).cell? ⟨L2, 6, none⟩ = some (.int .u32 2) := R2.cell 6
  have e5 : (w3.alloc (.cells (cellsR F3) 24)).cell? ⟨w3.heap.size, 6, none⟩ = some (.int .u32 0) := R3.cell 6
  clear b3 g3
  go_wp2_with fail
  generalize w3.alloc (.cells (cellsR F3) 24) = v3 at *
  clear e1 e2 e3 e4 e5 R1 R3
  refine (c4.out _).mono ?_
  rintro e w4 ⟨rfl, b4⟩
  replace R2 := R2.on b4
  replace B := hide (onto B.out (Nat.le_refl _) b4)
  replace l2 := R2.load
  clear b4
  go_wp2_with fail
  refine (c5.out _).mono ?_
  rintro e w5 ⟨rfl, b5⟩
  replace B := hide (onto B.out (Nat.le_refl _) b5)
  clear b5 l2 R2
  go_wp2_with fail
  refine (c6.out _).mono ?_
  rintro e w6 ⟨rfl, b6⟩
  replace B := hide (onto B.out (Nat.le_refl _) b6)
  clear b6
  go_wp2_with fail
  refine (c7.out _).mono ?_
  rintro e w7 ⟨rfl, b7⟩
  replace B := hide (onto B.out (Nat.le_refl _) b7)
  clear b7
  go_wp2_with fail
  refine (c8.out _).mono ?_
  rintro e w8 ⟨rfl, b8⟩
  replace B := hide (onto B.out (Nat.le_refl _) b8)
  clear b8
  go_wp2_with fail
  refine (c9.out _).mono ?_
  rintro e w9 ⟨rfl, b9⟩
  replace B := hide (onto B.out (Nat.le_refl _) b9)
  clear b9
  go_wp2
  go_ret
  exact ⟨rfl, B.out⟩

end Go.Proofs.Ytjpfggffeffapaa
