/- What any register is, what any write, and any step make of a state, is as the document says. -/
import Derived.Test.YtifkldlhoaipbaaDmOpen
namespace Go.Proofs.Ytifkldlhoaipbaa
open Go.RowKit
set_option linter.unusedVariables false

set_option maxHeartbeats 1000000 in
theorem regs_walk (w : World) (t : Dm) (ht : Wd t) (g : Int) (wg : (Lit.int .u32 g).wf = true) (v : Int) (wv : (Lit.int .u32 v).wf = true) :
    Calls Try.prog 3 #[.agg (cellsD t), .int .u32 g, .int .u32 v] w fun e w' => e = .returned (.bool true) ∧ Below w.heap.size w w' := by
  obtain ⟨t1, t2, t3, t4, t5, t6, t7, t8, t9⟩ := dmRules
  have c1 := hide fun W => read_any t g W
  have c2 := hide fun W => rread_any t g W
  have c3 := hide fun W => write_any t g v W
  have c4 := hide fun W => rwrite_any t ht g v W
  have c5 := hide fun W => tick_any ht W
  have c6 := hide fun W => rtick_any ht W
  generalize readV t g = x at *
  generalize formV g = y at *
  generalize writeV t g v = q at *
  generalize tickV t = r at *
  generalize wayV t = z at *
  have he := fun W => eq_self q W
  have he2 := fun W => eq_self r W
  clear wg wv ht
  go_enter Try.func3, Try.ntmps3
  go_wp2_with fail
  have R := Rat.new w t 24
  have B := hide (grow w (.cells (cellsD t) 24))
  generalize w.alloc (.cells (cellsD t) 24) = W at *
  refine (c1.out _).mono ?_
  rintro e w1 ⟨rfl, b1⟩
  replace R := R.on b1
  replace B := hide (onto B.out (Nat.le_refl _) b1)
  have l1 := R.load
  clear b1
  go_wp2_with fail
  refine (c2.out _).mono ?_
  rintro e w2 ⟨rfl, b2⟩
  replace R := R.on b2
  replace B := hide (onto B.out (Nat.le_refl _) b2)
  replace l1 := R.load
  clear b2
  go_wp2_with fail
  refine (c3.out _).mono ?_
  rintro e w3 ⟨rfl, b3⟩
  have g3 := grow w3 (.cells (cellsD q) 24)
  replace R := (R.on b3).on g3
  have R1 := Rat.new w3 q 24
  replace B := hide (onto (onto B.out (Nat.le_refl _) b3) (Nat.le_refl _) g3)
  replace l1 := R.load
  clear b3 g3
  go_wp2_with fail
  generalize w3.alloc (.cells (cellsD q) 24) = v3 at *
  generalize w3.heap.size = L3 at *
  refine (c4.out _).mono ?_
  rintro e w4 ⟨rfl, b4⟩
  have g4 := grow w4 (.cells (cellsD q) 24)
  replace R := (R.on b4).on g4
  replace R1 := (R1.on b4).on g4
  have R2 := Rat.new w4 q 24
  replace B := hide (onto (onto B.out (Nat.le_refl _) b4) (Nat.le_refl _) g4)
  replace l1 := R.load
  clear b4 g4
  go_wp2_with fail
  generalize w4.alloc (.cells (cellsD q) 24) = v4 at *
  generalize w4.heap.size = L4 at *
  refine (c5.out _).mono ?_
  rintro e w5 ⟨rfl, b5⟩
  have g5 := grow w5 (.cells (cellsD r) 24)
  replace R := (R.on b5).on g5
  replace R1 := (R1.on b5).on g5
  replace R2 := (R2.on b5).on g5
  have R3 := Rat.new w5 r 24
  replace B := hide (onto (onto B.out (Nat.le_refl _) b5) (Nat.le_refl _) g5)
  replace l1 := R.load
  clear b5 g5
  go_wp2_with fail
  generalize w5.alloc (.cells (cellsD r) 24) = v5 at *
  generalize w5.heap.size = L5 at *
  refine (c6.out _).mono ?_
  rintro e w6 ⟨rfl, b6⟩
  have g6 := grow w6 (.cells (cellsD r) 24)
  replace R1 := (R1.on b6).on g6
  replace R2 := (R2.on b6).on g6
  replace R3 := (R3.on b6).on g6
  have R4 := Rat.new w6 r 24
  replace B := hide (onto (onto B.out (Nat.le_refl _) b6) (Nat.le_refl _) g6)
  clear b6 g6 R l1
  go_wp2_with fail
  generalize w6.alloc (.cells (cellsD r) 24) = v6 at *
  generalize w6.heap.size = L6 at *
  refine (fixed_any _).mono ?_
  rintro e w7 ⟨rfl, b7⟩
  have l2 := (R1.on b7).load
  have l3 := (R2.on b7).load
  have l4 := (R3.on b7).load
  have l5 := (R4.on b7).load
  replace B := hide (onto B.out (Nat.le_refl _) b7)
  clear b7 R1 R2 R3 R4
  go_wp2
  go_ret
  exact ⟨rfl, B.out⟩

end Go.Proofs.Ytifkldlhoaipbaa
