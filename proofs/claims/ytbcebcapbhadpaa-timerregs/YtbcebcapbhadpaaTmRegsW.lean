/- What any register is, and what any write makes of a timer, is as the document says. -/
import Derived.Test.YtbcebcapbhadpaaTmOpen
namespace Go.Proofs.Ytbcebcapbhadpaa
open Go.RowKit
set_option linter.unusedVariables false

theorem regs_walk (w : World) (t : Tm) (ht : Wt t) (g : Int) (wg : (Lit.int .u32 g).wf = true) (v : Int) (wv : (Lit.int .u32 v).wf = true) :
    Calls Try.prog 3 #[.agg (cellsT t), .int .u32 g, .int .u32 v] w fun e w' => e = .returned (.bool true) ∧ Below w.heap.size w w' := by
  obtain ⟨t1, t2, t3, t4, t5, t6, t7, t8, t9⟩ := tmRules
  have c1 := hide fun W => read_any t g W
  have c2 := hide fun W => rread_any t g W
  have c3 := hide fun W => write_any t g v W
  have c4 := hide fun W => rwrite_any t g v W
  generalize readV t g = x at *
  generalize formV g = y at *
  generalize writeV t g v = q at *
  have he := fun W => eq_self q W
  clear wg wv ht
  go_enter Try.func3, Try.ntmps3
  go_wp2_with fail
  have R := Rat.new w t 24
  have B := hide (grow w (.cells (cellsT t) 24))
  generalize w.alloc (.cells (cellsT t) 24) = W at *
  refine (c1.out _).mono ?_
  rintro e w1 ⟨rfl, b1⟩
  replace R := R.on b1
  replace B := hide (onto B.out (Nat.le_refl _) b1)
  have l1 := R.load
  clear b1
  go_wp2_with fail
  refine (c2.out _).mono ?_
  rintro e w2 ⟨rfl, b2⟩
  replace R := R.on b2
  replace B := hide (onto B.out (Nat.le_refl _) b2)
  replace l1 := R.load
  clear b2
  go_wp2_with fail
  refine (c3.out _).mono ?_
  rintro e w3 ⟨rfl, b3⟩
  have g3 := grow w3 (.cells (cellsT q) 24)
  replace R := (R.on b3).on g3
  have R1 := Rat.new w3 q 24
  replace B := hide (onto (onto B.out (Nat.le_refl _) b3) (Nat.le_refl _) g3)
  replace l1 := R.load
  clear b3 g3
  go_wp2_with fail
  generalize w3.alloc (.cells (cellsT q) 24) = v3 at *
  generalize w3.heap.size = L3 at *
  refine (c4.out _).mono ?_
  rintro e w4 ⟨rfl, b4⟩
  have g4 := grow w4 (.cells (cellsT q) 24)
  replace R1 := (R1.on b4).on g4
  have R2 := Rat.new w4 q 24
  replace B := hide (onto (onto B.out (Nat.le_refl _) b4) (Nat.le_refl _) g4)
  clear b4 g4 R l1
  go_wp2_with fail
  generalize w4.alloc (.cells (cellsT q) 24) = v4 at *
  generalize w4.heap.size = L4 at *
  refine (fixed_any _).mono ?_
  rintro e w5 ⟨rfl, b5⟩
  have l2 := (R1.on b5).load
  have l3 := (R2.on b5).load
  replace B := hide (onto B.out (Nat.le_refl _) b5)
  clear b5 R1 R2
  go_wp2
  go_ret
  exact ⟨rfl, B.out⟩

end Go.Proofs.Ytbcebcapbhadpaa
