/- What comes in and what goes out have nothing to do with one another. -/
import Derived.Test.YtgcdohkpoaklbaaUaHeld
namespace Go.Proofs.Ytgcdohkpoaklbaa
open Go.RowKit
set_option linter.unusedVariables false
set_option linter.unusedSimpArgs false

theorem feed_o (u : Ua) (c : Int) : feedV u c = ⟨(feedV u c).i, u.o, u.n⟩ := by
  unfold feedV
  split <;> rfl

set_option maxRecDepth 100000 in
set_option maxHeartbeats 2000000 in
theorem apart_walk (w : World) (u : Ua) (hu : Wu u) (v : Int) (wv : (Lit.int .u32 v).wf = true) :
    Calls Try.prog 7 #[.agg (cellsU u), .int .u32 v] w fun e w' => e = .returned (.bool true) ∧ Below w.heap.size w w' := by
  obtain ⟨t1, t2, t3, t4, t5, t6, t7, t8, t9⟩ := uaRules
  obtain ⟨p0, p1, p2⟩ := uaParts
  obtain ⟨v0, v1⟩ := wf_u32 wv
  have k0 : 0 ≤ v % 256 := by omega
  have k1 : v % 256 < 256 := by omega
  have c0 := hide fun W => bound_any u hu.i hu.o W
  have hf := bound_fits u
  generalize boundV u = b at *
  have hs := hf.i
  have c1 := hide fun W => write_any b hf 0 v v0 v1 W
  have c2 := hide fun W => feed_any b (v % 256) k0 k1 (by omega) W
  have c3 := hide fun W => read_any b hf 0 W
  have c4 := hide fun W => write_any b hf 8 v v0 v1 W
  rw [show writeV b 0 v = ⟨b.i, lastV (b.o ++ byteT (v % 256)), b.n⟩ from rfl, show formV 0 = 0 from rfl] at c1
  rw [feed_o] at c2
  rw [show leftV b 0 = ⟨b.i.extract 1 b.i.size, b.o, b.n⟩ from rfl, show formV 0 = 0 from rfl] at c3
  rw [show writeV b 8 v = ⟨b.i, ⟨#[]⟩, b.n⟩ from rfl, show formV 8 = 0 from rfl] at c4
  generalize lastV (b.o ++ byteT (v % 256)) = x1 at *
  generalize (feedV b (v % 256)).i = x2 at *
  generalize b.i.extract 1 b.i.size = x3 at *
  generalize readV b 0 = n3 at *
  have hd : decide ((b.i.size : Int) < 16) = decide (b.i.size < 16) := by rw [decide_eq_decide]; omega
  obtain ⟨z, hz⟩ : ∃ z, decide (b.i.size < 16) = z := ⟨_, rfl⟩
  rw [hz] at c2 hd
  clear wv hu
  go_enter Try.func7, Try.ntmps7
  go_wp2_with fail
  have R := Rat.new w u 23
  have B := hide (grow w (.cells (cellsU u) 23))
  generalize w.alloc (.cells (cellsU u) 23) = W0 at *
  refine (c0.out _).mono ?_
  rintro e w0 ⟨rfl, b0⟩
  replace R := R.on b0
  replace B := hide (onto B.out (Nat.le_refl _) b0)
  have i1 := R.1
  have i2 := R.2.1
  clear b0
  go_wp2_with fail
  replace R := R.set b
  replace B := hide (below_setRow B.out (Nat.le_refl _) (cellsU b))
  generalize w0.setRow w.heap.size (cellsU b) = W1 at *
  clear i1 i2
  refine (c1.out _).mono ?_
  rintro e w1 ⟨rfl, b1⟩
  have g1 := grow w1 (.cells (cellsU ⟨b.i, x1, b.n⟩) 23)
  replace R := (R.on b1).on g1
  have R1 := Rat.new w1 ⟨b.i, x1, b.n⟩ 23
  replace B := hide (onto (onto B.out (Nat.le_refl _) b1) (Nat.le_refl _) g1)
  have l1 := R.load
  clear b1 g1
  go_wp2_with fail
  clear l1
  generalize w1.alloc (.cells (cellsU ⟨b.i, x1, b.n⟩) 23) = V1 at *
  generalize w1.heap.size = L1 at *
  refine (c2.out _).mono ?_
  rintro e w2 ⟨rfl, b2⟩
  have g2 := grow w2 (.cells (cellsU ⟨x2, b.o, b.n⟩) 23)
  replace R := (R.on b2).on g2
  replace R1 := (R1.on b2).on g2
  have R2 := Rat.new w2 ⟨x2, b.o, b.n⟩ 23
  replace B := hide (onto (onto B.out (Nat.le_refl _) b2) (Nat.le_refl _) g2)
  have l2 := R.load
  clear b2 g2
  go_wp2_with fail
  clear l2
  generalize w2.alloc (.cells (cellsU ⟨x2, b.o, b.n⟩) 23) = V2 at *
  generalize w2.heap.size = L2 at *
  refine (c3.out _).mono ?_
  rintro e w3 ⟨rfl, b3⟩
  have g3 := grow w3 (.cells (cellsU ⟨x3, b.o, b.n⟩) 23)
  replace R := (R.on b3).on g3
  replace R1 := (R1.on b3).on g3
  replace R2 := (R2.on b3).on g3
  have R3 := Rat.new w3 ⟨x3, b.o, b.n⟩ 23
  replace B := hide (onto (onto B.out (Nat.le_refl _) b3) (Nat.le_refl _) g3)
  have l3 := R.load
  clear b3 g3
  go_wp2_with fail
  clear l3
  generalize w3.alloc (.cells (cellsU ⟨x3, b.o, b.n⟩) 23) = V3 at *
  generalize w3.heap.size = L3 at *
  refine (c4.out _).mono ?_
  rintro e w4 ⟨rfl, b4⟩
  have g4 := grow w4 (.cells (cellsU ⟨b.i, ⟨#[]⟩, b.n⟩) 23)
  replace R := (R.on b4).on g4
  replace R1 := (R1.on b4).on g4
  replace R2 := (R2.on b4).on g4
  replace R3 := (R3.on b4).on g4
  have R4 := Rat.new w4 ⟨b.i, ⟨#[]⟩, b.n⟩ 23
  replace B := hide (onto (onto B.out (Nat.le_refl _) b4) (Nat.le_refl _) g4)
  clear b4 g4
  go_wp2_with fail
  generalize w4.alloc (.cells (cellsU ⟨b.i, ⟨#[]⟩, b.n⟩) 23) = V4 at *
  generalize w4.heap.size = L4 at *
  refine (fixed_any _).mono ?_
  rintro e w5 ⟨rfl, b5⟩
  obtain ⟨a1, a2, a3⟩ := (R.on b5).three
  obtain ⟨e1, f1, g1⟩ := (R1.on b5).three
  obtain ⟨e2, f2, g2⟩ := (R2.on b5).three
  obtain ⟨e3, f3, g3⟩ := (R3.on b5).three
  obtain ⟨e4, f4, g4⟩ := (R4.on b5).three
  replace B := hide (onto B.out (Nat.le_refl _) b5)
  clear b5 R R1 R2 R3 R4 c0 c1 c2 c3 c4
  simp only at e1 f1 g1 e2 f2 g2 e3 f3 g3 e4 f4 g4
  go_wp2
  go_ret
  exact ⟨rfl, B.out⟩

end Go.Proofs.Ytgcdohkpoaklbaa
