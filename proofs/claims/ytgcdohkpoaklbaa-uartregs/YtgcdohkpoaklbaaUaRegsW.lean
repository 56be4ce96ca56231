/- What any register is, and what any read, any write, and any byte that comes in make of a uart, is as the document says. -/
import Derived.Test.YtgcdohkpoaklbaaUaHeld
namespace Go.Proofs.Ytgcdohkpoaklbaa
open Go.RowKit
set_option linter.unusedVariables false
set_option linter.unusedSimpArgs false

set_option maxRecDepth 100000 in
set_option maxHeartbeats 2000000 in
theorem regs_walk (w : World) (u : Ua) (hu : Wu u) (g : Int) (wg : (Lit.int .u32 g).wf = true) (v : Int) (wv : (Lit.int .u32 v).wf = true) :
    Calls Try.prog 3 #[.agg (cellsU u), .int .u32 g, .int .u32 v] w fun e w' => e = .returned (.bool true) ∧ Below w.heap.size w w' := by
  obtain ⟨t1, t2, t3, t4, t5, t6, t7, t8, t9⟩ := uaRules
  obtain ⟨p0, p1, p2⟩ := uaParts
  obtain ⟨v0, v1⟩ := wf_u32 wv
  have k0 : 0 ≤ v % 256 := by omega
  have k1 : v % 256 < 256 := by omega
  have c0 := hide fun W => bound_any u hu.i hu.o W
  have hf := bound_fits u
  generalize boundV u = b at *
  have c1 := hide fun W => read_any b hf g W
  have c2 := hide fun W => rread_any b hf g W
  have c3 := hide fun W => write_any b hf g v v0 v1 W
  have c4 := hide fun W => rwrite_any b hf g v v0 v1 W
  have hs := hf.i
  have c5 := hide fun W => feed_any b (v % 256) k0 k1 (by omega) W
  have c6 := hide fun W => rfeed_any b (v % 256) k0 k1 (by omega) W
  have c7 := hide fun W => ring_any b W
  generalize readV b g = x1 at *
  generalize leftV b g = q1 at *
  generalize formV g = y1 at *
  generalize writeV b g v = q2 at *
  generalize feedV b (v % 256) = q3 at *
  generalize decide (b.i.size < 16) = o3 at *
  have he := fun r W => eq_self r W
  clear wg wv hu
  go_enter Try.func3, Try.ntmps3
  go_wp2_with fail
  have R := Rat.new w u 23
  have B := hide (grow w (.cells (cellsU u) 23))
  generalize w.alloc (.cells (cellsU u) 23) = W0 at *
  refine (c0.out _).mono ?_
  rintro e w0 ⟨rfl, b0⟩
  replace R := R.on b0
  replace B := hide (onto B.out (Nat.le_refl _) b0)
  have i1 := R.1
  have i2 := R.2.1
  clear b0
  go_wp2_with fail
  replace R := R.set b
  replace B := hide (below_setRow B.out (Nat.le_refl _) (cellsU b))
  generalize w0.setRow w.heap.size (cellsU b) = W1 at *
  clear i1 i2
  refine (c1.out _).mono ?_
  rintro e w1 ⟨rfl, b1⟩
  have g1 := grow w1 (.cells (cellsU q1) 23)
  replace R := (R.on b1).on g1
  have R1 := Rat.new w1 q1 23
  replace B := hide (onto (onto B.out (Nat.le_refl _) b1) (Nat.le_refl _) g1)
  have l1 := R.load
  clear b1 g1
  go_wp2_with fail
  generalize w1.alloc (.cells (cellsU q1) 23) = V1 at *
  generalize w1.heap.size = L1 at *
  refine (c2.out _).mono ?_
  rintro e w2 ⟨rfl, b2⟩
  have g2 := grow w2 (.cells (cellsU q1) 23)
  replace R := (R.on b2).on g2
  replace R1 := (R1.on b2).on g2
  have R2 := Rat.new w2 q1 23
  replace B := hide (onto (onto B.out (Nat.le_refl _) b2) (Nat.le_refl _) g2)
  replace l1 := R.load
  clear b2 g2
  go_wp2_with fail
  generalize w2.alloc (.cells (cellsU q1) 23) = V2 at *
  generalize w2.heap.size = L2 at *
  refine (c3.out _).mono ?_
  rintro e w3 ⟨rfl, b3⟩
  have g3 := grow w3 (.cells (cellsU q2) 23)
  replace R := (R.on b3).on g3
  replace R1 := (R1.on b3).on g3
  replace R2 := (R2.on b3).on g3
  have R3 := Rat.new w3 q2 23
  replace B := hide (onto (onto B.out (Nat.le_refl _) b3) (Nat.le_refl _) g3)
  replace l1 := R.load
  clear b3 g3
  go_wp2_with fail
  generalize w3.alloc (.cells (cellsU q2) 23) = V3 at *
  generalize w3.heap.size = L3 at *
  refine (c4.out _).mono ?_
  rintro e w4 ⟨rfl, b4⟩
  have g4 := grow w4 (.cells (cellsU q2) 23)
  replace R := (R.on b4).on g4
  replace R1 := (R1.on b4).on g4
  replace R2 := (R2.on b4).on g4
  replace R3 := (R3.on b4).on g4
  have R4 := Rat.new w4 q2 23
  replace B := hide (onto (onto B.out (Nat.le_refl _) b4) (Nat.le_refl _) g4)
  replace l1 := R.load
  clear b4 g4
  go_wp2_with fail
  generalize w4.alloc (.cells (cellsU q2) 23) = V4 at *
  generalize w4.heap.size = L4 at *
  refine (c5.out _).mono ?_
  rintro e w5 ⟨rfl, b5⟩
  have g5 := grow w5 (.cells (cellsU q3) 23)
  replace R := (R.on b5).on g5
  replace R1 := (R1.on b5).on g5
  replace R2 := (R2.on b5).on g5
  replace R3 := (R3.on b5).on g5
  replace R4 := (R4.on b5).on g5
  have R5 := Rat.new w5 q3 23
  replace B := hide (onto (onto B.out (Nat.le_refl _) b5) (Nat.le_refl _) g5)
  replace l1 := R.load
  clear b5 g5
  go_wp2_with fail
  generalize w5.alloc (.cells (cellsU q3) 23) = V5 at *
  generalize w5.heap.size = L5 at *
  refine (c6.out _).mono ?_
  rintro e w6 ⟨rfl, b6⟩
  have g6 := grow w6 (.cells (cellsU q3) 23)
  replace R := (R.on b6).on g6
  replace R1 := (R1.on b6).on g6
  replace R2 := (R2.on b6).on g6
  replace R3 := (R3.on b6).on g6
  replace R4 := (R4.on b6).on g6
  replace R5 := (R5.on b6).on g6
  have R6 := Rat.new w6 q3 23
  replace B := hide (onto (onto B.out (Nat.le_refl _) b6) (Nat.le_refl _) g6)
  clear b6 g6 l1
  go_wp2_with fail
  generalize w6.alloc (.cells (cellsU q3) 23) = V6 at *
  generalize w6.heap.size = L6 at *
  have hS : (∀ p ∈ [(w.heap.size, b), (L1, q1), (L2, q1), (L3, q2), (L4, q2), (L5, q3), (L6, q3)], Rat V6.drew p.1 p.2) ∧ Below w.heap.size w V6.drew := by
    simp only [List.forall_mem_cons]
    exact ⟨⟨R, R1, R2, R3, R4, R5, R6, fun _ h => by cases h⟩, B.out.drew⟩
  clear R R1 R2 R3 R4 R5 R6 B
  obtain ⟨l, hl⟩ : ∃ l, l = [(w.heap.size, b), (L1, q1), (L2, q1), (L3, q2), (L4, q2), (L5, q3), (L6, q3)] := ⟨_, rfl⟩
  rw [← hl] at hS
  obtain ⟨a0, a1, a2, a3⟩ := Held.reads (w := w) (l := l) (b := w.heap.size) (u := b) (by rw [hl]; simp)
  obtain ⟨e1, -⟩ := Held.reads (w := w) (l := l) (b := L1) (u := q1) (by rw [hl]; simp)
  obtain ⟨e2, -⟩ := Held.reads (w := w) (l := l) (b := L2) (u := q1) (by rw [hl]; simp)
  obtain ⟨e3, -⟩ := Held.reads (w := w) (l := l) (b := L3) (u := q2) (by rw [hl]; simp)
  obtain ⟨e4, -⟩ := Held.reads (w := w) (l := l) (b := L4) (u := q2) (by rw [hl]; simp)
  obtain ⟨e5, -⟩ := Held.reads (w := w) (l := l) (b := L5) (u := q3) (by rw [hl]; simp)
  obtain ⟨e6, -⟩ := Held.reads (w := w) (l := l) (b := L6) (u := q3) (by rw [hl]; simp)
  clear hl c0 c1 c2 c3 c4 c5 c6
  have hne : Nonempty (Held w l) := ⟨⟨V6.drew, hS⟩⟩
  cases hn : b.n
  · rw [hn] at a3 c7
    simp only [Bool.false_and] at c7
    refine region_calm (fun x => ∃ y : Held w l, x = y.x) (by kernel_rfl) (by kernel_rfl) ⟨⟨V6.drew, hS⟩, rfl⟩ ?_
    clear hS hn
    repeat (go_big_quiet_step (first
      | (go_at_call 15; refine (fixed_any _).mono ?_; rintro e wf ⟨rfl, bf⟩; exact ⟨rfl, Held.on _ bf, rfl⟩)
      | (go_at_call 16; refine (c7.out _).mono ?_; rintro e wf ⟨rfl, bf⟩; exact ⟨rfl, Held.on _ bf, rfl⟩)))
    refine wpQuiet_nil ?_
    rintro _ ⟨y, rfl⟩
    go_wp2
    go_ret
    exact ⟨rfl, y.h.2⟩
  · rw [hn] at a3 c7
    simp only [Bool.true_and] at c7
    have hd : decide (0 < b.i.size) = decide (¬ b.i.size = 0) := by
      rw [decide_eq_decide]; omega
    generalize decide (¬ b.i.size = 0) = z at *
    refine region_calm (fun x => ∃ y : Held w l, x = y.x) (by kernel_rfl) (by kernel_rfl) ⟨⟨V6.drew, hS⟩, rfl⟩ ?_
    clear hS hn
    repeat (go_big_quiet_step (first
      | (go_at_call 15; refine (fixed_any _).mono ?_; rintro e wf ⟨rfl, bf⟩; exact ⟨rfl, Held.on _ bf, rfl⟩)
      | (go_at_call 16; refine (c7.out _).mono ?_; rintro e wf ⟨rfl, bf⟩; exact ⟨rfl, Held.on _ bf, rfl⟩)))
    refine wpQuiet_nil ?_
    rintro _ ⟨y, rfl⟩
    go_wp2
    go_ret
    exact ⟨rfl, y.h.2⟩

end Go.Proofs.Ytgcdohkpoaklbaa
