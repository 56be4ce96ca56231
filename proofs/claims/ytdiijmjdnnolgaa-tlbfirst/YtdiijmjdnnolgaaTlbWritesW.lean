/- The buffer behind any write, and what is read of any slot, is as the document says. -/
import Derived.Test.YtdiijmjdnnolgaaTlbFixed
namespace Go.Proofs.Ytdiijmjdnnolgaa
open Go.RowKit
set_option linter.unusedVariables false

theorem Tat.new' (w : World) (T : Nat → Int) (t : TypeId) (n : Nat) (hn : n = w.heap.size) : Tat (w.alloc (.cells (cellsT T) t)) n T := hn ▸ Tat.new w T t
theorem Eat.new' (w : World) (h l : Int) (t : TypeId) (n : Nat) (hn : n = w.heap.size) : Eat (w.alloc (.cells #[.int .u32 h, .int .u32 l] t)) n h l := hn ▸ Eat.new w h l t

/-- What is told of a write, and of a read. -/
theorem write_both (T : Nat → Int) (s h l : Int) (hl : 0 ≤ l ∧ l < 4294967296) : ∃ (U : Nat → Int) (er x y : Int),
    (∀ w, Calls Try.prog 7 #[.agg (cellsT T), .int .i64 s, .agg #[.int .u32 h, .int .u32 l]] w fun e w' => e = .returned (.tuple #[.agg (cellsT U), .int .i64 er]) ∧ Below w.heap.size w w') ∧
    (∀ w, Calls Try.prog 8 #[.agg (cellsT T), .int .i64 s, .agg #[.int .u32 h, .int .u32 l]] w fun e w' => e = .returned (.tuple #[.agg (cellsT U), .int .i64 er]) ∧ Below w.heap.size w w') ∧
    (∀ w, Calls Try.prog 9 #[.agg (cellsT T), .int .i64 s] w fun e w' => e = .returned (.tuple #[.agg #[.int .u32 x, .int .u32 y], .int .i64 er]) ∧ Below w.heap.size w w') ∧
    ((∃ n : Nat, n < 8 ∧ s = n ∧ x = T (n * 2) ∧ y = T (n * 2 + 1) ∧ er = 0) ∨ ((decide (0 ≤ s) = false ∨ decide (0 ≤ s) = true ∧ decide (s < 8) = false) ∧ x = 0 ∧ y = 0 ∧ er = 70)) := by
  by_cases hs : 0 ≤ s ∧ s < 8
  · obtain ⟨n, rfl⟩ : ∃ n : Nat, s = n := ⟨s.toNat, by omega⟩
    have hn : n < 8 := by omega
    exact ⟨_, _, _, _, fun w => write_in T n hn h l hl.1 hl.2 w, fun w => rwrite_in T n hn h l hl.1 hl.2 w, fun w => read_in T n hn w, Or.inl ⟨n, hn, rfl, rfl, rfl, rfl⟩⟩
  · refine ⟨_, _, _, _, fun w => write_out T s hs h l w, fun w => rwrite_out T s hs h l w, fun w => read_out T s hs w, Or.inr ⟨?_, rfl, rfl, rfl⟩⟩
    by_cases h0 : 0 ≤ s
    · right; simp; omega
    · left; simpa using h0

set_option maxHeartbeats 2000000 in
theorem writes_walk (w : World) (T : Nat → Int) (hT : Wd T) (s : Int) (ws : (Lit.int .i64 s).wf = true) (h l : Int) (hh : 0 ≤ h ∧ h < 4294967296) (hl : 0 ≤ l ∧ l < 4294967296) :
    Calls Try.prog 3 #[.agg (cellsT T), .int .i64 s, .agg #[.int .u32 h, .int .u32 l]] w fun e w' => e = .returned (.bool true) ∧ Below w.heap.size w w' := by
  obtain ⟨t1, t2, t3, t4, t5, t6, t7, t8, t9⟩ := tlbRules
  obtain ⟨U, er, x, y, c1, c2, c3, hcase⟩ := write_both T s h l hl
  replace c1 := hide c1
  replace c2 := hide c2
  replace c3 := hide c3
  replace hcase := hide hcase
  clear ws hT hh hl
  go_enter Try.func3, Try.ntmps3
  go_wp2_with fail
  have g0 := grow w (.cells (cellsT T) 26)
  have g1 := grow (w.alloc (.cells (cellsT T) 26)) (.cells #[.int .u32 h, .int .u32 l] 24)
  have R := (Tat.new w T 26).on g1
  have E := Eat.new' (w.alloc (.cells (cellsT T) 26)) h l 24 (w.heap.size + 1) (by simp)
  have B := hide (onto g0 (Nat.le_refl _) g1)
  clear g0 g1
  refine (c1.out _).mono ?_
  rintro e w1 ⟨rfl, b1⟩
  have g1 := grow w1 (.cells (cellsT U) 26)
  replace R := (R.on b1).on g1
  replace E := (E.on b1).on g1
  replace B := hide (onto (onto B.out (Nat.le_refl _) b1) (Nat.le_refl _) g1)
  have A := Tat.new w1 U 26
  have l1 := R.load
  have e1 := E.1
  have e2 := E.2.1
  clear b1 g1
  go_wp2_with fail
  generalize w1.alloc (.cells (cellsT U) 26) = v1 at *
  generalize w1.heap.size = LA at *
  refine (c2.out _).mono ?_
  rintro e w2 ⟨rfl, b2⟩
  have g2 := grow w2 (.cells (cellsT U) 26)
  replace R := (R.on b2).on g2
  replace A := (A.on b2).on g2
  replace B := hide (onto (onto B.out (Nat.le_refl _) b2) (Nat.le_refl _) g2)
  have C := Tat.new w2 U 26
  replace l1 := R.load
  clear b2 g2 e1 e2 E
  clear v1
  go_wp2_with fail
  generalize w2.alloc (.cells (cellsT U) 26) = v2 at *
  generalize w2.heap.size = LC at *
  refine (c3.out _).mono ?_
  rintro e w3 ⟨rfl, b3⟩
  have g3 := grow w3 (.cells #[.int .u32 x, .int .u32 y] 24)
  replace R := (R.on b3).on g3
  replace A := (A.on b3).on g3
  replace C := (C.on b3).on g3
  replace B := hide (onto (onto B.out (Nat.le_refl _) b3) (Nat.le_refl _) g3)
  have X := Eat.new w3 x y 24
  clear b3 g3 l1
  clear v2
  have hq := fun w => eqlTlb U U w
  rw [sameT_refl] at hq
  have hx := fun w => eqlEntry x y x y w
  rw [show same2 x y x y = true from same2_iff.2 ⟨rfl, rfl⟩] at hx
  have g4 := grow (w3.alloc (.cells #[.int .u32 x, .int .u32 y] 24)) (.cells #[.int .u32 x, .int .u32 y] 24)
  have g5 := grow (w3.alloc (.cells #[.int .u32 x, .int .u32 y] 24)) (.cells #[.int .u32 0, .int .u32 0] 24)
  have R5 := R.on g5
  replace A := A.on g4
  replace C := C.on g4
  replace X := X.on g4
  have Y := Eat.new' (w3.alloc (.cells #[.int .u32 x, .int .u32 y] 24)) x y 24 (w3.heap.size + 1) (by simp)
  replace B := hide (onto B.out (Nat.le_refl _) g4)
  clear g4 g5
  rcases hcase.out with ⟨n, hn, rfl, rfl, rfl, rfl⟩ | ⟨ho, rfl, rfl, rfl⟩
  · have d1 : decide ((0 : Int) ≤ (n : Int)) = true := by simp
    have d2 : decide ((n : Int) < 8) = true := by simp; omega
    have r0 := R5.cell (n * 2) (by omega)
    have r1 := R5.cell (n * 2 + 1) (by omega)
    go_wp2_with fail
    clear r0 r1 R5 R hcase
    generalize (w3.alloc (.cells #[.int .u32 (T (n * 2)), .int .u32 (T (n * 2 + 1))] 24)).alloc (.cells #[.int .u32 (T (n * 2)), .int .u32 (T (n * 2 + 1))] 24) = v4 at *
    refine (fixed_any _).mono ?_
    rintro e w5 ⟨rfl, b5⟩
    have a1 := (A.on b5).load
    have a2 := (C.on b5).load
    have x1 := (X.on b5).1
    have x2 := (X.on b5).2.1
    have y1 := (Y.on b5).1
    have y2 := (Y.on b5).2.1
    replace B := hide (onto B.out (Nat.le_refl _) b5)
    clear A C X Y b5 v4
    go_wp2
    go_ret
    exact ⟨rfl, B.out⟩
  · clear R5 R hcase
    rcases ho with d1 | ⟨d1, d2⟩
    all_goals
      go_wp2_with fail
      generalize (w3.alloc (.cells #[.int .u32 0, .int .u32 0] 24)).alloc (.cells #[.int .u32 0, .int .u32 0] 24) = v4 at *
      refine (fixed_any _).mono ?_
      rintro e w5 ⟨rfl, b5⟩
      have a1 := (A.on b5).load
      have a2 := (C.on b5).load
      have x1 := (X.on b5).1
      have x2 := (X.on b5).2.1
      have y1 := (Y.on b5).1
      have y2 := (Y.on b5).2.1
      replace B := hide (onto B.out (Nat.le_refl _) b5)
      clear A C X Y b5 v4
      go_wp2
      go_ret
      exact ⟨rfl, B.out⟩

end Go.Proofs.Ytdiijmjdnnolgaa
