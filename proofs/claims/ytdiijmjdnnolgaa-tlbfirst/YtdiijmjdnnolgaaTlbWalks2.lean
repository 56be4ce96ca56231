/- Layer 7: contracts of Read and Write, of the program and of the document. -/
import Derived.Test.YtdiijmjdnnolgaaTlbWalks
namespace Go.Proofs.Ytdiijmjdnnolgaa
open Go.RowKit
set_option linter.unusedVariables false

theorem isSlot_in (s : Nat) (hs : s < 8) (w : World) : Calls Try.prog 15 #[.int .i64 (s : Int)] w fun e w' => e = .returned (.bool true) ∧ w' = w := by
  have := isSlot_any s w
  rwa [show decide (0 ≤ (s : Int) ∧ (s : Int) < 8) = true by simp; omega] at this

theorem isSlot_out (s : Int) (hs : ¬ (0 ≤ s ∧ s < 8)) (w : World) : Calls Try.prog 15 #[.int .i64 s] w fun e w' => e = .returned (.bool false) ∧ w' = w := by
  have := isSlot_any s w
  rwa [show decide (0 ≤ s ∧ s < 8) = false by simpa using hs] at this

theorem read_in (T : Nat → Int) (s : Nat) (hs : s < 8) (w : World) :
    Calls Try.prog 9 #[.agg (cellsT T), .int .i64 (s : Int)] w fun e w' =>
      e = .returned (.tuple #[.agg #[.int .u32 (T (s * 2)), .int .u32 (T (s * 2 + 1))], .int .i64 0]) ∧ Below w.heap.size w w' := by
  obtain ⟨t1, t2, t3, t4, t5, t6, t7, t8, t9⟩ := tlbRules
  have c0 := get_cellsT T (s * 2) (by omega)
  have c1 := get_cellsT T (s * 2 + 1) (by omega)
  go_enter Try.func9, Try.ntmps9
  go_wp2_with (go_at_call 15; refine (isSlot_in s hs _).mono ?_; rintro e w' ⟨rfl, rfl⟩)
  refine bodyPost_ret (v := .tuple #[.agg #[.int .u32 (T (s * 2)), .int .u32 (T (s * 2 + 1))], .int .i64 0]) (by simp [results, Try.results9, go_sem]) rfl ⟨rfl, ?_⟩
  exact ((Below.refl _ w).alloc (Nat.le_refl _) _).alloc (by simp) _

theorem read_out (T : Nat → Int) (s : Int) (hs : ¬ (0 ≤ s ∧ s < 8)) (w : World) :
    Calls Try.prog 9 #[.agg (cellsT T), .int .i64 s] w fun e w' =>
      e = .returned (.tuple #[.agg #[.int .u32 0, .int .u32 0], .int .i64 70]) ∧ Below w.heap.size w w' := by
  obtain ⟨t1, t2, t3, t4, t5, t6, t7, t8, t9⟩ := tlbRules
  go_enter Try.func9, Try.ntmps9
  go_wp2_with (go_at_call 15; refine (isSlot_out s hs _).mono ?_; rintro e w' ⟨rfl, rfl⟩)
  refine bodyPost_ret (v := .tuple #[.agg #[.int .u32 0, .int .u32 0], .int .i64 70]) (by simp [results, Try.results9, go_sem]) rfl ⟨rfl, ?_⟩
  exact ((Below.refl _ w).alloc (Nat.le_refl _) _).alloc (by simp) _

/-- The Lo of an entry that is written. -/
def loV (l : Int) : Int := l / 256 * 256 + l % 8

theorem write_in (T : Nat → Int) (s : Nat) (hs : s < 8) (h l : Int) (l0 : 0 ≤ l) (l1 : l < 4294967296) (w : World) :
    Calls Try.prog 7 #[.agg (cellsT T), .int .i64 (s : Int), .agg #[.int .u32 h, .int .u32 l]] w fun e w' =>
      e = .returned (.tuple #[.agg (cellsT (putT T s h (loV l))), .int .i64 0]) ∧ Below w.heap.size w w' := by
  obtain ⟨t1, t2, t3, t4, t5, t6, t7, t8, t9⟩ := tlbRules
  have e1 : bits .andNot .u32 l 248 = loV l := andNot248 l l0 l1
  go_enter Try.func7, Try.ntmps7
  go_wp2_with (go_at_call 15; refine (isSlot_in s hs _).mono ?_; rintro e w' ⟨rfl, rfl⟩)
  refine (with_any T s h (loV l) hs _).mono ?_
  rintro e w1 ⟨rfl, hb⟩
  obtain ⟨hr, hi⟩ := brow hb
  have z : w.heap.size + 1 + 1 < w1.heap.size := by have := hb.size; simp at this; omega
  go_wp2
  refine bodyPost_ret (v := .tuple #[.agg (cellsT (putT T s h (loV l))), .int .i64 0]) (by simp [results, Try.results7, go_sem, t1, t7, t9, hi]) rfl ⟨rfl, ?_⟩
  exact below_setRow (((((Below.refl _ w).alloc (Nat.le_refl _) _).alloc (by simp) _).alloc (by simp; omega) _).trans (hb.mono (by simp; omega))) (by omega) _

theorem write_out (T : Nat → Int) (s : Int) (hs : ¬ (0 ≤ s ∧ s < 8)) (h l : Int) (w : World) :
    Calls Try.prog 7 #[.agg (cellsT T), .int .i64 s, .agg #[.int .u32 h, .int .u32 l]] w fun e w' =>
      e = .returned (.tuple #[.agg (cellsT T0), .int .i64 70]) ∧ Below w.heap.size w w' := by
  obtain ⟨t1, t2, t3, t4, t5, t6, t7, t8, t9⟩ := tlbRules
  go_enter Try.func7, Try.ntmps7
  go_wp2_with (go_at_call 15; refine (isSlot_out s hs _).mono ?_; rintro e w' ⟨rfl, rfl⟩)
  refine bodyPost_ret (v := .tuple #[.agg (cellsT T0), .int .i64 70]) (by simp [results, Try.results7, go_sem, t1, t3, t5, t6, t7]) rfl ⟨rfl, ?_⟩
  exact (((Below.refl _ w).alloc (Nat.le_refl _) _).alloc (by simp) _).alloc (by simp; omega) _

theorem rwrite_in (T : Nat → Int) (s : Nat) (hs : s < 8) (h l : Int) (l0 : 0 ≤ l) (l1 : l < 4294967296) (w : World) :
    Calls Try.prog 8 #[.agg (cellsT T), .int .i64 (s : Int), .agg #[.int .u32 h, .int .u32 l]] w fun e w' =>
      e = .returned (.tuple #[.agg (cellsT (putT T s h (loV l))), .int .i64 0]) ∧ Below w.heap.size w w' := by
  obtain ⟨t1, t2, t3, t4, t5, t6, t7, t8, t9⟩ := tlbRules
  have c0 := get_cellsT T (s * 2) (by omega)
  have c1 := get_cellsT T (s * 2 + 1) (by omega)
  have c2 := set_cellsT T s h (loV l)
  have d1 : decide ((s : Int) < 0) = false := by simp
  have d2 : decide (7 < (s : Int)) = false := by simp; omega
  have e1 : l / 256 * 256 + l % 8 = loV l := rfl
  have e2 : 0 ≤ loV l ∧ loV l < 4294967296 := by unfold loV; omega
  go_enter Try.func8, Try.ntmps8
  go_wp2
  refine bodyPost_ret (v := .tuple #[.agg (cellsT (putT T s h (loV l))), .int .i64 0]) (by simp [results, Try.results8, go_sem, t1, t3, t5, t6, t7]) rfl ⟨rfl, ?_⟩
  exact (((Below.refl _ w).alloc (Nat.le_refl _) _).alloc (by simp) _).alloc (by simp; omega) _

theorem rwrite_out (T : Nat → Int) (s : Int) (hs : ¬ (0 ≤ s ∧ s < 8)) (h l : Int) (w : World) :
    Calls Try.prog 8 #[.agg (cellsT T), .int .i64 s, .agg #[.int .u32 h, .int .u32 l]] w fun e w' =>
      e = .returned (.tuple #[.agg (cellsT T0), .int .i64 70]) ∧ Below w.heap.size w w' := by
  obtain ⟨t1, t2, t3, t4, t5, t6, t7, t8, t9⟩ := tlbRules
  go_enter Try.func8, Try.ntmps8
  by_cases h0 : s < 0
  · have d1 : decide (s < 0) = true := by simpa using h0
    go_wp2
    refine bodyPost_ret (v := .tuple #[.agg (cellsT T0), .int .i64 70]) (by simp [results, Try.results8, go_sem, t1, t3, t5, t6, t7]) rfl ⟨rfl, ?_⟩
    exact (((Below.refl _ w).alloc (Nat.le_refl _) _).alloc (by simp) _).alloc (by simp; omega) _
  · have d1 : decide (s < 0) = false := by simpa using h0
    have d2 : decide (7 < s) = true := by simp; omega
    go_wp2
    refine bodyPost_ret (v := .tuple #[.agg (cellsT T0), .int .i64 70]) (by simp [results, Try.results8, go_sem, t1, t3, t5, t6, t7]) rfl ⟨rfl, ?_⟩
    exact (((Below.refl _ w).alloc (Nat.le_refl _) _).alloc (by simp) _).alloc (by simp; omega) _

end Go.Proofs.Ytdiijmjdnnolgaa
