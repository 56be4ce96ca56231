/- Layer 15: contracts of Fold's meaning and of folded. -/
import Derived.Test.YtnbflahggpehpabQOpEach2
namespace Go.Proofs.Ytnbflahggpehpab.Ir
open Go.RowKit
set_option linter.unusedVariables false
set_option maxRecDepth 100000
set_option linter.unusedSimpArgs false

/-- Numbers that are built. -/
theorem numSets : (cellsN none).setIfInBounds 0 (.bool true) = cellsN (some 0) ∧ (∀ x y : Int, (cellsN (some x)).setIfInBounds 1 (.int .u32 y) = cellsN (some y)) ∧ ¬ cellsN none = #[] ∧ ¬ N2 < 2 ∧ (∀ a, placed (cellsN none) 0 (cellsN a) = cellsN a) :=
  ⟨rfl, fun _ _ => rfl, by simp [cellsN], by decide, fun _ => rfl⟩

set_option maxHeartbeats 2000000 in
theorem mean1_any (K : Nat → Option Int) (n imm : Int) (B : Nat) (w : World) (hB : Box w B (cellsK K)) : Calls Try.prog 14 #[.int .i64 n, .int .u32 imm, .pointer (some ⟨B, 0, none⟩)] w fun e w' =>
    e = .returned (.agg (cellsN (mnK K n imm))) ∧ Below w.heap.size w w' := by
  obtain ⟨r1, r2, r3, r4, r5, r6, r7, r8, r9⟩ := rowRules
  obtain ⟨z1, z2, z3, z4, z5, z6, z7, z8, z9, z10, z11, z12, z13, z14, z15, z16⟩ := opSizesK
  obtain ⟨n1, n2, n3, n4, n5⟩ := numSets
  have c := hide (oreg_any n)
  have g := grow w (.cells (cellsN none) 39)
  obtain ⟨b1, b2, b3⟩ := Box.new w (cellsN none) 39
  have hB2 := hB.on g
  unfold mnK
  by_cases h1 : n = 32
  · subst h1
    rw [if_pos rfl]
    go_enter Try.func14, Try.ntmps14
    go_wp2
    refine bodyPost_ret (v := .agg (cellsN (some imm))) (by simp [results, Try.results14, go_sem, *]) rfl ⟨rfl, ?_⟩
    first | exact grow _ _ | exact below_setRow g (Nat.le_refl _) _
  · have d1 : (n == 32) = false := by simpa using h1
    rw [if_neg h1]
    by_cases h2 : regB n = true
    · rw [h2] at c ⊢
      rw [if_pos rfl]
      obtain ⟨k, rfl⟩ : ∃ k : Nat, n = (k : Int) := ⟨n.toNat, by simp [regB] at h2; omega⟩
      have hk : k < 32 := by simp [regB] at h2; omega
      have l1 := hB2.loads (k * N2) N2 (z12 K k hk) (z13 K k hk)
      rw [Int.toNat_natCast]
      generalize K k = a at *
      clear hB2 hB h2
      go_enter Try.func14, Try.ntmps14
      go_wp2_with fail
      refine (c.out _).mono ?_
      rintro e w1 ⟨rfl, rfl⟩
      go_wp2
      refine bodyPost_ret (v := .agg (cellsN a)) (by simp [results, Try.results14, go_sem, *]) rfl ⟨rfl, ?_⟩
      first | exact grow _ _ | exact below_setRow g (Nat.le_refl _) _
    · have h2' : regB n = false := by simpa using h2
      rw [h2'] at c ⊢
      rw [if_neg (by decide)]
      clear h2 h2' hB2 hB
      go_enter Try.func14, Try.ntmps14
      go_wp2_with fail
      refine (c.out _).mono ?_
      rintro e w1 ⟨rfl, rfl⟩
      go_wp2
      refine bodyPost_ret (v := .agg (cellsN none)) (by simp [results, Try.results14, go_sem, *]) rfl ⟨rfl, ?_⟩
      first | exact grow _ _ | exact below_setRow g (Nat.le_refl _) _

end Go.Proofs.Ytnbflahggpehpab.Ir
