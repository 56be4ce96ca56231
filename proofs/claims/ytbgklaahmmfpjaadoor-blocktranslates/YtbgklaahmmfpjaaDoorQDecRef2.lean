/- Contracts of what the document's words of instructions are made of. -/
import Derived.Test.YtbgklaahmmfpjaaDoorQDecRef
import Derived.Test.YtbgklaahmmfpjaaDoorQDecMath
namespace Go.Proofs.YtbgklaahmmfpjaaDoor.De
open Go.RowKit
set_option linter.unusedVariables false
set_option maxRecDepth 100000

theorem is_any (n : Int) (w : World) :
    Calls Tryd.prog 25 #[.int .i64 n] w fun e w' => e = .returned (.bool (decide (0 ≤ n ∧ n ≤ 31))) ∧ w' = w := by
  by_cases h0 : 0 ≤ n
  · have b0 : decide (n ≥ 0) = true := decide_eq_true h0
    by_cases h1 : n ≤ 31
    · have b1 : decide (n ≤ 31) = true := decide_eq_true h1
      go_enter Tryd.func25, Tryd.ntmps25
      go_wp2
      go_ret
      refine ⟨?_, rfl⟩
      first | rfl | (rw [decide_eq_true (show 0 ≤ n ∧ n ≤ 31 from ⟨h0, h1⟩)]; rfl)
    · have b1 : decide (n ≤ 31) = false := decide_eq_false h1
      go_enter Tryd.func25, Tryd.ntmps25
      go_wp2
      go_ret
      refine ⟨?_, rfl⟩
      first | rfl | (rw [decide_eq_false (show ¬ (0 ≤ n ∧ n ≤ 31) from fun h => by omega)]; rfl)
  · have b0 : decide (n ≥ 0) = false := decide_eq_false h0
    go_enter Tryd.func25, Tryd.ntmps25
    go_wp2
    go_ret
    refine ⟨?_, rfl⟩
    first | rfl | (rw [decide_eq_false (show ¬ (0 ≤ n ∧ n ≤ 31) from fun h => by omega)]; rfl)

theorem rlow16 (n : Int) (w : World) :
    Calls Tryd.prog 28 #[.int .i64 n, .int .i64 65536] w fun e w' => e = .returned (.int .i64 (n % 65536)) ∧ w' = w := by
  have hb : n.tmod 65536 = if 0 ≤ n then n % 65536 else -((-n) % 65536) := by
    split
    · rename_i h; exact Int.tmod_eq_emod_of_nonneg h
    · rename_i h
      have e : n.tmod 65536 = -((-n).tmod 65536) := by rw [Int.neg_tmod, Int.neg_neg]
      rw [e, Int.tmod_eq_emod_of_nonneg (by omega)]
  have hx : (n.tmod 65536 < 0 ∧ n.tmod 65536 + 65536 = n % 65536) ∨ (0 ≤ n.tmod 65536 ∧ n.tmod 65536 = n % 65536) := by
    rw [hb]
    split <;> omega
  have hw : wrap64 (n.tmod 65536) = n.tmod 65536 := by
    rw [hb]; apply wrap64_id <;> split <;> omega
  have hw2 : wrap64 (n.tmod 65536 + 65536) = n.tmod 65536 + 65536 := by
    rw [hb]; apply wrap64_id <;> split <;> omega
  clear hb
  rcases hx with ⟨h1, h2⟩ | ⟨h1, h2⟩
  · have b1 : decide (n.tmod 65536 < 0) = true := decide_eq_true h1
    have h2 := hide h2
    go_enter Tryd.func28, Tryd.ntmps28
    go_wp2
    go_ret
    refine ⟨ret_int ?_, rfl⟩
    first | rfl | exact h2.out | (rw [hw2]; exact h2.out) | (rw [wrap64_id _ (by omega) (by omega)]; exact h2.out)
  · have b1 : decide (n.tmod 65536 < 0) = false := decide_eq_false (by omega)
    have h2 := hide h2
    go_enter Tryd.func28, Tryd.ntmps28
    go_wp2
    go_ret
    refine ⟨ret_int ?_, rfl⟩
    first | rfl | exact h2.out | (rw [hw]; exact h2.out)

theorem rlow26 (n : Int) (w : World) :
    Calls Tryd.prog 28 #[.int .i64 n, .int .i64 67108864] w fun e w' => e = .returned (.int .i64 (n % 67108864)) ∧ w' = w := by
  have hb : n.tmod 67108864 = if 0 ≤ n then n % 67108864 else -((-n) % 67108864) := by
    split
    · rename_i h; exact Int.tmod_eq_emod_of_nonneg h
    · rename_i h
      have e : n.tmod 67108864 = -((-n).tmod 67108864) := by rw [Int.neg_tmod, Int.neg_neg]
      rw [e, Int.tmod_eq_emod_of_nonneg (by omega)]
  have hx : (n.tmod 67108864 < 0 ∧ n.tmod 67108864 + 67108864 = n % 67108864) ∨ (0 ≤ n.tmod 67108864 ∧ n.tmod 67108864 = n % 67108864) := by
    rw [hb]
    split <;> omega
  have hw : wrap64 (n.tmod 67108864) = n.tmod 67108864 := by
    rw [hb]; apply wrap64_id <;> split <;> omega
  have hw2 : wrap64 (n.tmod 67108864 + 67108864) = n.tmod 67108864 + 67108864 := by
    rw [hb]; apply wrap64_id <;> split <;> omega
  clear hb
  rcases hx with ⟨h1, h2⟩ | ⟨h1, h2⟩
  · have b1 : decide (n.tmod 67108864 < 0) = true := decide_eq_true h1
    have h2 := hide h2
    go_enter Tryd.func28, Tryd.ntmps28
    go_wp2
    go_ret
    refine ⟨ret_int ?_, rfl⟩
    first | rfl | exact h2.out | (rw [hw2]; exact h2.out) | (rw [wrap64_id _ (by omega) (by omega)]; exact h2.out)
  · have b1 : decide (n.tmod 67108864 < 0) = false := decide_eq_false (by omega)
    have h2 := hide h2
    go_enter Tryd.func28, Tryd.ntmps28
    go_wp2
    go_ret
    refine ⟨ret_int ?_, rfl⟩
    first | rfl | exact h2.out | (rw [hw]; exact h2.out)

theorem word_any (m s t d a n : Nat) (hm : m < 64) (hs : s < 32) (ht : t < 32) (hd : d < 32) (ha : a < 32) (hn : n < 64) (w : World) :
    Calls Tryd.prog 29 #[.int .i64 (m : Int), .int .i64 (s : Int), .int .i64 (t : Int), .int .i64 (d : Int), .int .i64 (a : Int), .int .i64 (n : Int)] w fun e w' => e = .returned (.int .u32 (W m s t d a n : Nat)) ∧ w' = w := by
  go_enter Tryd.func29, Tryd.ntmps29
  go_wp2
  go_ret
  refine ⟨ret_int ?_, rfl⟩
  unfold W
  first | omega | (simp only [wrap64]; omega)

end Go.Proofs.YtbgklaahmmfpjaaDoor.De
