/- Contracts of shifts, extensions and leading bits of words, of the program's and of the document's. -/
import Derived.Test.YtmbaoldcdegbhabWalks4
namespace Go.Proofs.Ytmbaoldcdegbhab
open Go.RowKit
set_option linter.unusedVariables false

theorem tdiv_floor_neg (n p : Int) (hp : 0 < p) (h : n.tmod p < 0) : n.tdiv p - 1 = n / p := by
  have h1 := Int.tdiv_mul_add_tmod n p
  have h2 := tmod_neg n p hp h
  have h3 := Int.ediv_mul_add_emod n p
  have : (n.tdiv p - 1) * p = n / p * p := by rw [Int.sub_mul]; omega
  exact Int.eq_of_mul_eq_mul_right (by omega) this
theorem tdiv_floor_pos (n p : Int) (hp : 0 < p) (h : 0 ≤ n.tmod p) : n.tdiv p = n / p := by
  have h1 := Int.tdiv_mul_add_tmod n p
  have h2 := tmod_pos n p hp h
  have h3 := Int.ediv_mul_add_emod n p
  have : (n.tdiv p) * p = n / p * p := by omega
  exact Int.eq_of_mul_eq_mul_right (by omega) this

set_option maxHeartbeats 400000 in
theorem shift_any (k a n : Int) (w : World) (a0 : 0 ≤ a) (a1 : a < 4294967296) :
    Calls Try.prog 10 #[.int .i64 k, .int .u32 a, .int .i64 n] w fun e w' => e = .returned (.int .u32 (shiftV k a n)) ∧ w' = w := by
  have hn := and31 n
  have n0 : 0 ≤ n % 32 := by omega
  have n1 : n % 32 < 32 := by omega
  have hm := mean_bd a a0 a1
  go_enter Try.func10, Try.ntmps10
  go_wp2_with (go_at_call 13; refine (meaning_any _ _ _ (by assumption) (by assumption)).mono ?_; rintro e w' ⟨rfl, rfl⟩; simp only [meanB, if_true])
  all_goals go_ret
  all_goals refine ⟨ret_int ?_, rfl⟩
  all_goals simp_all [shiftV]

set_option maxHeartbeats 400000 in
theorem ext_in (a : Int) (k : Nat) (s : Bool) (w : World) (a0 : 0 ≤ a) (a1 : a < 4294967296) (k0 : 1 ≤ k) (k1 : k < 32) :
    Calls Try.prog 7 #[.int .u32 a, .int .i64 k, .bool s] w fun e w' => e = .returned (.int .u32 (extV s a k)) ∧ w' = w := by
  have hp := pow_lt k k1
  have l0 : 0 ≤ a % 2 ^ k := Int.emod_nonneg _ (by omega)
  have l1 : a % 2 ^ k < 2 ^ k := Int.emod_lt_of_pos _ (by omega)
  have hb := top_bit (a % 2 ^ k) k k0 l1
  have ho := or_high (a % 2 ^ k) k k1 l0 l1
  have ha := and_mask a k a0 a1 k1
  have HB := hide hb
  have HO := hide ho
  have HA := hide ha
  clear hb ho ha
  go_enter Try.func7, Try.ntmps7
  go_wp2
  all_goals go_ret
  all_goals refine ⟨ret_int ?_, rfl⟩
  all_goals have hB := HB.out
  all_goals have hA := HA.out
  all_goals have hO := HO.out
  all_goals have hn : ¬ ((k : Int) < 1 ∨ 32 ≤ (k : Int)) := by omega
  all_goals simp only [extV, if_neg hn, Int.toNat_natCast]
  · rename_i hs ht hx
    rw [hA, hB] at hx
    rw [if_pos ⟨by first | trivial | exact ht, of_decide_eq_true hx⟩, hA]; exact hO
  · rename_i hs ht
    rw [hA, hB] at ht
    rw [if_neg (fun h => of_decide_eq_false ht h.2), hA]
  · rename_i hs
    rw [if_neg (fun h => hs h.1), hA]

set_option maxHeartbeats 400000 in
theorem ext_out (a n : Int) (s : Bool) (w : World) (h : n < 1 ∨ 32 ≤ n) :
    Calls Try.prog 7 #[.int .u32 a, .int .i64 n, .bool s] w fun e w' => e = .returned (.int .u32 (extV s a n)) ∧ w' = w := by
  have e : extV s a n = a := by simp only [extV, if_pos h]
  rw [e]
  rcases h with h | h
  · go_enter Try.func7, Try.ntmps7
    go_wp2
    go_ret
    exact ⟨rfl, rfl⟩
  · have h' : decide (n < 1) = false := by simp; omega
    go_enter Try.func7, Try.ntmps7
    go_wp2
    go_ret
    exact ⟨rfl, rfl⟩

theorem ext_any (a n : Int) (s : Bool) (w : World) (a0 : 0 ≤ a) (a1 : a < 4294967296) :
    Calls Try.prog 7 #[.int .u32 a, .int .i64 n, .bool s] w fun e w' => e = .returned (.int .u32 (extV s a n)) ∧ w' = w := by
  by_cases h : n < 1 ∨ 32 ≤ n
  · exact ext_out a n s w h
  · obtain ⟨k, rfl⟩ := Int.eq_ofNat_of_zero_le (show 0 ≤ n by omega)
    exact ext_in a k s w a0 a1 (by omega) (by omega)

end Go.Proofs.Ytmbaoldcdegbhab
