/- Contracts of shifts, extensions and leading bits of words, of the program's and of the document's. -/
import Derived.Test.YtmbaoldcdegbhaaWalks4
namespace Go.Proofs.Ytmbaoldcdegbhaa
open Go.RowKit
set_option linter.unusedVariables false

set_option maxHeartbeats 400000 in
theorem mod_any (n : Int) (w : World) :
    Calls Try.prog 31 #[.int .i64 n] w fun e w' => e = .returned (.int .i64 (n % 32)) ∧ w' = w := by
  have hb := Int.emod_nonneg n (show (32 : Int) ≠ 0 by decide)
  have hc := Int.emod_lt_of_pos n (show (0 : Int) < 32 by decide)
  have ht := Int.tmod_eq_emod (a := n) (b := 32)
  have hl : -32 < n.tmod 32 ∧ n.tmod 32 < 32 := by rw [ht]; split <;> omega
  clear ht
  go_enter Try.func31, Try.ntmps31
  go_wp2
  all_goals go_ret
  · refine ⟨ret_int ?_, rfl⟩
    rw [tmod_neg n _ (by decide) ‹_›]
  · refine ⟨ret_int ?_, rfl⟩
    rw [tmod_pos n _ (by decide) ‹_›]

theorem tdiv_floor_neg (n p : Int) (hp : 0 < p) (h : n.tmod p < 0) : n.tdiv p - 1 = n / p := by
  have h1 := Int.tdiv_mul_add_tmod n p
  have h2 := tmod_neg n p hp h
  have h3 := Int.ediv_mul_add_emod n p
  have : (n.tdiv p - 1) * p = n / p * p := by rw [Int.sub_mul]; omega
  exact Int.eq_of_mul_eq_mul_right (by omega) this
theorem tdiv_floor_pos (n p : Int) (hp : 0 < p) (h : 0 ≤ n.tmod p) : n.tdiv p = n / p := by
  have h1 := Int.tdiv_mul_add_tmod n p
  have h2 := tmod_pos n p hp h
  have h3 := Int.ediv_mul_add_emod n p
  have : (n.tdiv p) * p = n / p * p := by omega
  exact Int.eq_of_mul_eq_mul_right (by omega) this

set_option maxHeartbeats 400000 in
theorem down_any (n p : Int) (w : World) (hp : 0 < p) (h0 : -2147483648 ≤ n) (h1 : n ≤ 2147483647) :
    Calls Try.prog 32 #[.int .i64 n, .int .i64 p] w fun e w' => e = .returned (.int .i64 (n / p)) ∧ w' = w := by
  have hq : -2147483648 ≤ n / p ∧ n / p ≤ 2147483647 := by
    constructor
    · exact Int.le_ediv_of_mul_le hp (by have := Int.mul_le_mul_of_nonneg_left (show 1 ≤ p by omega) (show (0 : Int) ≤ 2147483648 by decide); omega)
    · rcases Int.lt_or_le n 0 with h | h
      · have := Int.ediv_neg_of_neg_of_pos h hp; omega
      · have := Int.ediv_le_self p h; omega
  rcases Int.lt_or_le (n.tmod p) 0 with h | h
  · have hf := tdiv_floor_neg n p hp h
    have hd : n.tdiv p = n / p + 1 := by omega
    have HF : Hid (n.tdiv p = n / p + 1) := hd
    have hq' : -2147483648 ≤ n.tdiv p - 1 ∧ n.tdiv p - 1 ≤ 2147483647 := by omega
    clear hf hd hq
    go_enter Try.func32, Try.ntmps32
    go_wp2
    go_ret
    exact ⟨ret_int (by rw [HF.out]; omega), rfl⟩
  · have hf := tdiv_floor_pos n p hp h
    have HF : Hid (n.tdiv p = n / p) := hf
    have hq' : -2147483648 ≤ n.tdiv p ∧ n.tdiv p ≤ 2147483647 := by omega
    clear hf hq
    go_enter Try.func32, Try.ntmps32
    go_wp2
    go_ret
    exact ⟨ret_int HF.out, rfl⟩

set_option maxHeartbeats 400000 in
theorem shift_any (k a n : Int) (w : World) (a0 : 0 ≤ a) (a1 : a < 4294967296) :
    Calls Try.prog 20 #[.int .i64 k, .int .u32 a, .int .i64 n] w fun e w' => e = .returned (.int .u32 (shiftV k a n)) ∧ w' = w := by
  have hn := and31 n
  have n0 : 0 ≤ n % 32 := by omega
  have n1 : n % 32 < 32 := by omega
  have hm := mean_bd a a0 a1
  go_enter Try.func20, Try.ntmps20
  go_wp2_with (go_at_call 27; refine (meaning_any _ _ _ (by assumption) (by assumption)).mono ?_; rintro e w' ⟨rfl, rfl⟩; simp only [meanB, if_true])
  all_goals go_ret
  all_goals refine ⟨ret_int ?_, rfl⟩
  all_goals simp_all [shiftV]

set_option maxHeartbeats 400000 in
theorem ext_in (a : Int) (k : Nat) (s : Bool) (w : World) (a0 : 0 ≤ a) (a1 : a < 4294967296) (k0 : 1 ≤ k) (k1 : k < 32) :
    Calls Try.prog 22 #[.int .u32 a, .int .i64 k, .bool s] w fun e w' => e = .returned (.int .u32 (extV s a k)) ∧ w' = w := by
  have hp := pow_lt k k1
  have l0 : 0 ≤ a % 2 ^ k := Int.emod_nonneg _ (by omega)
  have l1 : a % 2 ^ k < 2 ^ k := Int.emod_lt_of_pos _ (by omega)
  have hb := top_bit (a % 2 ^ k) k k0 l1
  have ho := or_high (a % 2 ^ k) k k1 l0 l1
  have ha := and_mask a k a0 a1 k1
  have HB := hide hb
  have HO := hide ho
  have HA := hide ha
  clear hb ho ha
  go_enter Try.func22, Try.ntmps22
  go_wp2
  all_goals go_ret
  all_goals refine ⟨ret_int ?_, rfl⟩
  all_goals have hB := HB.out
  all_goals have hA := HA.out
  all_goals have hO := HO.out
  all_goals have hn : ¬ ((k : Int) < 1 ∨ 32 ≤ (k : Int)) := by omega
  all_goals simp only [extV, if_neg hn, Int.toNat_natCast]
  · rename_i hs ht hx
    rw [hA, hB] at hx
    rw [if_pos ⟨by first | trivial | exact ht, of_decide_eq_true hx⟩, hA]; exact hO
  · rename_i hs ht
    rw [hA, hB] at ht
    rw [if_neg (fun h => of_decide_eq_false ht h.2), hA]
  · rename_i hs
    rw [if_neg (fun h => hs h.1), hA]

set_option maxHeartbeats 400000 in
theorem ext_out (a n : Int) (s : Bool) (w : World) (h : n < 1 ∨ 32 ≤ n) :
    Calls Try.prog 22 #[.int .u32 a, .int .i64 n, .bool s] w fun e w' => e = .returned (.int .u32 (extV s a n)) ∧ w' = w := by
  have e : extV s a n = a := by simp only [extV, if_pos h]
  rw [e]
  rcases h with h | h
  · go_enter Try.func22, Try.ntmps22
    go_wp2
    go_ret
    exact ⟨rfl, rfl⟩
  · have h' : decide (n < 1) = false := by simp; omega
    go_enter Try.func22, Try.ntmps22
    go_wp2
    go_ret
    exact ⟨rfl, rfl⟩

theorem ext_any (a n : Int) (s : Bool) (w : World) (a0 : 0 ≤ a) (a1 : a < 4294967296) :
    Calls Try.prog 22 #[.int .u32 a, .int .i64 n, .bool s] w fun e w' => e = .returned (.int .u32 (extV s a n)) ∧ w' = w := by
  by_cases h : n < 1 ∨ 32 ≤ n
  · exact ext_out a n s w h
  · obtain ⟨k, rfl⟩ := Int.eq_ofNat_of_zero_le (show 0 ≤ n by omega)
    exact ext_in a k s w a0 a1 (by omega) (by omega)

end Go.Proofs.Ytmbaoldcdegbhaa
