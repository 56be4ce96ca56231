/- Contracts of the leading bits of a word, of the program's and of the document's. -/
import Derived.Test.YtmbaoldcdegbhaaWalks6
namespace Go.Proofs.Ytmbaoldcdegbhaa
open Go.RowKit
set_option linter.unusedVariables false

theorem len_3 (x : Int) (h0 : 0 ≤ x) (h1 : x < 4294967296) (h : 16777216 ≤ x) : 24 + Lib.len8 (x / 65536 / 256) = (Lib.bitLen x.toNat : Int) ∧ 0 ≤ Lib.len8 (x / 65536 / 256) ∧ Lib.len8 (x / 65536 / 256) ≤ 8 := by
  rw [Lib.len8_of (x / 65536 / 256) (by omega) (by omega)]
  have e : (x / 65536 / 256).toNat = x.toNat / 16777216 := by omega
  have l := Lib.bitLen_le8' (x / 65536 / 256) (by omega) (by omega)
  have s := Lib.bitLen_shift24 x.toNat (by omega) (by omega)
  rw [e] at l ⊢
  omega
theorem len_2 (x : Int) (h0 : 0 ≤ x) (h1 : x < 16777216) (h : 65536 ≤ x) : 16 + Lib.len8 (x / 65536) = (Lib.bitLen x.toNat : Int) ∧ 0 ≤ Lib.len8 (x / 65536) ∧ Lib.len8 (x / 65536) ≤ 8 := by
  rw [Lib.len8_of (x / 65536) (by omega) (by omega)]
  have e : (x / 65536).toNat = x.toNat / 65536 := by omega
  have l := Lib.bitLen_le8' (x / 65536) (by omega) (by omega)
  have s := Lib.bitLen_shift16 x.toNat (by omega) (by omega)
  rw [e] at l ⊢
  omega
theorem len_1 (x : Int) (h0 : 0 ≤ x) (h1 : x < 65536) (h : 256 ≤ x) : 8 + Lib.len8 (x / 256) = (Lib.bitLen x.toNat : Int) ∧ 0 ≤ Lib.len8 (x / 256) ∧ Lib.len8 (x / 256) ≤ 8 := by
  rw [Lib.len8_of (x / 256) (by omega) (by omega)]
  have e : (x / 256).toNat = x.toNat / 256 := by omega
  have l := Lib.bitLen_le8' (x / 256) (by omega) (by omega)
  have s := Lib.bitLen_shift8 x.toNat (by omega) (by omega)
  rw [e] at l ⊢
  omega
theorem len_0 (x : Int) (h0 : 0 ≤ x) (h1 : x < 256) : Lib.len8 (x) = (Lib.bitLen x.toNat : Int) ∧ 0 ≤ Lib.len8 (x) ∧ Lib.len8 (x) ≤ 8 := by
  rw [Lib.len8_of (x) (by omega) (by omega)]
  have e : (x).toNat = x.toNat := by omega
  have l := Lib.bitLen_le8' (x) (by omega) (by omega)
  rw [e] at l ⊢
  omega

set_option maxHeartbeats 1000000 in
set_option maxRecDepth 100000 in
theorem len32_3 (x : Int) (w : World) (h0 : 0 ≤ x) (h1 : x < 4294967296) (h : 16777216 ≤ x) :
    Calls Try.prog 34 #[.int .u32 x] w fun e w' => e = .returned (.int .i64 (Lib.bitLen x.toNat)) ∧ w' = w := by
  obtain ⟨hl, hl0, hl1⟩ := len_3 x h0 h1 h
  have HL := hide hl
  clear hl
  have hidx : ∀ wx, (Instr.index 9 (.string Lib.len8tab) (.int .u8 (x / 65536 / 256))).run Try.prog wx = .ok (.int .u8 (Lib.len8 (x / 65536 / 256))) wx :=
    fun wx => Lib.run_index_len8tab wx 9 .u8 (x / 65536 / 256) Try.underlying9 (by omega) (by omega)
  have t1 : decide (65536 ≤ x) = true := by simp; omega
  have t2 : decide (256 ≤ x / 65536) = true := by simp; omega
  go_enter Try.func34, Try.ntmps34
  go_wp2
  go_ret
  exact ⟨ret_int (by rw [← HL.out]), rfl⟩

set_option maxHeartbeats 1000000 in
set_option maxRecDepth 100000 in
theorem len32_2 (x : Int) (w : World) (h0 : 0 ≤ x) (h1 : x < 16777216) (h : 65536 ≤ x) :
    Calls Try.prog 34 #[.int .u32 x] w fun e w' => e = .returned (.int .i64 (Lib.bitLen x.toNat)) ∧ w' = w := by
  obtain ⟨hl, hl0, hl1⟩ := len_2 x h0 h1 h
  have HL := hide hl
  clear hl
  have hidx : ∀ wx, (Instr.index 9 (.string Lib.len8tab) (.int .u8 (x / 65536))).run Try.prog wx = .ok (.int .u8 (Lib.len8 (x / 65536))) wx :=
    fun wx => Lib.run_index_len8tab wx 9 .u8 (x / 65536) Try.underlying9 (by omega) (by omega)
  have t1 : decide (65536 ≤ x) = true := by simp; omega
  have t2 : decide (256 ≤ x / 65536) = false := by simp; omega
  go_enter Try.func34, Try.ntmps34
  go_wp2
  go_ret
  exact ⟨ret_int (by rw [← HL.out]), rfl⟩

set_option maxHeartbeats 1000000 in
set_option maxRecDepth 100000 in
theorem len32_1 (x : Int) (w : World) (h0 : 0 ≤ x) (h1 : x < 65536) (h : 256 ≤ x) :
    Calls Try.prog 34 #[.int .u32 x] w fun e w' => e = .returned (.int .i64 (Lib.bitLen x.toNat)) ∧ w' = w := by
  obtain ⟨hl, hl0, hl1⟩ := len_1 x h0 h1 h
  have HL := hide hl
  clear hl
  have hidx : ∀ wx, (Instr.index 9 (.string Lib.len8tab) (.int .u8 (x / 256))).run Try.prog wx = .ok (.int .u8 (Lib.len8 (x / 256))) wx :=
    fun wx => Lib.run_index_len8tab wx 9 .u8 (x / 256) Try.underlying9 (by omega) (by omega)
  have t1 : decide (65536 ≤ x) = false := by simp; omega
  have t2 : decide (256 ≤ x) = true := by simp; omega
  go_enter Try.func34, Try.ntmps34
  go_wp2
  go_ret
  exact ⟨ret_int (by rw [← HL.out]), rfl⟩

set_option maxHeartbeats 1000000 in
set_option maxRecDepth 100000 in
theorem len32_0 (x : Int) (w : World) (h0 : 0 ≤ x) (h1 : x < 256) :
    Calls Try.prog 34 #[.int .u32 x] w fun e w' => e = .returned (.int .i64 (Lib.bitLen x.toNat)) ∧ w' = w := by
  obtain ⟨hl, hl0, hl1⟩ := len_0 x h0 h1
  have HL := hide hl
  clear hl
  have hidx : ∀ wx, (Instr.index 9 (.string Lib.len8tab) (.int .u8 (x))).run Try.prog wx = .ok (.int .u8 (Lib.len8 (x))) wx :=
    fun wx => Lib.run_index_len8tab wx 9 .u8 (x) Try.underlying9 (by omega) (by omega)
  have t1 : decide (65536 ≤ x) = false := by simp; omega
  have t2 : decide (256 ≤ x) = false := by simp; omega
  go_enter Try.func34, Try.ntmps34
  go_wp2
  go_ret
  exact ⟨ret_int (by rw [← HL.out]), rfl⟩

theorem len32_any (x : Int) (w : World) (h0 : 0 ≤ x) (h1 : x < 4294967296) :
    Calls Try.prog 34 #[.int .u32 x] w fun e w' => e = .returned (.int .i64 (Lib.bitLen x.toNat)) ∧ w' = w := by
  rcases Int.lt_or_le x 256 with h | h
  · exact len32_0 x w h0 h
  · rcases Int.lt_or_le x 65536 with g | g
    · exact len32_1 x w h0 g h
    · rcases Int.lt_or_le x 16777216 with f | f
      · exact len32_2 x w h0 f g
      · exact len32_3 x w h0 h1 f

theorem bitLen_word (x : Int) (h0 : 0 ≤ x) (h1 : x < 4294967296) : Lib.bitLen x.toNat ≤ 32 := Lib.bitLen_le x.toNat 32 (by decide) (by omega)

set_option maxHeartbeats 400000 in
theorem zeros_any (x : Int) (w : World) (h0 : 0 ≤ x) (h1 : x < 4294967296) :
    Calls Try.prog 33 #[.int .u32 x] w fun e w' => e = .returned (.int .i64 (32 - (Lib.bitLen x.toNat : Nat))) ∧ w' = w := by
  have hb := bitLen_word x h0 h1
  go_enter Try.func33, Try.ntmps33
  go_wp2_with (go_at_call 34; refine (len32_any _ _ (by assumption) (by assumption)).mono ?_; rintro e w' ⟨rfl, rfl⟩)
  go_ret
  exact ⟨rfl, rfl⟩

set_option maxHeartbeats 400000 in
theorem lead_any (a : Int) (one : Bool) (w : World) (a0 : 0 ≤ a) (a1 : a < 4294967296) :
    Calls Try.prog 24 #[.int .u32 a, .bool one] w fun e w' => e = .returned (.int .i64 (leadV one a)) ∧ w' = w := by
  cases one
  · go_enter Try.func24, Try.ntmps24
    go_wp2_with (go_at_call 33; refine (zeros_any _ _ (by assumption) (by assumption)).mono ?_; rintro e w' ⟨rfl, rfl⟩)
    go_ret
    exact ⟨rfl, rfl⟩
  · have hx := xor_max a a0 a1
    have hm : IntKind.u32.max = 4294967295 := by decide
    rw [hm] at hx
    go_enter Try.func24, Try.ntmps24
    go_wp2_with (go_at_call 33; refine (zeros_any _ _ (by omega) (by omega)).mono ?_; rintro e w' ⟨rfl, rfl⟩)
    go_ret
    exact ⟨rfl, rfl⟩

set_option maxHeartbeats 1000000 in
theorem rlead_no (a : Int) (w : World) (a0 : 0 ≤ a) (a1 : a < 4294967296) :
    Calls Try.prog 25 #[.int .u32 a, .bool false] w fun e w' => e = .returned (.int .i64 (leadV false a)) ∧ w' = w := by
  go_enter Try.func25, Try.ntmps25
  go_wp2
  go_loop [5, 6] (fun n p => ∃ j : Nat, j ≤ 32 ∧ n = .int .i64 j ∧ p = .int .i64 (2147483648 / 2 ^ j) ∧ a < 2 ^ (32 - j)) (fun n _ => 33 - (intOf n).toNat)
  case atStart => exact ⟨0, by omega, rfl, rfl, a1⟩
  case round =>
    obtain ⟨j, hj, rfl, rfl, hx⟩ := hrel
    by_cases hlt : j < 32
    · have hp := pow_lt (31 - j) (by omega)
      have hq := q_pow j hlt
      have e2 : (2 : Int) ^ (32 - j) = 2 ^ (31 - j) * 2 := by rw [pow_succ2]; congr 1; omega
      have hq0 : 0 < (2147483648 : Int) / 2 ^ j := by omega
      have hq1 : (2147483648 : Int) / 2 ^ j ≤ 2147483648 := by omega
      have hb := bit_no a (2147483648 / 2 ^ j) hq0 a0 (by omega)
      have hd0 : 0 ≤ a / (2147483648 / 2 ^ j) := Int.ediv_nonneg a0 (by omega)
      have hh := half_pow j
      have HH := hide hh
      have HQ := hide hq
      cases hc : decide ((2147483648 : Int) / 2 ^ j ≤ a)
      · rw [hc] at hb
        have hy : a < 2 ^ (32 - (j + 1)) := by
          have := of_decide_eq_false hc
          rw [show 32 - (j + 1) = 31 - j by omega]; omega
        clear hq hh hc e2
        go_wp2
        go_round
        case rel => exact ⟨j + 1, by omega, by go_num, by rw [HH.out], hy⟩
        case measure => simp [intOf]; omega
      · rw [hc] at hb
        have hl := lead_at false a j hlt a0 (by have := of_decide_eq_true hc; show 2 ^ (31 - j) ≤ a; omega) hx
        have HL := hide hl
        clear hq hh hc e2 hl
        go_wp2
        go_ret
        exact ⟨ret_int HL.out.symm, rfl⟩
    · have hj : j = 32 := by omega
      subst hj
      have hl := lead_end false a (by have : a < 1 := hx; show a = 0; omega)
      have HL := hide hl
      clear hl
      go_wp2
      go_ret
      exact ⟨ret_int HL.out.symm, rfl⟩

set_option maxHeartbeats 1000000 in
theorem rlead_yes (a : Int) (w : World) (a0 : 0 ≤ a) (a1 : a < 4294967296) :
    Calls Try.prog 25 #[.int .u32 a, .bool true] w fun e w' => e = .returned (.int .i64 (leadV true a)) ∧ w' = w := by
  go_enter Try.func25, Try.ntmps25
  go_wp2
  go_loop [5, 6] (fun n p => ∃ j : Nat, j ≤ 32 ∧ n = .int .i64 j ∧ p = .int .i64 (2147483648 / 2 ^ j) ∧ 4294967295 - a < 2 ^ (32 - j)) (fun n _ => 33 - (intOf n).toNat)
  case atStart => exact ⟨0, by omega, rfl, rfl, (by show 4294967295 - a < 4294967296; omega)⟩
  case round =>
    obtain ⟨j, hj, rfl, rfl, hx⟩ := hrel
    by_cases hlt : j < 32
    · have hp := pow_lt (31 - j) (by omega)
      have hq := q_pow j hlt
      have e2 : (2 : Int) ^ (32 - j) = 2 ^ (31 - j) * 2 := by rw [pow_succ2]; congr 1; omega
      have hq0 : 0 < (2147483648 : Int) / 2 ^ j := by omega
      have hq1 : (2147483648 : Int) / 2 ^ j ≤ 2147483648 := by omega
      have hb := bit_yes a (2147483648 / 2 ^ j) (2 ^ j) hq0 (t_pow j hlt) (by omega) (by omega)
      have hd0 : 0 ≤ a / (2147483648 / 2 ^ j) := Int.ediv_nonneg a0 (by omega)
      have hh := half_pow j
      have HH := hide hh
      have HQ := hide hq
      cases hc : decide ((2147483648 : Int) / 2 ^ j ≤ 4294967295 - a)
      · rw [hc] at hb
        rw [Bool.not_false] at hb
        have hy : 4294967295 - a < 2 ^ (32 - (j + 1)) := by
          have := of_decide_eq_false hc
          rw [show 32 - (j + 1) = 31 - j by omega]; omega
        clear hq hh hc e2
        go_wp2
        go_round
        case rel => exact ⟨j + 1, by omega, by go_num, by rw [HH.out], hy⟩
        case measure => simp [intOf]; omega
      · rw [hc] at hb
        rw [Bool.not_true] at hb
        have hl := lead_at true a j hlt (by show 0 ≤ 4294967295 - a; omega) (by have := of_decide_eq_true hc; show 2 ^ (31 - j) ≤ 4294967295 - a; omega) hx
        have HL := hide hl
        clear hq hh hc e2 hl
        go_wp2
        go_ret
        exact ⟨ret_int HL.out.symm, rfl⟩
    · have hj : j = 32 := by omega
      subst hj
      have hl := lead_end true a (by have : 4294967295 - a < 1 := hx; show 4294967295 - a = 0; omega)
      have HL := hide hl
      clear hl
      go_wp2
      go_ret
      exact ⟨ret_int HL.out.symm, rfl⟩

theorem rlead_any (a : Int) (one : Bool) (w : World) (a0 : 0 ≤ a) (a1 : a < 4294967296) :
    Calls Try.prog 25 #[.int .u32 a, .bool one] w fun e w' => e = .returned (.int .i64 (leadV one a)) ∧ w' = w := by
  cases one
  · exact rlead_no a w a0 a1
  · exact rlead_yes a w a0 a1

end Go.Proofs.Ytmbaoldcdegbhaa
