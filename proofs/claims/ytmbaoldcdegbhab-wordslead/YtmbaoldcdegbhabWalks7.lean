/- Contracts of the leading bits of a word, of the program's and of the document's. -/
import Derived.Test.YtmbaoldcdegbhabWalks6
namespace Go.Proofs.Ytmbaoldcdegbhab
open Go.RowKit
set_option linter.unusedVariables false

theorem len_3 (x : Int) (h0 : 0 ≤ x) (h1 : x < 4294967296) (h : 16777216 ≤ x) : 24 + Lib.len8 (x / 65536 / 256) = (Lib.bitLen x.toNat : Int) ∧ 0 ≤ Lib.len8 (x / 65536 / 256) ∧ Lib.len8 (x / 65536 / 256) ≤ 8 := by
  rw [Lib.len8_of (x / 65536 / 256) (by omega) (by omega)]
  have e : (x / 65536 / 256).toNat = x.toNat / 16777216 := by omega
  have l := Lib.bitLen_le8' (x / 65536 / 256) (by omega) (by omega)
  have s := Lib.bitLen_shift24 x.toNat (by omega) (by omega)
  rw [e] at l ⊢
  omega
theorem len_2 (x : Int) (h0 : 0 ≤ x) (h1 : x < 16777216) (h : 65536 ≤ x) : 16 + Lib.len8 (x / 65536) = (Lib.bitLen x.toNat : Int) ∧ 0 ≤ Lib.len8 (x / 65536) ∧ Lib.len8 (x / 65536) ≤ 8 := by
  rw [Lib.len8_of (x / 65536) (by omega) (by omega)]
  have e : (x / 65536).toNat = x.toNat / 65536 := by omega
  have l := Lib.bitLen_le8' (x / 65536) (by omega) (by omega)
  have s := Lib.bitLen_shift16 x.toNat (by omega) (by omega)
  rw [e] at l ⊢
  omega
theorem len_1 (x : Int) (h0 : 0 ≤ x) (h1 : x < 65536) (h : 256 ≤ x) : 8 + Lib.len8 (x / 256) = (Lib.bitLen x.toNat : Int) ∧ 0 ≤ Lib.len8 (x / 256) ∧ Lib.len8 (x / 256) ≤ 8 := by
  rw [Lib.len8_of (x / 256) (by omega) (by omega)]
  have e : (x / 256).toNat = x.toNat / 256 := by omega
  have l := Lib.bitLen_le8' (x / 256) (by omega) (by omega)
  have s := Lib.bitLen_shift8 x.toNat (by omega) (by omega)
  rw [e] at l ⊢
  omega
theorem len_0 (x : Int) (h0 : 0 ≤ x) (h1 : x < 256) : Lib.len8 (x) = (Lib.bitLen x.toNat : Int) ∧ 0 ≤ Lib.len8 (x) ∧ Lib.len8 (x) ≤ 8 := by
  rw [Lib.len8_of (x) (by omega) (by omega)]
  have e : (x).toNat = x.toNat := by omega
  have l := Lib.bitLen_le8' (x) (by omega) (by omega)
  rw [e] at l ⊢
  omega

set_option maxHeartbeats 1000000 in
set_option maxRecDepth 100000 in
theorem len32_3 (x : Int) (w : World) (h0 : 0 ≤ x) (h1 : x < 4294967296) (h : 16777216 ≤ x) :
    Calls Try.prog 18 #[.int .u32 x] w fun e w' => e = .returned (.int .i64 (Lib.bitLen x.toNat)) ∧ w' = w := by
  obtain ⟨hl, hl0, hl1⟩ := len_3 x h0 h1 h
  have HL := hide hl
  clear hl
  have hidx : ∀ wx, (Instr.index 9 (.string Lib.len8tab) (.int .u8 (x / 65536 / 256))).run Try.prog wx = .ok (.int .u8 (Lib.len8 (x / 65536 / 256))) wx :=
    fun wx => Lib.run_index_len8tab wx 9 .u8 (x / 65536 / 256) Try.underlying9 (by omega) (by omega)
  have t1 : decide (65536 ≤ x) = true := by simp; omega
  have t2 : decide (256 ≤ x / 65536) = true := by simp; omega
  go_enter Try.func18, Try.ntmps18
  go_wp2
  go_ret
  exact ⟨ret_int (by rw [← HL.out]), rfl⟩

set_option maxHeartbeats 1000000 in
set_option maxRecDepth 100000 in
theorem len32_2 (x : Int) (w : World) (h0 : 0 ≤ x) (h1 : x < 16777216) (h : 65536 ≤ x) :
    Calls Try.prog 18 #[.int .u32 x] w fun e w' => e = .returned (.int .i64 (Lib.bitLen x.toNat)) ∧ w' = w := by
  obtain ⟨hl, hl0, hl1⟩ := len_2 x h0 h1 h
  have HL := hide hl
  clear hl
  have hidx : ∀ wx, (Instr.index 9 (.string Lib.len8tab) (.int .u8 (x / 65536))).run Try.prog wx = .ok (.int .u8 (Lib.len8 (x / 65536))) wx :=
    fun wx => Lib.run_index_len8tab wx 9 .u8 (x / 65536) Try.underlying9 (by omega) (by omega)
  have t1 : decide (65536 ≤ x) = true := by simp; omega
  have t2 : decide (256 ≤ x / 65536) = false := by simp; omega
  go_enter Try.func18, Try.ntmps18
  go_wp2
  go_ret
  exact ⟨ret_int (by rw [← HL.out]), rfl⟩

set_option maxHeartbeats 1000000 in
set_option maxRecDepth 100000 in
theorem len32_1 (x : Int) (w : World) (h0 : 0 ≤ x) (h1 : x < 65536) (h : 256 ≤ x) :
    Calls Try.prog 18 #[.int .u32 x] w fun e w' => e = .returned (.int .i64 (Lib.bitLen x.toNat)) ∧ w' = w := by
  obtain ⟨hl, hl0, hl1⟩ := len_1 x h0 h1 h
  have HL := hide hl
  clear hl
  have hidx : ∀ wx, (Instr.index 9 (.string Lib.len8tab) (.int .u8 (x / 256))).run Try.prog wx = .ok (.int .u8 (Lib.len8 (x / 256))) wx :=
    fun wx => Lib.run_index_len8tab wx 9 .u8 (x / 256) Try.underlying9 (by omega) (by omega)
  have t1 : decide (65536 ≤ x) = false := by simp; omega
  have t2 : decide (256 ≤ x) = true := by simp; omega
  go_enter Try.func18, Try.ntmps18
  go_wp2
  go_ret
  exact ⟨ret_int (by rw [← HL.out]), rfl⟩

set_option maxHeartbeats 1000000 in
set_option maxRecDepth 100000 in
theorem len32_0 (x : Int) (w : World) (h0 : 0 ≤ x) (h1 : x < 256) :
    Calls Try.prog 18 #[.int .u32 x] w fun e w' => e = .returned (.int .i64 (Lib.bitLen x.toNat)) ∧ w' = w := by
  obtain ⟨hl, hl0, hl1⟩ := len_0 x h0 h1
  have HL := hide hl
  clear hl
  have hidx : ∀ wx, (Instr.index 9 (.string Lib.len8tab) (.int .u8 (x))).run Try.prog wx = .ok (.int .u8 (Lib.len8 (x))) wx :=
    fun wx => Lib.run_index_len8tab wx 9 .u8 (x) Try.underlying9 (by omega) (by omega)
  have t1 : decide (65536 ≤ x) = false := by simp; omega
  have t2 : decide (256 ≤ x) = false := by simp; omega
  go_enter Try.func18, Try.ntmps18
  go_wp2
  go_ret
  exact ⟨ret_int (by rw [← HL.out]), rfl⟩

theorem len32_any (x : Int) (w : World) (h0 : 0 ≤ x) (h1 : x < 4294967296) :
    Calls Try.prog 18 #[.int .u32 x] w fun e w' => e = .returned (.int .i64 (Lib.bitLen x.toNat)) ∧ w' = w := by
  rcases Int.lt_or_le x 256 with h | h
  · exact len32_0 x w h0 h
  · rcases Int.lt_or_le x 65536 with g | g
    · exact len32_1 x w h0 g h
    · rcases Int.lt_or_le x 16777216 with f | f
      · exact len32_2 x w h0 f g
      · exact len32_3 x w h0 h1 f

theorem bitLen_word (x : Int) (h0 : 0 ≤ x) (h1 : x < 4294967296) : Lib.bitLen x.toNat ≤ 32 := Lib.bitLen_le x.toNat 32 (by decide) (by omega)

set_option maxHeartbeats 400000 in
theorem zeros_any (x : Int) (w : World) (h0 : 0 ≤ x) (h1 : x < 4294967296) :
    Calls Try.prog 17 #[.int .u32 x] w fun e w' => e = .returned (.int .i64 (32 - (Lib.bitLen x.toNat : Nat))) ∧ w' = w := by
  have hb := bitLen_word x h0 h1
  go_enter Try.func17, Try.ntmps17
  go_wp2_with (go_at_call 18; refine (len32_any _ _ (by assumption) (by assumption)).mono ?_; rintro e w' ⟨rfl, rfl⟩)
  go_ret
  exact ⟨rfl, rfl⟩

set_option maxHeartbeats 400000 in
theorem lead_any (a : Int) (one : Bool) (w : World) (a0 : 0 ≤ a) (a1 : a < 4294967296) :
    Calls Try.prog 11 #[.int .u32 a, .bool one] w fun e w' => e = .returned (.int .i64 (leadV one a)) ∧ w' = w := by
  cases one
  · go_enter Try.func11, Try.ntmps11
    go_wp2_with (go_at_call 17; refine (zeros_any _ _ (by assumption) (by assumption)).mono ?_; rintro e w' ⟨rfl, rfl⟩)
    go_ret
    exact ⟨rfl, rfl⟩
  · have hx := xor_max a a0 a1
    have hm : IntKind.u32.max = 4294967295 := by decide
    rw [hm] at hx
    go_enter Try.func11, Try.ntmps11
    go_wp2_with (go_at_call 17; refine (zeros_any _ _ (by omega) (by omega)).mono ?_; rintro e w' ⟨rfl, rfl⟩)
    go_ret
    exact ⟨rfl, rfl⟩

end Go.Proofs.Ytmbaoldcdegbhab
