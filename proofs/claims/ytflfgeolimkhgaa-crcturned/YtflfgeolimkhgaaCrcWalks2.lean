/- Contracts of the document's sums, and of a sum as two bytes. -/
import Derived.Test.YtflfgeolimkhgaaCrcWalks
import Derived.Lib.Strings
namespace Go.Proofs.Ytflfgeolimkhgaa
open Go.RowKit
set_option linter.unusedVariables false

theorem i64_xor_nat (a b : Nat) (ha : a < 65536) (hb : b < 65536) : bits .xor .i64 (a : Int) (b : Int) = ((a ^^^ b : Nat) : Int) := by
  have hx : a ^^^ b < 2 ^ 16 := Nat.xor_lt_two_pow (by omega) (by omega)
  have h64 : ∀ c : Nat, c < 65536 → (BitVec.ofInt 64 (c : Int)).toNat = c := fun c hc => ofInt_u64 c (by omega)
  show IntKind.i64.wrap ((BitVec.ofInt 64 (a : Int) ^^^ BitVec.ofInt 64 (b : Int)).toNat : Int) = _
  rw [BitVec.toNat_xor, h64 a ha, h64 b hb, IntKind.wrap_i64]
  omega

theorem rabsorb (n b : Nat) (hn : n < 65536) (hb : b < 256) : bits .xor .i64 (n : Int) ((b : Int) * 256) = ((n ^^^ b * 256 : Nat) : Int) := by
  have e : (b : Int) * 256 = ((b * 256 : Nat) : Int) := by omega
  rw [e, i64_xor_nat _ _ hn (by omega)]

theorem rstep_hi (n : Nat) (h : 32768 ≤ n) : bits .xor .i64 ((n : Int) * 2 % 65536) 4129 = ((Crc.step n : Nat) : Int) := by
  rw [show (n : Int) * 2 % 65536 = ((2 * n % 65536 : Nat) : Int) by omega, show (4129 : Int) = ((4129 : Nat) : Int) from rfl, i64_xor_nat _ _ (by omega) (by decide)]
  unfold Crc.step
  rw [if_pos h]

theorem rstep_lo (n : Nat) (h : ¬ 32768 ≤ n) : (n : Int) * 2 % 65536 = ((Crc.step n : Nat) : Int) := by
  rw [show (n : Int) * 2 % 65536 = ((2 * n % 65536 : Nat) : Int) by omega]
  unfold Crc.step
  rw [if_neg h, Nat.xor_zero]

theorem val_int {k : IntKind} {a b : Int} (h : a = b) : Value.int k a = .int k b := by rw [h]

set_option maxHeartbeats 1000000 in
set_option maxRecDepth 100000 in
theorem ron_any (n : Nat) (s : ByteArray) (hn : n < 65536) (hs : s.size ≤ maxLen) (w : World) :
    Calls Try.prog 11 #[.int .u16 (n : Int), .string s] w fun e w' => e = .returned (.int .u16 (Crc.on n (nats s) : Nat)) ∧ w' = w := by
  unfold maxLen at hs
  go_enter Try.func11, Try.ntmps11
  go_wp2
  go_loop [5, 6] (fun t i => ∃ k : Nat, k ≤ s.size ∧ i = .int .i64 k ∧ t = .int .i64 ((Crc.on n ((nats s).take k) : Nat) : Int)) (fun _ i => s.size - (intOf i).toNat)
  case atStart => exact ⟨0, Nat.zero_le _, rfl, rfl⟩
  case round =>
    obtain ⟨k, hk, rfl, rfl⟩ := hrel
    have hlt := Crc.on_lt hn (small_take (nats_small s) k)
    by_cases h : k < s.size
    · have hb : s[k].toNat < 256 := s[k].toNat_lt
      have HS := hide (nats_snoc s k h)
      obtain ⟨m, HM⟩ : ∃ m, Hid (Crc.on n ((nats s).take k) = m) := ⟨_, hide rfl⟩
      rw [HM.out] at hlt ⊢
      have hab := rabsorb m _ hlt hb
      have hx : m ^^^ s[k].toNat * 256 < 65536 := Crc.xor_lt hlt (by omega)
      go_wp2
      go_loop [5, 7] (fun t i => ∃ j : Nat, j ≤ 8 ∧ i = .int .i64 j ∧ t = .int .i64 ((Crc.steps j (m ^^^ s[k].toNat * 256) : Nat) : Int)) (fun _ i => 8 - (intOf i).toNat)
      case atStart => exact ⟨0, by omega, rfl, rfl⟩
      case round =>
        obtain ⟨j, hj, rfl, rfl⟩ := hrel
        have hl := Crc.steps_lt (k := j) hx
        have HT := hide (Crc.steps_add j 1 (m ^^^ s[k].toNat * 256))
        obtain ⟨x, HX⟩ : ∃ x : Int, Hid (((Crc.steps j (m ^^^ s[k].toNat * 256) : Nat) : Int) = x) := ⟨_, hide rfl⟩
        have hq0 : 0 ≤ x := by have := HX.out; omega
        have hq1 : x < 65536 := by have := HX.out; omega
        rw [HX.out]
        clear hl
        by_cases h8 : j < 8
        · by_cases hh : 32768 ≤ x
          · go_wp2
            go_round
            case rel => exact ⟨j + 1, by omega, by go_num, by rw [HT.out, ← HX.out]; exact val_int (rstep_hi _ (by have := HX.out; omega))⟩
            case measure => simp [intOf]; omega
          · go_wp2
            go_round
            case rel => exact ⟨j + 1, by omega, by go_num, by rw [HT.out, ← HX.out]; exact val_int (rstep_lo _ (by have := HX.out; omega))⟩
            case measure => simp [intOf]; omega
        · have : j = 8 := by omega
          subst this
          go_wp2
          go_round
          case rel => exact ⟨k + 1, by omega, by go_num, by rw [HS.out, Crc.on_append, HM.out, ← HX.out]; rfl⟩
          case measure => simp [intOf]; omega
    · go_wp2
      go_ret
      exact ⟨ret_int (by rw [List.take_of_length_le (by rw [nats_length]; omega)]), rfl⟩

end Go.Proofs.Ytflfgeolimkhgaa
