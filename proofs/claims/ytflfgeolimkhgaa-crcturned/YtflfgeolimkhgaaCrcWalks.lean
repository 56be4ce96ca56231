/- Contracts of the program's and the document's sums of sixteen bits. -/
import Derived.Test.YtflfgeolimkhgaaRows
import Derived.Test.YtflfgeolimkhgaaCrcPlain
import Derived.Laws.BitsAllLaws
import Derived.WalkKit
import Derived.WalkSpells
import Derived.WalkLawsBesides
namespace Go.Proofs.Ytflfgeolimkhgaa
open Go.RowKit
set_option linter.unusedVariables false

theorem hide {p : Prop} (h : p) : Hid p := h

theorem ret_int {k : IntKind} {a b : Int} (h : a = b) : Ending.returned (.int k a) = .returned (.int k b) := by rw [h]

theorem and_high (n : Nat) (hn : n < 65536) : bits .and .u16 (n : Int) 32768 = if 32768 ≤ n then 32768 else 0 := by
  have e := u16_and_nat n 32768 hn (by decide)
  have f := nat_bit 15 n
  rw [show (2 : Nat) ^ 15 = 32768 from rfl] at f
  rw [f] at e
  rw [show ((32768 : Nat) : Int) = 32768 from rfl] at e
  rw [e]
  split <;> omega

theorem shl_one (n : Nat) : IntKind.u16.wrap ((n : Int) * 2) = ((2 * n % 65536 : Nat) : Int) := by
  rw [IntKind.wrap_u16]; omega

theorem step_hi (n : Nat) (h : 32768 ≤ n) : bits .xor .u16 (IntKind.u16.wrap ((n : Int) * 2)) 4129 = ((Crc.step n : Nat) : Int) := by
  rw [shl_one, show (4129 : Int) = ((4129 : Nat) : Int) from rfl, u16_xor_nat _ _ (by omega) (by decide)]
  unfold Crc.step
  rw [if_pos h]

theorem step_lo (n : Nat) (h : ¬ 32768 ≤ n) : IntKind.u16.wrap ((n : Int) * 2) = ((Crc.step n : Nat) : Int) := by
  rw [shl_one]
  unfold Crc.step
  rw [if_neg h, Nat.xor_zero]

theorem step_lo' (n : Nat) (h : ¬ 32768 ≤ n) : (n : Int) * 2 = ((Crc.step n : Nat) : Int) := by
  rw [← step_lo n h, IntKind.wrap_u16]; omega

theorem onBit_any (n : Nat) (hn : n < 65536) (w : World) :
    Calls Try.prog 21 #[.int .u16 (n : Int)] w fun e w' => e = .returned (.int .u16 (Crc.step n : Nat)) ∧ w' = w := by
  have ha := and_high n hn
  by_cases h : 32768 ≤ n
  · rw [if_pos h] at ha
    have hb : (bits .and .u16 (n : Int) 32768 != 0) = true := by rw [ha]; rfl
    clear ha
    go_enter Try.func21, Try.ntmps21
    go_wp2
    go_ret
    exact ⟨ret_int (step_hi n h), rfl⟩
  · rw [if_neg h] at ha
    have hb : (bits .and .u16 (n : Int) 32768 != 0) = false := by rw [ha]; rfl
    clear ha
    go_enter Try.func21, Try.ntmps21
    go_wp2
    go_ret
    exact ⟨ret_int (step_lo' n h), rfl⟩

theorem absorb (n b : Nat) (hn : n < 65536) (hb : b < 256) : bits .xor .u16 (n : Int) ((b : Int) * 256) = ((n ^^^ b * 256 : Nat) : Int) := by
  have e : (b : Int) * 256 = ((b * 256 : Nat) : Int) := by omega
  rw [e, u16_xor_nat _ _ hn (by omega)]

theorem onByte_any (n b : Nat) (hn : n < 65536) (hb : b < 256) (w : World) :
    Calls Try.prog 18 #[.int .u16 (n : Int), .int .u8 (b : Int)] w fun e w' => e = .returned (.int .u16 (Crc.byteOn n b : Nat)) ∧ w' = w := by
  have hab := absorb n b hn hb
  have hx : n ^^^ b * 256 < 65536 := Crc.xor_lt hn (by omega)
  go_enter Try.func18, Try.ntmps18
  go_wp2
  go_loop [0, 10] (fun s i => ∃ k : Nat, k ≤ 8 ∧ i = .int .i64 k ∧ s = .int .u16 ((Crc.steps k (n ^^^ b * 256) : Nat) : Int)) (fun _ i => 8 - (intOf i).toNat)
  case atStart => exact ⟨0, by omega, rfl, rfl⟩
  case round =>
    obtain ⟨k, hk, rfl, rfl⟩ := hrel
    have hlt := Crc.steps_lt (k := k) hx
    by_cases h : k < 8
    · go_wp2_with (go_at_call 21; refine (onBit_any _ hlt _).mono ?_; rintro e w' ⟨rfl, rfl⟩)
      go_round
      case rel => exact ⟨k + 1, by omega, by go_num, by rw [Crc.steps_add k 1]; rfl⟩
      case measure => simp [intOf]; omega
    · go_wp2
      go_ret
      have : k = 8 := by omega
      subst this
      exact ⟨rfl, rfl⟩

/-- The bytes of a text, as numbers. -/
def nats (s : ByteArray) : List Nat := s.data.toList.map UInt8.toNat

theorem nats_small (s : ByteArray) : Crc.small (nats s) := by
  intro b hb
  simp only [nats, List.mem_map] at hb
  obtain ⟨x, _, rfl⟩ := hb
  exact x.toNat_lt

theorem nats_length (s : ByteArray) : (nats s).length = s.size := by
  simp only [nats, List.length_map, Array.length_toList]; rfl

theorem nats_snoc (s : ByteArray) (k : Nat) (h : k < s.size) : (nats s).take (k + 1) = (nats s).take k ++ [s[k].toNat] := by
  rw [List.take_succ_eq_append_getElem (by rw [nats_length]; exact h)]
  congr 2
  simp only [nats, List.getElem_map]
  rfl

theorem small_take {l : List Nat} (h : Crc.small l) (k : Nat) : Crc.small (l.take k) := fun b hb => h b (List.mem_of_mem_take hb)

theorem on_any (n : Nat) (s : ByteArray) (hn : n < 65536) (hs : s.size ≤ maxLen) (w : World) :
    Calls Try.prog 10 #[.int .u16 (n : Int), .string s] w fun e w' => e = .returned (.int .u16 (Crc.on n (nats s) : Nat)) ∧ w' = w := by
  unfold maxLen at hs
  go_enter Try.func10, Try.ntmps10
  go_wp2
  go_loop [0, 8] (fun t i => ∃ k : Nat, k ≤ s.size ∧ i = .int .i64 k ∧ t = .int .u16 ((Crc.on n ((nats s).take k) : Nat) : Int)) (fun _ i => s.size - (intOf i).toNat)
  case atStart => exact ⟨0, Nat.zero_le _, rfl, rfl⟩
  case round =>
    obtain ⟨k, hk, rfl, rfl⟩ := hrel
    have hlt := Crc.on_lt hn (small_take (nats_small s) k)
    by_cases h : k < s.size
    · have hb : s[k].toNat < 256 := s[k].toNat_lt
      have HS := hide (nats_snoc s k h)
      go_wp2_with (go_at_call 18; refine (onByte_any _ _ hlt hb _).mono ?_; rintro e w' ⟨rfl, rfl⟩)
      go_round
      case rel => exact ⟨k + 1, by omega, by go_num, by rw [HS.out, Crc.on_append]; rfl⟩
      case measure => simp [intOf]; omega
    · go_wp2
      go_ret
      exact ⟨ret_int (by rw [List.take_of_length_le (by rw [nats_length]; omega)]), rfl⟩

theorem sum_any (s : ByteArray) (hs : s.size ≤ maxLen) (w : World) :
    Calls Try.prog 12 #[.string s] w fun e w' => e = .returned (.int .u16 (Crc.on 65535 (nats s) : Nat)) ∧ w' = w := by
  go_enter Try.func12, Try.ntmps12
  go_wp2_with (go_at_call 10; refine (on_any 65535 s (by decide) hs _).mono ?_; rintro e w' ⟨rfl, rfl⟩)
  go_ret
  exact ⟨rfl, rfl⟩

end Go.Proofs.Ytflfgeolimkhgaa
