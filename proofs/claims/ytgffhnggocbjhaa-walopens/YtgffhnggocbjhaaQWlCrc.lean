/- Layers 19 to 22: sums of sixteen bits, what is sealed (my own of round 2, CrcPlain to CrcWalks4, at this seat's numbers). -/
import Derived.Test.YtgffhnggocbjhaaQDkBas
import Derived.Laws.BitsAllLaws
import Derived.WalkKit
import Derived.WalkSpells
import Derived.WalkLawsBesides
import Derived.Laws.BytesArg
import Derived.Lib.Strings
import Derived.RegionTactic
import Derived.ChangeAlike
namespace Go.Proofs.Ytgffhnggocbjhaa
namespace Crc

/-- One bit: the sum shifted left by one bit, and, if its highest bit was 1, exclusive or with 0x1021. -/
def step (n : Nat) : Nat := (2 * n % 65536) ^^^ (if 32768 ≤ n then 4129 else 0)

def steps : Nat → Nat → Nat
  | 0, n => n
  | k + 1, n => steps k (step n)

def byteOn (n b : Nat) : Nat := steps 8 (n ^^^ (b * 256))

def on (n : Nat) : List Nat → Nat
  | [] => n
  | b :: l => on (byteOn n b) l

theorem xor_lt {a b : Nat} (ha : a < 65536) (hb : b < 65536) : a ^^^ b < 65536 := Nat.xor_lt_two_pow (n := 16) ha hb

theorem step_lt (n : Nat) : step n < 65536 := by
  unfold step
  apply xor_lt
  · omega
  · split <;> omega

theorem steps_lt {k n : Nat} (h : n < 65536) : steps k n < 65536 := by
  induction k generalizing n with
  | zero => exact h
  | succ k ih => exact ih (step_lt n)

theorem steps_add (j k n : Nat) : steps (j + k) n = steps k (steps j n) := by
  induction j generalizing n with
  | zero => simp [steps]
  | succ j ih => rw [Nat.succ_add]; simp only [steps]; exact ih _

theorem byteOn_lt {n b : Nat} (hn : n < 65536) (hb : b < 256) : byteOn n b < 65536 := steps_lt (xor_lt hn (by omega))

def small (l : List Nat) : Prop := ∀ b ∈ l, b < 256

theorem on_lt {n : Nat} {l : List Nat} (hn : n < 65536) (hl : small l) : on n l < 65536 := by
  induction l generalizing n with
  | nil => exact hn
  | cons b l ih =>
    exact ih (byteOn_lt hn (hl b (by simp))) (fun c hc => hl c (by simp [hc]))

theorem on_append (n : Nat) (l m : List Nat) : on n (l ++ m) = on (on n l) m := by
  induction l generalizing n with
  | nil => rfl
  | cons b l ih => exact ih _

end Crc
open Go.RowKit
set_option linter.unusedVariables false
set_option maxRecDepth 100000
set_option linter.unusedSimpArgs false

theorem ret_int {k : IntKind} {a b : Int} (h : a = b) : Ending.returned (.int k a) = .returned (.int k b) := by rw [h]

theorem and_high (n : Nat) (hn : n < 65536) : bits .and .u16 (n : Int) 32768 = if 32768 ≤ n then 32768 else 0 := by
  have e := u16_and_nat n 32768 hn (by decide)
  have f := nat_bit 15 n
  rw [show (2 : Nat) ^ 15 = 32768 from rfl] at f
  rw [f] at e
  rw [show ((32768 : Nat) : Int) = 32768 from rfl] at e
  rw [e]
  split <;> omega

theorem shl_one (n : Nat) : IntKind.u16.wrap ((n : Int) * 2) = ((2 * n % 65536 : Nat) : Int) := by
  rw [IntKind.wrap_u16]; omega

theorem step_hi (n : Nat) (h : 32768 ≤ n) : bits .xor .u16 (IntKind.u16.wrap ((n : Int) * 2)) 4129 = ((Crc.step n : Nat) : Int) := by
  rw [shl_one, show (4129 : Int) = ((4129 : Nat) : Int) from rfl, u16_xor_nat _ _ (by omega) (by decide)]
  unfold Crc.step
  rw [if_pos h]

theorem step_lo (n : Nat) (h : ¬ 32768 ≤ n) : IntKind.u16.wrap ((n : Int) * 2) = ((Crc.step n : Nat) : Int) := by
  rw [shl_one]
  unfold Crc.step
  rw [if_neg h, Nat.xor_zero]

theorem step_lo' (n : Nat) (h : ¬ 32768 ≤ n) : (n : Int) * 2 = ((Crc.step n : Nat) : Int) := by
  rw [← step_lo n h, IntKind.wrap_u16]; omega

theorem onBit_any (n : Nat) (hn : n < 65536) (w : World) :
    Calls Try.prog 100 #[.int .u16 (n : Int)] w fun e w' => e = .returned (.int .u16 (Crc.step n : Nat)) ∧ w' = w := by
  have ha := and_high n hn
  by_cases h : 32768 ≤ n
  · rw [if_pos h] at ha
    have hb : (bits .and .u16 (n : Int) 32768 != 0) = true := by rw [ha]; rfl
    clear ha
    go_enter Try.func100, Try.ntmps100
    go_wp2
    go_ret
    exact ⟨ret_int (step_hi n h), rfl⟩
  · rw [if_neg h] at ha
    have hb : (bits .and .u16 (n : Int) 32768 != 0) = false := by rw [ha]; rfl
    clear ha
    go_enter Try.func100, Try.ntmps100
    go_wp2
    go_ret
    exact ⟨ret_int (step_lo' n h), rfl⟩

theorem absorb (n b : Nat) (hn : n < 65536) (hb : b < 256) : bits .xor .u16 (n : Int) ((b : Int) * 256) = ((n ^^^ b * 256 : Nat) : Int) := by
  have e : (b : Int) * 256 = ((b * 256 : Nat) : Int) := by omega
  rw [e, u16_xor_nat _ _ hn (by omega)]

theorem onByte_any (n b : Nat) (hn : n < 65536) (hb : b < 256) (w : World) :
    Calls Try.prog 99 #[.int .u16 (n : Int), .int .u8 (b : Int)] w fun e w' => e = .returned (.int .u16 (Crc.byteOn n b : Nat)) ∧ w' = w := by
  have hab := absorb n b hn hb
  have hx : n ^^^ b * 256 < 65536 := Crc.xor_lt hn (by omega)
  go_enter Try.func99, Try.ntmps99
  go_wp2
  go_loop [0, 10] (fun s i => ∃ k : Nat, k ≤ 8 ∧ i = .int .i64 k ∧ s = .int .u16 ((Crc.steps k (n ^^^ b * 256) : Nat) : Int)) (fun _ i => 8 - (intOf i).toNat)
  case atStart => exact ⟨0, by omega, rfl, rfl⟩
  case round =>
    obtain ⟨k, hk, rfl, rfl⟩ := hrel
    have hlt := Crc.steps_lt (k := k) hx
    by_cases h : k < 8
    · go_wp2_with (go_at_call 100; refine (onBit_any _ hlt _).mono ?_; rintro e w' ⟨rfl, rfl⟩)
      go_round
      case rel => exact ⟨k + 1, by omega, by go_num, by rw [Crc.steps_add k 1]; rfl⟩
      case measure => simp [intOf]; omega
    · go_wp2
      go_ret
      have : k = 8 := by omega
      subst this
      exact ⟨rfl, rfl⟩

/-- The bytes of a text, as numbers. -/
def nats (s : ByteArray) : List Nat := s.data.toList.map UInt8.toNat

theorem nats_small (s : ByteArray) : Crc.small (nats s) := by
  intro b hb
  simp only [nats, List.mem_map] at hb
  obtain ⟨x, _, rfl⟩ := hb
  exact x.toNat_lt

theorem nats_length (s : ByteArray) : (nats s).length = s.size := by
  simp only [nats, List.length_map, Array.length_toList]; rfl

theorem nats_snoc (s : ByteArray) (k : Nat) (h : k < s.size) : (nats s).take (k + 1) = (nats s).take k ++ [s[k].toNat] := by
  rw [List.take_succ_eq_append_getElem (by rw [nats_length]; exact h)]
  congr 2
  simp only [nats, List.getElem_map]
  rfl

theorem small_take {l : List Nat} (h : Crc.small l) (k : Nat) : Crc.small (l.take k) := fun b hb => h b (List.mem_of_mem_take hb)

theorem on_any (n : Nat) (s : ByteArray) (hn : n < 65536) (hs : s.size ≤ maxLen) (w : World) :
    Calls Try.prog 91 #[.int .u16 (n : Int), .string s] w fun e w' => e = .returned (.int .u16 (Crc.on n (nats s) : Nat)) ∧ w' = w := by
  unfold maxLen at hs
  go_enter Try.func91, Try.ntmps91
  go_wp2
  go_loop [0, 8] (fun t i => ∃ k : Nat, k ≤ s.size ∧ i = .int .i64 k ∧ t = .int .u16 ((Crc.on n ((nats s).take k) : Nat) : Int)) (fun _ i => s.size - (intOf i).toNat)
  case atStart => exact ⟨0, Nat.zero_le _, rfl, rfl⟩
  case round =>
    obtain ⟨k, hk, rfl, rfl⟩ := hrel
    have hlt := Crc.on_lt hn (small_take (nats_small s) k)
    by_cases h : k < s.size
    · have hb : s[k].toNat < 256 := s[k].toNat_lt
      have HS := hide (nats_snoc s k h)
      go_wp2_with (go_at_call 99; refine (onByte_any _ _ hlt hb _).mono ?_; rintro e w' ⟨rfl, rfl⟩)
      go_round
      case rel => exact ⟨k + 1, by omega, by go_num, by rw [HS.out, Crc.on_append]; rfl⟩
      case measure => simp [intOf]; omega
    · go_wp2
      go_ret
      exact ⟨ret_int (by rw [List.take_of_length_le (by rw [nats_length]; omega)]), rfl⟩

theorem sum_any (s : ByteArray) (hs : s.size ≤ maxLen) (w : World) :
    Calls Try.prog 90 #[.string s] w fun e w' => e = .returned (.int .u16 (Crc.on 65535 (nats s) : Nat)) ∧ w' = w := by
  go_enter Try.func90, Try.ntmps90
  go_wp2_with (go_at_call 91; refine (on_any 65535 s (by decide) hs _).mono ?_; rintro e w' ⟨rfl, rfl⟩)
  go_ret
  exact ⟨rfl, rfl⟩

theorem i64_xor_nat (a b : Nat) (ha : a < 65536) (hb : b < 65536) : bits .xor .i64 (a : Int) (b : Int) = ((a ^^^ b : Nat) : Int) := by
  have hx : a ^^^ b < 2 ^ 16 := Nat.xor_lt_two_pow (by omega) (by omega)
  have h64 : ∀ c : Nat, c < 65536 → (BitVec.ofInt 64 (c : Int)).toNat = c := fun c hc => ofInt_u64 c (by omega)
  show IntKind.i64.wrap ((BitVec.ofInt 64 (a : Int) ^^^ BitVec.ofInt 64 (b : Int)).toNat : Int) = _
  rw [BitVec.toNat_xor, h64 a ha, h64 b hb, IntKind.wrap_i64]
  omega

theorem rabsorb (n b : Nat) (hn : n < 65536) (hb : b < 256) : bits .xor .i64 (n : Int) ((b : Int) * 256) = ((n ^^^ b * 256 : Nat) : Int) := by
  have e : (b : Int) * 256 = ((b * 256 : Nat) : Int) := by omega
  rw [e, i64_xor_nat _ _ hn (by omega)]

theorem rstep_hi (n : Nat) (h : 32768 ≤ n) : bits .xor .i64 ((n : Int) * 2 % 65536) 4129 = ((Crc.step n : Nat) : Int) := by
  rw [show (n : Int) * 2 % 65536 = ((2 * n % 65536 : Nat) : Int) by omega, show (4129 : Int) = ((4129 : Nat) : Int) from rfl, i64_xor_nat _ _ (by omega) (by decide)]
  unfold Crc.step
  rw [if_pos h]

theorem rstep_lo (n : Nat) (h : ¬ 32768 ≤ n) : (n : Int) * 2 % 65536 = ((Crc.step n : Nat) : Int) := by
  rw [show (n : Int) * 2 % 65536 = ((2 * n % 65536 : Nat) : Int) by omega]
  unfold Crc.step
  rw [if_neg h, Nat.xor_zero]

theorem val_int {k : IntKind} {a b : Int} (h : a = b) : Value.int k a = .int k b := by rw [h]

set_option maxHeartbeats 1000000 in
set_option maxRecDepth 100000 in
theorem ron_any (n : Nat) (s : ByteArray) (hn : n < 65536) (hs : s.size ≤ maxLen) (w : World) :
    Calls Try.prog 95 #[.int .u16 (n : Int), .string s] w fun e w' => e = .returned (.int .u16 (Crc.on n (nats s) : Nat)) ∧ w' = w := by
  unfold maxLen at hs
  go_enter Try.func95, Try.ntmps95
  go_wp2
  go_loop [5, 6] (fun t i => ∃ k : Nat, k ≤ s.size ∧ i = .int .i64 k ∧ t = .int .i64 ((Crc.on n ((nats s).take k) : Nat) : Int)) (fun _ i => s.size - (intOf i).toNat)
  case atStart => exact ⟨0, Nat.zero_le _, rfl, rfl⟩
  case round =>
    obtain ⟨k, hk, rfl, rfl⟩ := hrel
    have hlt := Crc.on_lt hn (small_take (nats_small s) k)
    by_cases h : k < s.size
    · have hb : s[k].toNat < 256 := s[k].toNat_lt
      have HS := hide (nats_snoc s k h)
      obtain ⟨m, HM⟩ : ∃ m, Hid (Crc.on n ((nats s).take k) = m) := ⟨_, hide rfl⟩
      rw [HM.out] at hlt ⊢
      have hab := rabsorb m _ hlt hb
      have hx : m ^^^ s[k].toNat * 256 < 65536 := Crc.xor_lt hlt (by omega)
      go_wp2
      go_loop [5, 7] (fun t i => ∃ j : Nat, j ≤ 8 ∧ i = .int .i64 j ∧ t = .int .i64 ((Crc.steps j (m ^^^ s[k].toNat * 256) : Nat) : Int)) (fun _ i => 8 - (intOf i).toNat)
      case atStart => exact ⟨0, by omega, rfl, rfl⟩
      case round =>
        obtain ⟨j, hj, rfl, rfl⟩ := hrel
        have hl := Crc.steps_lt (k := j) hx
        have HT := hide (Crc.steps_add j 1 (m ^^^ s[k].toNat * 256))
        obtain ⟨x, HX⟩ : ∃ x : Int, Hid (((Crc.steps j (m ^^^ s[k].toNat * 256) : Nat) : Int) = x) := ⟨_, hide rfl⟩
        have hq0 : 0 ≤ x := by have := HX.out; omega
        have hq1 : x < 65536 := by have := HX.out; omega
        rw [HX.out]
        clear hl
        by_cases h8 : j < 8
        · by_cases hh : 32768 ≤ x
          · go_wp2
            go_round
            case rel => exact ⟨j + 1, by omega, by go_num, by rw [HT.out, ← HX.out]; exact val_int (rstep_hi _ (by have := HX.out; omega))⟩
            case measure => simp [intOf]; omega
          · go_wp2
            go_round
            case rel => exact ⟨j + 1, by omega, by go_num, by rw [HT.out, ← HX.out]; exact val_int (rstep_lo _ (by have := HX.out; omega))⟩
            case measure => simp [intOf]; omega
        · have : j = 8 := by omega
          subst this
          go_wp2
          go_round
          case rel => exact ⟨k + 1, by omega, by go_num, by rw [HS.out, Crc.on_append, HM.out, ← HX.out]; rfl⟩
          case measure => simp [intOf]; omega
    · go_wp2
      go_ret
      exact ⟨ret_int (by rw [List.take_of_length_le (by rw [nats_length]; omega)]), rfl⟩

/-- A sum as two bytes, the higher first. -/
def two (n : Nat) : ByteArray := ⟨#[UInt8.ofNat (n / 256), UInt8.ofNat (n % 256)]⟩

theorem two_of (n : Nat) : strOfNums [(n : Int) / 256, (n : Int) % 256] = two n := by
  unfold strOfNums two
  congr 1

theorem conv_two (n : Nat) (w : World) :
    (convert 57 9 (.slice (some ⟨w.heap.size, 0, none⟩) 2 2)).run Try.prog (w.alloc (.cells #[.int .u8 ((n : Int) / 256), .int .u8 ((n : Int) % 256)] 5))
      = .ok (.string (two n)) (w.alloc (.cells #[.int .u8 ((n : Int) / 256), .int .u8 ((n : Int) % 256)] 5)) := by
  rw [← two_of]
  refine run_convert_bytes_arg _ 57 5 Try.underlying57 Try.underlying5 w.heap.size 0 2 2 [(n : Int) / 256, (n : Int) % 256] rfl ?_ 9 Try.underlying9
  intro i hi
  rw [World.cell?_alloc_new]
  match i, hi with
  | 0, _ => rfl
  | 1, _ => rfl

theorem sumText_any (n : Nat) (hn : n < 65536) (w : World) :
    Calls Try.prog 92 #[.int .u16 (n : Int)] w fun e w' => e = .returned (.string (two n)) ∧ Below w.heap.size w w' := by
  have hcv := conv_two n w
  go_enter Try.func92, Try.ntmps92
  go_wp2
  go_ret
  exact ⟨rfl, (Below.refl _ _).alloc (Nat.le_refl _) _⟩

/-- A text with its sum behind it. -/
def sealOf (s : ByteArray) : ByteArray := s ++ two (Crc.on 65535 (nats s))

theorem two_size (n : Nat) : (two n).size = 2 := rfl

theorem seal_any (s : ByteArray) (w : World) (hs : s.size ≤ 562949953421312) :
    Calls Try.prog 72 #[.string s] w fun e w' => e = .returned (.string (sealOf s)) ∧ Below w.heap.size w w' := by
  have hl := Crc.on_lt (n := 65535) (by decide) (nats_small s)
  have h2 := two_size (Crc.on 65535 (nats s))
  go_enter Try.func72, Try.ntmps72
  go_wp2_with fail
  refine (sum_any s (by unfold maxLen; omega) _).mono ?_
  rintro e w' ⟨rfl, rfl⟩
  go_wp2_with fail
  refine (sumText_any _ hl _).mono ?_
  rintro e w' ⟨rfl, hb⟩
  go_wp2
  go_ret
  exact ⟨rfl, hb⟩

theorem rsum_any (s : ByteArray) (hs : s.size ≤ maxLen) (w : World) :
    Calls Try.prog 79 #[.string s] w fun e w' => e = .returned (.int .u16 (Crc.on 65535 (nats s) : Nat)) ∧ w' = w := by
  go_enter Try.func79, Try.ntmps79
  go_wp2_with (go_at_call 95; refine (ron_any 65535 s (by decide) hs _).mono ?_; rintro e w' ⟨rfl, rfl⟩)
  go_ret
  exact ⟨rfl, rfl⟩

theorem rseal_any (s : ByteArray) (w : World) (hs : s.size ≤ 562949953421312) :
    Calls Try.prog 80 #[.string s] w fun e w' => e = .returned (.string (sealOf s)) ∧ Below w.heap.size w w' := by
  have hl := Crc.on_lt (n := 65535) (by decide) (nats_small s)
  have h2 := two_size (Crc.on 65535 (nats s))
  have hcv := conv_two (Crc.on 65535 (nats s)) w
  go_enter Try.func80, Try.ntmps80
  go_wp2_with fail
  refine (rsum_any s (by unfold maxLen; omega) _).mono ?_
  rintro e w' ⟨rfl, rfl⟩
  go_wp2
  go_ret
  exact ⟨rfl, (Below.refl _ _).alloc (Nat.le_refl _) _⟩

end Go.Proofs.Ytgffhnggocbjhaa
