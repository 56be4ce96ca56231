/- Layer 8: words of 32 bits, bit by bit, over whole numbers. -/
import Derived.Laws.BitsAllLaws
import Derived.WalkKit
import Derived.RowKit3
namespace Go.Proofs.Ytjpfggffeffapaa
open Go
set_option linter.unusedVariables false

/-- A word. -/
def W32 (a : Int) : Prop := 0 ≤ a ∧ a < 4294967296

/-- A bit of a word. -/
def bit (a : Int) (n : Nat) : Bool := a.toNat.testBit n

theorem bit_out {a : Int} (h : W32 a) (i : Nat) (hi : 32 ≤ i) : bit a i = false := by
  unfold bit
  apply Nat.testBit_lt_two_pow
  have : (2 : Nat) ^ 32 ≤ 2 ^ i := Nat.pow_le_pow_right (by omega) hi
  have := h.2
  omega

theorem bit_ext {a b : Int} (ha : W32 a) (hb : W32 b) (h : ∀ i, i < 32 → bit a i = bit b i) : a = b := by
  have e : a.toNat = b.toNat := Nat.eq_of_testBit_eq fun i => by
    by_cases hi : i < 32
    · exact h i hi
    · exact (bit_out ha i (by omega)).trans (bit_out hb i (by omega)).symm
  have := ha.1
  have := hb.1
  omega

/-- A word with the bits of B taken from v. -/
def mixV (w v B : Int) : Int := (((w.toNat &&& (4294967295 - B.toNat)) ||| (v.toNat &&& B.toNat) : Nat) : Int)

theorem not_lt (B : Int) : 4294967295 - B.toNat < 2 ^ 32 := by omega

theorem mix_w {w v B : Int} (hB : W32 B) : W32 (mixV w v B) := by
  unfold mixV
  have h1 : w.toNat &&& (4294967295 - B.toNat) < 2 ^ 32 := Nat.and_lt_two_pow _ (not_lt B)
  have h2 : v.toNat &&& B.toNat < 2 ^ 32 := Nat.and_lt_two_pow _ (by have := hB.2; omega)
  have h3 := Nat.or_lt_two_pow h1 h2
  constructor <;> omega

theorem bit_mix {w v B : Int} (hB : W32 B) (i : Nat) (hi : i < 32) : bit (mixV w v B) i = if bit B i then bit v i else bit w i := by
  unfold bit mixV
  have e : 4294967295 - B.toNat = 2 ^ 32 - (B.toNat + 1) := by omega
  rw [Int.toNat_natCast, Nat.testBit_or, Nat.testBit_and, Nat.testBit_and, e, Nat.testBit_two_pow_sub_succ (by have := hB.2; omega)]
  simp only [hi, decide_true, Bool.true_and]
  cases B.toNat.testBit i <;> simp

theorem and_of {w v B : Int} (hw : W32 w) (hv : W32 v) (hB : W32 B) : bits .or .u32 (bits .andNot .u32 w B) (bits .and .u32 v B) = mixV w v B := by
  have h1 : w.toNat &&& (4294967295 - B.toNat) < 2 ^ 32 := Nat.and_lt_two_pow _ (not_lt B)
  have h2 : v.toNat &&& B.toNat < 2 ^ 32 := Nat.and_lt_two_pow _ (by have := hB.2; omega)
  rw [u32_andNot w B hw.1 hw.2 hB.1 hB.2, u32_and v B hv.1 hv.2 hB.1 hB.2, u32_or _ _ (by omega) (by omega) (by omega) (by omega)]
  rfl

theorem or_of {w m : Int} (hw : W32 w) (hm : W32 m) : bits .or .u32 w m = mixV w m m := by
  apply bit_ext
  · rw [u32_or w m hw.1 hw.2 hm.1 hm.2]
    have := Nat.or_lt_two_pow (n := 32) (x := w.toNat) (y := m.toNat) (by have := hw.2; omega) (by have := hm.2; omega)
    constructor <;> omega
  · exact mix_w hm
  · intro i hi
    rw [bit_mix hm i hi, u32_or w m hw.1 hw.2 hm.1 hm.2]
    unfold bit
    rw [Int.toNat_natCast, Nat.testBit_or]
    cases m.toNat.testBit i <;> simp

theorem not_of {w m : Int} (hw : W32 w) (hm : W32 m) : bits .andNot .u32 w m = mixV w 0 m := by
  rw [u32_andNot w m hw.1 hw.2 hm.1 hm.2]
  simp [mixV]

theorem and_w {a b : Int} (ha : W32 a) (hb : W32 b) : W32 (bits .and .u32 a b) := by
  rw [u32_and a b ha.1 ha.2 hb.1 hb.2]
  have := Nat.and_lt_two_pow (n := 32) a.toNat (y := b.toNat) (by have := hb.2; omega)
  constructor <;> omega

theorem bit_and {a b : Int} (ha : W32 a) (hb : W32 b) (i : Nat) : bit (bits .and .u32 a b) i = (bit a i && bit b i) := by
  rw [u32_and a b ha.1 ha.2 hb.1 hb.2]
  unfold bit
  rw [Int.toNat_natCast, Nat.testBit_and]

theorem bit_zero (i : Nat) : bit 0 i = false := by simp [bit]

theorem w0 : W32 0 := ⟨by decide, by decide⟩

/-- A bit is the word, divided and taken modulo 2. -/
theorem bit_is {a : Int} (ha : 0 ≤ a) (n : Nat) : (a / 2 ^ n % 2 = 1) ↔ bit a n = true := by
  obtain ⟨A, rfl⟩ := Int.eq_ofNat_of_zero_le ha
  unfold bit
  rw [Int.toNat_natCast, Nat.testBit_eq_decide_div_mod_eq, decide_eq_true_iff]
  constructor
  · intro h
    exact_mod_cast h
  · intro h
    exact_mod_cast h

/-- What the document's With makes: all other bits stay. -/
theorem with_is {w r : Int} (n : Nat) (b : Bool) (hw : W32 w) (hr : W32 r) (hn : n < 32) (h : ∀ i, i < 32 → bit r i = if i = n then b else bit w i) :
    w - w / 2 ^ n % 2 * 2 ^ n + (if b then 2 ^ n else 0) = r := by
  obtain ⟨A, rfl⟩ := Int.eq_ofNat_of_zero_le hw.1
  obtain ⟨R, rfl⟩ := Int.eq_ofNat_of_zero_le hr.1
  have key : R = 2 ^ n * (2 ^ 1 * (A / 2 ^ n / 2) + (if b then 1 else 0)) + A % 2 ^ n := by
    apply Nat.eq_of_testBit_eq
    intro i
    have hp : A % 2 ^ n < 2 ^ n := Nat.mod_lt _ (Nat.two_pow_pos n)
    have hb1 : (if b then 1 else 0) < 2 ^ 1 := by cases b <;> simp
    rw [Nat.testBit_two_pow_mul_add _ hp, Nat.testBit_mod_two_pow]
    have hi : R.testBit i = if i = n then b else A.testBit i := by
      by_cases h32 : i < 32
      · exact h i h32
      · rw [if_neg (by omega)]
        exact (bit_out hr i (by omega)).trans (bit_out hw i (by omega)).symm
    rw [hi]
    by_cases e : i < n
    · rw [if_neg (by omega), if_pos e]; simp [e]
    · rw [if_neg e, Nat.testBit_two_pow_mul_add _ hb1]
      by_cases e2 : i = n
      · subst e2
        rw [if_pos rfl, if_pos (by omega)]
        cases b <;> simp
      · rw [if_neg e2, if_neg (by omega), show (2 : Nat) = 2 ^ 1 from rfl, Nat.testBit_div_two_pow, Nat.testBit_div_two_pow]
        congr 1
        omega
  have hA : A = 2 ^ n * (2 * (A / 2 ^ n / 2) + A / 2 ^ n % 2) + A % 2 ^ n := by
    have h1 := Nat.div_add_mod A (2 ^ n)
    have h2 := Nat.div_add_mod (A / 2 ^ n) 2
    rw [h2]; exact h1.symm
  have c1 : ((A : Int) / 2 ^ n % 2) = ((A / 2 ^ n % 2 : Nat) : Int) := by simp
  have c2 : ((2 : Int) ^ n) = ((2 ^ n : Nat) : Int) := by simp
  rw [c1, c2]
  generalize A / 2 ^ n % 2 = d at *
  generalize A / 2 ^ n / 2 = q at *
  generalize A % 2 ^ n = m at *
  generalize 2 ^ n = p at *
  subst key hA
  cases b <;> simp [Int.mul_add] <;> rw [Int.mul_comm (d : Int) (p : Int)] <;> omega

/-- A word with a bit so. -/
def withV (a : Int) (n : Nat) (b : Bool) : Int := mixV a (if b then ((2 ^ n : Nat) : Int) else 0) ((2 ^ n : Nat) : Int)

theorem pow_w (n : Nat) (h : n < 32) : W32 ((2 ^ n : Nat) : Int) := by
  have : (2 : Nat) ^ n < 2 ^ 32 := Nat.pow_lt_pow_right (by omega) h
  generalize (2 : Nat) ^ n = X at *
  constructor <;> omega

theorem with_w (a : Int) (n : Nat) (b : Bool) (h : n < 32) : W32 (withV a n b) := mix_w (pow_w n h)

theorem bit_pow (n i : Nat) : bit ((2 ^ n : Nat) : Int) i = decide (n = i) := by
  unfold bit
  rw [Int.toNat_natCast, Nat.testBit_two_pow]

theorem bit_with (a : Int) (n : Nat) (b : Bool) (h : n < 32) (i : Nat) (hi : i < 32) : bit (withV a n b) i = if i = n then b else bit a i := by
  unfold withV
  rw [bit_mix (pow_w n h) i hi, bit_pow]
  by_cases e : i = n
  · subst e
    cases b
    · simp [bit_zero]
    · simp only [decide_true, if_true, bit_pow]
  · rw [if_neg e, decide_eq_false (fun x => e x.symm)]
    rfl

/-- Mixed twice with the same bits. -/
theorem mix_mix {w a b M : Int} (hM : W32 M) : mixV (mixV w a M) b M = mixV w b M :=
  bit_ext (mix_w hM) (mix_w hM) fun i hi => by
    rw [bit_mix hM i hi, bit_mix hM i hi, bit_mix hM i hi]
    split <;> rfl

theorem nat_bit (x n : Nat) : x &&& 2 ^ n = if x.testBit n then 2 ^ n else 0 := by
  apply Nat.eq_of_testBit_eq
  intro i
  rw [Nat.testBit_and, Nat.testBit_two_pow]
  by_cases e : n = i
  · subst e
    cases x.testBit n <;> simp
  · cases x.testBit n <;> simp [e]

/-- A word cut with one of its bits. -/
theorem and_bit {a : Int} (ha : W32 a) (n : Nat) (hn : n < 32) : bits .and .u32 a ((2 ^ n : Nat) : Int) = if bit a n then ((2 ^ n : Nat) : Int) else 0 := by
  have p := pow_w n hn
  rw [u32_and a _ ha.1 ha.2 p.1 p.2, Int.toNat_natCast, nat_bit]
  unfold bit
  split <;> rfl

/-- A word cut with two of its bits. -/
theorem and_two {a : Int} (ha : W32 a) (m n : Nat) (hn : n < 32) (h : m < n) :
    bits .and .u32 a ((2 ^ n + 2 ^ m : Nat) : Int) = (if bit a n then ((2 ^ n : Nat) : Int) else 0) + (if bit a m then ((2 ^ m : Nat) : Int) else 0) := by
  have hlt : (2 : Nat) ^ m < 2 ^ n := Nat.pow_lt_pow_right (by omega) h
  have p := pow_w n hn
  have hle : (2 : Nat) ^ n ≤ 2 ^ 31 := Nat.pow_le_pow_right (by omega) (by omega)
  have o : (2 : Nat) ^ n + 2 ^ m = 2 ^ n ||| 2 ^ m := by
    rw [nat_join n _ _ (by simp) hlt]
  have hb : (2 ^ n + 2 ^ m : Nat) < 4294967296 := by
    generalize (2 : Nat) ^ n = X at *
    generalize (2 : Nat) ^ m = Y at *
    omega
  rw [u32_and a _ ha.1 ha.2 (Int.natCast_nonneg _) (Int.ofNat_lt.2 hb), Int.toNat_natCast, o, Nat.and_or_distrib_left, nat_bit, nat_bit]
  unfold bit
  clear hb hle p hlt
  generalize a.toNat.testBit n = x
  generalize a.toNat.testBit m = y
  generalize (2 : Nat) ^ n = X at *
  generalize (2 : Nat) ^ m = Y at *
  cases x <;> cases y
  · show ((0 ||| 0 : Nat) : Int) = 0 + 0; rfl
  · show ((0 ||| Y : Nat) : Int) = 0 + (Y : Int); rw [Nat.zero_or, Int.zero_add]
  · show ((X ||| 0 : Nat) : Int) = (X : Int) + 0; rw [Nat.or_zero, Int.add_zero]
  · show ((X ||| Y : Nat) : Int) = (X : Int) + (Y : Int); rw [← o, Int.natCast_add]

end Go.Proofs.Ytjpfggffeffapaa
