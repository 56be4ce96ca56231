/- Layer 14: the document's Value. -/
import Derived.Test.YtmegghgjllbamaaGreatDoorQIrPlain
import Derived.Test.YtmegghgjllbamaaGreatDoorQCpAll
namespace Go.Proofs.YtmegghgjllbamaaGreatDoor.Ir
open Go.RowKit
set_option linter.unusedVariables false
set_option maxRecDepth 100000
set_option linter.unusedSimpArgs false

/-- What a name makes of two bits. -/
def lgB (k : Nat) (a b : Bool) : Bool := if k = 0 then a && b else if k = 1 then a || b else if k = 2 then a != b else !a && !b

/-- The word of the bits below n. -/
def lgN (k : Nat) (s t : Int) : Nat → Int
  | 0 => 0
  | n + 1 => Cp.withV (lgN k s t n) n (lgB k (Cp.bit s n) (Cp.bit t n))

theorem lgN_w (k : Nat) (s t : Int) : ∀ n, n ≤ 32 → Cp.W32 (lgN k s t n)
  | 0, _ => Cp.w0
  | n + 1, h => Cp.with_w _ _ _ (by omega)

theorem lgN_bit (k : Nat) (s t : Int) (n : Nat) (hn : n ≤ 32) (i : Nat) (hi : i < 32) : Cp.bit (lgN k s t n) i = (decide (i < n) && lgB k (Cp.bit s i) (Cp.bit t i)) := by
  induction n with
  | zero => simp [lgN, Cp.bit_zero]
  | succ n ih =>
    show Cp.bit (Cp.withV (lgN k s t n) n _) i = _
    rw [Cp.bit_with _ n _ (by omega) i hi, ih (by omega)]
    by_cases h : i = n
    · subst h; simp
    · rw [if_neg h]
      by_cases h2 : i < n
      · simp [h2, show i < n + 1 by omega]
      · simp [h2, show ¬ i < n + 1 by omega]

/-- What it makes of two words. -/
def lgV (k : Nat) (s t : Int) : Int := if k = 0 then bits .and .u32 s t else if k = 1 then bits .or .u32 s t else if k = 2 then bits .xor .u32 s t else bits .xor .u32 4294967295 (bits .or .u32 s t)

theorem xor_bits {a b : Int} (ha : Cp.W32 a) (hb : Cp.W32 b) : Cp.W32 (bits .xor .u32 a b) ∧ ∀ i, Cp.bit (bits .xor .u32 a b) i = (Cp.bit a i != Cp.bit b i) := by
  have e : bits .xor .u32 a b = ((a.toNat ^^^ b.toNat : Nat) : Int) := u32_xor a b ha.1 ha.2 hb.1 hb.2
  have h1 : a.toNat < 2 ^ 32 := by have := ha.2; omega
  have h2 : b.toNat < 2 ^ 32 := by have := hb.2; omega
  have h3 := Nat.xor_lt_two_pow h1 h2
  refine ⟨⟨by rw [e]; omega, by rw [e]; omega⟩, fun i => ?_⟩
  rw [e]
  unfold Cp.bit
  rw [Int.toNat_natCast, Nat.testBit_xor]

theorem or_bits {a b : Int} (ha : Cp.W32 a) (hb : Cp.W32 b) : Cp.W32 (bits .or .u32 a b) ∧ ∀ i, i < 32 → Cp.bit (bits .or .u32 a b) i = (Cp.bit a i || Cp.bit b i) := by
  rw [Cp.or_of ha hb]
  refine ⟨Cp.mix_w hb, fun i hi => ?_⟩
  rw [Cp.bit_mix hb i hi]
  cases Cp.bit b i <;> simp

theorem lgV_is {s t : Int} (hs : Cp.W32 s) (ht : Cp.W32 t) (k : Nat) : lgN k s t 32 = lgV k s t := by
  have ones : Cp.W32 4294967295 := ⟨by decide, by decide⟩
  have hw : Cp.W32 (lgV k s t) := by
    unfold lgV
    repeat' split
    · exact Cp.and_w hs ht
    · exact (or_bits hs ht).1
    · exact (xor_bits hs ht).1
    · exact (xor_bits ones (or_bits hs ht).1).1
  refine Cp.bit_ext (lgN_w k s t 32 (Nat.le_refl _)) hw fun i hi => ?_
  rw [lgN_bit k s t 32 (Nat.le_refl _) i hi]
  simp only [hi, decide_true, Bool.true_and]
  unfold lgV lgB
  repeat' split
  · rw [Cp.bit_and hs ht]
  · rw [(or_bits hs ht).2 i hi]
  · rw [(xor_bits hs ht).2 i]
  · rw [(xor_bits ones (or_bits hs ht).1).2 i, (or_bits hs ht).2 i hi]
    have e : Cp.bit 4294967295 i = true := (by decide +kernel : ∀ i < 32, Cp.bit 4294967295 i = true) i hi
    rw [e]
    cases Cp.bit s i <;> cases Cp.bit t i <;> rfl

theorem shiftV_mod (k a n : Int) : Wo.shiftV k a (n % 32) = Wo.shiftV k a n := by
  unfold Wo.shiftV
  rw [Int.emod_emod_of_dvd n (by decide : (32 : Int) ∣ 32)]

end Go.Proofs.YtmegghgjllbamaaGreatDoor.Ir
