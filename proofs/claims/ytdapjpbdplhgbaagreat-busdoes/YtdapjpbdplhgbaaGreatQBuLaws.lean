/- Layer 12: what the statements' walks share. -/
import Derived.Test.YtdapjpbdplhgbaaGreatQBuOpen
import Derived.Deep.CutRange
namespace Go.Proofs.YtdapjpbdplhgbaaGreat
open Go.RowKit
set_option linter.unusedVariables false
set_option maxRecDepth 100000

theorem two_ways {k n m : Nat} (h : ¬ (k < n ∧ k < m)) : (decide ((k : Int) < (n : Int)) = true ∧ (k : Int) < (n : Int) ∧ decide ((k : Int) < (m : Int)) = false ∧ ¬ (k : Int) < (m : Int)) ∨ (decide ((k : Int) < (n : Int)) = false ∧ ¬ (k : Int) < (n : Int)) := by
  by_cases h1 : k < n
  · exact Or.inl ⟨by simp; omega, by omega, by simp; omega, by omega⟩
  · exact Or.inr ⟨by simp; omega, by omega⟩

theorem and63 (n : Int) : bits .and .i64 n 63 = n % 64 := by
  have e : (BitVec.ofInt 64 n &&& BitVec.ofInt 64 63).toNat = (n % 18446744073709551616).toNat % 64 := by
    rw [BitVec.toNat_and, BitVec.toNat_ofInt, BitVec.toNat_ofInt]
    have := Nat.and_two_pow_sub_one_eq_mod (n % 18446744073709551616).toNat 6
    exact this
  show IntKind.i64.wrap ((BitVec.ofInt 64 n &&& BitVec.ofInt 64 63).toNat : Int) = n % 64
  rw [e]
  simp [IntKind.wrap, IntKind.bits, IntKind.signed]
  omega

theorem and127 (n : Int) : bits .and .i64 n 127 = n % 128 := by
  have e : (BitVec.ofInt 64 n &&& BitVec.ofInt 64 127).toNat = (n % 18446744073709551616).toNat % 128 := by
    rw [BitVec.toNat_and, BitVec.toNat_ofInt, BitVec.toNat_ofInt]
    have := Nat.and_two_pow_sub_one_eq_mod (n % 18446744073709551616).toNat 7
    exact this
  show IntKind.i64.wrap ((BitVec.ofInt 64 n &&& BitVec.ofInt 64 127).toNat : Int) = n % 128
  rw [e]
  simp [IntKind.wrap, IntKind.bits, IntKind.signed]
  omega

theorem and15 (v : Int) (h0 : 0 ≤ v) (h1 : v < 4294967296) : bits .and .u32 v 15 = v % 16 := by
  rw [u32_and v 15 h0 (by omega) (by omega) (by omega)]
  have := Nat.and_two_pow_sub_one_eq_mod v.toNat 4
  rw [show (15 : Int).toNat = 2 ^ 4 - 1 from rfl, this]
  omega

theorem putB_at (B : Nat → Nat) (a s v i : Nat) (h : i < s) : putB B a s v (a + i) = byteOf v s i := by
  unfold putB
  rw [if_pos ⟨by omega, by omega⟩, show a + i - a = i by omega]

theorem num_put (B : Nat → Nat) (a v : Nat) (hv : v < 4294967296) : numOf (putB B a 4 v) a 4 = v := by
  simp only [numOf]
  rw [putB_at B a 4 v 0 (by omega), putB_at B a 4 v 1 (by omega), putB_at B a 4 v 2 (by omega), putB_at B a 4 v 3 (by omega)]
  simp [byteOf]
  omega

theorem num_far (B : Nat → Nat) (a x v : Nat) (h : x + 4 ≤ a ∨ a + 4 ≤ x) : numOf (putB B a 4 v) x 4 = numOf B x 4 := by
  have e : ∀ i, i < 4 → putB B a 4 v (x + i) = B (x + i) := fun i hi => by
    unfold putB
    exact if_neg (by omega)
  simp only [numOf]
  rw [e 0 (by omega), e 1 (by omega), e 2 (by omega), e 3 (by omega)]

end Go.Proofs.YtdapjpbdplhgbaaGreat
