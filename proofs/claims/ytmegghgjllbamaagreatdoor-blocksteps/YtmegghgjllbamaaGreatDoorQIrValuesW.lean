/- Layer 14: what an operation writes is as the document says. -/
import Derived.Test.YtmegghgjllbamaaGreatDoorQIrOpen
import Derived.Test.YtmegghgjllbamaaGreatDoorQIrBits
namespace Go.Proofs.YtmegghgjllbamaaGreatDoor.Ir
open Go.RowKit
set_option linter.unusedVariables false
set_option maxRecDepth 100000
set_option linter.unusedSimpArgs false

theorem and65535 (n : Int) : bits .and .i64 n 65535 = n % 65536 := by
  have e : (BitVec.ofInt 64 n &&& BitVec.ofInt 64 65535).toNat = (n % 18446744073709551616).toNat % 65536 := by
    rw [BitVec.toNat_and, BitVec.toNat_ofInt, BitVec.toNat_ofInt]
    exact Nat.and_two_pow_sub_one_eq_mod _ 16
  show IntKind.i64.wrap ((BitVec.ofInt 64 n &&& BitVec.ofInt 64 65535).toNat : Int) = n % 65536
  rw [e]
  simp [IntKind.wrap, IntKind.bits, IntKind.signed]
  omega

theorem xor_w {p q : Int} (ha : Cp.W32 p) (hb : Cp.W32 q) : Cp.W32 (bits .xor .u32 p q) := by
  have e : bits .xor .u32 p q = ((p.toNat ^^^ q.toNat : Nat) : Int) := u32_xor p q ha.1 ha.2 hb.1 hb.2
  have h1 : p.toNat < 2 ^ 32 := by have := ha.2; omega
  have h2 : q.toNat < 2 ^ 32 := by have := hb.2; omega
  have h3 := Nat.xor_lt_two_pow h1 h2
  exact ⟨by rw [e]; omega, by rw [e]; omega⟩

end Go.Proofs.YtmegghgjllbamaaGreatDoor.Ir
