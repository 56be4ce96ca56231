/- An int masked to low bits is never below 0, nor above the mask. -/
import Derived.Laws.BitsAllLaws
import Derived.WalkKit
import Derived.RowKit3
namespace Go.Proofs.Ytlnobnkgllemjaa
open Go

theorem mask_in (n : Int) (m : Nat) (hm : (BitVec.ofInt 64 (m : Int)).toNat = m) (h : m ≤ 16777215) : 0 ≤ bits .and .i64 n (m : Int) ∧ bits .and .i64 n (m : Int) ≤ (m : Int) := by
  have le : (BitVec.ofInt 64 n &&& BitVec.ofInt 64 (m : Int)).toNat ≤ m := by
    rw [BitVec.toNat_and, hm]
    exact Nat.and_le_right
  have e : bits .and .i64 n (m : Int) = IntKind.i64.wrap ((BitVec.ofInt 64 n &&& BitVec.ofInt 64 (m : Int)).toNat : Int) := rfl
  rw [e]
  generalize (BitVec.ofInt 64 n &&& BitVec.ofInt 64 (m : Int)).toNat = r at *
  rw [IntKind.wrap_i64]
  omega

theorem mask31 (n : Int) : 0 ≤ bits .and .i64 n 31 ∧ bits .and .i64 n 31 ≤ 31 := mask_in n 31 (by decide) (by omega)

theorem mask255 (n : Int) : 0 ≤ bits .and .i64 n 255 ∧ bits .and .i64 n 255 ≤ 255 := mask_in n 255 (by decide) (by omega)

theorem mask511 (n : Int) : 0 ≤ bits .and .i64 n 511 ∧ bits .and .i64 n 511 ≤ 511 := mask_in n 511 (by decide) (by omega)

theorem mask24 (n : Int) : 0 ≤ bits .and .i64 n 16777215 ∧ bits .and .i64 n 16777215 ≤ 16777215 := mask_in n 16777215 (by decide) (by omega)

end Go.Proofs.Ytlnobnkgllemjaa
