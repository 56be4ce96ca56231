/- Layer 8: so many steps count so many. -/
import Derived.Test.YtjpfggffeffapaaCpBackM
namespace Go.Proofs.Ytjpfggffeffapaa
open Go.RowKit
set_option linter.unusedVariables false

theorem and255 (n : Int) : bits .and .i64 n 255 = n % 256 := by
  have e : (BitVec.ofInt 64 n &&& BitVec.ofInt 64 255).toNat = (n % 18446744073709551616).toNat % 256 := by
    rw [BitVec.toNat_and, BitVec.toNat_ofInt, BitVec.toNat_ofInt]
    have := Nat.and_two_pow_sub_one_eq_mod (n % 18446744073709551616).toNat 8
    exact this
  show IntKind.i64.wrap ((BitVec.ofInt 64 n &&& BitVec.ofInt 64 255).toNat : Int) = n % 256
  rw [e]
  simp [IntKind.wrap, IntKind.bits, IntKind.signed]
  omega

theorem and511 {a : Int} (ha : W32 a) : bits .and .u32 a 511 = a % 512 := by
  rw [u32_and a 511 ha.1 ha.2 (by omega) (by omega)]
  have := Nat.and_two_pow_sub_one_eq_mod a.toNat 9
  have h0 := ha.1
  simp at this ⊢
  omega

theorem bit_div {z : Int} (hz : W32 z) (k i : Nat) : bit (z / ((2 ^ k : Nat) : Int)) i = bit z (i + k) := by
  obtain ⟨Z, rfl⟩ := Int.eq_ofNat_of_zero_le hz.1
  unfold bit
  rw [← Int.natCast_ediv, Int.toNat_natCast, Int.toNat_natCast, Nat.testBit_div_two_pow]

theorem div_w {z : Int} (hz : W32 z) (k : Nat) : W32 (z / ((2 ^ k : Nat) : Int)) := by
  obtain ⟨Z, rfl⟩ := Int.eq_ofNat_of_zero_le hz.1
  rw [← Int.natCast_ediv]
  have h1 := hz.2
  have h2 : Z / 2 ^ k ≤ Z := Nat.div_le_self _ _
  generalize Z / 2 ^ k = Y at *
  exact ⟨by omega, by omega⟩

theorem ring_is {z : Int} (hz : W32 z) : bits .and .u32 (z / 32768) 1 = if bit z 15 then 1 else 0 := by
  have h := and_bit (div_w hz 15) 0 (by omega)
  rw [bit_div hz 15 0] at h
  exact h

theorem lines_is {z : Int} (hz : W32 z) (h : ∀ j : Nat, 10 ≤ j → j ≤ 14 → bit z j = false) : bits .and .u32 (z / 1024) 31 = 0 := by
  have k31 : W32 31 := w_of _ (by omega) (by omega)
  have hd : W32 (z / 1024) := div_w hz 10
  apply bit_ext (and_w hd k31) w0
  intro i hi
  have e : bit (z / 1024) i = bit z (i + 10) := bit_div hz 10 i
  rw [bit_and hd k31, bit_zero, e]
  have h31 : ∀ i : Nat, i < 32 → bit 31 i = decide (i < 5) := by decide +kernel
  rw [h31 i hi]
  by_cases c : i < 5
  · rw [h (i + 10) (by omega) (by omega)]; rfl
  · simp [c]

/-- The Cause behind k steps, a ahead of Compare. -/
def Rung (a : Int) (k : Nat) (z : Int) : Prop := W32 z ∧ bit z 15 = decide (1 ≤ a ∧ a ≤ (k : Int)) ∧ (1 ≤ k → ∀ j : Nat, 10 ≤ j → j ≤ 14 → bit z j = false)

theorem Rung.start {a : Int} (ha : 0 ≤ a) (c : Int) : Rung a 0 (mixV c 0 32768) := by
  refine ⟨mix_w kT, ?_, fun h => absurd h (by omega)⟩
  rw [bit_mix kT 15 (by omega), show bit 32768 15 = true by decide +kernel, bit_zero, decide_eq_false (by omega)]
  rfl

/-- The registers on the way. -/
def wayV (r : Regs) (a : Int) (k : Nat) (z : Int) : Regs := { r with n := (r.n + k) % 4294967296, p := (r.n + a) % 4294967296, c := z }

theorem way_w {r : Regs} (hr : Wr r) (a : Int) (k : Nat) {z : Int} (hz : W32 z) : Wr (wayV r a k z) :=
  ⟨hr.i, hr.l, hr.b, w_of _ (by show 0 ≤ (r.n + k) % 4294967296; omega) (by show (r.n + k) % 4294967296 < _; omega), hr.h, w_of _ (by show 0 ≤ (r.n + a) % 4294967296; omega) (by show (r.n + a) % 4294967296 < _; omega), hr.s, hz, hr.e⟩

theorem way_next {r : Regs} (hr : Wr r) {a : Int} (a0 : 0 ≤ a) (a1 : a < 512) {k : Nat} (hk : k < 256) {z : Int} (h : Rung a k z) : ∃ z', tickV (wayV r a k z) 0 = wayV r a (k + 1) z' ∧ Rung a (k + 1) z' := by
  obtain ⟨hz, h15, hl⟩ := h
  have hn := hr.n.1
  have hn1 := hr.n.2
  have e1 : ((r.n + k) % 4294967296 + 1) % 4294967296 = (r.n + ((k + 1 : Nat) : Int)) % 4294967296 := by omega
  have e2 : (r.n + ((k + 1 : Nat) : Int)) % 4294967296 = (r.n + a) % 4294967296 ↔ ((k : Int) + 1 = a) := by omega
  refine ⟨mixV (if (k : Int) + 1 = a then mixV z 32768 32768 else z) 0 31744, ?_, mix_w kN, ?_, fun _ j j0 j1 => ?_⟩
  · unfold tickV rungV wayV
    simp only [e1, e2]
    simp
  · rw [bit_mix kN 15 (by omega), show bit 31744 15 = false by decide +kernel]
    by_cases c : (k : Int) + 1 = a
    · rw [if_pos c]
      rw [if_neg (by simp), bit_mix kT 15 (by omega), show bit 32768 15 = true by decide +kernel, decide_eq_true (by omega)]
      rfl
    · rw [if_neg c, if_neg (by simp), h15]
      have : (1 ≤ a ∧ a ≤ (k : Int)) ↔ (1 ≤ a ∧ a ≤ ((k + 1 : Nat) : Int)) := by omega
      simp only [this]
  · have h10 : ∀ j : Nat, j < 32 → bit 31744 j = decide (10 ≤ j ∧ j ≤ 14) := by decide +kernel
    rw [bit_mix kN j (by omega), h10 j (by omega), decide_eq_true ⟨j0, j1⟩, if_pos rfl, bit_zero]

end Go.Proofs.Ytjpfggffeffapaa
