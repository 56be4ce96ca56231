/- Layer 14: what an operation writes is as the document says. -/
import Derived.Test.YtfnmihjchlljbaaDoorQIrOpen
import Derived.Test.YtfnmihjchlljbaaDoorQIrBits
namespace Go.Proofs.YtfnmihjchlljbaaDoor.Ir
open Go.RowKit
set_option linter.unusedVariables false
set_option maxRecDepth 100000
set_option linter.unusedSimpArgs false

theorem and65535 (n : Int) : bits .and .i64 n 65535 = n % 65536 := by
  have e : (BitVec.ofInt 64 n &&& BitVec.ofInt 64 65535).toNat = (n % 18446744073709551616).toNat % 65536 := by
    rw [BitVec.toNat_and, BitVec.toNat_ofInt, BitVec.toNat_ofInt]
    exact Nat.and_two_pow_sub_one_eq_mod _ 16
  show IntKind.i64.wrap ((BitVec.ofInt 64 n &&& BitVec.ofInt 64 65535).toNat : Int) = n % 65536
  rw [e]
  simp [IntKind.wrap, IntKind.bits, IntKind.signed]
  omega

theorem xor_w {p q : Int} (ha : Cp.W32 p) (hb : Cp.W32 q) : Cp.W32 (bits .xor .u32 p q) := by
  have e : bits .xor .u32 p q = ((p.toNat ^^^ q.toNat : Nat) : Int) := u32_xor p q ha.1 ha.2 hb.1 hb.2
  have h1 : p.toNat < 2 ^ 32 := by have := ha.2; omega
  have h2 : q.toNat < 2 ^ 32 := by have := hb.2; omega
  have h3 := Nat.xor_lt_two_pow h1 h2
  exact ⟨by rw [e]; omega, by rw [e]; omega⟩

set_option maxHeartbeats 4000000 in
theorem values_walk (w : World) (kind : Int) (hk : (Lit.int .i64 kind).wf = true) (a : Int) (ha : (Lit.int .u32 a).wf = true) (b : Int) (hb : (Lit.int .u32 b).wf = true) (tb : De.Tabs w) :
    Calls Tryd.prog 7 #[.int .i64 kind, .int .u32 a, .int .u32 b] w fun e w' => e = .returned (.bool true) ∧ Below w.heap.size w w' := by
  have e1 := and65535 kind
  have ha := wf_u32 ha
  have hb := wf_u32 hb
  obtain ⟨k, ek⟩ : ∃ k, 1 + (kind % 65536) % 13 = k := ⟨_, rfl⟩
  have hk13 : 1 ≤ k ∧ k ≤ 13 := by omega
  have e2 : (kind % 65536).tmod 13 = k - 1 := by rw [Int.tmod_eq_emod_of_nonneg (by omega)]; omega
  have e3 : 1 + (k - 1) = k := by omega
  have cf := hide (fixed_any w tb)
  have c1 := hide (value_any k a b (bits .xor .u32 a b) ha hb)
  have c2 := hide (rvalue_any k a b (bits .xor .u32 a b) hk13 ha hb)
  have c3 := hide (value_any k b a 7 hb ha)
  have c4 := hide (rvalue_any k b a 7 hk13 hb ha)
  clear ek tb
  go_enter Tryd.func7, Tryd.ntmps7
  go_wp2_with fail
  refine cf.out.mono ?_
  rintro e w1 ⟨rfl, h1⟩
  go_wp2_with fail
  refine (c1.out _).mono ?_
  rintro e w2 ⟨rfl, rfl⟩
  go_wp2_with fail
  refine (c2.out _).mono ?_
  rintro e w2 ⟨rfl, rfl⟩
  go_wp2_with fail
  refine (c3.out _).mono ?_
  rintro e w2 ⟨rfl, rfl⟩
  go_wp2_with fail
  refine (c4.out _).mono ?_
  rintro e w2 ⟨rfl, rfl⟩
  go_wp2
  go_ret
  exact ⟨by simp, h1⟩

end Go.Proofs.YtfnmihjchlljbaaDoor.Ir
