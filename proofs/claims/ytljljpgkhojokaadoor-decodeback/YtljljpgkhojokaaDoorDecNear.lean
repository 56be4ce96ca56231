/- The walk of the law: a word with one bit turned is another instruction, or none. -/
import Derived.Test.YtljljpgkhojokaaDoorDecFixed
namespace Go.Proofs.YtljljpgkhojokaaDoor
open Go.RowKit
set_option linter.unusedVariables false

theorem told_word {w : Nat} {o s t d a i e : Int} (h : Told w o s t d a i e) : (e = 0 ∧ ∃ op, op < 69 ∧ o = ((op : Nat) : Int) ∧ Dec.laid op s t d a i = w) ∨ e = 40 := by
  rcases h with ⟨op, ho, hi, rfl, rfl, rfl, rfl, rfl, rfl, rfl⟩ | ⟨-, -, -, -, -, -, -, rfl⟩
  · exact Or.inl ⟨rfl, op, ho, rfl, eq_of_beq hi⟩
  · exact Or.inr rfl

theorem told_same {w w' : Nat} {o s t d a i o' s' t' d' a' i' : Int} (h : Told w o s t d a i 0) (h' : Told w' o' s' t' d' a' i' 0) (hn : w ≠ w') : same6 o s t d a i o' s' t' d' a' i' = false := by
  cases hs : same6 o s t d a i o' s' t' d' a' i' with
  | false => rfl
  | true =>
    obtain ⟨rfl, rfl, rfl, rfl, rfl, rfl⟩ := same6_iff.mp hs
    rcases told_word h with ⟨-, op, ho, e1, e2⟩ | e1
    · rcases told_word h' with ⟨-, op', ho', e3, e4⟩ | e3
      · obtain rfl : op = op' := by omega
        exact absurd (e2.symm.trans e4) hn
      · cases e3
    · cases e1

theorem mask31 (n : Int) : 0 ≤ bits .and .i64 n 31 ∧ bits .and .i64 n 31 ≤ 31 := by
  have le : (BitVec.ofInt 64 n &&& BitVec.ofInt 64 31).toNat ≤ 31 := by
    rw [BitVec.toNat_and]
    exact Nat.and_le_right
  have e : bits .and .i64 n 31 = IntKind.i64.wrap ((BitVec.ofInt 64 n &&& BitVec.ofInt 64 31).toNat : Int) := rfl
  rw [e]
  generalize (BitVec.ofInt 64 n &&& BitVec.ofInt 64 31).toNat = r at *
  rw [IntKind.wrap_i64]
  omega

/-- The word with the bit turned. -/
theorem turned (n : Nat) (hn : n < 4294967296) (k : Int) (h0 : 0 ≤ k) (h1 : k ≤ 31) : ∃ m : Nat, m < 4294967296 ∧ bits .xor .u32 (n : Int) (2 ^ min k.toNat 32 % 4294967296) = (m : Int) ∧ n ≠ m := by
  obtain ⟨j, rfl⟩ : ∃ j : Nat, k = (j : Int) := ⟨k.toNat, by omega⟩
  have hj : j < 32 := by omega
  have hp : 2 ^ j < 4294967296 := Nat.pow_lt_pow_right (by decide : 1 < 2) hj
  have e : (2 : Int) ^ min ((j : Int).toNat) 32 % 4294967296 = ((2 ^ j : Nat) : Int) := by
    rw [Int.toNat_natCast, Nat.min_eq_left (by omega), show (2 : Int) = ((2 : Nat) : Int) from rfl, ← Int.natCast_pow]
    generalize 2 ^ j = x at *
    omega
  refine ⟨n ^^^ 2 ^ j, Nat.xor_lt_two_pow (n := 32) hn hp, ?_, fun h => ?_⟩
  · rw [e, u32_xor_nat _ _ hn hp]
  · have h2 := congrArg (fun x => n ^^^ x) h
    simp only [Nat.xor_self, ← Nat.xor_assoc, Nat.zero_xor] at h2
    have : 0 < 2 ^ j := Nat.two_pow_pos j
    omega

set_option maxHeartbeats 2000000 in
theorem near_raw {n k o s t d a i e o' s' t' d' a' i' e' : Int} {M : Int} (hk0 : 0 ≤ bits .and .i64 k 31) (hM : bits .xor .u32 n (2 ^ min (bits .and .i64 k 31).toNat 32 % 4294967296) = M)
    (hD : ∀ w, Tabs w → Calls Tryd.prog 9 #[.int .u32 n] w fun r w' => r = .returned (.tuple #[.agg #[.int .i64 o, .int .i64 s, .int .i64 t, .int .i64 d, .int .i64 a, .int .i64 i], .int .i64 e]) ∧ Below w.heap.size w w')
    (hD' : ∀ w, Tabs w → Calls Tryd.prog 9 #[.int .u32 M] w fun r w' => r = .returned (.tuple #[.agg #[.int .i64 o', .int .i64 s', .int .i64 t', .int .i64 d', .int .i64 a', .int .i64 i'], .int .i64 e']) ∧ Below w.heap.size w w')
    (hc : (e != 0) = true ∨ (e != 0) = false ∧ (e' != 0) = true ∨ (e != 0) = false ∧ (e' != 0) = false ∧ same6 o s t d a i o' s' t' d' a' i' = false) (w : World) (tb : Tabs w) :
    Calls Tryd.prog 7 #[.int .u32 n, .int .i64 k] w fun r w' => r = .returned (.bool true) ∧ Below w.heap.size w w' := by
  go_enter Tryd.func7, Tryd.ntmps7
  go_wp2_with fail
  refine (hD _ tb).mono ?_
  rintro r w1 ⟨rfl, h1⟩
  go_wp2_with fail
  have g1 := grow w1 (.cells #[.int .i64 o, .int .i64 s, .int .i64 t, .int .i64 d, .int .i64 a, .int .i64 i] 24)
  have k1 := cell6 w1 24 (.int .i64 o) (.int .i64 s) (.int .i64 t) (.int .i64 d) (.int .i64 a) (.int .i64 i)
  have b1 := onto h1 g1
  have t1 := (tb.on h1).on g1
  clear g1 h1 tb hD
  refine (hD' _ t1).mono ?_
  rintro r w2 ⟨rfl, h2⟩
  have k2 := k1.on h2
  have b2 := onto b1 h2
  have t2 := t1.on h2
  clear h2 b1 t1 k1 hD'
  generalize w1.heap.size = L at *
  clear w1
  go_wp2_with fail
  have g3 := grow w2 (.cells #[.int .i64 o', .int .i64 s', .int .i64 t', .int .i64 d', .int .i64 a', .int .i64 i'] 24)
  have q3 := cell6 w2 24 (.int .i64 o') (.int .i64 s') (.int .i64 t') (.int .i64 d') (.int .i64 a') (.int .i64 i')
  have k3 := k2.on g3
  have b3 := onto b2 g3
  have t3 := t2.on g3
  clear g3 k2 b2 t2
  refine (facts_any _ t3).mono ?_
  rintro r w4 ⟨rfl, h4⟩
  have k4 := k3.on h4
  have q4 := q3.on h4
  have b4 := onto b3 h4
  clear h4 k3 q3 b3 t3
  generalize w2.heap.size = R at *
  clear w2
  obtain ⟨x0, x1, x2, x3, x4, x5⟩ := k4
  obtain ⟨y0, y1, y2, y3, y4, y5⟩ := q4
  rcases hc with hc | ⟨hc, hc2⟩ | ⟨hc, hc2, hc3⟩
  · go_wp2
    go_ret
    exact ⟨rfl, b4⟩
  · go_wp2
    go_ret
    exact ⟨rfl, b4⟩
  · have hne := fun w => neq24 o s t d a i o' s' t' d' a' i' w
    rw [hc3] at hne
    go_wp2
    go_ret
    exact ⟨rfl, b4⟩

theorem near_walk (a0 a1 : Int) (w : World) (w0 : (Lit.int .u32 a0).wf = true) (tb : Tabs w) :
    Calls Tryd.prog 7 #[.int .u32 a0, .int .i64 a1] w fun r w' => r = .returned (.bool true) ∧ Below w.heap.size w w' := by
  obtain ⟨n, hn, rfl⟩ : ∃ n : Nat, n < 4294967296 ∧ a0 = (n : Int) := by
    have : 0 ≤ a0 ∧ a0 ≤ 4294967295 := by simpa [Lit.wf, IntKind.min, IntKind.max, IntKind.signed, IntKind.bits] using w0
    exact ⟨a0.toNat, by omega, by omega⟩
  obtain ⟨m0, m1⟩ := mask31 a1
  obtain ⟨m, hm, em, ne⟩ := turned n hn _ m0 m1
  obtain ⟨o, s, t, d, a, i, e, hT, hD⟩ := decode_any n hn
  obtain ⟨o', s', t', d', a', i', e', hT', hD'⟩ := decode_any m hm
  refine near_raw m0 em hD hD' ?_ w tb
  rcases told_word hT with ⟨rfl, -⟩ | rfl
  · rcases told_word hT' with ⟨rfl, -⟩ | rfl
    · exact Or.inr (Or.inr ⟨rfl, rfl, told_same hT hT' ne⟩)
    · exact Or.inr (Or.inl ⟨rfl, rfl⟩)
  · exact Or.inl rfl

end Go.Proofs.YtljljpgkhojokaaDoor
