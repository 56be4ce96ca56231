/- Layer 10: contracts of what is written, and of a byte that comes in. -/
import Derived.Test.YtdapjpbdplhgbaaUaWalks
import Derived.Deep.RegionLaw
namespace Go.Proofs.Ytdapjpbdplhgbaa.Ua
open Go.RowKit
set_option linter.unusedVariables false
set_option maxRecDepth 100000
set_option linter.unusedSimpArgs false

/-- The next operation is a call of this function. -/
theorem at_func {P : Program} {w : World} {ops : Array Oper} {o : Oper} {a : Act} {K : Act → World → Prop} {Q : Exit → Act → World → Prop} {E : Prop} (f : FuncId) (x : Operand) (t : TypeId)
    (hop : o.op = Op.call { callee := Callee.value (Operand.func f), args := #[x], argTypes := #[t] })
    (h : if Region.wanted o (yielded ops a.tmps) = true then Oper.wp P o a w K Q else E) : if Region.wanted o (yielded ops a.tmps) = true then Oper.wp P o a w K Q else E := h

theorem wrap_id (v : Int) (h0 : 0 ≤ v) (h1 : v < 4294967296) : IntKind.i64.wrap v = v := by
  rw [IntKind.wrap_i64]
  omega

/-- Two texts, one behind the other. -/
theorem run_cat (a b : ByteArray) (h : a.size + b.size ≤ 1000000) (w : World) : (binOp .add 9 (.string a) (.string b)).run Try.prog w = .ok (.string (a ++ b)) w := by
  have h' : ¬ 9223372036854775807 < a.size + b.size := by omega
  simp [go_sem, h']

theorem run_max0 (n : Int) (w : World) : (Builtin.max_ #[3, 3] 3 #[.int .i64 n, .int .i64 0]).run Try.prog w = .ok (.int .i64 (if 0 ≤ n then n else 0)) w := by
  rw [run_max_int2]
  congr 2
  split <;> split <;> omega

theorem u32_low1 (v : Int) (h0 : 0 ≤ v) (h1 : v < 4294967296) : bits .and .u32 v 1 = v % 2 := by
  rw [u32_and v 1 h0 h1 (by decide) (by decide)]
  rw [show (1 : Int).toNat = 2 ^ 1 - 1 from rfl, Nat.and_two_pow_sub_one_eq_mod]
  omega

/-- The last 64 bytes of at most 65, as the program cuts them. -/
theorem last_cut {s : ByteArray} (h : s.size ≤ 65) (n : Nat) (hn : (n : Int) = if 0 ≤ (s.size : Int) - 64 then (s.size : Int) - 64 else 0) : s.extract n s.size = lastV s := by
  unfold lastV
  split at hn
  · by_cases h1 : s.size = 64
    · rw [if_neg (by omega), show n = 0 by omega, ByteArray.extract_zero_size]
    · rw [if_pos (by omega), show n = 1 by omega]
  · rw [if_neg (by omega), show n = 0 by omega, ByteArray.extract_zero_size]

set_option maxHeartbeats 1000000 in
theorem write_any (u : Ua) (hu : Fits u) (g v : Int) (h0 : 0 ≤ v) (h1 : v < 4294967296) (w : World) :
    Calls Try.prog 90 #[.agg (cellsU u), .int .u32 g, .int .u32 v] w fun e w' => e = .returned (.tuple #[.agg (cellsU (writeV u g v)), .int .i64 (formV g)]) ∧ Below w.heap.size w w' := by
  obtain ⟨t1, t2, t3, t4, t5, t6, t7, t8, t9⟩ := uaRules
  obtain ⟨p0, p1, p2⟩ := uaParts
  obtain ⟨s0, s1, s2⟩ := uaSets
  obtain ⟨d1, d2, d3⟩ := uaDrew
  have fin : ∀ c d : Array Value, Below w.heap.size w ((w.alloc (.cells c 64)).alloc (.cells d 64)) := fun c d => (grow _ _).alloc (by simp) _
  replace fin := hide fin
  obtain ⟨hi, ho⟩ := hu
  rcases reg_is g with rfl | rfl | rfl | h
  · have hv : writeV u 0 v = { u with o := lastV (u.o ++ byteT (v % 256)) } := rfl
    rw [hv]
    have c := hide fun W => behind_any u.o (by omega) (v % 256) W
    have hz : (u.o ++ byteT (v % 256)).size = u.o.size + 1 := by rw [ByteArray.size_append, byteT_size]
    generalize u.o ++ byteT (v % 256) = s at *
    have hm := fun w => run_max0 ((s.size : Int) - 64) w
    obtain ⟨n, hn⟩ : ∃ n : Nat, (n : Int) = if 0 ≤ (s.size : Int) - 64 then (s.size : Int) - 64 else 0 := ⟨((if 0 ≤ (s.size : Int) - 64 then (s.size : Int) - 64 else 0 : Int)).toNat, by split <;> omega⟩
    have hl := last_cut (by omega) n hn
    simp only [← hn] at hm
    have hns : n ≤ s.size := by split at hn <;> omega
    rw [← hl]
    have hz' : s.size ≤ 65 := by omega
    clear hn hl hz hv
    go_enter Try.func90, Try.ntmps90
    go_wp2_with fail
    refine (c.out _).mono ?_
    rintro e w1 ⟨rfl, rfl⟩
    clear c
    go_wp2
    exact bodyPost_ret (v := .tuple #[.agg (cellsU { u with o := s.extract n s.size }), .int .i64 0]) (by simp [results, Try.results90, go_sem, t1, t3, t5, t6, t7]) rfl ⟨rfl, (fin.out _ _).alloc (by simp; omega) _⟩
  · have hv : writeV u 4 v = { u with n := v % 2 == 1 } := rfl
    rw [hv]
    have hb := u32_low1 v h0 h1
    go_enter Try.func90, Try.ntmps90
    go_wp2
    exact bodyPost_ret (v := .tuple #[.agg (cellsU { u with n := v % 2 == 1 }), .int .i64 0]) (by simp [results, Try.results90, go_sem, t1, t3, t5, t6, t7]) rfl ⟨rfl, fin.out _ _⟩
  · go_enter Try.func90, Try.ntmps90
    go_wp2
    exact bodyPost_ret (v := .tuple #[.agg (cellsU { u with o := ⟨#[]⟩ }), .int .i64 0]) (by simp [results, Try.results90, go_sem, t1, t3, t5, t6, t7]) rfl ⟨rfl, fin.out _ _⟩
  · rw [h.write, h.form]
    obtain ⟨h0, h1, h2⟩ := h.tests
    clear h
    go_enter Try.func90, Try.ntmps90
    go_wp2
    exact bodyPost_ret (v := .tuple #[.agg (cellsU U0), .int .i64 100]) (by simp [results, Try.results90, go_sem, t1, t3, t5, t6, t7]) rfl ⟨rfl, fin.out _ _⟩

end Go.Proofs.Ytdapjpbdplhgbaa.Ua
