/- Layer 8: contracts of the program's Raise, Bad, Return, Tick, Pending and User. -/
import Derived.Test.YtjpfggffeffapaaCpWalks2
namespace Go.Proofs.Ytjpfggffeffapaa
open Go.RowKit
set_option linter.unusedVariables false

/-- What an exception notes of its place. -/
def leaveV (r : Regs) (pc : Int) (d : Bool) : Regs := { r with e := if d then (pc - 4) % 4294967296 else pc, c := mixV r.c (if d then 2147483648 else 0) 2147483648 }

/-- The registers behind an exception, and where it goes on. -/
def raiseV (r : Regs) (code : Int) (f : Bool) (pc : Int) (d : Bool) : Regs :=
  if bit r.s 1 then { r with s := mixV r.s 2 2, c := mixV r.c (code % 4294967296 * 4 % 4294967296) 124 }
  else { r with e := if d then (pc - 4) % 4294967296 else pc, s := mixV r.s 2 2, c := mixV (mixV r.c (if d then 2147483648 else 0) 2147483648) (code % 4294967296 * 4 % 4294967296) 124 }

def toV (r : Regs) (f : Bool) : Int := if bit r.s 1 then 2147484032 else if f then 2147483648 else 2147484032

def badV (r : Regs) (a : Int) (p : Bool) : Regs := { r with b := a, h := if p then mixV r.h a 4294967040 else r.h }

def retV (r : Regs) : Regs := { r with s := mixV r.s 0 2 }

/-- The Cause behind a step's count. -/
def rungV (r : Regs) : Int := if (r.n + 1) % 4294967296 = r.p then mixV r.c 32768 32768 else r.c

def tickV (r : Regs) (l : Int) : Regs := { r with n := (r.n + 1) % 4294967296, c := mixV (rungV r) (l * 1024 % 4294967296) 31744 }

def pendV (r : Regs) : Bool := bit r.s 0 && !bit r.s 1 && (bits .and .u32 (bits .and .u32 r.s r.c) 65280 != 0)

def userV (r : Regs) : Bool := bit r.s 4 && !bit r.s 1

theorem w_of (a : Int) (h0 : 0 ≤ a) (h1 : a < 4294967296) : W32 a := ⟨h0, h1⟩

theorem leave_any {r : Regs} (hr : Wr r) {pc : Int} (hp : W32 pc) (d : Bool) (w : World) :
    Calls Try.prog 29 #[.agg (cellsR r), .int .u32 pc, .bool d] w fun e w' => e = .returned (.agg (cellsR (leaveV r pc d))) ∧ w' = (w.alloc (.cells (cellsR (leaveV r pc d)) 24)).alloc (.cells (cellsR (leaveV r pc d)) 24) := by
  obtain ⟨t1, t2, t3, t4, t5, t6, t7, t8, t9⟩ := cpRules
  obtain ⟨p0, p1, p2, p3, p4, p5, p6, p7, p8⟩ := cpParts
  obtain ⟨s0, s1, s2, s3, s4, s5, s6, s7, s8⟩ := cpSets
  have wm : W32 2147483648 := w_of _ (by omega) (by omega)
  have n1 := not_of hr.c wm
  have n2 := or_of (mix_w (w := r.c) (v := 0) wm) wm
  rw [mix_mix wm] at n2
  obtain ⟨pc0, pc1⟩ := hp
  clear hr wm
  go_enter Try.func29, Try.ntmps29
  cases d
  · go_wp2
    exact bodyPost_ret (v := .agg (cellsR (leaveV r pc false))) (by simp [results, Try.results29, go_sem, t1, t3, t5, t6, t7, leaveV]) rfl ⟨rfl, rfl⟩
  · go_wp2
    exact bodyPost_ret (v := .agg (cellsR (leaveV r pc true))) (by simp [results, Try.results29, go_sem, t1, t3, t5, t6, t7, leaveV]) rfl ⟨rfl, rfl⟩

theorem bad_any {r : Regs} (hr : Wr r) {a : Int} (ha : W32 a) (p : Bool) (w : World) :
    Calls Try.prog 18 #[.agg (cellsR r), .int .u32 a, .bool p] w fun e w' => e = .returned (.agg (cellsR (badV r a p))) ∧ Below w.heap.size w w' := by
  obtain ⟨t1, t2, t3, t4, t5, t6, t7, t8, t9⟩ := cpRules
  obtain ⟨p0, p1, p2, p3, p4, p5, p6, p7, p8⟩ := cpParts
  obtain ⟨s0, s1, s2, s3, s4, s5, s6, s7, s8⟩ := cpSets
  have m0 := hide fun W => mix_any hr.h ha (B := 4294967040) (w_of _ (by omega) (by omega)) W
  have fin : ∀ c d : Array Value, Below w.heap.size w ((w.alloc (.cells c 24)).alloc (.cells d 24)) := fun c d => (grow _ _).alloc (by simp) _
  replace fin := hide fin
  replace ha := hide ha
  clear hr
  go_enter Try.func18, Try.ntmps18
  cases p
  · go_wp2
    exact bodyPost_ret (v := .agg (cellsR (badV r a false))) (by simp [results, Try.results18, go_sem, t1, t3, t5, t6, t7, badV]) rfl ⟨rfl, fin.out _ _⟩
  · go_wp2_with fail
    refine (m0.out _).mono ?_
    rintro e w' ⟨rfl, rfl⟩
    go_wp2
    exact bodyPost_ret (v := .agg (cellsR (badV r a true))) (by simp [results, Try.results18, go_sem, t1, t3, t5, t6, t7, badV]) rfl ⟨rfl, fin.out _ _⟩

theorem ret_any {r : Regs} (hr : Wr r) (w : World) :
    Calls Try.prog 16 #[.agg (cellsR r)] w fun e w' => e = .returned (.tuple #[.agg (cellsR (retV r)), .int .u32 r.e]) ∧ Below w.heap.size w w' := by
  obtain ⟨t1, t2, t3, t4, t5, t6, t7, t8, t9⟩ := cpRules
  obtain ⟨p0, p1, p2, p3, p4, p5, p6, p7, p8⟩ := cpParts
  obtain ⟨s0, s1, s2, s3, s4, s5, s6, s7, s8⟩ := cpSets
  have n1 := not_of hr.s (m := 2) (w_of _ (by omega) (by omega))
  have fin : ∀ c d : Array Value, Below w.heap.size w ((w.alloc (.cells c 24)).alloc (.cells d 24)) := fun c d => (grow _ _).alloc (by simp) _
  replace fin := hide fin
  obtain ⟨d1, d2, d3⟩ := cpDrew
  clear hr
  go_enter Try.func16, Try.ntmps16
  go_wp2
  go_region
  go_wp2
  exact bodyPost_ret (v := .tuple #[.agg (cellsR (retV r)), .int .u32 r.e]) (by simp [results, Try.results16, go_sem, t1, t3, t5, t6, t7, d1, d2, retV]) rfl ⟨rfl, (fin.out _ _).drew⟩

theorem tick_any {r : Regs} (hr : Wr r) {l : Int} (hl : W32 l) (w : World) :
    Calls Try.prog 20 #[.agg (cellsR r), .int .u32 l] w fun e w' => e = .returned (.agg (cellsR (tickV r l))) ∧ Below w.heap.size w w' := by
  obtain ⟨t1, t2, t3, t4, t5, t6, t7, t8, t9⟩ := cpRules
  obtain ⟨p0, p1, p2, p3, p4, p5, p6, p7, p8⟩ := cpParts
  obtain ⟨s0, s1, s2, s3, s4, s5, s6, s7, s8⟩ := cpSets
  have wm : W32 32768 := w_of _ (by omega) (by omega)
  have n1 := or_of hr.c wm
  have m0 := hide fun W => mix_any (w := rungV r) (v := l * 1024 % 4294967296) (B := 31744) (by unfold rungV; split; exact mix_w wm; exact hr.c) (w_of _ (by omega) (by omega)) (w_of _ (by omega) (by omega)) W
  have fin : ∀ c d : Array Value, Below w.heap.size w ((w.alloc (.cells c 24)).alloc (.cells d 24)) := fun c d => (grow _ _).alloc (by simp) _
  replace fin := hide fin
  obtain ⟨l0, l1⟩ := hl
  clear hr wm
  go_enter Try.func20, Try.ntmps20
  by_cases h : (r.n + 1) % 4294967296 = r.p
  · have hd : ((r.n + 1) % 4294967296 == r.p) = true := by simpa using h
    have hv : rungV r = mixV r.c 32768 32768 := by simp [rungV, h]
    rw [hv] at m0
    replace h := hide h
    replace hv := hide hv
    go_wp2_with fail
    refine (m0.out _).mono ?_
    rintro e w' ⟨rfl, rfl⟩
    go_wp2
    exact bodyPost_ret (v := .agg (cellsR (tickV r l))) (by simp [results, Try.results20, go_sem, t1, t3, t5, t6, t7, tickV, hv.out]) rfl ⟨rfl, fin.out _ _⟩
  · have hd : ((r.n + 1) % 4294967296 == r.p) = false := by simpa using h
    have hv : rungV r = r.c := by simp [rungV, h]
    rw [hv] at m0
    replace h := hide h
    replace hv := hide hv
    go_wp2_with fail
    refine (m0.out _).mono ?_
    rintro e w' ⟨rfl, rfl⟩
    go_wp2
    exact bodyPost_ret (v := .agg (cellsR (tickV r l))) (by simp [results, Try.results20, go_sem, t1, t3, t5, t6, t7, tickV, hv.out]) rfl ⟨rfl, fin.out _ _⟩

theorem pend_any {r : Regs} (hr : Wr r) (w : World) :
    Calls Try.prog 22 #[.agg (cellsR r)] w fun e w' => e = .returned (.bool (pendV r)) ∧ Below w.heap.size w w' := by
  obtain ⟨t1, t2, t3, t4, t5, t6, t7, t8, t9⟩ := cpRules
  obtain ⟨p0, p1, p2, p3, p4, p5, p6, p7, p8⟩ := cpParts
  have n1 := and_two hr.s 0 1 (by omega) (by omega)
  simp only [show ((2 ^ 1 + 2 ^ 0 : Nat) : Int) = 3 from rfl, show ((2 ^ 1 : Nat) : Int) = 2 from rfl, show ((2 ^ 0 : Nat) : Int) = 1 from rfl] at n1
  obtain ⟨x, hx⟩ : ∃ x, bits .and .u32 (bits .and .u32 r.s r.c) 65280 = x := ⟨_, rfl⟩
  unfold pendV
  rw [hx]
  clear hr
  go_enter Try.func22, Try.ntmps22
  cases h0 : bit r.s 0 <;> cases h1 : bit r.s 1 <;> simp only [h0, h1, Bool.false_eq_true, if_true, if_false, Int.add_zero, Int.zero_add, show (2 : Int) + 1 = 3 from rfl] at n1
  all_goals
    clear h0 h1
    go_wp2
    go_ret
    exact ⟨by simp, grow _ _⟩

theorem user_any {r : Regs} (hr : Wr r) (w : World) :
    Calls Try.prog 24 #[.agg (cellsR r)] w fun e w' => e = .returned (.bool (userV r)) ∧ Below w.heap.size w w' := by
  obtain ⟨t1, t2, t3, t4, t5, t6, t7, t8, t9⟩ := cpRules
  obtain ⟨p0, p1, p2, p3, p4, p5, p6, p7, p8⟩ := cpParts
  have n1 := and_two hr.s 1 4 (by omega) (by omega)
  simp only [show ((2 ^ 4 + 2 ^ 1 : Nat) : Int) = 18 from rfl, show ((2 ^ 1 : Nat) : Int) = 2 from rfl, show ((2 ^ 4 : Nat) : Int) = 16 from rfl] at n1
  unfold userV
  clear hr
  go_enter Try.func24, Try.ntmps24
  cases h0 : bit r.s 4 <;> cases h1 : bit r.s 1 <;> simp only [h0, h1, Bool.false_eq_true, if_true, if_false, Int.add_zero, Int.zero_add, show (16 : Int) + 2 = 18 from rfl] at n1
  all_goals
    clear h0 h1
    go_wp2
    go_ret
    exact ⟨rfl, grow _ _⟩

theorem raise_any {r : Regs} (hr : Wr r) (code : Int) (f : Bool) {pc : Int} (hp : W32 pc) (d : Bool) (w : World) :
    Calls Try.prog 14 #[.agg (cellsR r), .int .i64 code, .bool f, .int .u32 pc, .bool d] w fun e w' => e = .returned (.tuple #[.agg (cellsR (raiseV r code f pc d)), .int .u32 (toV r f)]) ∧ Below w.heap.size w w' := by
  obtain ⟨t1, t2, t3, t4, t5, t6, t7, t8, t9⟩ := cpRules
  obtain ⟨p0, p1, p2, p3, p4, p5, p6, p7, p8⟩ := cpParts
  obtain ⟨s0, s1, s2, s3, s4, s5, s6, s7, s8⟩ := cpSets
  have wm : W32 2147483648 := w_of _ (by omega) (by omega)
  have n1 := and_bit hr.s 1 (by omega)
  simp only [show ((2 ^ 1 : Nat) : Int) = 2 from rfl] at n1
  have n2 := or_of hr.s (m := 2) (w_of _ (by omega) (by omega))
  have m0 := hide fun c (hc : W32 c) W => mix_any (v := code % 4294967296 * 4 % 4294967296) (B := 124) hc (w_of _ (by omega) (by omega)) (w_of _ (by omega) (by omega)) W
  obtain ⟨E, hE⟩ : ∃ E : Int, E = if d then (pc - 4) % 4294967296 else pc := ⟨_, rfl⟩
  obtain ⟨C, hC⟩ : ∃ C : Int, C = mixV r.c (if d then 2147483648 else 0) 2147483648 := ⟨_, rfl⟩
  have hm : W32 C := by rw [hC]; exact mix_w wm
  have m1 := fun W => leave_any hr hp d W
  unfold leaveV at m1
  unfold raiseV toV
  rw [← hE, ← hC] at m1 ⊢
  replace m1 := hide m1
  replace m0 := hide (And.intro (m0.out C hm) (m0.out r.c hr.c))
  clear hE hC hm hr wm
  replace hp := hide hp
  have fin2 : ∀ c d : Array Value, Below w.heap.size w ((w.alloc (.cells c 24)).alloc (.cells d 24)) := fun c d => (grow _ _).alloc (by simp) _
  have fin4 : ∀ c d e f : Array Value, Below w.heap.size w ((((w.alloc (.cells c 24)).alloc (.cells d 24)).alloc (.cells e 24)).alloc (.cells f 24)) := fun c d e f => ((fin2 c d).alloc (by simp; omega) _).alloc (by simp; omega) _
  replace fin2 := hide fin2
  replace fin4 := hide fin4
  go_enter Try.func14, Try.ntmps14
  cases h1 : bit r.s 1
  · simp only [h1, Bool.false_eq_true, if_false] at n1 ⊢
    clear h1
    cases f
    all_goals
      go_wp2_with fail
      refine (m1.out _).mono ?_
      rintro e w1 ⟨rfl, rfl⟩
      go_wp2_with fail
      refine (m0.out.1 _).mono ?_
      rintro e w1 ⟨rfl, rfl⟩
      go_wp2
      refine bodyPost_ret (by simp [results, Try.results14, go_sem, t1, t3, t5, t6, t7]) rfl ⟨rfl, fin4.out _ _ _ _⟩
  · simp only [h1, if_true] at n1 ⊢
    clear h1
    go_wp2_with fail
    refine (m0.out.2 _).mono ?_
    rintro e w1 ⟨rfl, rfl⟩
    go_wp2
    refine bodyPost_ret (by simp [results, Try.results14, go_sem, t1, t3, t5, t6, t7]) rfl ⟨rfl, fin2.out _ _⟩

end Go.Proofs.Ytjpfggffeffapaa
