/- Layer 8: contracts of the document's Read, Write, Bad, Return and User. -/
import Derived.Test.YtjpfggffeffapaaCpWalks3
namespace Go.Proofs.Ytjpfggffeffapaa
open Go.RowKit
set_option linter.unusedVariables false

theorem mix_range {w v B f t : Int} (hB : W32 B) (h : ∀ i : Nat, i < 32 → bit B i = decide (f ≤ (i : Int) ∧ (i : Int) ≤ t)) :
    ∀ i : Nat, i < 32 → bit (mixV w v B) i = if f ≤ (i : Int) ∧ (i : Int) ≤ t then bit v i else bit w i := fun i hi => by
  rw [bit_mix hB i hi, h i hi]
  simp only [decide_eq_true_eq]

theorem mix_more {w v A B f t : Int} (hA : W32 A) (hB : W32 B) (h : ∀ i : Nat, i < 32 → bit B i = (bit A i || decide (f ≤ (i : Int) ∧ (i : Int) ≤ t))) :
    ∀ i : Nat, i < 32 → bit (mixV w v B) i = if f ≤ (i : Int) ∧ (i : Int) ≤ t then bit v i else bit (mixV w v A) i := fun i hi => by
  rw [bit_mix hB i hi, h i hi, bit_mix hA i hi]
  by_cases c : f ≤ (i : Int) ∧ (i : Int) ≤ t
  · simp [c]
  · simp [c]

theorem mix_one {w x B : Int} {n : Nat} {b : Bool} (hB : W32 B) (h : ∀ i : Nat, i < 32 → bit B i = decide (i = n)) (hx : bit x n = b) :
    ∀ i : Nat, i < 32 → bit (mixV w x B) i = if i = n then b else bit w i := fun i hi => by
  rw [bit_mix hB i hi, h i hi]
  simp only [decide_eq_true_eq]
  by_cases c : i = n
  · subst c; simp [hx]
  · simp [c]

theorem rread_any (r : Regs) (g : Int) (w : World) :
    Calls Try.prog 11 #[.agg (cellsR r), .int .i64 g] w fun e w' => e = .returned (.int .u32 (readV r g)) ∧ Below w.heap.size w w' := by
  obtain ⟨t1, t2, t3, t4, t5, t6, t7, t8, t9⟩ := cpRules
  obtain ⟨p0, p1, p2, p3, p4, p5, p6, p7, p8⟩ := cpParts
  rcases reg_is g with rfl | rfl | rfl | rfl | rfl | rfl | rfl | rfl | rfl | h
  case inr.inr.inr.inr.inr.inr.inr.inr.inr =>
    rw [h.read]
    obtain ⟨h0, h1, h2, h3, h4, h5, h6, h7, h8⟩ := h.tests
    clear h
    go_enter Try.func11, Try.ntmps11
    go_wp2
    go_ret
    exact ⟨rfl, grow _ _⟩
  all_goals
    go_enter Try.func11, Try.ntmps11
    go_wp2
    go_ret
    exact ⟨rfl, grow _ _⟩

set_option maxHeartbeats 2000000 in
theorem rwrite_any {r : Regs} (hr : Wr r) (g : Int) {v : Int} (hv : W32 v) (w : World) :
    Calls Try.prog 13 #[.agg (cellsR r), .int .i64 g, .int .u32 v] w fun e w' => e = .returned (.agg (cellsR (writeV r g v))) ∧ Below w.heap.size w w' := by
  obtain ⟨t1, t2, t3, t4, t5, t6, t7, t8, t9⟩ := cpRules
  obtain ⟨p0, p1, p2, p3, p4, p5, p6, p7, p8⟩ := cpParts
  obtain ⟨s0, s1, s2, s3, s4, s5, s6, s7, s8⟩ := cpSets
  have a7 : W32 7 := w_of _ (by omega) (by omega)
  have a3 : W32 3 := w_of _ (by omega) (by omega)
  have a19 : W32 19 := w_of _ (by omega) (by omega)
  have aS : W32 65299 := w_of _ (by omega) (by omega)
  have aL : W32 4294967047 := w_of _ (by omega) (by omega)
  have aC : W32 768 := w_of _ (by omega) (by omega)
  have aT : W32 32768 := w_of _ (by omega) (by omega)
  have m0 := hide fun W => rmix_any hr.i hv (mix_w a7) (f := 0) (t := 2) (by omega) (by omega) (by omega) (mix_range a7 (by decide +kernel)) W
  have m1 := hide fun W => rmix_any hr.l hv (mix_w a7) (f := 0) (t := 2) (by omega) (by omega) (by omega) (mix_range a7 (by decide +kernel)) W
  have m2 := hide fun W => rmix_any (mix_w (w := r.l) (v := v) a7) hv (mix_w aL) (f := 8) (t := 31) (by omega) (by omega) (by omega) (mix_more a7 aL (by decide +kernel)) W
  have m3 := hide fun W => rmix_any hr.s hv (mix_w a3) (f := 0) (t := 1) (by omega) (by omega) (by omega) (mix_range a3 (by decide +kernel)) W
  have m4 := hide fun W => rmix_any (mix_w (w := r.s) (v := v) a3) hv (mix_w a19) (f := 4) (t := 4) (by omega) (by omega) (by omega) (mix_more a3 a19 (by decide +kernel)) W
  have m5 := hide fun W => rmix_any (mix_w (w := r.s) (v := v) a19) hv (mix_w aS) (f := 8) (t := 15) (by omega) (by omega) (by omega) (mix_more a19 aS (by decide +kernel)) W
  have m6 := hide fun W => rmix_any hr.c hv (mix_w aC) (f := 8) (t := 9) (by omega) (by omega) (by omega) (mix_range aC (by decide +kernel)) W
  have m7 := hide fun W => rwith_any hr.c (mix_w aT) (n := 15) (by omega) (by omega) false (mix_one (n := 15) aT (by decide +kernel) (bit_zero 15)) W
  clear a7 a3 a19 aS aL aC aT
  replace hr := hide hr
  replace hv := hide hv
  have fin : ∀ c d : Array Value, Below w.heap.size w ((w.alloc (.cells c 24)).alloc (.cells d 24)) := fun c d => (grow _ _).alloc (by simp) _
  replace fin := hide fin
  rcases reg_is g with rfl | rfl | rfl | rfl | rfl | rfl | rfl | rfl | rfl | h
  case inr.inr.inr.inr.inr.inr.inr.inr.inr =>
    rw [h.write]
    obtain ⟨h0, h1, h2, h3, h4, h5, h6, h7, h8⟩ := h.tests
    clear h
    go_enter Try.func13, Try.ntmps13
    go_wp2
    exact bodyPost_ret (v := .agg (cellsR r)) (by simp [results, Try.results13, go_sem, t1, t3, t5, t6, t7]) rfl ⟨rfl, fin.out _ _⟩
  · go_enter Try.func13, Try.ntmps13
    go_wp2_with fail
    refine (m0.out _).mono ?_
    rintro e w' ⟨rfl, rfl⟩
    go_wp2
    exact bodyPost_ret (v := .agg (cellsR (writeV r 0 v))) (by simp [results, Try.results13, go_sem, t1, t3, t5, t6, t7, writeV]) rfl ⟨rfl, fin.out _ _⟩
  · go_enter Try.func13, Try.ntmps13
    go_wp2_with fail
    refine (m1.out _).mono ?_
    rintro e w' ⟨rfl, rfl⟩
    go_wp2_with fail
    refine (m2.out _).mono ?_
    rintro e w' ⟨rfl, rfl⟩
    go_wp2
    exact bodyPost_ret (v := .agg (cellsR (writeV r 2 v))) (by simp [results, Try.results13, go_sem, t1, t3, t5, t6, t7, writeV]) rfl ⟨rfl, fin.out _ _⟩
  · go_enter Try.func13, Try.ntmps13
    go_wp2
    exact bodyPost_ret (v := .agg (cellsR (writeV r 8 v))) (by simp [results, Try.results13, go_sem, t1, t3, t5, t6, t7, writeV]) rfl ⟨rfl, fin.out _ _⟩
  · go_enter Try.func13, Try.ntmps13
    go_wp2
    exact bodyPost_ret (v := .agg (cellsR (writeV r 9 v))) (by simp [results, Try.results13, go_sem, t1, t3, t5, t6, t7, writeV]) rfl ⟨rfl, fin.out _ _⟩
  · go_enter Try.func13, Try.ntmps13
    go_wp2
    exact bodyPost_ret (v := .agg (cellsR (writeV r 10 v))) (by simp [results, Try.results13, go_sem, t1, t3, t5, t6, t7, writeV]) rfl ⟨rfl, fin.out _ _⟩
  · go_enter Try.func13, Try.ntmps13
    go_wp2_with fail
    refine (m7.out _).mono ?_
    rintro e w' ⟨rfl, rfl⟩
    go_wp2
    exact bodyPost_ret (v := .agg (cellsR (writeV r 11 v))) (by simp [results, Try.results13, go_sem, t1, t3, t5, t6, t7, writeV]) rfl ⟨rfl, fin.out _ _⟩
  · go_enter Try.func13, Try.ntmps13
    go_wp2_with fail
    refine (m3.out _).mono ?_
    rintro e w' ⟨rfl, rfl⟩
    go_wp2_with fail
    refine (m4.out _).mono ?_
    rintro e w' ⟨rfl, rfl⟩
    go_wp2_with fail
    refine (m5.out _).mono ?_
    rintro e w' ⟨rfl, rfl⟩
    go_wp2
    exact bodyPost_ret (v := .agg (cellsR (writeV r 12 v))) (by simp [results, Try.results13, go_sem, t1, t3, t5, t6, t7, writeV]) rfl ⟨rfl, fin.out _ _⟩
  · go_enter Try.func13, Try.ntmps13
    go_wp2_with fail
    refine (m6.out _).mono ?_
    rintro e w' ⟨rfl, rfl⟩
    go_wp2
    exact bodyPost_ret (v := .agg (cellsR (writeV r 13 v))) (by simp [results, Try.results13, go_sem, t1, t3, t5, t6, t7, writeV]) rfl ⟨rfl, fin.out _ _⟩
  · go_enter Try.func13, Try.ntmps13
    go_wp2
    exact bodyPost_ret (v := .agg (cellsR (writeV r 14 v))) (by simp [results, Try.results13, go_sem, t1, t3, t5, t6, t7, writeV]) rfl ⟨rfl, fin.out _ _⟩

theorem rbad_any {r : Regs} (hr : Wr r) {a : Int} (ha : W32 a) (p : Bool) (w : World) :
    Calls Try.prog 19 #[.agg (cellsR r), .int .u32 a, .bool p] w fun e w' => e = .returned (.agg (cellsR (badV r a p))) ∧ Below w.heap.size w w' := by
  obtain ⟨t1, t2, t3, t4, t5, t6, t7, t8, t9⟩ := cpRules
  obtain ⟨p0, p1, p2, p3, p4, p5, p6, p7, p8⟩ := cpParts
  obtain ⟨s0, s1, s2, s3, s4, s5, s6, s7, s8⟩ := cpSets
  have aH : W32 4294967040 := w_of _ (by omega) (by omega)
  have m0 := hide fun W => rmix_any hr.h ha (mix_w aH) (f := 8) (t := 31) (by omega) (by omega) (by omega) (mix_range aH (by decide +kernel)) W
  have fin : ∀ c d : Array Value, Below w.heap.size w ((w.alloc (.cells c 24)).alloc (.cells d 24)) := fun c d => (grow _ _).alloc (by simp) _
  replace fin := hide fin
  replace ha := hide ha
  clear hr aH
  go_enter Try.func19, Try.ntmps19
  cases p
  · go_wp2
    exact bodyPost_ret (v := .agg (cellsR (badV r a false))) (by simp [results, Try.results19, go_sem, t1, t3, t5, t6, t7, badV]) rfl ⟨rfl, fin.out _ _⟩
  · go_wp2_with fail
    refine (m0.out _).mono ?_
    rintro e w' ⟨rfl, rfl⟩
    go_wp2
    exact bodyPost_ret (v := .agg (cellsR (badV r a true))) (by simp [results, Try.results19, go_sem, t1, t3, t5, t6, t7, badV]) rfl ⟨rfl, fin.out _ _⟩

theorem rret_any {r : Regs} (hr : Wr r) (w : World) :
    Calls Try.prog 17 #[.agg (cellsR r)] w fun e w' => e = .returned (.tuple #[.agg (cellsR (retV r)), .int .u32 r.e]) ∧ Below w.heap.size w w' := by
  obtain ⟨t1, t2, t3, t4, t5, t6, t7, t8, t9⟩ := cpRules
  obtain ⟨p0, p1, p2, p3, p4, p5, p6, p7, p8⟩ := cpParts
  obtain ⟨s0, s1, s2, s3, s4, s5, s6, s7, s8⟩ := cpSets
  have aS : W32 2 := w_of _ (by omega) (by omega)
  have m0 := hide fun W => rwith_any hr.s (mix_w aS) (n := 1) (by omega) (by omega) false (mix_one (n := 1) aS (by decide +kernel) (bit_zero 1)) W
  have fin : ∀ c d : Array Value, Below w.heap.size w ((w.alloc (.cells c 24)).alloc (.cells d 24)) := fun c d => (grow _ _).alloc (by simp) _
  replace fin := hide fin
  obtain ⟨d1, d2, d3⟩ := cpDrew
  clear hr aS
  go_enter Try.func17, Try.ntmps17
  go_wp2_with fail
  refine (m0.out _).mono ?_
  rintro e w' ⟨rfl, rfl⟩
  go_wp2
  go_region
  go_wp2
  exact bodyPost_ret (v := .tuple #[.agg (cellsR (retV r)), .int .u32 r.e]) (by simp [results, Try.results17, go_sem, t1, t3, t5, t6, t7, d1, d2, retV]) rfl ⟨rfl, (fin.out _ _).drew⟩

theorem ruser_any {r : Regs} (hr : Wr r) (w : World) :
    Calls Try.prog 25 #[.agg (cellsR r)] w fun e w' => e = .returned (.bool (userV r)) ∧ Below w.heap.size w w' := by
  obtain ⟨t1, t2, t3, t4, t5, t6, t7, t8, t9⟩ := cpRules
  obtain ⟨p0, p1, p2, p3, p4, p5, p6, p7, p8⟩ := cpParts
  have m0 := fun W => rbit_any hr.s (n := 4) (by omega) (by omega) W
  have m1 := fun W => rbit_any hr.s (n := 1) (by omega) (by omega) W
  simp only [show (4 : Int).toNat = 4 from rfl, show (1 : Int).toNat = 1 from rfl] at m0 m1
  unfold userV
  clear hr
  generalize bit r.s 4 = x at *
  generalize bit r.s 1 = y at *
  replace m0 := hide m0
  replace m1 := hide m1
  go_enter Try.func25, Try.ntmps25
  go_wp2_with fail
  refine (m0.out _).mono ?_
  rintro e w' ⟨rfl, rfl⟩
  cases x
  · go_wp2
    go_ret
    exact ⟨rfl, grow _ _⟩
  · go_wp2_with fail
    refine (m1.out _).mono ?_
    rintro e w' ⟨rfl, rfl⟩
    go_wp2
    go_ret
    exact ⟨rfl, grow _ _⟩

end Go.Proofs.Ytjpfggffeffapaa
