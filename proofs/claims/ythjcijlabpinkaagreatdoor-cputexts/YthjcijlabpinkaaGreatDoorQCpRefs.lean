/- Layer 8: contracts of the document's Read, Write, Bad, Return and User. -/
import Derived.Test.YthjcijlabpinkaaGreatDoorQCpAll
import Derived.Deep.RegionHeld3
namespace Go.Proofs.YthjcijlabpinkaaGreatDoor.Cp
open Go.RowKit
set_option linter.unusedVariables false
set_option maxRecDepth 100000

theorem mix_range {w v B f t : Int} (hB : W32 B) (h : ∀ i : Nat, i < 32 → bit B i = decide (f ≤ (i : Int) ∧ (i : Int) ≤ t)) :
    ∀ i : Nat, i < 32 → bit (mixV w v B) i = if f ≤ (i : Int) ∧ (i : Int) ≤ t then bit v i else bit w i := fun i hi => by
  rw [bit_mix hB i hi, h i hi]
  simp only [decide_eq_true_eq]

theorem mix_more {w v A B f t : Int} (hA : W32 A) (hB : W32 B) (h : ∀ i : Nat, i < 32 → bit B i = (bit A i || decide (f ≤ (i : Int) ∧ (i : Int) ≤ t))) :
    ∀ i : Nat, i < 32 → bit (mixV w v B) i = if f ≤ (i : Int) ∧ (i : Int) ≤ t then bit v i else bit (mixV w v A) i := fun i hi => by
  rw [bit_mix hB i hi, h i hi, bit_mix hA i hi]
  by_cases c : f ≤ (i : Int) ∧ (i : Int) ≤ t
  · simp [c]
  · simp [c]

theorem mix_one {w x B : Int} {n : Nat} {b : Bool} (hB : W32 B) (h : ∀ i : Nat, i < 32 → bit B i = decide (i = n)) (hx : bit x n = b) :
    ∀ i : Nat, i < 32 → bit (mixV w x B) i = if i = n then b else bit w i := fun i hi => by
  rw [bit_mix hB i hi, h i hi]
  simp only [decide_eq_true_eq]
  by_cases c : i = n
  · subst c; simp [hx]
  · simp [c]

theorem rread_any (r : Regs) (g : Int) (w : World) :
    Calls Tryz.prog 104 #[.agg (cellsR r), .int .i64 g] w fun e w' => e = .returned (.int .u32 (readV r g)) ∧ Below w.heap.size w w' := by
  obtain ⟨t1, t2, t3, t4, t5, t6, t7, t8, t9⟩ := cpRules
  obtain ⟨p0, p1, p2, p3, p4, p5, p6, p7, p8⟩ := cpParts
  rcases reg_is g with rfl | rfl | rfl | rfl | rfl | rfl | rfl | rfl | rfl | h
  case inr.inr.inr.inr.inr.inr.inr.inr.inr =>
    rw [h.read]
    obtain ⟨h0, h1, h2, h3, h4, h5, h6, h7, h8⟩ := h.tests
    clear h
    go_enter Tryz.func104, Tryz.ntmps104
    go_wp2
    go_ret
    exact ⟨rfl, grow _ _⟩
  all_goals
    go_enter Tryz.func104, Tryz.ntmps104
    go_wp2
    go_ret
    exact ⟨rfl, grow _ _⟩

set_option maxHeartbeats 2000000 in
theorem rwrite_any {r : Regs} (hr : Wr r) (g : Int) {v : Int} (hv : W32 v) (w : World) :
    Calls Tryz.prog 159 #[.agg (cellsR r), .int .i64 g, .int .u32 v] w fun e w' => e = .returned (.agg (cellsR (writeV r g v))) ∧ Below w.heap.size w w' := by
  obtain ⟨t1, t2, t3, t4, t5, t6, t7, t8, t9⟩ := cpRules
  obtain ⟨p0, p1, p2, p3, p4, p5, p6, p7, p8⟩ := cpParts
  obtain ⟨s0, s1, s2, s3, s4, s5, s6, s7, s8⟩ := cpSets
  have a7 : W32 7 := w_of _ (by omega) (by omega)
  have a3 : W32 3 := w_of _ (by omega) (by omega)
  have a19 : W32 19 := w_of _ (by omega) (by omega)
  have aS : W32 65299 := w_of _ (by omega) (by omega)
  have aL : W32 4294967047 := w_of _ (by omega) (by omega)
  have aC : W32 768 := w_of _ (by omega) (by omega)
  have aT : W32 32768 := w_of _ (by omega) (by omega)
  have m0 := hide fun W => rmix_any hr.i hv (mix_w a7) (f := 0) (t := 2) (by omega) (by omega) (by omega) (mix_range a7 (by decide +kernel)) W
  have m1 := hide fun W => rmix_any hr.l hv (mix_w a7) (f := 0) (t := 2) (by omega) (by omega) (by omega) (mix_range a7 (by decide +kernel)) W
  have m2 := hide fun W => rmix_any (mix_w (w := r.l) (v := v) a7) hv (mix_w aL) (f := 8) (t := 31) (by omega) (by omega) (by omega) (mix_more a7 aL (by decide +kernel)) W
  have m3 := hide fun W => rmix_any hr.s hv (mix_w a3) (f := 0) (t := 1) (by omega) (by omega) (by omega) (mix_range a3 (by decide +kernel)) W
  have m4 := hide fun W => rmix_any (mix_w (w := r.s) (v := v) a3) hv (mix_w a19) (f := 4) (t := 4) (by omega) (by omega) (by omega) (mix_more a3 a19 (by decide +kernel)) W
  have m5 := hide fun W => rmix_any (mix_w (w := r.s) (v := v) a19) hv (mix_w aS) (f := 8) (t := 15) (by omega) (by omega) (by omega) (mix_more a19 aS (by decide +kernel)) W
  have m6 := hide fun W => rmix_any hr.c hv (mix_w aC) (f := 8) (t := 9) (by omega) (by omega) (by omega) (mix_range aC (by decide +kernel)) W
  have m7 := hide fun W => rwith_any hr.c (mix_w aT) (n := 15) (by omega) (by omega) false (mix_one (n := 15) aT (by decide +kernel) (bit_zero 15)) W
  clear a7 a3 a19 aS aL aC aT
  replace hr := hide hr
  replace hv := hide hv
  have fin : ∀ c d : Array Value, Below w.heap.size w ((w.alloc (.cells c 25)).alloc (.cells d 25)) := fun c d => (grow _ _).alloc (by simp) _
  replace fin := hide fin
  rcases reg_is g with rfl | rfl | rfl | rfl | rfl | rfl | rfl | rfl | rfl | h
  case inr.inr.inr.inr.inr.inr.inr.inr.inr =>
    rw [h.write]
    obtain ⟨h0, h1, h2, h3, h4, h5, h6, h7, h8⟩ := h.tests
    clear h
    go_enter Tryz.func159, Tryz.ntmps159
    go_wp2
    exact bodyPost_ret (v := .agg (cellsR r)) (by simp [results, Tryz.results159, go_sem, t1, t3, t5, t6, t7]) rfl ⟨rfl, fin.out _ _⟩
  · go_enter Tryz.func159, Tryz.ntmps159
    go_wp2_with fail
    refine (m0.out _).mono ?_
    rintro e w' ⟨rfl, rfl⟩
    go_wp2
    exact bodyPost_ret (v := .agg (cellsR (writeV r 0 v))) (by simp [results, Tryz.results159, go_sem, t1, t3, t5, t6, t7, writeV]) rfl ⟨rfl, fin.out _ _⟩
  · go_enter Tryz.func159, Tryz.ntmps159
    go_wp2_with fail
    refine (m1.out _).mono ?_
    rintro e w' ⟨rfl, rfl⟩
    go_wp2_with fail
    refine (m2.out _).mono ?_
    rintro e w' ⟨rfl, rfl⟩
    go_wp2
    exact bodyPost_ret (v := .agg (cellsR (writeV r 2 v))) (by simp [results, Tryz.results159, go_sem, t1, t3, t5, t6, t7, writeV]) rfl ⟨rfl, fin.out _ _⟩
  · go_enter Tryz.func159, Tryz.ntmps159
    go_wp2
    exact bodyPost_ret (v := .agg (cellsR (writeV r 8 v))) (by simp [results, Tryz.results159, go_sem, t1, t3, t5, t6, t7, writeV]) rfl ⟨rfl, fin.out _ _⟩
  · go_enter Tryz.func159, Tryz.ntmps159
    go_wp2
    exact bodyPost_ret (v := .agg (cellsR (writeV r 9 v))) (by simp [results, Tryz.results159, go_sem, t1, t3, t5, t6, t7, writeV]) rfl ⟨rfl, fin.out _ _⟩
  · go_enter Tryz.func159, Tryz.ntmps159
    go_wp2
    exact bodyPost_ret (v := .agg (cellsR (writeV r 10 v))) (by simp [results, Tryz.results159, go_sem, t1, t3, t5, t6, t7, writeV]) rfl ⟨rfl, fin.out _ _⟩
  · go_enter Tryz.func159, Tryz.ntmps159
    go_wp2_with fail
    refine (m7.out _).mono ?_
    rintro e w' ⟨rfl, rfl⟩
    go_wp2
    exact bodyPost_ret (v := .agg (cellsR (writeV r 11 v))) (by simp [results, Tryz.results159, go_sem, t1, t3, t5, t6, t7, writeV]) rfl ⟨rfl, fin.out _ _⟩
  · go_enter Tryz.func159, Tryz.ntmps159
    go_wp2_with fail
    refine (m3.out _).mono ?_
    rintro e w' ⟨rfl, rfl⟩
    go_wp2_with fail
    refine (m4.out _).mono ?_
    rintro e w' ⟨rfl, rfl⟩
    go_wp2_with fail
    refine (m5.out _).mono ?_
    rintro e w' ⟨rfl, rfl⟩
    go_wp2
    exact bodyPost_ret (v := .agg (cellsR (writeV r 12 v))) (by simp [results, Tryz.results159, go_sem, t1, t3, t5, t6, t7, writeV]) rfl ⟨rfl, fin.out _ _⟩
  · go_enter Tryz.func159, Tryz.ntmps159
    go_wp2_with fail
    refine (m6.out _).mono ?_
    rintro e w' ⟨rfl, rfl⟩
    go_wp2
    exact bodyPost_ret (v := .agg (cellsR (writeV r 13 v))) (by simp [results, Tryz.results159, go_sem, t1, t3, t5, t6, t7, writeV]) rfl ⟨rfl, fin.out _ _⟩
  · go_enter Tryz.func159, Tryz.ntmps159
    go_wp2
    exact bodyPost_ret (v := .agg (cellsR (writeV r 14 v))) (by simp [results, Tryz.results159, go_sem, t1, t3, t5, t6, t7, writeV]) rfl ⟨rfl, fin.out _ _⟩

theorem rbad_any {r : Regs} (hr : Wr r) {a : Int} (ha : W32 a) (p : Bool) (w : World) :
    Calls Tryz.prog 148 #[.agg (cellsR r), .int .u32 a, .bool p] w fun e w' => e = .returned (.agg (cellsR (badV r a p))) ∧ Below w.heap.size w w' := by
  obtain ⟨t1, t2, t3, t4, t5, t6, t7, t8, t9⟩ := cpRules
  obtain ⟨p0, p1, p2, p3, p4, p5, p6, p7, p8⟩ := cpParts
  obtain ⟨s0, s1, s2, s3, s4, s5, s6, s7, s8⟩ := cpSets
  have aH : W32 4294967040 := w_of _ (by omega) (by omega)
  have m0 := hide fun W => rmix_any hr.h ha (mix_w aH) (f := 8) (t := 31) (by omega) (by omega) (by omega) (mix_range aH (by decide +kernel)) W
  have fin : ∀ c d : Array Value, Below w.heap.size w ((w.alloc (.cells c 25)).alloc (.cells d 25)) := fun c d => (grow _ _).alloc (by simp) _
  replace fin := hide fin
  replace ha := hide ha
  clear hr aH
  go_enter Tryz.func148, Tryz.ntmps148
  cases p
  · go_wp2
    exact bodyPost_ret (v := .agg (cellsR (badV r a false))) (by simp [results, Tryz.results148, go_sem, t1, t3, t5, t6, t7, badV]) rfl ⟨rfl, fin.out _ _⟩
  · go_wp2_with fail
    refine (m0.out _).mono ?_
    rintro e w' ⟨rfl, rfl⟩
    go_wp2
    exact bodyPost_ret (v := .agg (cellsR (badV r a true))) (by simp [results, Tryz.results148, go_sem, t1, t3, t5, t6, t7, badV]) rfl ⟨rfl, fin.out _ _⟩

theorem rret_any {r : Regs} (hr : Wr r) (w : World) :
    Calls Tryz.prog 154 #[.agg (cellsR r)] w fun e w' => e = .returned (.tuple #[.agg (cellsR (retV r)), .int .u32 r.e]) ∧ Below w.heap.size w w' := by
  obtain ⟨t1, t2, t3, t4, t5, t6, t7, t8, t9⟩ := cpRules
  obtain ⟨p0, p1, p2, p3, p4, p5, p6, p7, p8⟩ := cpParts
  obtain ⟨s0, s1, s2, s3, s4, s5, s6, s7, s8⟩ := cpSets
  have aS : W32 2 := w_of _ (by omega) (by omega)
  have m0 := hide fun W => rwith_any hr.s (mix_w aS) (n := 1) (by omega) (by omega) false (mix_one (n := 1) aS (by decide +kernel) (bit_zero 1)) W
  have fin : ∀ c d : Array Value, Below w.heap.size w ((w.alloc (.cells c 25)).alloc (.cells d 25)) := fun c d => (grow _ _).alloc (by simp) _
  replace fin := hide fin
  obtain ⟨d1, d2, d3⟩ := cpDrew
  clear hr aS
  go_enter Tryz.func154, Tryz.ntmps154
  go_wp2_with fail
  refine (m0.out _).mono ?_
  rintro e w' ⟨rfl, rfl⟩
  go_wp2
  go_region
  go_wp2
  exact bodyPost_ret (v := .tuple #[.agg (cellsR (retV r)), .int .u32 r.e]) (by simp [results, Tryz.results154, go_sem, t1, t3, t5, t6, t7, d1, d2, retV]) rfl ⟨rfl, (fin.out _ _).drew⟩

theorem ruser_any {r : Regs} (hr : Wr r) (w : World) :
    Calls Tryz.prog 39 #[.agg (cellsR r)] w fun e w' => e = .returned (.bool (userV r)) ∧ Below w.heap.size w w' := by
  obtain ⟨t1, t2, t3, t4, t5, t6, t7, t8, t9⟩ := cpRules
  obtain ⟨p0, p1, p2, p3, p4, p5, p6, p7, p8⟩ := cpParts
  have m0 := fun W => rbit_any hr.s (n := 4) (by omega) (by omega) W
  have m1 := fun W => rbit_any hr.s (n := 1) (by omega) (by omega) W
  simp only [show (4 : Int).toNat = 4 from rfl, show (1 : Int).toNat = 1 from rfl] at m0 m1
  unfold userV
  clear hr
  generalize bit r.s 4 = x at *
  generalize bit r.s 1 = y at *
  replace m0 := hide m0
  replace m1 := hide m1
  go_enter Tryz.func39, Tryz.ntmps39
  go_wp2_with fail
  refine (m0.out _).mono ?_
  rintro e w' ⟨rfl, rfl⟩
  cases x
  · go_wp2
    go_ret
    exact ⟨rfl, grow _ _⟩
  · go_wp2_with fail
    refine (m1.out _).mono ?_
    rintro e w' ⟨rfl, rfl⟩
    go_wp2
    go_ret
    exact ⟨rfl, grow _ _⟩

end Go.Proofs.YthjcijlabpinkaaGreatDoor.Cp

/- Layer 8: contracts of the document's Tick and Pending. -/
namespace Go.Proofs.YthjcijlabpinkaaGreatDoor.Cp
open Go.RowKit
set_option linter.unusedVariables false
set_option maxRecDepth 100000

theorem bit_shl {l : Int} (hl : W32 l) (k j : Nat) (h : k + j < 32) : bit (l * (2 ^ k : Nat) % 4294967296) (k + j) = bit l j := by
  obtain ⟨L, rfl⟩ := Int.eq_ofNat_of_zero_le hl.1
  have e : ((L : Int) * ((2 ^ k : Nat) : Int) % 4294967296).toNat = (L * 2 ^ k) % 2 ^ 32 := by
    rw [← Int.natCast_mul]
    generalize L * 2 ^ k = X
    omega
  unfold bit
  rw [e, Int.toNat_natCast, Nat.testBit_mod_two_pow, Nat.testBit_mul_two_pow]
  simp [h]

theorem Rat.drew {w : World} {b : Nat} {r : Regs} (h : Rat w b r) : Rat w.drew b r := h

theorem Rat.put {w : World} {b : Nat} {r : Regs} (h : Rat w b r) (x : Int) : Rat (w.setCell ⟨b, 7, none⟩ (.int .u32 x)) b { r with c := x } :=
  ⟨by rw [isRow_setCell]; exact h.1, by rw [rowAt_setCell, h.2.1]; rfl, by simpa using h.2.2⟩

theorem Rat.far {w : World} {b : Nat} {r : Regs} (h : Rat w b r) (g j : Nat) (v : Value) (hg : g < b) : Rat (w.setCell ⟨g, j, none⟩ v) b r :=
  ⟨by rw [isRow_setCell]; exact h.1, by rw [rowAt_setCell_gt _ _ _ _ _ hg]; exact h.2.1, by simpa using h.2.2⟩

/-- The registers on the way of the document's Tick. -/
def Way (w : World) (r : Regs) (x : World) : Prop := Rat x w.heap.size r ∧ Rat x (w.heap.size + 1) R0 ∧ Below w.heap.size w x

theorem Way.start (w : World) (r : Regs) : Way w r ((w.alloc (.cells (cellsR r) 25)).alloc (.cells (cellsR R0) 25)) :=
  ⟨(Rat.new w r _).on (grow _ _), by have := Rat.new (w.alloc (.cells (cellsR r) 25)) R0 25; simpa using this, (grow _ _).alloc (by simp) _⟩

theorem Way.put {w x : World} {r : Regs} (h : Way w r x) (v : Int) : Way w { r with c := v } (x.setCell ⟨w.heap.size, 7, none⟩ (.int .u32 v)).drew :=
  ⟨(h.1.put v).drew, (h.2.1.far _ _ _ (by omega)).drew, (h.2.2.setCell (Nat.le_refl _) _).drew⟩

set_option maxHeartbeats 1000000 in
theorem rtick_any {r : Regs} (hr : Wr r) {l : Int} (hl : W32 l) (w : World) :
    Calls Tryz.prog 59 #[.agg (cellsR r), .int .u32 l] w fun e w' => e = .returned (.agg (cellsR (tickV r l))) ∧ Below w.heap.size w w' := by
  obtain ⟨t1, t2, t3, t4, t5, t6, t7, t8, t9⟩ := cpRules
  obtain ⟨p0, p1, p2, p3, p4, p5, p6, p7, p8⟩ := cpParts
  obtain ⟨s0, s1, s2, s3, s4, s5, s6, s7, s8⟩ := cpSets
  obtain ⟨n0, n1⟩ := hr.n
  have wm : W32 32768 := w_of _ (by omega) (by omega)
  have m0 := hide fun W => rwith_any hr.c (mix_w wm) (n := 15) (by omega) (by omega) true (mix_one (n := 15) (x := 32768) wm (by decide +kernel) (by decide +kernel)) W
  have hc : W32 (rungV r) := by unfold rungV; split; exact mix_w wm; exact hr.c
  clear hr wm
  replace hl := hide hl
  replace hc := hide hc
  go_enter Tryz.func59, Tryz.ntmps59
  unfold tickV
  obtain ⟨N, hN⟩ : ∃ N : Int, (r.n + 1) % 4294967296 = N := ⟨_, rfl⟩
  obtain ⟨C, hC⟩ : ∃ C : Int, rungV r = C := ⟨_, rfl⟩
  rw [hC] at hc
  rw [hN, hC]
  by_cases h : N = r.p
  · have hd : (N == r.p) = true := by simpa using h
    have hv : mixV r.c 32768 32768 = C := by rw [← hC]; simp [rungV, hN, h]
    clear h hC
    replace hv := hide hv
    go_wp2_with fail
    refine (m0.out _).mono ?_
    rintro e w1 ⟨rfl, rfl⟩
    go_wp2
    clear hN hd n0 n1 m0
    go_loopw [5] (fun i wr => ∃ (k : Nat) (z : Int), k ≤ 5 ∧ i = .int .i64 k ∧ Hid (Upto C (l * 1024 % 4294967296) 10 (10 + k) z) ∧ Hid (Way w { r with n := N, c := z } wr)) (fun i _ => 5 - (intOf i).toNat)
    case atStart => exact ⟨0, _, by omega, rfl, hide (by rw [hv.out]; exact Upto.start hc.out _ _), hide (Way.start w _)⟩
    case round =>
      obtain ⟨k, z, hk, rfl, hz, hW⟩ := hrel
      by_cases hlt : k < 5
      · have h1 : (k : Int) < 8 := by omega
        have c0 := hW.out.1.cell 7
        have c1 := frozen_rowAt wr w.heap.size 7 hW.out.1.1
        have hn := hz.out.next (by omega) (by omega) (by omega)
        have mb := fun W => rbit_any hl.out (n := (k : Int)) (by omega) (by omega) W
        have hb : bit (l * 1024 % 4294967296) (10 + (k : Int)).toNat = bit l k := by
          have := bit_shl hl.out 10 k (by omega)
          rw [show (10 + (k : Int)).toNat = 10 + k by omega]
          exact this
        rw [hb] at hn
        rw [show (k : Int).toNat = k by omega] at mb
        obtain ⟨b, hb'⟩ : ∃ b, bit l k = b := ⟨_, rfl⟩
        rw [hb'] at hn mb
        clear hb hb'
        obtain ⟨z', hz'⟩ : ∃ z', withV z (10 + (k : Int)).toNat b = z' := ⟨_, rfl⟩
        have hwr : IntKind.i64.wrap (10 + (k : Int)) = 10 + (k : Int) := by simp [IntKind.wrap, IntKind.bits, IntKind.signed]; omega
        have mw := fun W => rwith_any (r := withV z (10 + (k : Int)).toNat b) hz.out.1 hn.1 (n := IntKind.i64.wrap (10 + (k : Int))) (by rw [hwr]; omega) (by rw [hwr]; omega) b (by rw [hwr]; exact bit_with _ _ _ (by omega)) W
        rw [hz'] at mw hn
        clear hz' hz hwr
        have hn' := hide hn
        have hW' := hide (hW.out.put z')
        have mb' := hide mb
        have mw' := hide mw
        clear hn mb mw hW
        go_wp2_with fail
        go_region_with (first
          | (go_at_call 110; refine (mb'.out _).mono ?_; rintro e w' ⟨rfl, rfl⟩)
          | (go_at_call 143; refine (mw'.out _).mono ?_; rintro e w' ⟨rfl, rfl⟩))
        all_goals
          go_wp2
          go_roundw
          case rel => exact ⟨k + 1, z', by omega, by go_num, hide (by have := hn'.out; rwa [Int.add_assoc] at this), hW'⟩
          case measure => simp [intOf]; omega
      · have hx : k = 5 := by omega
        subst hx
        have hq : z = mixV C (l * 1024 % 4294967296) 31744 := bit_ext hz.out.1 (mix_w (w_of _ (by omega) (by omega))) fun i hi => by
          rw [hz.out.2 i hi, mix_range (f := 10) (t := 14) (w_of _ (by omega) (by omega)) (by decide +kernel) i hi]
          have e : ((i : Int) < 10 + ((5 : Nat) : Int)) ↔ ((i : Int) ≤ 14) := by omega
          simp only [e]
        replace hq := hide hq
        have l1 := hW.out.1.load
        have x1 := hW.out.2.1.1
        have x2 := hW.out.2.1.2.1
        have x3 := hide hW.out.2.2
        clear hW hz
        go_wp2
        refine bodyPost_ret (v := .agg (cellsR { r with n := N, c := z })) (by simp [results, Tryz.results59, go_sem, t1, t9, x1]) rfl ⟨by rw [hq.out], below_setRow x3.out (by omega) _⟩
  · have hd : (N == r.p) = false := by simpa using h
    have hv : r.c = C := by rw [← hC]; simp [rungV, hN, h]
    clear h hC
    replace hv := hide hv
    go_wp2
    clear hN hd n0 n1 m0
    go_loopw [5] (fun i wr => ∃ (k : Nat) (z : Int), k ≤ 5 ∧ i = .int .i64 k ∧ Hid (Upto C (l * 1024 % 4294967296) 10 (10 + k) z) ∧ Hid (Way w { r with n := N, c := z } wr)) (fun i _ => 5 - (intOf i).toNat)
    case atStart => exact ⟨0, _, by omega, rfl, hide (by rw [hv.out]; exact Upto.start hc.out _ _), hide (Way.start w _)⟩
    case round =>
      obtain ⟨k, z, hk, rfl, hz, hW⟩ := hrel
      by_cases hlt : k < 5
      · have h1 : (k : Int) < 8 := by omega
        have c0 := hW.out.1.cell 7
        have c1 := frozen_rowAt wr w.heap.size 7 hW.out.1.1
        have hn := hz.out.next (by omega) (by omega) (by omega)
        have mb := fun W => rbit_any hl.out (n := (k : Int)) (by omega) (by omega) W
        have hb : bit (l * 1024 % 4294967296) (10 + (k : Int)).toNat = bit l k := by
          have := bit_shl hl.out 10 k (by omega)
          rw [show (10 + (k : Int)).toNat = 10 + k by omega]
          exact this
        rw [hb] at hn
        rw [show (k : Int).toNat = k by omega] at mb
        obtain ⟨b, hb'⟩ : ∃ b, bit l k = b := ⟨_, rfl⟩
        rw [hb'] at hn mb
        clear hb hb'
        obtain ⟨z', hz'⟩ : ∃ z', withV z (10 + (k : Int)).toNat b = z' := ⟨_, rfl⟩
        have hwr : IntKind.i64.wrap (10 + (k : Int)) = 10 + (k : Int) := by simp [IntKind.wrap, IntKind.bits, IntKind.signed]; omega
        have mw := fun W => rwith_any (r := withV z (10 + (k : Int)).toNat b) hz.out.1 hn.1 (n := IntKind.i64.wrap (10 + (k : Int))) (by rw [hwr]; omega) (by rw [hwr]; omega) b (by rw [hwr]; exact bit_with _ _ _ (by omega)) W
        rw [hz'] at mw hn
        clear hz' hz hwr
        have hn' := hide hn
        have hW' := hide (hW.out.put z')
        have mb' := hide mb
        have mw' := hide mw
        clear hn mb mw hW
        go_wp2_with fail
        go_region_with (first
          | (go_at_call 110; refine (mb'.out _).mono ?_; rintro e w' ⟨rfl, rfl⟩)
          | (go_at_call 143; refine (mw'.out _).mono ?_; rintro e w' ⟨rfl, rfl⟩))
        all_goals
          go_wp2
          go_roundw
          case rel => exact ⟨k + 1, z', by omega, by go_num, hide (by have := hn'.out; rwa [Int.add_assoc] at this), hW'⟩
          case measure => simp [intOf]; omega
      · have hx : k = 5 := by omega
        subst hx
        have hq : z = mixV C (l * 1024 % 4294967296) 31744 := bit_ext hz.out.1 (mix_w (w_of _ (by omega) (by omega))) fun i hi => by
          rw [hz.out.2 i hi, mix_range (f := 10) (t := 14) (w_of _ (by omega) (by omega)) (by decide +kernel) i hi]
          have e : ((i : Int) < 10 + ((5 : Nat) : Int)) ↔ ((i : Int) ≤ 14) := by omega
          simp only [e]
        replace hq := hide hq
        have l1 := hW.out.1.load
        have x1 := hW.out.2.1.1
        have x2 := hW.out.2.1.2.1
        have x3 := hide hW.out.2.2
        clear hW hz
        go_wp2
        refine bodyPost_ret (v := .agg (cellsR { r with n := N, c := z })) (by simp [results, Tryz.results59, go_sem, t1, t9, x1]) rfl ⟨by rw [hq.out], below_setRow x3.out (by omega) _⟩

end Go.Proofs.YthjcijlabpinkaaGreatDoor.Cp

/- Layer 8: contracts of the document's Pending and Raise. -/
namespace Go.Proofs.YthjcijlabpinkaaGreatDoor.Cp
open Go.RowKit
set_option linter.unusedVariables false
set_option maxRecDepth 100000

/-- Is there a bit from 8 up to k in both words? -/
def AnyTill (s c : Int) (k : Nat) (b : Bool) : Prop := b = true ↔ ∃ j : Nat, 8 ≤ j ∧ j < k ∧ bit s j = true ∧ bit c j = true

theorem AnyTill.start (s c : Int) : AnyTill s c 8 false := by
  unfold AnyTill
  constructor
  · intro h; cases h
  · rintro ⟨j, h1, h2, _⟩; omega

theorem AnyTill.next {s c : Int} {k : Nat} {b x : Bool} (h : AnyTill s c k b) (hk : 8 ≤ k) (hx : x = (b || (bit s k && bit c k))) : AnyTill s c (k + 1) x := by
  unfold AnyTill at *
  subst hx
  constructor
  · intro e
    rw [Bool.or_eq_true, Bool.and_eq_true] at e
    rcases e with e | e
    · obtain ⟨j, a1, a2, a3⟩ := h.1 e
      exact ⟨j, a1, by omega, a3⟩
    · exact ⟨k, hk, by omega, e⟩
  · rintro ⟨j, a1, a2, a3, a4⟩
    rw [Bool.or_eq_true, Bool.and_eq_true]
    by_cases e : j = k
    · subst e; exact Or.inr ⟨a3, a4⟩
    · exact Or.inl (h.2 ⟨j, a1, by omega, a3, a4⟩)

theorem any_is {s c : Int} (hs : W32 s) (hc : W32 c) {b : Bool} (h : AnyTill s c 16 b) : b = (bits .and .u32 (bits .and .u32 s c) 65280 != 0) := by
  have hm : W32 65280 := w_of _ (by omega) (by omega)
  have hsc := and_w hs hc
  have hx := and_w hsc hm
  have hb : ∀ i, bit (bits .and .u32 (bits .and .u32 s c) 65280) i = ((bit s i && bit c i) && bit 65280 i) := fun i => by rw [bit_and hsc hm, bit_and hs hc]
  have h8 : ∀ i : Nat, i < 32 → bit 65280 i = decide (8 ≤ i ∧ i < 16) := by decide +kernel
  rw [Bool.eq_iff_iff]
  unfold AnyTill at h
  rw [h, bne_iff_ne]
  constructor
  · rintro ⟨j, a1, a2, a3, a4⟩ e
    have := hb j
    rw [e, bit_zero, h8 j (by omega), a3, a4] at this
    simp [a1, a2] at this
  · intro e
    apply Classical.byContradiction
    intro hn
    apply e
    apply bit_ext hx w0
    intro i hi
    rw [hb i, bit_zero, h8 i hi]
    by_cases r : 8 ≤ i ∧ i < 16
    · cases e1 : bit s i
      · rfl
      · cases e2 : bit c i
        · rfl
        · exact absurd ⟨i, r.1, r.2, e1, e2⟩ hn
    · simp [r]

set_option maxHeartbeats 1000000 in
theorem rpend_any {r : Regs} (hr : Wr r) (w : World) :
    Calls Tryz.prog 61 #[.agg (cellsR r)] w fun e w' => e = .returned (.bool (pendV r)) ∧ Below w.heap.size w w' := by
  obtain ⟨t1, t2, t3, t4, t5, t6, t7, t8, t9⟩ := cpRules
  obtain ⟨p0, p1, p2, p3, p4, p5, p6, p7, p8⟩ := cpParts
  have ms := hide fun (n : Int) (h0 : 0 ≤ n) (h1 : n < 32) W => rbit_any hr.s h0 h1 W
  have mc := hide fun (n : Int) (h0 : 0 ≤ n) (h1 : n < 32) W => rbit_any hr.c h0 h1 W
  have ha := hide fun b (h : AnyTill r.s r.c 16 b) => any_is hr.s hr.c h
  clear hr
  go_enter Tryz.func61, Tryz.ntmps61
  go_wp2
  go_loop [3, 4] (fun a i => ∃ (k : Nat) (b : Bool), 8 ≤ k ∧ k ≤ 16 ∧ i = .int .i64 k ∧ a = .bool b ∧ Hid (AnyTill r.s r.c k b)) (fun _ i => 16 - (intOf i).toNat)
  case atStart => exact ⟨8, false, by omega, by omega, rfl, rfl, hide (AnyTill.start _ _)⟩
  case round =>
    obtain ⟨k, b, k0, k1, rfl, rfl, hb⟩ := hrel
    by_cases hlt : k < 16
    · have h1 : (k : Int) < 16 := by omega
      have ks := ms.out (k : Int) (by omega) (by omega)
      have kc := mc.out (k : Int) (by omega) (by omega)
      rw [show (k : Int).toNat = k by omega] at ks kc
      have hn := fun x => hb.out.next (x := x) k0
      generalize bit r.s k = x at *
      generalize bit r.c k = y at *
      replace ks := hide ks
      replace kc := hide kc
      replace hn := hide hn
      clear hb ms mc
      cases b
      · go_wp2_with fail
        refine (ks.out _).mono ?_
        rintro e w1 ⟨rfl, rfl⟩
        cases x
        · go_wp2
          go_round
          case rel => exact ⟨k + 1, false, by omega, by omega, by go_num, rfl, hide (hn.out _ rfl)⟩
          case measure => simp [intOf]; omega
        · go_wp2_with fail
          refine (kc.out _).mono ?_
          rintro e w1 ⟨rfl, rfl⟩
          go_wp2
          go_round
          case rel => exact ⟨k + 1, y, by omega, by omega, by go_num, rfl, hide (hn.out _ rfl)⟩
          case measure => simp [intOf]; omega
      · go_wp2
        go_round
        case rel => exact ⟨k + 1, true, by omega, by omega, by go_num, rfl, hide (hn.out _ rfl)⟩
        case measure => simp [intOf]; omega
    · have hx : k = 16 := by omega
      subst hx
      have hv : pendV r = (bit r.s 0 && !bit r.s 1 && b) := by unfold pendV; rw [ha.out _ hb.out]
      replace hv := hide hv
      have k0 := ms.out 0 (by omega) (by omega)
      have k1 := ms.out 1 (by omega) (by omega)
      rw [show (0 : Int).toNat = 0 from rfl] at k0
      rw [show (1 : Int).toNat = 1 from rfl] at k1
      clear ms mc ha hb
      generalize bit r.s 0 = x at *
      generalize bit r.s 1 = y at *
      replace k0 := hide k0
      replace k1 := hide k1
      cases b
      · go_wp2
        go_ret
        exact ⟨by rw [hv.out]; simp, grow _ _⟩
      · go_wp2_with fail
        refine (k0.out _).mono ?_
        rintro e w1 ⟨rfl, rfl⟩
        cases x
        · go_wp2
          go_ret
          exact ⟨by rw [hv.out]; simp, grow _ _⟩
        · go_wp2_with fail
          refine (k1.out _).mono ?_
          rintro e w1 ⟨rfl, rfl⟩
          go_wp2
          go_ret
          exact ⟨by rw [hv.out]; simp, grow _ _⟩

theorem bit_code (code : Int) (i : Nat) (h0 : 2 ≤ i) (h1 : i ≤ 6) : bit (4 * (code % 32)) i = bit (code % 4294967296 * 4 % 4294967296) i := by
  have e : (4 * (code % 32)).toNat = (code % 4294967296 * 4 % 4294967296).toNat % 2 ^ 7 := by omega
  unfold bit
  rw [e, Nat.testBit_mod_two_pow]
  simp; omega

set_option maxHeartbeats 1000000 in
theorem rraise_any {r : Regs} (hr : Wr r) (code : Int) (f : Bool) {pc : Int} (hp : W32 pc) (d : Bool) (w : World) :
    Calls Tryz.prog 147 #[.agg (cellsR r), .int .i64 code, .bool f, .int .u32 pc, .bool d] w fun e w' => e = .returned (.tuple #[.agg (cellsR (raiseV r code f pc d)), .int .u32 (toV r f)]) ∧ Below w.heap.size w w' := by
  obtain ⟨t1, t2, t3, t4, t5, t6, t7, t8, t9⟩ := cpRules
  obtain ⟨p0, p1, p2, p3, p4, p5, p6, p7, p8⟩ := cpParts
  obtain ⟨s0, s1, s2, s3, s4, s5, s6, s7, s8⟩ := cpSets
  have aM : W32 2147483648 := w_of _ (by omega) (by omega)
  have aS : W32 2 := w_of _ (by omega) (by omega)
  have aC : W32 124 := w_of _ (by omega) (by omega)
  obtain ⟨K, hK⟩ : ∃ K : Int, K = code % 32 := ⟨_, rfl⟩
  obtain ⟨Y, hY⟩ : ∃ Y : Int, Y = code % 4294967296 * 4 % 4294967296 := ⟨_, rfl⟩
  have K0 : 0 ≤ K ∧ K < 32 := by omega
  have mx : ∀ c : Int, W32 c → ∀ W, Calls Tryz.prog 214 #[.int .u32 c, .int .u32 (4 * K), .int .i64 2, .int .i64 6] W fun e w' => e = .returned (.int .u32 (mixV c Y 124)) ∧ w' = W := fun c hc W =>
    rmix_any hc (v := 4 * K) (w_of _ (by omega) (by omega)) (mix_w aC) (f := 2) (t := 6) (by omega) (by omega) (by omega) (fun i hi => by
      rw [mix_range (f := 2) (t := 6) aC (by decide +kernel) i hi]
      by_cases c : (2 : Int) ≤ (i : Int) ∧ (i : Int) ≤ 6
      · rw [if_pos c, if_pos c, hK, hY, bit_code code i (by omega) (by omega)]
      · rw [if_neg c, if_neg c]) W
  obtain ⟨M, hM⟩ : ∃ M : Int, code.tmod 32 = M := ⟨_, rfl⟩
  have hMK : M = K ∨ (M < 0 ∧ M + 32 = K) := by
    rw [← hM, hK, Int.tmod_eq_emod]
    split
    · left; omega
    · right; rename_i hx; have : ¬ code % 32 = 0 := fun e => hx (Or.inr (Int.dvd_of_emod_eq_zero e)); simp; omega
  obtain ⟨E, hE⟩ : ∃ E : Int, E = if d then (pc - 4) % 4294967296 else pc := ⟨_, rfl⟩
  obtain ⟨C, hC⟩ : ∃ C : Int, C = mixV r.c (if d then 2147483648 else 0) 2147483648 := ⟨_, rfl⟩
  have hm : W32 C := by rw [hC]; exact mix_w aM
  have m1 := fun W => rbit_any hr.s (n := 1) (by omega) (by omega) W
  rw [show (1 : Int).toNat = 1 from rfl] at m1
  have m2 := fun W => rwith_any (r := C) hr.c hm (n := 31) (by omega) (by omega) d (by rw [hC]; exact mix_one (n := 31) aM (by decide +kernel) (by cases d; exact bit_zero 31; decide +kernel)) W
  have m3 := hide fun W => rwith_any hr.s (mix_w aS) (n := 1) (by omega) (by omega) true (mix_one (n := 1) (x := 2) aS (by decide +kernel) (by decide +kernel)) W
  have mx1 := hide (mx C hm)
  have mx2 := hide (mx r.c hr.c)
  replace m2 := hide m2
  unfold raiseV toV
  rw [← hE, ← hC, ← hY]
  replace hE := hide hE
  clear hK
  clear mx hC hY hm aM aS aC
  obtain ⟨pc0, pc1⟩ := hp
  have fin : ∀ c d : Array Value, Below w.heap.size w ((w.alloc (.cells c 25)).alloc (.cells d 25)) := fun c d => (grow _ _).alloc (by simp) _
  replace fin := hide fin
  clear hr
  generalize bit r.s 1 = x at *
  replace m1 := hide m1
  obtain ⟨K0, K1⟩ := K0
  rcases hMK with rfl | ⟨hneg, hsum⟩
  · have hd : decide (M < 0) = false := by simpa using K0
    go_enter Tryz.func147, Tryz.ntmps147
    go_wp2_with fail
    refine (m1.out _).mono ?_
    rintro e w1 ⟨rfl, rfl⟩
    cases x
    · cases d
      · have hE' : pc = E := by simpa using hE.out.symm
        subst hE'
        cases f
        all_goals
          go_wp2_with fail
          refine (m2.out _).mono ?_
          rintro e w1 ⟨rfl, rfl⟩
          go_wp2_with fail
          refine (m3.out _).mono ?_
          rintro e w1 ⟨rfl, rfl⟩
          go_wp2_with fail
          refine (mx1.out _).mono ?_
          rintro e w1 ⟨rfl, rfl⟩
          go_wp2
          exact bodyPost_ret (by simp [results, Tryz.results147, go_sem, t1, t3, t5, t6, t7]) rfl ⟨rfl, fin.out _ _⟩
      · have hE' : (pc - 4) % 4294967296 = E := by simpa using hE.out.symm
        have hE2 : (pc + 4294967296 - 4) % 4294967296 = E := by omega
        have hE3 : (pc + 4294967292) % 4294967296 = E := by omega
        have E0 : 0 ≤ E := by omega
        have E1 : E < 4294967296 := by omega
        clear hE
        cases f
        all_goals
          go_wp2_with fail
          refine (m2.out _).mono ?_
          rintro e w1 ⟨rfl, rfl⟩
          go_wp2_with fail
          refine (m3.out _).mono ?_
          rintro e w1 ⟨rfl, rfl⟩
          go_wp2_with fail
          refine (mx1.out _).mono ?_
          rintro e w1 ⟨rfl, rfl⟩
          go_wp2
          exact bodyPost_ret (by simp [results, Tryz.results147, go_sem, t1, t3, t5, t6, t7]) rfl ⟨rfl, fin.out _ _⟩
    · go_wp2_with fail
      refine (m3.out _).mono ?_
      rintro e w1 ⟨rfl, rfl⟩
      go_wp2_with fail
      refine (mx2.out _).mono ?_
      rintro e w1 ⟨rfl, rfl⟩
      go_wp2
      exact bodyPost_ret (by simp [results, Tryz.results147, go_sem, t1, t3, t5, t6, t7]) rfl ⟨rfl, fin.out _ _⟩
  · have hd : decide (M < 0) = true := by simpa using hneg
    go_enter Tryz.func147, Tryz.ntmps147
    go_wp2_with fail
    refine (m1.out _).mono ?_
    rintro e w1 ⟨rfl, rfl⟩
    cases x
    · cases d
      · have hE' : pc = E := by simpa using hE.out.symm
        subst hE'
        cases f
        all_goals
          go_wp2_with fail
          refine (m2.out _).mono ?_
          rintro e w1 ⟨rfl, rfl⟩
          go_wp2_with fail
          refine (m3.out _).mono ?_
          rintro e w1 ⟨rfl, rfl⟩
          go_wp2_with fail
          refine (mx1.out _).mono ?_
          rintro e w1 ⟨rfl, rfl⟩
          go_wp2
          exact bodyPost_ret (by simp [results, Tryz.results147, go_sem, t1, t3, t5, t6, t7]) rfl ⟨rfl, fin.out _ _⟩
      · have hE' : (pc - 4) % 4294967296 = E := by simpa using hE.out.symm
        have hE2 : (pc + 4294967296 - 4) % 4294967296 = E := by omega
        have hE3 : (pc + 4294967292) % 4294967296 = E := by omega
        have E0 : 0 ≤ E := by omega
        have E1 : E < 4294967296 := by omega
        clear hE
        cases f
        all_goals
          go_wp2_with fail
          refine (m2.out _).mono ?_
          rintro e w1 ⟨rfl, rfl⟩
          go_wp2_with fail
          refine (m3.out _).mono ?_
          rintro e w1 ⟨rfl, rfl⟩
          go_wp2_with fail
          refine (mx1.out _).mono ?_
          rintro e w1 ⟨rfl, rfl⟩
          go_wp2
          exact bodyPost_ret (by simp [results, Tryz.results147, go_sem, t1, t3, t5, t6, t7]) rfl ⟨rfl, fin.out _ _⟩
    · go_wp2_with fail
      refine (m3.out _).mono ?_
      rintro e w1 ⟨rfl, rfl⟩
      go_wp2_with fail
      refine (mx2.out _).mono ?_
      rintro e w1 ⟨rfl, rfl⟩
      go_wp2
      exact bodyPost_ret (by simp [results, Tryz.results147, go_sem, t1, t3, t5, t6, t7]) rfl ⟨rfl, fin.out _ _⟩

end Go.Proofs.YthjcijlabpinkaaGreatDoor.Cp
