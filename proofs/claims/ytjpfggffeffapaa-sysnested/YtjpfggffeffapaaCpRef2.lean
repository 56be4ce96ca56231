/- Layer 8: contracts of the document's Tick and Pending. -/
import Derived.Test.YtjpfggffeffapaaCpRef
import Derived.Deep.RegionHeld3
namespace Go.Proofs.Ytjpfggffeffapaa
open Go.RowKit
set_option linter.unusedVariables false

theorem bit_shl {l : Int} (hl : W32 l) (k j : Nat) (h : k + j < 32) : bit (l * (2 ^ k : Nat) % 4294967296) (k + j) = bit l j := by
  obtain ⟨L, rfl⟩ := Int.eq_ofNat_of_zero_le hl.1
  have e : ((L : Int) * ((2 ^ k : Nat) : Int) % 4294967296).toNat = (L * 2 ^ k) % 2 ^ 32 := by
    rw [← Int.natCast_mul]
    generalize L * 2 ^ k = X
    omega
  unfold bit
  rw [e, Int.toNat_natCast, Nat.testBit_mod_two_pow, Nat.testBit_mul_two_pow]
  simp [h]

theorem Rat.drew {w : World} {b : Nat} {r : Regs} (h : Rat w b r) : Rat w.drew b r := h

theorem Rat.put {w : World} {b : Nat} {r : Regs} (h : Rat w b r) (x : Int) : Rat (w.setCell ⟨b, 7, none⟩ (.int .u32 x)) b { r with c := x } :=
  ⟨by rw [isRow_setCell]; exact h.1, by rw [rowAt_setCell, h.2.1]; rfl, by simpa using h.2.2⟩

theorem Rat.far {w : World} {b : Nat} {r : Regs} (h : Rat w b r) (g j : Nat) (v : Value) (hg : g < b) : Rat (w.setCell ⟨g, j, none⟩ v) b r :=
  ⟨by rw [isRow_setCell]; exact h.1, by rw [rowAt_setCell_gt _ _ _ _ _ hg]; exact h.2.1, by simpa using h.2.2⟩

/-- The registers on the way of the document's Tick. -/
def Way (w : World) (r : Regs) (x : World) : Prop := Rat x w.heap.size r ∧ Rat x (w.heap.size + 1) R0 ∧ Below w.heap.size w x

theorem Way.start (w : World) (r : Regs) : Way w r ((w.alloc (.cells (cellsR r) 24)).alloc (.cells (cellsR R0) 24)) :=
  ⟨(Rat.new w r _).on (grow _ _), by have := Rat.new (w.alloc (.cells (cellsR r) 24)) R0 24; simpa using this, (grow _ _).alloc (by simp) _⟩

theorem Way.put {w x : World} {r : Regs} (h : Way w r x) (v : Int) : Way w { r with c := v } (x.setCell ⟨w.heap.size, 7, none⟩ (.int .u32 v)).drew :=
  ⟨(h.1.put v).drew, (h.2.1.far _ _ _ (by omega)).drew, (h.2.2.setCell (Nat.le_refl _) _).drew⟩

set_option maxHeartbeats 1000000 in
theorem rtick_any {r : Regs} (hr : Wr r) {l : Int} (hl : W32 l) (w : World) :
    Calls Try.prog 21 #[.agg (cellsR r), .int .u32 l] w fun e w' => e = .returned (.agg (cellsR (tickV r l))) ∧ Below w.heap.size w w' := by
  obtain ⟨t1, t2, t3, t4, t5, t6, t7, t8, t9⟩ := cpRules
  obtain ⟨p0, p1, p2, p3, p4, p5, p6, p7, p8⟩ := cpParts
  obtain ⟨s0, s1, s2, s3, s4, s5, s6, s7, s8⟩ := cpSets
  obtain ⟨n0, n1⟩ := hr.n
  have wm : W32 32768 := w_of _ (by omega) (by omega)
  have m0 := hide fun W => rwith_any hr.c (mix_w wm) (n := 15) (by omega) (by omega) true (mix_one (n := 15) (x := 32768) wm (by decide +kernel) (by decide +kernel)) W
  have hc : W32 (rungV r) := by unfold rungV; split; exact mix_w wm; exact hr.c
  clear hr wm
  replace hl := hide hl
  replace hc := hide hc
  go_enter Try.func21, Try.ntmps21
  unfold tickV
  obtain ⟨N, hN⟩ : ∃ N : Int, (r.n + 1) % 4294967296 = N := ⟨_, rfl⟩
  obtain ⟨C, hC⟩ : ∃ C : Int, rungV r = C := ⟨_, rfl⟩
  rw [hC] at hc
  rw [hN, hC]
  by_cases h : N = r.p
  · have hd : (N == r.p) = true := by simpa using h
    have hv : mixV r.c 32768 32768 = C := by rw [← hC]; simp [rungV, hN, h]
    clear h hC
    replace hv := hide hv
    go_wp2_with fail
    refine (m0.out _).mono ?_
    rintro e w1 ⟨rfl, rfl⟩
    go_wp2
    clear hN hd n0 n1 m0
    go_loopw [5] (fun i wr => ∃ (k : Nat) (z : Int), k ≤ 5 ∧ i = .int .i64 k ∧ Hid (Upto C (l * 1024 % 4294967296) 10 (10 + k) z) ∧ Hid (Way w { r with n := N, c := z } wr)) (fun i _ => 5 - (intOf i).toNat)
    case atStart => exact ⟨0, _, by omega, rfl, hide (by rw [hv.out]; exact Upto.start hc.out _ _), hide (Way.start w _)⟩
    case round =>
      obtain ⟨k, z, hk, rfl, hz, hW⟩ := hrel
      by_cases hlt : k < 5
      · have h1 : (k : Int) < 8 := by omega
        have c0 := hW.out.1.cell 7
        have c1 := frozen_rowAt wr w.heap.size 7 hW.out.1.1
        have hn := hz.out.next (by omega) (by omega) (by omega)
        have mb := fun W => rbit_any hl.out (n := (k : Int)) (by omega) (by omega) W
        have hb : bit (l * 1024 % 4294967296) (10 + (k : Int)).toNat = bit l k := by
          have := bit_shl hl.out 10 k (by omega)
          rw [show (10 + (k : Int)).toNat = 10 + k by omega]
          exact this
        rw [hb] at hn
        rw [show (k : Int).toNat = k by omega] at mb
        obtain ⟨b, hb'⟩ : ∃ b, bit l k = b := ⟨_, rfl⟩
        rw [hb'] at hn mb
        clear hb hb'
        obtain ⟨z', hz'⟩ : ∃ z', withV z (10 + (k : Int)).toNat b = z' := ⟨_, rfl⟩
        have hwr : IntKind.i64.wrap (10 + (k : Int)) = 10 + (k : Int) := by simp [IntKind.wrap, IntKind.bits, IntKind.signed]; omega
        have mw := fun W => rwith_any (r := withV z (10 + (k : Int)).toNat b) hz.out.1 hn.1 (n := IntKind.i64.wrap (10 + (k : Int))) (by rw [hwr]; omega) (by rw [hwr]; omega) b (by rw [hwr]; exact bit_with _ _ _ (by omega)) W
        rw [hz'] at mw hn
        clear hz' hz hwr
        have hn' := hide hn
        have hW' := hide (hW.out.put z')
        have mb' := hide mb
        have mw' := hide mw
        clear hn mb mw hW
        go_wp2_with fail
        go_region_with (first
          | (go_at_call 30; refine (mb'.out _).mono ?_; rintro e w' ⟨rfl, rfl⟩)
          | (go_at_call 28; refine (mw'.out _).mono ?_; rintro e w' ⟨rfl, rfl⟩))
        all_goals
          go_wp2
          go_roundw
          case rel => exact ⟨k + 1, z', by omega, by go_num, hide (by have := hn'.out; rwa [Int.add_assoc] at this), hW'⟩
          case measure => simp [intOf]; omega
      · have hx : k = 5 := by omega
        subst hx
        have hq : z = mixV C (l * 1024 % 4294967296) 31744 := bit_ext hz.out.1 (mix_w (w_of _ (by omega) (by omega))) fun i hi => by
          rw [hz.out.2 i hi, mix_range (f := 10) (t := 14) (w_of _ (by omega) (by omega)) (by decide +kernel) i hi]
          have e : ((i : Int) < 10 + ((5 : Nat) : Int)) ↔ ((i : Int) ≤ 14) := by omega
          simp only [e]
        replace hq := hide hq
        have l1 := hW.out.1.load
        have x1 := hW.out.2.1.1
        have x2 := hW.out.2.1.2.1
        have x3 := hide hW.out.2.2
        clear hW hz
        go_wp2
        refine bodyPost_ret (v := .agg (cellsR { r with n := N, c := z })) (by simp [results, Try.results21, go_sem, t1, t9, x1]) rfl ⟨by rw [hq.out], below_setRow x3.out (by omega) _⟩
  · have hd : (N == r.p) = false := by simpa using h
    have hv : r.c = C := by rw [← hC]; simp [rungV, hN, h]
    clear h hC
    replace hv := hide hv
    go_wp2
    clear hN hd n0 n1 m0
    go_loopw [5] (fun i wr => ∃ (k : Nat) (z : Int), k ≤ 5 ∧ i = .int .i64 k ∧ Hid (Upto C (l * 1024 % 4294967296) 10 (10 + k) z) ∧ Hid (Way w { r with n := N, c := z } wr)) (fun i _ => 5 - (intOf i).toNat)
    case atStart => exact ⟨0, _, by omega, rfl, hide (by rw [hv.out]; exact Upto.start hc.out _ _), hide (Way.start w _)⟩
    case round =>
      obtain ⟨k, z, hk, rfl, hz, hW⟩ := hrel
      by_cases hlt : k < 5
      · have h1 : (k : Int) < 8 := by omega
        have c0 := hW.out.1.cell 7
        have c1 := frozen_rowAt wr w.heap.size 7 hW.out.1.1
        have hn := hz.out.next (by omega) (by omega) (by omega)
        have mb := fun W => rbit_any hl.out (n := (k : Int)) (by omega) (by omega) W
        have hb : bit (l * 1024 % 4294967296) (10 + (k : Int)).toNat = bit l k := by
          have := bit_shl hl.out 10 k (by omega)
          rw [show (10 + (k : Int)).toNat = 10 + k by omega]
          exact this
        rw [hb] at hn
        rw [show (k : Int).toNat = k by omega] at mb
        obtain ⟨b, hb'⟩ : ∃ b, bit l k = b := ⟨_, rfl⟩
        rw [hb'] at hn mb
        clear hb hb'
        obtain ⟨z', hz'⟩ : ∃ z', withV z (10 + (k : Int)).toNat b = z' := ⟨_, rfl⟩
        have hwr : IntKind.i64.wrap (10 + (k : Int)) = 10 + (k : Int) := by simp [IntKind.wrap, IntKind.bits, IntKind.signed]; omega
        have mw := fun W => rwith_any (r := withV z (10 + (k : Int)).toNat b) hz.out.1 hn.1 (n := IntKind.i64.wrap (10 + (k : Int))) (by rw [hwr]; omega) (by rw [hwr]; omega) b (by rw [hwr]; exact bit_with _ _ _ (by omega)) W
        rw [hz'] at mw hn
        clear hz' hz hwr
        have hn' := hide hn
        have hW' := hide (hW.out.put z')
        have mb' := hide mb
        have mw' := hide mw
        clear hn mb mw hW
        go_wp2_with fail
        go_region_with (first
          | (go_at_call 30; refine (mb'.out _).mono ?_; rintro e w' ⟨rfl, rfl⟩)
          | (go_at_call 28; refine (mw'.out _).mono ?_; rintro e w' ⟨rfl, rfl⟩))
        all_goals
          go_wp2
          go_roundw
          case rel => exact ⟨k + 1, z', by omega, by go_num, hide (by have := hn'.out; rwa [Int.add_assoc] at this), hW'⟩
          case measure => simp [intOf]; omega
      · have hx : k = 5 := by omega
        subst hx
        have hq : z = mixV C (l * 1024 % 4294967296) 31744 := bit_ext hz.out.1 (mix_w (w_of _ (by omega) (by omega))) fun i hi => by
          rw [hz.out.2 i hi, mix_range (f := 10) (t := 14) (w_of _ (by omega) (by omega)) (by decide +kernel) i hi]
          have e : ((i : Int) < 10 + ((5 : Nat) : Int)) ↔ ((i : Int) ≤ 14) := by omega
          simp only [e]
        replace hq := hide hq
        have l1 := hW.out.1.load
        have x1 := hW.out.2.1.1
        have x2 := hW.out.2.1.2.1
        have x3 := hide hW.out.2.2
        clear hW hz
        go_wp2
        refine bodyPost_ret (v := .agg (cellsR { r with n := N, c := z })) (by simp [results, Try.results21, go_sem, t1, t9, x1]) rfl ⟨by rw [hq.out], below_setRow x3.out (by omega) _⟩

end Go.Proofs.Ytjpfggffeffapaa
