/- Layer 13: contract of the program's manage. -/
import Derived.Test.YtmegghgjllbamaaGreatDoorQCuThr
import Derived.RegionTactic
namespace Go.Proofs.YtmegghgjllbamaaGreatDoor
open Go.RowKit
set_option linter.unusedVariables false
set_option maxRecDepth 100000
set_option linter.unusedSimpArgs false

set_option maxHeartbeats 4000000 in
theorem man53 {w : World} {b : Nat} {c : Cs} (h : Box w b (cellsC c)) (hc : Wc c) (s t d a : Nat) (i e : Int) (hs : s < 32) (ht : t < 32) (hd : d < 32) :
    Calls Tryz.prog 60 #[.pointer (some ⟨b, 0, none⟩), .agg #[.int .i64 53, .int .i64 (s : Int), .int .i64 (t : Int), .int .i64 (d : Int), .int .i64 (a : Int), .int .i64 i]] w fun r w' =>
      r = .returned (.tuple #[]) ∧ Box w' b (cellsC (mgV c ⟨53, s, t, d, a, i, e⟩)) ∧ Kept [b] w w' := by
  obtain ⟨t1, t2, t3, t4, t5, t6, t7, t8, t9⟩ := rowRules
  obtain ⟨z1, z2, z3, z4, z5, z6, z7, z8, z9, z10, z11, z12, z13, z14, z15⟩ := cSizes
  obtain ⟨f1, f2, f3, f4, f5, f6, f7, f8, f9⟩ := cWhole
  obtain ⟨p0, p1, p2, p3, p4, p5, p6, p7, p8, p9⟩ := cParts
  obtain ⟨s0, s1, s2, s3, s4, s5, s6, s7, s8, s9⟩ := cSets
  obtain ⟨k1, k2, k3, k4, k5, k6⟩ := stRules b
  have hI := hc.C.i
  have a7 : bits .and .u32 c.C.i 7 = ((slotV c : Nat) : Int) := by
    have e := Wo.and_mask c.C.i 3 hI.1 hI.2 (by omega)
    unfold slotV
    rw [show (2 : Int) ^ 3 - 1 = 7 by rfl, show (2 : Int) ^ 3 = 8 by rfl] at e
    rw [e]; omega
  have hk : slotV c < 8 := by unfold slotV; omega
  have kk0 : (0 : Int) ≤ ((slotV c : Nat) : Int) := by omega
  have kk : ((slotV c : Nat) : Int) < 8 := by omega
  have g := hide (h.grown (.cells #[.int .i64 53, .int .i64 (s : Int), .int .i64 (t : Int), .int .i64 (d : Int), .int .i64 (a : Int), .int .i64 i] 73))
  have kg := hide (Kept.of (l := [b]) (grow w (.cells #[.int .i64 53, .int .i64 (s : Int), .int .i64 (t : Int), .int .i64 (d : Int), .int .i64 (a : Int), .int .i64 i] 73)))
  have Lb := hide (Box.new w #[.int .i64 53, .int .i64 (s : Int), .int .i64 (t : Int), .int .i64 (d : Int), .int .i64 (a : Int), .int .i64 i] 73)
  obtain ⟨r1, r2, r3, r4, r5⟩ := h.cells
  replace h := hide h
  have ti0 : (0 : Int) ≤ (t : Int) := by omega
  have ti : (t : Int) < 32 := by omega
  have di0 : (0 : Int) ≤ (d : Int) := by omega
  have di : (d : Int) < 32 := by omega
  obtain ⟨i0, i1⟩ := hI
  replace hc := hide hc
  go_enter Tryz.func60, Tryz.ntmps60
  go_wp2_with fail
  have ld38 := g.out.drew.loads (d := Cp.cellsR c.C) 38 Cp.N9 rfl rfl
  have ld47 := g.out.drew.loads (d := Tl.cellsT c.T) 47 Tl.N16 rfl rfl
  go_region_with (first
    | (go_at_call 93; refine (Cp.read_any c.C d _).mono ?_; rintro r w1 ⟨rfl, b1⟩; have L1 := Lb.out.drew.on b1; have B1 := hide (g.out.drew.on b1); have K1 := hide (kg.out.drew.trans (Kept.of b1)); obtain ⟨q1, q2, q3, q4, q5⟩ := L1.cells; clear b1)
    | (go_at_call 57; refine (putReg_any B1.out t ht _).mono ?_; rintro r w2 ⟨rfl, hw⟩; have B2 : Hid (Box w2 b (cellsC (putC c t (Cp.readV c.C d)))) := (by rw [hw]; exact hide (B1.out.set _)); have K2 : Hid (Kept [b] w w2) := (by rw [hw]; exact hide (K1.out.row _)); clear hw))
  all_goals
    go_wp2
    go_end0
    exact ⟨rfl, B2.out, K2.out⟩

set_option maxHeartbeats 4000000 in
theorem man54 {w : World} {b : Nat} {c : Cs} (h : Box w b (cellsC c)) (hc : Wc c) (s t d a : Nat) (i e : Int) (hs : s < 32) (ht : t < 32) (hd : d < 32) :
    Calls Tryz.prog 60 #[.pointer (some ⟨b, 0, none⟩), .agg #[.int .i64 54, .int .i64 (s : Int), .int .i64 (t : Int), .int .i64 (d : Int), .int .i64 (a : Int), .int .i64 i]] w fun r w' =>
      r = .returned (.tuple #[]) ∧ Box w' b (cellsC (mgV c ⟨54, s, t, d, a, i, e⟩)) ∧ Kept [b] w w' := by
  obtain ⟨t1, t2, t3, t4, t5, t6, t7, t8, t9⟩ := rowRules
  obtain ⟨z1, z2, z3, z4, z5, z6, z7, z8, z9, z10, z11, z12, z13, z14, z15⟩ := cSizes
  obtain ⟨f1, f2, f3, f4, f5, f6, f7, f8, f9⟩ := cWhole
  obtain ⟨p0, p1, p2, p3, p4, p5, p6, p7, p8, p9⟩ := cParts
  obtain ⟨s0, s1, s2, s3, s4, s5, s6, s7, s8, s9⟩ := cSets
  obtain ⟨k1, k2, k3, k4, k5, k6⟩ := stRules b
  have hI := hc.C.i
  have a7 : bits .and .u32 c.C.i 7 = ((slotV c : Nat) : Int) := by
    have e := Wo.and_mask c.C.i 3 hI.1 hI.2 (by omega)
    unfold slotV
    rw [show (2 : Int) ^ 3 - 1 = 7 by rfl, show (2 : Int) ^ 3 = 8 by rfl] at e
    rw [e]; omega
  have hk : slotV c < 8 := by unfold slotV; omega
  have kk0 : (0 : Int) ≤ ((slotV c : Nat) : Int) := by omega
  have kk : ((slotV c : Nat) : Int) < 8 := by omega
  have g := hide (h.grown (.cells #[.int .i64 54, .int .i64 (s : Int), .int .i64 (t : Int), .int .i64 (d : Int), .int .i64 (a : Int), .int .i64 i] 73))
  have kg := hide (Kept.of (l := [b]) (grow w (.cells #[.int .i64 54, .int .i64 (s : Int), .int .i64 (t : Int), .int .i64 (d : Int), .int .i64 (a : Int), .int .i64 i] 73)))
  have Lb := hide (Box.new w #[.int .i64 54, .int .i64 (s : Int), .int .i64 (t : Int), .int .i64 (d : Int), .int .i64 (a : Int), .int .i64 i] 73)
  obtain ⟨r1, r2, r3, r4, r5⟩ := h.cells
  replace h := hide h
  have ti0 : (0 : Int) ≤ (t : Int) := by omega
  have ti : (t : Int) < 32 := by omega
  have di0 : (0 : Int) ≤ (d : Int) := by omega
  have di : (d : Int) < 32 := by omega
  obtain ⟨i0, i1⟩ := hI
  have cw := hide (Cp.write_any hc.C (d : Int) (hc.R t))
  replace hc := hide hc
  go_enter Tryz.func60, Tryz.ntmps60
  go_wp2_with fail
  have ld38 := g.out.drew.loads (d := Cp.cellsR c.C) 38 Cp.N9 rfl rfl
  have ld47 := g.out.drew.loads (d := Tl.cellsT c.T) 47 Tl.N16 rfl rfl
  go_region_with (first
    | (go_at_call 94; refine (cw.out _).mono ?_; rintro r w1 ⟨rfl, b1⟩; have B1 := hide (g.out.drew.on b1); have K1 := hide (kg.out.drew.trans (Kept.of b1)); obtain ⟨q1, q2, q3, q4, q5⟩ := B1.out.cells; clear b1))
  all_goals
    go_wp2
    go_end0
    exact ⟨rfl, B1.out.set _, K1.out.row _⟩

set_option maxHeartbeats 4000000 in
theorem man56 {w : World} {b : Nat} {c : Cs} (h : Box w b (cellsC c)) (hc : Wc c) (s t d a : Nat) (i e : Int) (hs : s < 32) (ht : t < 32) (hd : d < 32) :
    Calls Tryz.prog 60 #[.pointer (some ⟨b, 0, none⟩), .agg #[.int .i64 56, .int .i64 (s : Int), .int .i64 (t : Int), .int .i64 (d : Int), .int .i64 (a : Int), .int .i64 i]] w fun r w' =>
      r = .returned (.tuple #[]) ∧ Box w' b (cellsC (mgV c ⟨56, s, t, d, a, i, e⟩)) ∧ Kept [b] w w' := by
  obtain ⟨t1, t2, t3, t4, t5, t6, t7, t8, t9⟩ := rowRules
  obtain ⟨z1, z2, z3, z4, z5, z6, z7, z8, z9, z10, z11, z12, z13, z14, z15⟩ := cSizes
  obtain ⟨f1, f2, f3, f4, f5, f6, f7, f8, f9⟩ := cWhole
  obtain ⟨p0, p1, p2, p3, p4, p5, p6, p7, p8, p9⟩ := cParts
  obtain ⟨s0, s1, s2, s3, s4, s5, s6, s7, s8, s9⟩ := cSets
  obtain ⟨k1, k2, k3, k4, k5, k6⟩ := stRules b
  have hI := hc.C.i
  have a7 : bits .and .u32 c.C.i 7 = ((slotV c : Nat) : Int) := by
    have e := Wo.and_mask c.C.i 3 hI.1 hI.2 (by omega)
    unfold slotV
    rw [show (2 : Int) ^ 3 - 1 = 7 by rfl, show (2 : Int) ^ 3 = 8 by rfl] at e
    rw [e]; omega
  have hk : slotV c < 8 := by unfold slotV; omega
  have kk0 : (0 : Int) ≤ ((slotV c : Nat) : Int) := by omega
  have kk : ((slotV c : Nat) : Int) < 8 := by omega
  have g := hide (h.grown (.cells #[.int .i64 56, .int .i64 (s : Int), .int .i64 (t : Int), .int .i64 (d : Int), .int .i64 (a : Int), .int .i64 i] 73))
  have kg := hide (Kept.of (l := [b]) (grow w (.cells #[.int .i64 56, .int .i64 (s : Int), .int .i64 (t : Int), .int .i64 (d : Int), .int .i64 (a : Int), .int .i64 i] 73)))
  have Lb := hide (Box.new w #[.int .i64 56, .int .i64 (s : Int), .int .i64 (t : Int), .int .i64 (d : Int), .int .i64 (a : Int), .int .i64 i] 73)
  obtain ⟨r1, r2, r3, r4, r5⟩ := h.cells
  replace h := hide h
  have ti0 : (0 : Int) ≤ (t : Int) := by omega
  have ti : (t : Int) < 32 := by omega
  have di0 : (0 : Int) ≤ (d : Int) := by omega
  have di : (d : Int) < 32 := by omega
  obtain ⟨i0, i1⟩ := hI
  have cw := hide (Tl.write_in c.T (slotV c) hk c.C.h c.C.l hc.C.l.1 hc.C.l.2)
  replace hc := hide hc
  go_enter Tryz.func60, Tryz.ntmps60
  go_wp2_with fail
  have ld38 := g.out.drew.loads (d := Cp.cellsR c.C) 38 Cp.N9 rfl rfl
  have ld47 := g.out.drew.loads (d := Tl.cellsT c.T) 47 Tl.N16 rfl rfl
  go_region_with (first
    | (go_at_call 96; refine (cw.out _).mono ?_; rintro r w1 ⟨rfl, b1⟩; have B1 := hide (g.out.drew.on b1); have K1 := hide (kg.out.drew.trans (Kept.of b1)); obtain ⟨q1, q2, q3, q4, q5⟩ := B1.out.cells; clear b1))
  all_goals
    go_wp2
    go_end0
    exact ⟨rfl, B1.out.set _, K1.out.row _⟩

end Go.Proofs.YtmegghgjllbamaaGreatDoor

/- Layer 13: contract of the program's manage. -/
namespace Go.Proofs.YtmegghgjllbamaaGreatDoor
open Go.RowKit
set_option linter.unusedVariables false
set_option maxRecDepth 100000
set_option linter.unusedSimpArgs false

set_option maxHeartbeats 4000000 in
theorem man55 {w : World} {b : Nat} {c : Cs} (h : Box w b (cellsC c)) (hc : Wc c) (s t d a : Nat) (i e : Int) (hs : s < 32) (ht : t < 32) (hd : d < 32) :
    Calls Tryz.prog 60 #[.pointer (some ⟨b, 0, none⟩), .agg #[.int .i64 55, .int .i64 (s : Int), .int .i64 (t : Int), .int .i64 (d : Int), .int .i64 (a : Int), .int .i64 i]] w fun r w' =>
      r = .returned (.tuple #[]) ∧ Box w' b (cellsC (mgV c ⟨55, s, t, d, a, i, e⟩)) ∧ Kept [b] w w' := by
  obtain ⟨t1, t2, t3, t4, t5, t6, t7, t8, t9⟩ := rowRules
  obtain ⟨z1, z2, z3, z4, z5, z6, z7, z8, z9, z10, z11, z12, z13, z14, z15⟩ := cSizes
  obtain ⟨f1, f2, f3, f4, f5, f6, f7, f8, f9⟩ := cWhole
  obtain ⟨p0, p1, p2, p3, p4, p5, p6, p7, p8, p9⟩ := cParts
  obtain ⟨s0, s1, s2, s3, s4, s5, s6, s7, s8, s9⟩ := cSets
  obtain ⟨k1, k2, k3, k4, k5, k6⟩ := stRules b
  have hI := hc.C.i
  have a7 : bits .and .u32 c.C.i 7 = ((slotV c : Nat) : Int) := by
    have e := Wo.and_mask c.C.i 3 hI.1 hI.2 (by omega)
    unfold slotV
    rw [show (2 : Int) ^ 3 - 1 = 7 by rfl, show (2 : Int) ^ 3 = 8 by rfl] at e
    rw [e]; omega
  have hk : slotV c < 8 := by unfold slotV; omega
  have kk0 : (0 : Int) ≤ ((slotV c : Nat) : Int) := by omega
  have kk : ((slotV c : Nat) : Int) < 8 := by omega
  have g := hide (h.grown (.cells #[.int .i64 55, .int .i64 (s : Int), .int .i64 (t : Int), .int .i64 (d : Int), .int .i64 (a : Int), .int .i64 i] 73))
  have kg := hide (Kept.of (l := [b]) (grow w (.cells #[.int .i64 55, .int .i64 (s : Int), .int .i64 (t : Int), .int .i64 (d : Int), .int .i64 (a : Int), .int .i64 i] 73)))
  have Lb := hide (Box.new w #[.int .i64 55, .int .i64 (s : Int), .int .i64 (t : Int), .int .i64 (d : Int), .int .i64 (a : Int), .int .i64 i] 73)
  obtain ⟨r1, r2, r3, r4, r5⟩ := h.cells
  replace h := hide h
  have ti0 : (0 : Int) ≤ (t : Int) := by omega
  have ti : (t : Int) < 32 := by omega
  have di0 : (0 : Int) ≤ (d : Int) := by omega
  have di : (d : Int) < 32 := by omega
  obtain ⟨i0, i1⟩ := hI
  have cw := hide (Tl.read_in c.T (slotV c) hk)
  replace hc := hide hc
  go_enter Tryz.func60, Tryz.ntmps60
  go_wp2_with fail
  refine (cw.out _).mono ?_
  rintro r w1 ⟨rfl, b1⟩
  have B1 := hide (g.out.on b1)
  have K1 := hide (kg.out.trans (Kept.of b1))
  clear r1 r2 r3 r4 r5 b1
  obtain ⟨r1, r2, r3, r4, r5⟩ := B1.out.cells
  go_wp2_with fail
  go_region
  go_wp2
  go_end0
  exact ⟨rfl, (late B1.out _ _).1.drew, K1.out.trans ((late B1.out _ _).2.drew)⟩

set_option maxHeartbeats 4000000 in
theorem man57 {w : World} {b : Nat} {c : Cs} (h : Box w b (cellsC c)) (hc : Wc c) (s t d a : Nat) (i e : Int) (hs : s < 32) (ht : t < 32) (hd : d < 32) :
    Calls Tryz.prog 60 #[.pointer (some ⟨b, 0, none⟩), .agg #[.int .i64 57, .int .i64 (s : Int), .int .i64 (t : Int), .int .i64 (d : Int), .int .i64 (a : Int), .int .i64 i]] w fun r w' =>
      r = .returned (.tuple #[]) ∧ Box w' b (cellsC (mgV c ⟨57, s, t, d, a, i, e⟩)) ∧ Kept [b] w w' := by
  obtain ⟨t1, t2, t3, t4, t5, t6, t7, t8, t9⟩ := rowRules
  obtain ⟨z1, z2, z3, z4, z5, z6, z7, z8, z9, z10, z11, z12, z13, z14, z15⟩ := cSizes
  obtain ⟨f1, f2, f3, f4, f5, f6, f7, f8, f9⟩ := cWhole
  obtain ⟨p0, p1, p2, p3, p4, p5, p6, p7, p8, p9⟩ := cParts
  obtain ⟨s0, s1, s2, s3, s4, s5, s6, s7, s8, s9⟩ := cSets
  obtain ⟨k1, k2, k3, k4, k5, k6⟩ := stRules b
  have hI := hc.C.i
  have a7 : bits .and .u32 c.C.i 7 = ((slotV c : Nat) : Int) := by
    have e := Wo.and_mask c.C.i 3 hI.1 hI.2 (by omega)
    unfold slotV
    rw [show (2 : Int) ^ 3 - 1 = 7 by rfl, show (2 : Int) ^ 3 = 8 by rfl] at e
    rw [e]; omega
  have hk : slotV c < 8 := by unfold slotV; omega
  have kk0 : (0 : Int) ≤ ((slotV c : Nat) : Int) := by omega
  have kk : ((slotV c : Nat) : Int) < 8 := by omega
  have g := hide (h.grown (.cells #[.int .i64 57, .int .i64 (s : Int), .int .i64 (t : Int), .int .i64 (d : Int), .int .i64 (a : Int), .int .i64 i] 73))
  have kg := hide (Kept.of (l := [b]) (grow w (.cells #[.int .i64 57, .int .i64 (s : Int), .int .i64 (t : Int), .int .i64 (d : Int), .int .i64 (a : Int), .int .i64 i] 73)))
  have Lb := hide (Box.new w #[.int .i64 57, .int .i64 (s : Int), .int .i64 (t : Int), .int .i64 (d : Int), .int .i64 (a : Int), .int .i64 i] 73)
  obtain ⟨r1, r2, r3, r4, r5⟩ := h.cells
  replace h := hide h
  have ti0 : (0 : Int) ≤ (t : Int) := by omega
  have ti : (t : Int) < 32 := by omega
  have di0 : (0 : Int) ≤ (d : Int) := by omega
  have di : (d : Int) < 32 := by omega
  obtain ⟨i0, i1⟩ := hI
  have cw := hide (probed_any g.out hc)
  replace hc := hide hc
  go_enter Tryz.func60, Tryz.ntmps60
  go_wp2_with fail
  refine cw.out.mono ?_
  rintro r w1 ⟨rfl, b1⟩
  have B1 := hide (g.out.on b1)
  have K1 := hide (kg.out.trans (Kept.of b1))
  clear r1 r2 r3 r4 r5 b1
  obtain ⟨r1, r2, r3, r4, r5⟩ := B1.out.cells
  go_wp2
  go_end0
  exact ⟨rfl, B1.out.set _, K1.out.row _⟩

set_option maxHeartbeats 4000000 in
theorem man58 {w : World} {b : Nat} {c : Cs} (h : Box w b (cellsC c)) (hc : Wc c) (s t d a : Nat) (i e : Int) (hs : s < 32) (ht : t < 32) (hd : d < 32) :
    Calls Tryz.prog 60 #[.pointer (some ⟨b, 0, none⟩), .agg #[.int .i64 58, .int .i64 (s : Int), .int .i64 (t : Int), .int .i64 (d : Int), .int .i64 (a : Int), .int .i64 i]] w fun r w' =>
      r = .returned (.tuple #[]) ∧ Box w' b (cellsC (mgV c ⟨58, s, t, d, a, i, e⟩)) ∧ Kept [b] w w' := by
  obtain ⟨t1, t2, t3, t4, t5, t6, t7, t8, t9⟩ := rowRules
  obtain ⟨z1, z2, z3, z4, z5, z6, z7, z8, z9, z10, z11, z12, z13, z14, z15⟩ := cSizes
  obtain ⟨f1, f2, f3, f4, f5, f6, f7, f8, f9⟩ := cWhole
  obtain ⟨p0, p1, p2, p3, p4, p5, p6, p7, p8, p9⟩ := cParts
  obtain ⟨s0, s1, s2, s3, s4, s5, s6, s7, s8, s9⟩ := cSets
  obtain ⟨k1, k2, k3, k4, k5, k6⟩ := stRules b
  have hI := hc.C.i
  have a7 : bits .and .u32 c.C.i 7 = ((slotV c : Nat) : Int) := by
    have e := Wo.and_mask c.C.i 3 hI.1 hI.2 (by omega)
    unfold slotV
    rw [show (2 : Int) ^ 3 - 1 = 7 by rfl, show (2 : Int) ^ 3 = 8 by rfl] at e
    rw [e]; omega
  have hk : slotV c < 8 := by unfold slotV; omega
  have kk0 : (0 : Int) ≤ ((slotV c : Nat) : Int) := by omega
  have kk : ((slotV c : Nat) : Int) < 8 := by omega
  have g := hide (h.grown (.cells #[.int .i64 58, .int .i64 (s : Int), .int .i64 (t : Int), .int .i64 (d : Int), .int .i64 (a : Int), .int .i64 i] 73))
  have kg := hide (Kept.of (l := [b]) (grow w (.cells #[.int .i64 58, .int .i64 (s : Int), .int .i64 (t : Int), .int .i64 (d : Int), .int .i64 (a : Int), .int .i64 i] 73)))
  have Lb := hide (Box.new w #[.int .i64 58, .int .i64 (s : Int), .int .i64 (t : Int), .int .i64 (d : Int), .int .i64 (a : Int), .int .i64 i] 73)
  obtain ⟨r1, r2, r3, r4, r5⟩ := h.cells
  replace h := hide h
  have ti0 : (0 : Int) ≤ (t : Int) := by omega
  have ti : (t : Int) < 32 := by omega
  have di0 : (0 : Int) ≤ (d : Int) := by omega
  have di : (d : Int) < 32 := by omega
  obtain ⟨i0, i1⟩ := hI
  have cw := hide (Cp.ret_any hc.C)
  replace hc := hide hc
  go_enter Tryz.func60, Tryz.ntmps60
  go_wp2_with fail
  refine (cw.out _).mono ?_
  rintro r w1 ⟨rfl, b1⟩
  have B1 := hide (g.out.on b1)
  have K1 := hide (kg.out.trans (Kept.of b1))
  clear r1 r2 r3 r4 r5 b1
  obtain ⟨r1, r2, r3, r4, r5⟩ := B1.out.cells
  go_wp2
  go_end0
  exact ⟨rfl, B1.out.set _, K1.out.row _⟩

end Go.Proofs.YtmegghgjllbamaaGreatDoor
