/- Layer 15: the law's fixed calls. -/
import Derived.Test.YtnbflahggpehpabQOpAll
import Derived.Test.YtnbflahggpehpabQOpSame
namespace Go.Proofs.Ytnbflahggpehpab.Ir
open Go.RowKit
set_option linter.unusedVariables false
set_option maxRecDepth 100000
set_option linter.unusedSimpArgs false

def fxA : Mi := ⟨1, 1, 0, 0, 5, 0⟩
def fxB : Mi := ⟨3, 2, 1, 1, 0, 0⟩
def fxC : Mi := ⟨1, 2, 0, 0, 10, 0⟩
def fxD : Mi := ⟨1, 1, 0, 0, 6, 0⟩
def fxE : Mi := ⟨2, 2, 1, 0, 0, 0⟩
def fxF : Mi := ⟨3, 3, 2, 2, 0, 0⟩
def fxG : Mi := ⟨3, 3, 1, 1, 0, 0⟩

theorem fixed_fold : foldV [fxA, fxB] = [fxA, fxC] := by decide +kernel
theorem fixed_dead : deadV [fxA, fxD] = [fxD] := by decide +kernel
theorem fixed_copy : copyV [fxE, fxF] = [fxE, fxG] := by decide +kernel

theorem words2 (a b : Mi) (ha : Cp.W32 a.m) (hb : Cp.W32 b.m) : WordsM [a, b] := fun i m h => by
  match i, h with
  | 0, h => obtain rfl : a = m := by simpa using h
            exact ha
  | 1, h => obtain rfl : b = m := by simpa using h
            exact hb
  | i + 2, h => simp at h

theorem five_any (w : World) : Calls Try.prog 20 #[] w fun e w' => e = .returned (.agg (cellsM fxA)) ∧ Below w.heap.size w w' := by
  go_enter Try.func20, Try.ntmps20
  go_wp2
  refine bodyPost_ret (v := .agg (cellsM fxA)) (by simp [results, Try.results20, go_sem, cellsM, fxA]) rfl ⟨rfl, grow _ _⟩

theorem Box.six' {w : World} {b : Nat} (h : Box w b #[.int .i64 1, .int .i64 1, .int .i64 0, .int .i64 0, .int .u32 5, .int .i64 0]) : w.cell? ⟨b, 0, none⟩ = some (.int .i64 1) ∧ w.cell? ⟨b, 1, none⟩ = some (.int .i64 1) ∧ w.cell? ⟨b, 2, none⟩ = some (.int .i64 0) ∧ w.cell? ⟨b, 3, none⟩ = some (.int .i64 0) ∧
    w.cell? ⟨b, 4, none⟩ = some (.int .u32 5) ∧ w.cell? ⟨b, 5, none⟩ = some (.int .i64 0) :=
  ⟨h.cell 0, h.cell 1, h.cell 2, h.cell 3, h.cell 4, h.cell 5⟩

set_option maxHeartbeats 4000000 in
theorem fixed_any (w : World) : Calls Try.prog 9 #[] w fun e w' => e = .returned (.bool true) ∧ Below w.heap.size w w' := by
  obtain ⟨r1, r2, r3, r4, r5, r6, r7, r8, r9⟩ := rowRules
  obtain ⟨s1, s2, s3, s4, s5, s6, s7, s8, s9, s10⟩ := irSizes
  obtain ⟨q1, q2, q3, q4, q5, q6⟩ := irWhole
  clear s1 s2 s5 s7 q1 q2 q3
  go_enter Try.func9, Try.ntmps9
  go_wp2_with fail
  refine (five_any _).mono ?_
  rintro e w1 ⟨rfl, h1⟩
  replace h1 := hide h1
  unfold cellsM fxA
  have x1 := Box.new w1 #[.int .i64 1, .int .i64 1, .int .i64 0, .int .i64 0, .int .u32 5, .int .i64 0] 32
  have b1 := onto h1.out (Nat.le_refl _) (grow w1 (.cells #[.int .i64 1, .int .i64 1, .int .i64 0, .int .i64 0, .int .u32 5, .int .i64 0] 32))
  have g2 := grow (w1.alloc (.cells #[.int .i64 1, .int .i64 1, .int .i64 0, .int .i64 0, .int .u32 5, .int .i64 0] 32)) (.cells #[.int .i64 1, .int .i64 1, .int .i64 0, .int .i64 0, .int .u32 5, .int .i64 0, .int .i64 3, .int .i64 2, .int .i64 1, .int .i64 1, .int .u32 0, .int .i64 0] 32)
  have o2 := ops_new (w1.alloc (.cells #[.int .i64 1, .int .i64 1, .int .i64 0, .int .i64 0, .int .u32 5, .int .i64 0] 32)) [fxA, fxB] (by decide) #[.int .i64 1, .int .i64 1, .int .i64 0, .int .i64 0, .int .u32 5, .int .i64 0, .int .i64 3, .int .i64 2, .int .i64 1, .int .i64 1, .int .u32 0, .int .i64 0] rfl 2 rfl
  have cf := hide (fold_any o2 (by decide) (words2 _ _ ⟨by decide, by decide⟩ ⟨by decide, by decide⟩))
  rw [fixed_fold, World.size_alloc] at cf
  replace x1 := hide (x1.on g2)
  replace b1 := hide (onto b1 (Nat.le_refl _) g2)
  clear o2 g2 h1
  go_wp2_with fail
  generalize w1.heap.size = L1 at *
  generalize World.alloc (World.alloc w1 _) _ = W2 at *
  refine cf.out.mono ?_
  rintro e W3 ⟨vf, rfl, hof, h3⟩
  have of := ops_of_own (l := [fxA, fxC]) hof
  have x3 := x1.out.on h3
  have b3 := onto b1.out (Nat.le_refl _) h3
  have g4 := grow W3 (.cells #[.int .i64 1, .int .i64 1, .int .i64 0, .int .i64 0, .int .u32 5, .int .i64 0, .int .i64 1, .int .i64 1, .int .i64 0, .int .i64 0, .int .u32 6, .int .i64 0] 32)
  have o4 := ops_new W3 [fxA, fxD] (by decide) #[.int .i64 1, .int .i64 1, .int .i64 0, .int .i64 0, .int .u32 5, .int .i64 0, .int .i64 1, .int .i64 1, .int .i64 0, .int .i64 0, .int .u32 6, .int .i64 0] rfl 2 rfl
  have cd := hide (dead_any o4 (by decide))
  rw [fixed_dead] at cd
  obtain ⟨y0, y1, y2, y3, y4, y5⟩ := x3.six'
  replace x3 := hide (x3.on g4)
  replace b3 := hide (onto b3 (Nat.le_refl _) g4)
  replace of := hide (of.on g4)
  clear o4 g4 cf x1 b1 hof h3
  go_wp2_with fail
  generalize World.alloc W3 _ = W4 at *
  refine cd.out.mono ?_
  rintro e W5 ⟨vd, rfl, hod, h5⟩
  have od := ops_of_own (l := [fxD]) hod
  have x5 := x3.out.on h5
  have b5 := onto b3.out (Nat.le_refl _) h5
  have of5 := of.out.on h5
  have g6 := grow W5 (.cells #[.int .i64 2, .int .i64 2, .int .i64 1, .int .i64 0, .int .u32 0, .int .i64 0, .int .i64 3, .int .i64 3, .int .i64 2, .int .i64 2, .int .u32 0, .int .i64 0] 32)
  have o6 := ops_new W5 [fxE, fxF] (by decide) #[.int .i64 2, .int .i64 2, .int .i64 1, .int .i64 0, .int .u32 0, .int .i64 0, .int .i64 3, .int .i64 3, .int .i64 2, .int .i64 2, .int .u32 0, .int .i64 0] rfl 2 rfl
  have cc := hide (copy_any o6 (by decide))
  rw [fixed_copy] at cc
  replace x5 := hide (x5.on g6)
  replace b5 := hide (onto b5 (Nat.le_refl _) g6)
  replace of5 := hide (of5.on g6)
  replace od := hide (od.on g6)
  clear o6 g6 cd x3 b3 of hod h5 y0 y1 y2 y3 y4 y5
  go_wp2_with fail
  generalize World.alloc W5 _ = W6 at *
  refine cc.out.mono ?_
  rintro e W7 ⟨vc, rfl, hoc, h7⟩
  have oc := ops_of_own (l := [fxE, fxG]) hoc
  have x7 := x5.out.on h7
  have b7 := onto b5.out (Nat.le_refl _) h7
  have of7 := of5.out.on h7
  have od7 := od.out.on h7
  have g8 := grow W7 (.cells #[.int .i64 1, .int .i64 1, .int .i64 0, .int .i64 0, .int .u32 5, .int .i64 0, .int .i64 1, .int .i64 2, .int .i64 0, .int .i64 0, .int .u32 10, .int .i64 0] 32)
  have o8 := ops_new W7 [fxA, fxC] (by decide) #[.int .i64 1, .int .i64 1, .int .i64 0, .int .i64 0, .int .u32 5, .int .i64 0, .int .i64 1, .int .i64 2, .int .i64 0, .int .i64 0, .int .u32 10, .int .i64 0] rfl 2 rfl
  have cs := hide (rsame_any (of7.on g8) o8)
  rw [show decide ([fxA, fxC] = [fxA, fxC]) = true by simp] at cs
  obtain ⟨y0, y1, y2, y3, y4, y5⟩ := x7.six'
  replace b7 := hide (onto b7 (Nat.le_refl _) g8)
  replace od7 := hide (od7.on g8)
  replace oc := hide (oc.on g8)
  clear o8 g8 cc x5 b5 of5 od hoc h7 of7 x7
  go_wp2_with fail
  generalize World.alloc W7 _ = W8 at *
  refine cs.out.mono ?_
  rintro e W9 ⟨rfl, h9⟩
  have b9 := onto b7.out (Nat.le_refl _) h9
  have od9 := od7.out.on h9
  have oc9 := oc.out.on h9
  have g10 := grow W9 (.cells #[.int .i64 1, .int .i64 1, .int .i64 0, .int .i64 0, .int .u32 6, .int .i64 0] 32)
  have o10 := ops_new W9 [fxD] (by decide) #[.int .i64 1, .int .i64 1, .int .i64 0, .int .i64 0, .int .u32 6, .int .i64 0] rfl 1 rfl
  have ct := hide (rsame_any (od9.on g10) o10)
  rw [show decide ([fxD] = [fxD]) = true by simp] at ct
  replace b9 := hide (onto b9 (Nat.le_refl _) g10)
  replace oc9 := hide (oc9.on g10)
  clear o10 g10 cs b7 od7 oc h9 od9 y0 y1 y2 y3 y4 y5
  go_wp2_with fail
  generalize World.alloc W9 _ = W10 at *
  refine ct.out.mono ?_
  rintro e W11 ⟨rfl, h11⟩
  have b11 := onto b9.out (Nat.le_refl _) h11
  have oc11 := oc9.out.on h11
  have g12 := grow W11 (.cells #[.int .i64 2, .int .i64 2, .int .i64 1, .int .i64 0, .int .u32 0, .int .i64 0, .int .i64 3, .int .i64 3, .int .i64 1, .int .i64 1, .int .u32 0, .int .i64 0] 32)
  have o12 := ops_new W11 [fxE, fxG] (by decide) #[.int .i64 2, .int .i64 2, .int .i64 1, .int .i64 0, .int .u32 0, .int .i64 0, .int .i64 3, .int .i64 3, .int .i64 1, .int .i64 1, .int .u32 0, .int .i64 0] rfl 2 rfl
  have cu := hide (rsame_any (oc11.on g12) o12)
  rw [show decide ([fxE, fxG] = [fxE, fxG]) = true by simp] at cu
  replace b11 := hide (onto b11 (Nat.le_refl _) g12)
  clear o12 g12 ct b9 oc9 h11 oc11
  go_wp2_with fail
  generalize World.alloc W11 _ = W12 at *
  refine cu.out.mono ?_
  rintro e W13 ⟨rfl, h13⟩
  have b13 := hide (onto b11.out (Nat.le_refl _) h13)
  clear cu b11 h13
  go_wp2
  go_ret
  exact ⟨rfl, b13.out⟩

end Go.Proofs.Ytnbflahggpehpab.Ir
