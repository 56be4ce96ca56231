/- Layer 13: did the step write Count? -/
import Derived.Test.YthjcijlabpinkaaGreatDoorRCuBegan
import Derived.Deep.RegionHeld3
namespace Go.Proofs.YthjcijlabpinkaaGreatDoor
open Go.RowKit
set_option linter.unusedVariables false
set_option maxRecDepth 100000
set_option linter.unusedSimpArgs false

theorem dec_t {X : Int} (hX : Cp.W32 X) (he : (decV X).e = 0) : ∃ t : Nat, t < 32 ∧ (decV X).t = (t : Int) := by
  rcases decV_told X hX with ⟨op, h1, h2, h3, h4, h5, -⟩ | ⟨-, -, -, -, -, -, -, h⟩
  · exact ⟨De.Dec.dt op X.toNat, Nat.mod_lt _ (by decide), h5⟩
  · rw [h] at he; cases he

set_option maxHeartbeats 4000000 in
set_option maxRecDepth 100000 in
theorem counted_any {x : World} {b p g n cp : Nat} {v : Dv} {B : Nat → Nat} {D : Nat → Bool} (hB : Bus x b p g n cp v B D) (tb : De.Tabs x) {c c' : Cs} (hc : Wc c) (A : Int) (F : Bool) (I : Ins) (hw : whereV c c.pc false = (A, -1, F)) (hA : Cp.W32 A) (hm : mayI n A 4) (hI : decV (memX n B A 4) = I) (hX : Cp.W32 (memX n B A 4))
    (he : I.e = 0) (ho : I.o = 54) (hd : I.d = 9) (t : Nat) (ht : t < 32) (hT : I.t = (t : Int)) (hn : c'.C.n = c.R t) :
    Calls Tryz.prog 34 #[.pointer (some ⟨b, 0, none⟩), .agg (cellsC c), .agg (cellsC c')] x fun e w' => e = .returned (.bool true) ∧ Below x.heap.size x w' := by
  obtain ⟨z1, z2, z3, z4, z5, z6, z7, z8, z9, z10, z11, z12, z13, z14, z15⟩ := cSizes
  obtain ⟨t1, t2, t3, t4, t5, t6, t7, t8, t9⟩ := rowRules
  obtain ⟨f1, f2, f3, f4, f5, f6, f7, f8, f9⟩ := cWhole
  obtain ⟨zi1, zi2, zi3, zi4, zi5, zi6, zi7, zi8, zi9, zi10, zi11⟩ := insRules
  have cw : Hid (∀ y, Box y x.heap.size (cellsC c) → Calls Tryz.prog 9 #[.pointer (some ⟨x.heap.size, 0, none⟩), .int .u32 c.pc, .bool false] y fun e w' => e = .returned (.tuple #[.int .u32 A, .int .i64 (-1), .bool F]) ∧ Below y.heap.size y w') := hide fun y hy => by
    have := where_any hy hc c.pc hc.pc false
    rw [hw] at this
    exact this
  have g1 := grow x (.cells (cellsC c) 31)
  have g2 := grow (x.alloc (.cells (cellsC c) 31)) (.cells (cellsC c') 31)
  have B2 := hide ((hB.on g1).on g2)
  have T2 := hide ((tb.on g1).on g2)
  have X1 := hide ((Box.new x (cellsC c) 31).on g2)
  have X2 := hide (Box.new (x.alloc (.cells (cellsC c) 31)) (cellsC c') 31)
  rw [show (x.alloc (.cells (cellsC c) 31)).heap.size = x.heap.size + 1 by simp] at X2
  have fin := hide (onto g1 (Nat.le_refl _) g2)
  clear g1 g2 hw tb hB
  have p0 : (cellsC c)[0]? = some (.int .u32 c.pc) := rfl
  go_enter Tryz.func34, Tryz.ntmps34
  have l0 : ((x.alloc (.cells (cellsC c) 31)).alloc (.cells (cellsC c') 31)).cell? ⟨x.heap.size, 0, none⟩ = some (.int .u32 c.pc) := by rw [X1.out.cell]; exact p0
  go_wp2_with fail
  generalize (x.alloc (.cells (cellsC c) 31)).alloc (.cells (cellsC c') 31) = x2 at *
  refine (cw.out _ X1.out).mono ?_
  rintro e x3 ⟨rfl, b3⟩
  replace B2 := hide (B2.out.on b3)
  replace T2 := hide (T2.out.on b3)
  replace X1 := hide (X1.out.on b3)
  replace X2 := hide (X2.out.on b3)
  replace fin := hide (onto fin.out (Nat.le_refl _) b3)
  clear b3 cw l0
  go_wp2_with fail
  refine (peek_is B2.out A hA.1 hA.2).mono ?_
  rintro e x4 ⟨rfl, rfl⟩
  rw [show decide (mayI n A 4) = true from decide_eq_true hm]
  have cd := hide (decode_fn _ hX x4 T2.out)
  rw [hI] at cd
  clear hI hX hm hA
  generalize memX n B A 4 = XX at *
  go_wp2_with fail
  refine cd.out.mono ?_
  rintro e x5 ⟨rfl, b5⟩
  replace X1 := hide (X1.out.on b5)
  replace X2 := hide (X2.out.on b5)
  replace fin := hide (onto fin.out (Nat.le_refl _) b5)
  clear b5 cd B2 T2
  have g6 := grow x5 (.cells (cellsI I) 73)
  have XI := Box.new x5 (cellsI I) 73
  replace X1 := X1.out.on g6
  replace X2 := X2.out.on g6
  replace fin := hide (onto fin.out (Nat.le_refl _) g6)
  have i0 : (x5.alloc (.cells (cellsI I) 73)).cell? ⟨x5.heap.size, 0, none⟩ = some (.int .i64 54) := by rw [XI.cell, ← ho]; rfl
  have i3 : (x5.alloc (.cells (cellsI I) 73)).cell? ⟨x5.heap.size, 3, none⟩ = some (.int .i64 9) := by rw [XI.cell, ← hd]; rfl
  have i2 : (x5.alloc (.cells (cellsI I) 73)).cell? ⟨x5.heap.size, 2, none⟩ = some (.int .i64 (t : Int)) := by rw [XI.cell, ← hT]; rfl
  have n41 : (x5.alloc (.cells (cellsI I) 73)).cell? ⟨x.heap.size + 1, 41, none⟩ = some (.int .u32 (c.R t)) := by rw [X2.cell, ← hn]; rfl
  have r41 : (x5.alloc (.cells (cellsI I) 73)).cell? ⟨x.heap.size, 3 + t, none⟩ = some (.int .u32 (c.R t)) := by rw [X1.cell]; exact get_R c t ht
  have h0 : (0 : Int) ≤ (t : Int) := by omega
  have h32 : (t : Int) < 32 := by omega
  rw [he]
  clear XI g6 X1 X2 ho hd hT hn he
  go_wp2_with fail
  generalize x5.heap.size = LI at *
  generalize x5.alloc (.cells (cellsI I) 73) = x6 at *
  have S0 : x6.drew.cell? ⟨LI, 0, none⟩ = some (.int .i64 54) ∧ x6.drew.cell? ⟨LI, 3, none⟩ = some (.int .i64 9) ∧ x6.drew.cell? ⟨LI, 2, none⟩ = some (.int .i64 (t : Int)) ∧ x6.drew.cell? ⟨x.heap.size + 1, 41, none⟩ = some (.int .u32 (c.R t)) ∧ x6.drew.cell? ⟨x.heap.size, 3 + t, none⟩ = some (.int .u32 (c.R t)) ∧ Below x.heap.size x x6.drew := ⟨i0, i3, i2, n41, r41, fin.out.drew⟩
  clear t1 t2 t3 t4 t5 t6 t7 t8 t9 f1 f2 f3 f4 f5 f6 f7 f8 f9 z1 z2 z3 z4 z5 z6 z7 z8 z9 z10 z11 z12 z14 z15 zi1 zi2 zi3 zi4 zi6 zi7 zi8 zi9 zi10 zi11 i0 i3 i2 n41 r41 p0
  generalize c.R t = RT at *
  go_region_held3 (fun y => y.cell? ⟨LI, 0, none⟩ = some (.int .i64 54) ∧ y.cell? ⟨LI, 3, none⟩ = some (.int .i64 9) ∧ y.cell? ⟨LI, 2, none⟩ = some (.int .i64 (t : Int)) ∧ y.cell? ⟨x.heap.size + 1, 41, none⟩ = some (.int .u32 RT) ∧ y.cell? ⟨x.heap.size, 3 + t, none⟩ = some (.int .u32 RT) ∧ Below x.heap.size x y)
    (first | exact S0 | assumption)
    (fail)
  go_wp2
  go_ret
  exact ⟨rfl, S0.2.2.2.2.2⟩

end Go.Proofs.YthjcijlabpinkaaGreatDoor
