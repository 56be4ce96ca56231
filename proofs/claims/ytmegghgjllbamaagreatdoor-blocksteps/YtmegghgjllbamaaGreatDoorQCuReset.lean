/- Layer 13: Reset, the program's and the document's. -/
import Derived.Test.YtmegghgjllbamaaGreatDoorQCuOne
import Derived.Laws.Tables
namespace Go.Proofs.YtmegghgjllbamaaGreatDoor
open Go.RowKit
set_option linter.unusedVariables false
set_option maxRecDepth 100000
set_option linter.unusedSimpArgs false

/-- The beginning. -/
def C0 : Cs := gone CZ 2147484160

theorem C0_w : Wc C0 := by
  refine ⟨⟨by decide, by decide⟩, ⟨by decide, by decide⟩, fun k => ⟨by show (0 : Int) ≤ 0; decide, by show (0 : Int) < 4294967296; decide⟩, ⟨by decide, by decide⟩, ⟨by decide, by decide⟩, ?_, fun k => ?_⟩
  · exact ⟨⟨by decide, by decide⟩, ⟨by decide, by decide⟩, ⟨by decide, by decide⟩, ⟨by decide, by decide⟩, ⟨by decide, by decide⟩, ⟨by decide, by decide⟩, ⟨by decide, by decide⟩, ⟨by decide, by decide⟩, ⟨by decide, by decide⟩⟩
  · exact ⟨by show (0 : Int) ≤ 0; decide, by show (0 : Int) < 4294967296; decide⟩

theorem reset_any (w : World) : Calls Tryz.prog 8 #[] w fun e w' => e = .returned (.agg (cellsC C0)) ∧ Below w.heap.size w w' := by
  obtain ⟨z1, z2, z3, z4, z5, z6, z7, z8, z9, z10, z11, z12, z13, z14, z15⟩ := cSizes
  obtain ⟨t1, t2, t3, t4, t5, t6, t7, t8, t9⟩ := rowRules
  obtain ⟨f1, f2, f3, f4, f5, f6, f7, f8, f9⟩ := cWhole
  obtain ⟨C, hC⟩ : ∃ C, C0 = C := ⟨_, rfl⟩
  rw [hC]
  go_enter Tryz.func8, Tryz.ntmps8
  go_wp2_with fail
  have A1 := Box.new (w.alloc (.cells (cellsC CZ) 40)) (cellsC CZ) 40
  have A0 := (Box.new w (cellsC CZ) 40).on (grow _ (.cells (cellsC CZ) 40))
  have L := (grow w (.cells (cellsC CZ) 40)).alloc (by simp) (.cells (cellsC CZ) 40)
  rw [show (w.alloc (.cells (cellsC CZ) 40)).heap.size = w.heap.size + 1 by simp] at A1
  generalize (w.alloc (.cells (cellsC CZ) 40)).alloc (.cells (cellsC CZ) 40) = x1 at *
  refine (goTo_any A1 2147484160 ⟨by decide, by decide⟩).mono ?_
  rintro e w' ⟨rfl, rfl⟩
  replace A1 := A1.set (cellsC C0)
  replace A0 := A0.far (w.heap.size + 1) (cellsC C0) (by omega)
  replace L := below_setRow (g := w.heap.size + 1) L (by omega) (cellsC C0)
  rw [show gone CZ 2147484160 = C0 from rfl]
  rw [hC] at *
  generalize x1.setRow (w.heap.size + 1) (cellsC C) = x2 at *
  have fin := hide (fun c : Array Value => below_setRow (g := w.heap.size) L (Nat.le_refl _) c)
  obtain ⟨r1, r2, r3⟩ := A1
  obtain ⟨q1, q2, q3⟩ := A0
  clear L hC
  go_wp2
  exact bodyPost_ret (v := .agg (cellsC C)) (by simp [results, Tryz.results8, go_sem, z1, z7, z13, t1, t3, f3, f6, f9, q1, q2]) rfl ⟨rfl, fin.out _⟩

end Go.Proofs.YtmegghgjllbamaaGreatDoor
