/- Layer 14: contracts of behind, isSound. -/
import Derived.Test.YtnbflahggpehpabQIrWalks
namespace Go.Proofs.Ytnbflahggpehpab.Ir
open Go.RowKit
set_option linter.unusedVariables false
set_option maxRecDepth 100000
set_option linter.unusedSimpArgs false

theorem meanO_w {n imm : Int} {R : Nat → Int} (hm : Cp.W32 imm) (hR : ∀ k, Cp.W32 (R k)) : Cp.W32 (meanO n imm R) := by
  unfold meanO
  exact w_ite hm (w_ite (hR _) Cp.w0)

theorem putR_w {R : Nat → Int} (hR : ∀ k, Cp.W32 (R k)) {v : Int} (hv : Cp.W32 v) (k : Nat) : ∀ j, Cp.W32 (putR R k v j) := fun j => w_ite hv (hR j)

theorem behV_w {m : Mi} {R : Nat → Int} (hm : Cp.W32 m.m) (hR : ∀ k, Cp.W32 (R k)) : ∀ k, Cp.W32 (behV m R k) := by
  unfold behV
  split
  · exact putR_w hR (valV_w _ _ _ _ (meanO_w hm hR) (meanO_w hm hR) hm) _
  · exact hR

/-- What is held in behind's region. -/
def HeldH (w : World) (m : Mi) (R : Nat → Int) (y : World) : Prop :=
  Box y w.heap.size (cellsM m) ∧ Box y (w.heap.size + 1) (cellsX R) ∧ Box y (w.heap.size + 2) (cellsX X0) ∧ Below w.heap.size w y

theorem HeldH.on {w : World} {m : Mi} {R : Nat → Int} {y z : World} (h : HeldH w m R y) (hb : Below y.heap.size y z) : HeldH w m R z :=
  ⟨h.1.on hb, h.2.1.on hb, h.2.2.1.on hb, onto h.2.2.2 (Nat.le_refl _) hb⟩

/-- What is told of it. -/
theorem HeldH.told {w : World} {m : Mi} {R : Nat → Int} {y : World} (h : HeldH w m R y) :
    y.cell? ⟨w.heap.size, 0, none⟩ = some (.int .i64 m.k) ∧ y.cell? ⟨w.heap.size, 1, none⟩ = some (.int .i64 m.d) ∧ y.cell? ⟨w.heap.size, 2, none⟩ = some (.int .i64 m.a) ∧
    y.cell? ⟨w.heap.size, 3, none⟩ = some (.int .i64 m.b) ∧ y.cell? ⟨w.heap.size, 4, none⟩ = some (.int .u32 m.m) ∧ (loadCellsFrom ⟨w.heap.size, 0, none⟩ 0 N6 #[]).run Try.prog y = .ok (cellsM m) y ∧
    (loadCellsFrom ⟨w.heap.size + 1, 0, none⟩ 0 N32 #[]).run Try.prog y = .ok (cellsX R) y ∧ HeldH w m R y := by
  obtain ⟨p1, p2, p3, p4, p5, p6, p7⟩ := irParts
  obtain ⟨q1, q2, q3, q4, q5, q6⟩ := irWhole
  refine ⟨?_, ?_, ?_, ?_, ?_, h.1.loads 0 N6 (q1 _) (q2 _), h.2.1.loads 0 N32 (q4 _) (q5 _), h⟩
  · rw [h.1.cell]; exact p1 _
  · rw [h.1.cell]; exact p2 _
  · rw [h.1.cell]; exact p3 _
  · rw [h.1.cell]; exact p4 _
  · rw [h.1.cell]; exact p5 _

theorem HeldH.put {w : World} {m : Mi} {R : Nat → Int} {y : World} (h : HeldH w m R y) (Q : Nat → Int) : HeldH w m Q (y.setRow (w.heap.size + 1) (cellsX Q)) :=
  ⟨h.1.far _ _ (by omega), h.2.1.set _, h.2.2.1.far _ _ (by omega), below_setRow h.2.2.2 (by omega) _⟩

end Go.Proofs.Ytnbflahggpehpab.Ir
