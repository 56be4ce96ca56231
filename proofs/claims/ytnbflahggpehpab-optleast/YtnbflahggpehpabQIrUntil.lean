/- Layer 14: contracts of Until, Run. -/
import Derived.Test.YtnbflahggpehpabQIrMay
namespace Go.Proofs.Ytnbflahggpehpab.Ir
open Go.RowKit
set_option linter.unusedVariables false
set_option maxRecDepth 100000
set_option linter.unusedSimpArgs false

/-- The registers behind operations of at most this Count. -/
def untilV (n : Int) : List Mi → (Nat → Int) → (Nat → Int)
  | [], R => R
  | m :: l, R => untilV n l (if m.c ≤ n then behV m R else R)

/-- All numbers are words. -/
def WordsM (l : List Mi) : Prop := ∀ (i : Nat) (m : Mi), l[i]? = some m → Cp.W32 m.m

/-- What is held in Until. -/
def HeldU (w : World) (R : Nat → Int) (y : World) : Prop :=
  Box y w.heap.size (cellsX R) ∧ Box y (w.heap.size + 1) (cellsX X0) ∧ Below w.heap.size w y

theorem HeldU.on {w : World} {R : Nat → Int} {y z : World} (h : HeldU w R y) (hb : Below y.heap.size y z) : HeldU w R z :=
  ⟨h.1.on hb, h.2.1.on hb, onto h.2.2 (Nat.le_refl _) hb⟩

theorem HeldU.put {w : World} {R : Nat → Int} {y : World} (h : HeldU w R y) (Q : Nat → Int) : HeldU w Q (y.setRow w.heap.size (cellsX Q)) :=
  ⟨h.1.set _, h.2.1.far _ _ (by omega), below_setRow h.2.2 (Nat.le_refl _) _⟩

end Go.Proofs.Ytnbflahggpehpab.Ir
