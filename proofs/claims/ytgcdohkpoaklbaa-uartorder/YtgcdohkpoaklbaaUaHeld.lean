/- Layer 10: worlds in which some uarts lie, for statements whose operations may come in any order. -/
import Derived.Test.YtgcdohkpoaklbaaUaOpen
import Derived.Deep.QuietTactic
import Derived.BigQuiet
namespace Go.Proofs.Ytgcdohkpoaklbaa
open Go.RowKit
set_option linter.unusedVariables false

/-- A region that draws its order, walked once, in a class of worlds in which each of its operations tells one value. -/
theorem region_calm {P : Program} {id : Nat} {Q : Exit → Act → World → Prop} {a : Act} {w : World} {l : List Oper} (C : World → Prop) (hm : P.follows .mixedOrders = true) (hB : Region.lexB .any l.toArray = true) (hC : C w.drew)
    (h : wpQuiet P l.toArray C (fun a' => ∀ w', C w' → Q .normal a' w') l a) : (Code.region id l.toArray true).wp P Q a w :=
  wp_region_quiet (C := C) hm hB hC (by simpa using h)

/-- A world in which these uarts lie; all that was there ahead of it is as it was. -/
structure Held (w : World) (l : List (Nat × Ua)) where
  x : World
  h : (∀ p ∈ l, Rat x p.1 p.2) ∧ Below w.heap.size w x

theorem Held.rat {w : World} {l : List (Nat × Ua)} (y : Held w l) {b : Nat} {u : Ua} (hm : (b, u) ∈ l) : Rat y.x b u := y.h.1 _ hm

def Held.on {w z : World} {l : List (Nat × Ua)} (y : Held w l) (hb : Below y.x.heap.size y.x z) : Held w l :=
  ⟨z, fun p hp => (y.h.1 p hp).on hb, onto y.h.2 (Nat.le_refl _) hb⟩

/-- What is read of the uart in block b. -/
theorem Held.reads {w : World} {l : List (Nat × Ua)} {b : Nat} {u : Ua} (hm : (b, u) ∈ l) :
    (∀ y : Held w l, (loadCellsFrom ⟨b, 0, none⟩ 0 N3 #[]).run Try.prog y.x = .ok (cellsU u) y.x) ∧ (∀ y : Held w l, y.x.cell? ⟨b, 0, none⟩ = some (.string u.i)) ∧
      (∀ y : Held w l, y.x.cell? ⟨b, 1, none⟩ = some (.string u.o)) ∧ (∀ y : Held w l, y.x.cell? ⟨b, 2, none⟩ = some (.bool u.n)) :=
  ⟨fun y => (y.rat hm).load, fun y => (y.rat hm).cell 0, fun y => (y.rat hm).cell 1, fun y => (y.rat hm).cell 2⟩

end Go.Proofs.Ytgcdohkpoaklbaa
