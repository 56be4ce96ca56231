/- Layer 14: a slice of operations; contracts of May, Until, Run. -/
import Derived.Test.YtnbflahggpehpabQIrWalks2
import Derived.Test.YtnbflahggpehpabQIrSound
import Derived.ChangeOld
namespace Go.Proofs.Ytnbflahggpehpab.Ir
open Go.RowKit
set_option linter.unusedVariables false
set_option maxRecDepth 100000
set_option linter.unusedSimpArgs false

/-- The operation m lies at offset o of block g. -/
def Mat (w : World) (g o : Nat) (m : Mi) : Prop := ∀ j, j < 6 → w.cell? ⟨g, o + j, none⟩ = (cellsM m)[j]?

/-- v is the slice of the operations l. -/
def IsOps (w : World) (v : Value) (l : List Mi) : Prop :=
  (∃ a c, l = [] ∧ v = .slice a 0 c) ∨ ∃ g o c, v = .slice (some ⟨g, o, none⟩) l.length c ∧ l.length ≤ maxLen ∧ g < w.heap.size ∧ ∀ (i : Nat) (m : Mi), l[i]? = some m → Mat w g (o + i * 6) m

theorem Mat.on {w y : World} {g o : Nat} {m : Mi} (h : Mat w g o m) (hg : g < w.heap.size) (b : Below w.heap.size w y) : Mat y g o m := fun j hj => by
  rw [← h j hj]
  exact b.cell (p := ⟨g, o + j, none⟩) hg

theorem IsOps.on {w y : World} {v : Value} {l : List Mi} (h : IsOps w v l) (b : Below w.heap.size w y) : IsOps y v l := by
  rcases h with h | ⟨g, o, c, rfl, hl, hg, hm⟩
  · exact Or.inl h
  · exact Or.inr ⟨g, o, c, rfl, hl, Nat.lt_of_lt_of_le hg b.size, fun i m hi => (hm i m hi).on hg b⟩

theorem Mat.load {w : World} {g o : Nat} {m : Mi} (h : Mat w g o m) : (loadCellsFrom ⟨g, o, none⟩ 0 N6 #[]).run Try.prog w = .ok (cellsM m) w := by
  have := run_loadCells_list (P := Try.prog) w ⟨g, o, none⟩ (cellsM m).toList (fun j v hv => by
    rw [Addr.add_lit]
    have hj : j < 6 := by have := (List.getElem?_eq_some_iff.1 hv).1; simpa [cellsM] using this
    rw [h j hj]
    simpa using hv)
  exact this

theorem IsOps.open' {w : World} {v : Value} {l : List Mi} (h : IsOps w v l) :
    ∃ ad n c, v = .slice ad n c ∧ n = l.length ∧ n ≤ maxLen ∧ ∀ (i : Nat) m, l[i]? = some m → ∃ g o, ad = some ⟨g, o, none⟩ ∧ g < w.heap.size ∧ Mat w g (o + i * 6) m := by
  rcases h with ⟨a, c, rfl, rfl⟩ | ⟨g, o, c, rfl, hl, hb, hx⟩
  · exact ⟨a, 0, c, rfl, rfl, Nat.zero_le _, fun i z h => by simp at h⟩
  · exact ⟨_, _, c, rfl, rfl, hl, fun i z h => ⟨g, o, rfl, hb, hx i z h⟩⟩

/-- May they be, behind a Count? -/
def mayFrom : Int → List Mi → Bool
  | _, [] => true
  | p, m :: l => (decide (p ≤ m.c) && (decide (m.c ≤ 16) && soundB m)) && mayFrom m.c l

def mayB (l : List Mi) : Bool := decide (l.length ≤ 16) && mayFrom 0 l

theorem drop_at {α : Type} {l : List α} {i : Nat} {x : α} (h : l[i]? = some x) : l.drop i = x :: l.drop (i + 1) := by
  obtain ⟨hi, e⟩ := List.getElem?_eq_some_iff.1 h
  rw [List.drop_eq_getElem_cons hi, e]

end Go.Proofs.Ytnbflahggpehpab.Ir
