/- Contracts of the program's Clean, Dirty and Image. -/
import Derived.Test.YtdapjpbdplhgbaaMemW4
import Derived.Maps.AppendAt
import Derived.RangeFuncBox
import Derived.OwnWalk
namespace Go.Proofs.Ytdapjpbdplhgbaa
open Go.RowKit
set_option linter.unusedVariables false
set_option maxRecDepth 100000
set_option linter.unusedSimpArgs false

/-- A page's mark, set. -/
theorem Mem.mark {w : World} {p g n c : Nat} {B : Nat → Nat} {D : Nat → Bool} (M : Mem w p g n c B D) (k : Nat) (hk : k < n) (b : Bool) :
    Mem (w.setCell ⟨g, k * 257 + 256, none⟩ (.bool b)) p g n c B (fun i => if i = k then b else D i) := by
  refine ⟨?_, ?_, M.ne, M.n4, M.n64, M.nc, ?_, ?_, ?_, ?_, M.lt⟩
  · rw [World.size_setCell]; exact M.zp
  · rw [World.size_setCell]; exact M.zg
  · rw [World.cell?_setCell_other _ _ _ _ (by intro e; injection e with e1; exact M.ne e1.symm)]
    exact M.hd
  · intro j hj
    rw [World.cell?_setCell_other _ _ _ _ (by intro e; injection e with _ e2; omega)]
    exact M.by' j hj
  · intro i hi
    by_cases e : i = k
    · subst e
      have := M.di i hi
      rw [show 257 * i + 256 = i * 257 + 256 by omega] at this ⊢
      rw [World.cell?_setCell_same _ _ _ this, if_pos rfl]
    · rw [World.cell?_setCell_other _ _ _ _ (by intro e; injection e with _ e2; omega), M.di i hi, if_neg e]
  · intro o
    rw [World.frozen?_setCell]
    exact M.fr o

/-- The dirty pages of the first k. -/
def dirts (D : Nat → Bool) (k : Nat) : List Nat := (List.range k).filter D

theorem dirts_succ (D : Nat → Bool) (k : Nat) : dirts D (k + 1) = dirts D k ++ (if D k then [k] else []) := by
  unfold dirts
  rw [List.range_succ, List.filter_append]
  congr 1
  cases h : D k <;> simp [h]

theorem dirts_len (D : Nat → Bool) (k : Nat) : (dirts D k).length ≤ k := by
  have := List.length_filter_le D (List.range k)
  rw [List.length_range] at this
  exact this

/-- Numbers as cells. -/
def ints (l : List Nat) : List Value := l.map fun k => .int .i64 ((k : Nat) : Int)

end Go.Proofs.Ytdapjpbdplhgbaa
