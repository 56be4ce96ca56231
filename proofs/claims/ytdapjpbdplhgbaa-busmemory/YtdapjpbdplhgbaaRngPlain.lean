/- The plain arithmetic of a row of words: parts modulo 65521, the next place, and where a row stands. -/
import Derived.RowKit3
namespace Go.Proofs.Ytdapjpbdplhgbaa.Rng
namespace Rng

/-- The real part of the next place. -/
def nre (x y u : Int) : Int := (x * x - y * y + u) % 65521

/-- The imaginary part of the next place. -/
def nim (x y v : Int) : Int := (2 * (x * y) + v) % 65521

/-- Where a row stands so many words later. -/
def row (x y u v : Int) : Nat → Int × Int
  | 0 => (x, y)
  | k + 1 => (nre (row x y u v k).1 (row x y u v k).2 u, nim (row x y u v k).1 (row x y u v k).2 v)

theorem md_in (n : Int) : 0 ≤ n % 65521 ∧ n % 65521 ≤ 65520 := by omega

theorem nre_in (x y u : Int) : 0 ≤ nre x y u ∧ nre x y u ≤ 65520 := md_in _

theorem nim_in (x y v : Int) : 0 ≤ nim x y v ∧ nim x y v ≤ 65520 := md_in _

theorem row_in (x y u v : Int) (hx : 0 ≤ x ∧ x ≤ 65520) (hy : 0 ≤ y ∧ y ≤ 65520) (k : Nat) :
    (0 ≤ (row x y u v k).1 ∧ (row x y u v k).1 ≤ 65520) ∧ (0 ≤ (row x y u v k).2 ∧ (row x y u v k).2 ≤ 65520) := by
  cases k with
  | zero => exact ⟨hx, hy⟩
  | succ k => exact ⟨nre_in .., nim_in ..⟩

theorem row_add (x y u v : Int) (j k : Nat) : row x y u v (j + k) = row (row x y u v j).1 (row x y u v j).2 u v k := by
  induction k with
  | zero => rfl
  | succ k ih =>
    show (nre (row x y u v (j + k)).1 (row x y u v (j + k)).2 u, nim (row x y u v (j + k)).1 (row x y u v (j + k)).2 v) = _
    rw [ih]; rfl

theorem md_id (n : Int) (h : 0 ≤ n ∧ n ≤ 65520) : n % 65521 = n := by omega

theorem sq_in (x y : Int) (hx : 0 ≤ x ∧ x ≤ 65520) (hy : 0 ≤ y ∧ y ≤ 65520) : 0 ≤ x * y ∧ x * y ≤ 4292870400 :=
  ⟨Int.mul_nonneg hx.1 hy.1, Int.mul_le_mul hx.2 hy.2 hy.1 (by omega)⟩

end Rng

end Go.Proofs.Ytdapjpbdplhgbaa.Rng
