/- Two rows of numbers are held one against the other; the calls whose answers the document fixes are answered so. -/
import Derived.Test.YtdapjpbdplhgbaaMemW6
import Derived.Deep.QuietTactic
import Derived.BigQuiet
namespace Go.Proofs.Ytdapjpbdplhgbaa
open Go.RowKit
set_option linter.unusedVariables false
set_option maxRecDepth 100000
set_option linter.unusedSimpArgs false

theorem cell_in {W : World} {b o : Nat} {v : Value} (h : W.cell? ⟨b, o, none⟩ = some v) : b < W.heap.size := World.block_lt_of_cell? W _ h

theorem below_drewN {B : Nat} {a w : World} (h : Below B a w) (n : Nat) : Below B a (w.drewN n) := h.trans ⟨rfl, rfl, rfl, Nat.le_refl _, fun _ _ => rfl⟩

/-- What a row of numbers reads as. -/
def RowAt (w : World) (v : Value) (xs : List Nat) : Prop :=
  (v = .slice none 0 0 ∧ xs = []) ∨ ∃ g cap, v = .slice (some ⟨g, 0, none⟩) xs.length cap ∧ ∀ (j : Nat) u, xs[j]? = some u → w.cell? ⟨g, j, none⟩ = some (.int .i64 ((u : Nat) : Int))

theorem RowAt.on {w w' : World} {v : Value} {xs : List Nat} (h : RowAt w v xs) (hb : Below w.heap.size w w') : RowAt w' v xs := by
  rcases h with h | ⟨g, cap, rfl, hc⟩
  · exact Or.inl h
  · exact Or.inr ⟨g, cap, rfl, fun j u hj => (hb.cell (p := ⟨g, j, none⟩) (cell_in (hc j u hj))).trans (hc j u hj)⟩

theorem RowAt.of {w : World} {base : Nat} {v : Value} {xs : List Nat} (h : w.ownsRow base 3 1 v xs.length (ints xs)) : RowAt w v xs := by
  rcases h with ⟨hl, ⟨rfl, h0⟩ | ⟨g, cap, cur, rfl, hb, hg, hn, hm, hc, ht⟩⟩
  · exact Or.inl ⟨rfl, List.length_eq_zero_iff.mp h0⟩
  · refine Or.inr ⟨g, cap, rfl, fun j u hj => ?_⟩
    have hlt : j < xs.length := (List.getElem?_eq_some_iff.mp hj).1
    have e : (cur.toList.take (xs.length * 1))[j]? = some (.int .i64 ((u : Nat) : Int)) := by rw [ht]; simp [ints, hj]
    rw [List.getElem?_take_of_lt (by omega)] at e
    simp only [World.cell?, hg]
    simpa using e

/-- The bytes behind the one store of the fixed calls. -/
def fixB : Nat → Nat := putB (fun _ => 0) 254 2 4660

theorem fix_tail : (textOf 256 (fun j => fixB (256 * 0 + j))).extract 254 256 = ⟨#[18, 52]⟩ := by decide +kernel

theorem fix_dirts : dirts (putD (fun _ => false) 0) 4 = [0] := by decide +kernel

theorem one_row (w : World) (k : Nat) : RowAt (w.alloc (.cells #[.int .i64 (k : Int)] 3)) (.slice (some ⟨w.heap.size, 0, none⟩) 1 1) [k] := by
  refine Or.inr ⟨w.heap.size, 1, rfl, fun j u hj => ?_⟩
  match j, hj with
  | 0, hj =>
    simp at hj
    subst hj
    rw [World.cell?_alloc_new]
    rfl

theorem fix_clean : dirts (fun _ => false) 4 = [] := by decide +kernel

theorem own_none {w : World} {base : Nat} {v : Value} (h : w.ownsRow base 3 1 v ([] : List Nat).length (ints [])) : ∃ a c, v = .slice a 0 c := by
  rcases h with ⟨hl, ⟨rfl, h0⟩ | ⟨g, cap, cur, rfl, -⟩⟩
  · exact ⟨_, _, rfl⟩
  · exact ⟨_, _, rfl⟩

theorem own_far {x y : World} {base g : Nat} {e : TypeId} {s : Nat} {v : Value} {n : Nat} {xs : List Value} (O : x.ownsRow base e s v n xs) (G : x.grownBy y (some g)) (h : g < base) : y.ownsRow base e s v n xs := by
  refine O.kept G ?_
  cases hv : v.ownBlock with
  | none => exact Or.inl rfl
  | some k =>
    refine Or.inr fun e => ?_
    cases e
    have := (O.lt _ hv).1
    omega

end Go.Proofs.Ytdapjpbdplhgbaa
