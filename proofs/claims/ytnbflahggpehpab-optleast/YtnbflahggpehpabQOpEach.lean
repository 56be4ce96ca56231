/- Layer 15: contracts of slices.Clone for operations, and of the program's each. -/
import Derived.Test.YtnbflahggpehpabQOpCopy1
import Derived.Shelf.SlicesE.Clone
namespace Go.Proofs.Ytnbflahggpehpab.Ir
open Go.RowKit
set_option linter.unusedVariables false
set_option maxRecDepth 100000
set_option linter.unusedSimpArgs false

/-- The cells of operations, one behind the other. -/
def flat (l : List Mi) : List Value := l.flatMap fun m => (cellsM m).toList

theorem flat_snoc (l : List Mi) (m : Mi) : flat (l ++ [m]) = flat l ++ (cellsM m).toList := by simp [flat]

theorem flat_len (l : List Mi) : (flat l).length = l.length * 6 := by
  induction l with
  | nil => rfl
  | cons m l ih => simp only [flat, List.flatMap_cons, List.length_append, List.length_cons] at ih ⊢; rw [ih]; simp [cellsM]; omega

theorem flat_at (l : List Mi) (i : Nat) (m : Mi) (h : l[i]? = some m) (j : Nat) (hj : j < 6) : (flat l)[i * 6 + j]? = (cellsM m)[j]? := by
  induction l generalizing i with
  | nil => simp at h
  | cons x l ih =>
    show ((cellsM x).toList ++ flat l)[i * 6 + j]? = _
    have hx : (cellsM x).toList.length = 6 := rfl
    cases i with
    | zero =>
      obtain rfl : x = m := by simpa using h
      rw [Nat.zero_mul, Nat.zero_add, List.getElem?_append_left (by omega)]
      simp
    | succ i =>
      rw [List.getElem?_append_right (by omega), hx, show (i + 1) * 6 + j - 6 = i * 6 + j by omega]
      exact ih i (by simpa using h)

theorem flat_one (l : List Mi) : ∀ u ∈ flat l, u.oneCell' = true := fun u hu => by
  simp only [flat, List.mem_flatMap] at hu
  obtain ⟨m, -, hm⟩ := hu
  exact List.all_eq_true.1 (show ones (cellsM m) = true from rfl) u hm

/-- A row that append made is a slice of operations. -/
theorem ops_of_own {w : World} {B : Nat} {v : Value} {l : List Mi} (h : w.ownsRow B 32 6 v l.length (flat l)) : IsOps w v l := by
  rcases h.2 with ⟨rfl, hn⟩ | ⟨g, cap, cur, rfl, hg, hh, hc, hcm, hs, ht⟩
  · exact Or.inl ⟨_, _, List.length_eq_zero_iff.1 hn, rfl⟩
  · refine Or.inr ⟨g, 0, cap, rfl, Nat.le_trans hc hcm, (Array.getElem?_eq_some_iff.1 hh).1, fun i m hi j hj => ?_⟩
    rw [cell_of_row w g _ cur _ _ hh, ← flat_at l i m hi j hj, ← ht, List.getElem?_take_of_lt (by have := (List.getElem?_eq_some_iff.1 hi).1; omega)]
    simp

/-- Where the shelf's numbers of functions and types lie in this translation. -/
def ren15 : Go.Shelf.Ren := ⟨fun | 41 => 12 | n => n, fun | 22 => 22 | 23 => 32 | n => n, fun n => n⟩

theorem lays41 : SlLaysE0.n41 Try.prog ren15 :=
  { mixed := by kernel_rfl, f41 := ⟨"slices.Clone[[]zoetrope/api.Micro,zoetrope/api.Micro]", by decide, by kernel_rfl⟩,
    t4 := by kernel_rfl, a4 := fun _ => by kernel_rfl, z4 := fun _ => by kernel_rfl, v4 := fun _ => by kernel_rfl,
    t22 := by kernel_rfl, a22 := fun _ => by kernel_rfl, z22 := fun _ => by kernel_rfl, v22 := fun _ => by kernel_rfl }

set_option maxHeartbeats 2000000 in
theorem clone_none (a : Addr) (c : Nat) (w : World) : Calls Try.prog 12 #[.slice (some a) 0 c] w fun e w' =>
    ∃ v', e = .returned v' ∧ w'.ownsRow w.heap.size 32 6 v' 0 [] ∧ Below w.heap.size w w' := by
  have q22 : ∀ (w : World) (a : Option Addr) (n c n' c' : Nat), (binOp .eql 22 (.slice a n c) (.slice none n' c')).run Try.prog w = .ok (.bool a.isNone) w := fun w a n c n' c' => Lib.run_eql_slice_nil w _ _ a n c n' c' Try.underlying22
  go_enter Try.func12, Try.ntmps12
  go_wp2
  go_ret
  exact ⟨_, rfl, World.ownsRow_made w #[] 0 (Nat.le_refl _) (Nat.zero_le _) (by simp), grow _ _⟩

theorem clone_ops {w : World} {v : Value} {l : List Mi} (h : IsOps w v l) (hl : l.length ≤ 16) : Calls Try.prog 12 #[v] w fun e w' =>
    ∃ v', e = .returned v' ∧ w'.ownsRow w.heap.size 32 6 v' l.length (flat l) ∧ Below w.heap.size w w' := by
  have hi0 : (Try.prog.info? 32).map (fun i => (i.zero, i.size, i.bytes)) = some (some (.agg (cellsM M0)), 6, 48) := by kernel_rfl
  obtain ⟨i0, hi, hz0, hz1, hz2⟩ := info_parts hi0
  rcases h with ⟨a, c, rfl, rfl⟩ | ⟨g, o, c, rfl, hm, hg, hx⟩
  · cases a with
    | none =>
      refine (AnyE.slices_Clone_nil lays41 0 c w).mono ?_
      rintro e w' ⟨rfl, rfl⟩
      exact ⟨_, rfl, World.ownsRow_nil _ _ _ _, Below.refl _ _⟩
    | some a => exact clone_none a c w
  · refine (AnyE.slices_Clone lays41 i0 (.agg (cellsM M0)) 6 48 hi hz0 hz1 hz2 rfl (by decide) (fun _ => by kernel_rfl) g o l.length c (flat l) w (flat_len l) hm (by omega) (fun j u hj => ?_) (flat_one l)).mono ?_
    · have hjl := (List.getElem?_eq_some_iff.1 hj).1
      rw [flat_len] at hjl
      have hi2 : l[j / 6]? = some (l[j / 6]'(by omega)) := List.getElem?_eq_getElem _
      have e := flat_at l (j / 6) _ hi2 (j % 6) (by omega)
      rw [show j / 6 * 6 + j % 6 = j by omega, hj] at e
      have := hx (j / 6) _ hi2 (j % 6) (by omega)
      rw [show o + j / 6 * 6 + j % 6 = o + j by omega] at this
      rw [this, e]
    · rintro e w' ⟨v', rfl, ho, -, hb⟩
      exact ⟨v', rfl, ho, hb⟩

end Go.Proofs.Ytnbflahggpehpab.Ir
