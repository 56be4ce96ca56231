/- The lines of two texts, one behind the other. -/
import Derived.Test.YtjgidjcniladeaaDoorAsmBackM
set_option linter.unusedVariables false
set_option linter.unusedSimpArgs false
namespace Go.Proofs.YtjgidjcniladeaaDoor
open Go.RowKit Go.Shelf Go.Joins

theorem Asm.split_ten : ∀ l : List UInt8, (∀ c ∈ l, (c != 10) = true) ∨ ∃ u v, l = u ++ 10 :: v ∧ ∀ c ∈ u, (c != 10) = true
  | [] => Or.inl (by intro c hc; cases hc)
  | b :: l => by
    by_cases hb : b = 10
    · subst hb
      exact Or.inr ⟨[], l, rfl, by intro c hc; cases hc⟩
    · have hb' : (b != 10) = true := by simpa using hb
      rcases Asm.split_ten l with h | ⟨u, v, rfl, hu⟩
      · refine Or.inl fun c hc => ?_
        rcases List.mem_cons.mp hc with rfl | hc
        · exact hb'
        · exact h c hc
      · refine Or.inr ⟨b :: u, v, rfl, fun c hc => ?_⟩
        rcases List.mem_cons.mp hc with rfl | hc
        · exact hb'
        · exact hu c hc

theorem Asm.rows_join (n : Nat) : ∀ a b : List UInt8, a.length ≤ n → a ≠ [] → a.getLast? ≠ some 10 → Asm.rows (a ++ 10 :: b) = Asm.rows a ++ Asm.rows b := by
  induction n with
  | zero => intro a b hl ha; exact absurd (List.length_eq_zero_iff.mp (by omega)) ha
  | succ n ih =>
    intro a b hl ha hlast
    rcases Asm.split_ten a with h | ⟨u, v, rfl, hu⟩
    · rw [Asm.rows_line a b h, Asm.rows_last a h ha]
      rfl
    · have hv : v ≠ [] := by
        rintro rfl
        exact hlast (by simp)
      have hvl : v.getLast? ≠ some 10 := by
        intro e
        apply hlast
        rw [List.getLast?_append, List.getLast?_cons, e]
        rfl
      have hn : v.length ≤ n := by simp at hl; omega
      rw [List.append_assoc, List.cons_append, Asm.rows_line u _ hu, Asm.rows_line u v hu, ih v b hn hv hvl]
      rfl

theorem Asm.lined_join {a b : List UInt8} {x y z : List Int} {g : Int} (ha : a ≠ []) (hl : a.getLast? ≠ some 10) (hx : Asm.Lined a x 0) (hy : Asm.Lined b y 0) (hz : Asm.Lined (a ++ 10 :: b) z g) : g = 0 ∧ z = x ++ y ∧ x ≠ [] := by
  rcases hx with ⟨hx, -⟩ | ⟨-, -, h⟩
  · rcases hy with ⟨hy, -⟩ | ⟨-, -, h⟩
    · have h2 : Asm.Lined (a ++ 10 :: b) (x ++ y) 0 := Or.inl ⟨by rw [Asm.rows_join _ a b (Nat.le_refl _) ha hl]; exact hx.append hy, rfl⟩
      obtain ⟨rfl, rfl⟩ := hz.one h2
      refine ⟨rfl, rfl, fun e => ?_⟩
      subst e
      have := hx.length
      rw [Asm.rows_cons ha] at this
      simp at this
    · cases h
  · cases h

end Go.Proofs.YtjgidjcniladeaaDoor
