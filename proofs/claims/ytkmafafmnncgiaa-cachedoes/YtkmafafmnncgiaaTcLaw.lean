/- Layer 16: rows of blocks. -/
import Derived.Test.YtkmafafmnncgiaaTcCa
namespace Go.Proofs.Ytkmafafmnncgiaa
open Go.RowKit
set_option linter.unusedVariables false
set_option linter.unusedSimpArgs false

theorem drop_count (f s : Int) (L : List Blk) : (dropL f s L).length + hitsL f s L = L.length := by
  unfold dropL hitsL
  induction L with
  | nil => rfl
  | cons x L ih =>
    by_cases h : hitV x f s = true
    · simp [List.countP_cons, h] at ih ⊢; omega
    · simp [List.countP_cons, h] at ih ⊢; omega

theorem putL_last (r : Nat) (L : List Blk) (x : Blk) : ∃ A, putL r L x = A ++ [x] := ⟨_, rfl⟩

theorem mem_trim {α : Type} {r : Nat} {l : List α} {x : α} (h : x ∈ trim r l) : x ∈ l := by
  unfold trim at h
  split at h
  · exact List.mem_of_mem_drop h
  · exact h

theorem getL_put (r : Nat) (L : List Blk) (x : Blk) : getL (putL r L x) x.pc = some x := by
  have h : ∀ y ∈ trim r (L.filter fun y => !(y.pc == x.pc)), (y.pc == x.pc) = false := fun y hy => by
    simpa using (List.mem_filter.1 (mem_trim hy)).2
  unfold getL putL
  rw [List.find?_append, List.find?_eq_none.2 (fun y hy => by rw [h y hy]; simp)]
  simp

theorem put_all {P : Blk → Prop} {r : Nat} {L : List Blk} {x : Blk} (hx : P x) (h : ∀ y ∈ L, P y) : ∀ y ∈ putL r L x, P y := fun y hy => by
  rcases List.mem_append.1 hy with hy | hy
  · exact h y (List.mem_filter.1 (mem_trim hy)).1
  · obtain rfl : y = x := by simpa using hy
    exact hx

theorem drop_none (f s : Int) (L : List Blk) : hitsL f s (dropL f s L) = 0 := by
  unfold hitsL dropL
  rw [List.countP_eq_zero]
  intro x hx
  have := (List.mem_filter.1 hx).2
  simpa using this

theorem drop_drop (f s : Int) (L : List Blk) : dropL f s (dropL f s L) = dropL f s L := by
  unfold dropL
  rw [List.filter_filter]
  simp

theorem get_at {L : List Blk} (hd : (pcL L).Nodup) {k : Nat} {x : Blk} (h : L[k]? = some x) : getL L x.pc = some x := by
  induction L generalizing k with
  | nil => simp at h
  | cons y L ih =>
    cases k with
    | zero =>
      simp at h
      subst h
      simp [getL]
    | succ k =>
      simp only [pcL, List.map_cons, List.nodup_cons] at hd
      have hx : L[k]? = some x := by simpa using h
      have hne : (y.pc == x.pc) = false := by
        simp only [beq_eq_false_iff_ne, ne_eq]
        intro e
        exact hd.1 (e ▸ List.mem_map_of_mem (f := fun b : Blk => b.pc) (List.mem_of_getElem? hx))
      have := ih hd.2 hx
      unfold getL at this ⊢
      rw [List.find?_cons, hne]
      exact this

end Go.Proofs.Ytkmafafmnncgiaa
