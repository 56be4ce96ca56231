/- Layer 19: what a Commit does with a sane log, refused or not. -/
import Derived.Test.YtgffhnggocbjhaaQWqFs
namespace Go.Proofs.Ytgffhnggocbjhaa
open Go.RowKit
set_option linter.unusedVariables false
set_option maxRecDepth 100000
set_option linter.unusedSimpArgs false

theorem refuse_zero {l : Lg} {c : Cl} (h : l.refuse c = 0) : c.length ≤ 16 ∧ (∀ p ∈ c, p.2.size = 64) ∧ riseK l.d.own (c.map (·.1)) c.length = true := by
  unfold Lg.refuse at h
  split at h
  · cases h
  · next h1 =>
    split at h
    · cases h
    · next h2 =>
      split at h
      · cases h
      · next h3 =>
        refine ⟨by omega, fun p hp => ?_, by simpa using h3⟩
        have h2 : c.all (fun p => decide (p.2.size = 64)) = true := by simpa using h2
        exact of_decide_eq_true (List.all_eq_true.1 h2 p hp)

/-- Behind a Commit: refused and nothing changed, or done. -/
structure Stepped (S : List ByteArray) (n m : Nat) (cr : Crs) (c : Cl) (S2 : List ByteArray) (n2 m2 : Nat) (c2 : Cl) : Prop where
  is : (LQ n S m cr).commit c = LQ n2 S2 m2 cr
  san : San S2 n2 c2
  len : S2.length = S.length
  num : n2 ≤ n + 1
  made : m2 ≤ m + 36
  c16 : c2.length ≤ 16
  how : ((LQ n S m cr).errC c = 0 ∧ n2 = n + 1 ∧ S2.drop 34 = setsR c (S.drop 34)) ∨ ((LQ n S m cr).errC c ≠ 0 ∧ n2 = n ∧ S2 = S ∧ m2 = m)

theorem stepped {S : List ByteArray} {n : Nat} {c0 : Cl} (h : San S n c0) (hn : n < 4294967295) (m : Nat) (cr : Crs) (c : Cl) : ∃ S2 n2 m2 c2, Stepped S n m cr c S2 n2 m2 c2 := by
  by_cases hr : (LQ n S m cr).refuse c = 0
  · obtain ⟨h16, h64, hri⟩ := refuse_zero hr
    obtain ⟨e1, e2, e3, e4⟩ := commit_ok h hn h16 h64 hri m cr
    refine ⟨nextS S (n + 1) c, n + 1, m + 2 * c.length + 4, c, e2, e3, nextS_len _ _ _, Nat.le_refl _, by omega, h16, Or.inl ⟨e1, rfl, ?_⟩⟩
    apply List.ext_getElem?
    intro j
    have hl : (nextS S (n + 1) c).length = S.length := nextS_len _ _ _
    have hl2 : (setsR c (S.drop 34)).length = S.length - 34 := by rw [setsR_len, List.length_drop]
    by_cases hj : j + 34 < S.length
    · have h5 := e4 j hj
      rw [List.getElem?_drop]
      rw [List.getD_eq_getElem?_getD, List.getD_eq_getElem?_getD, List.getElem?_eq_getElem (by omega), List.getElem?_eq_getElem (by omega)] at h5
      rw [List.getElem?_eq_getElem (by omega), List.getElem?_eq_getElem (by omega)]
      exact congrArg some h5
    · rw [List.getElem?_drop, List.getElem?_eq_none (by omega), List.getElem?_eq_none (by omega)]
  · obtain ⟨e1, e2⟩ := commit_no hr
    exact ⟨S, n, m, c0, e2, h, rfl, by omega, by omega, h.c16, Or.inr ⟨by rw [e1]; exact hr, rfl, rfl, rfl⟩⟩

end Go.Proofs.Ytgffhnggocbjhaa
