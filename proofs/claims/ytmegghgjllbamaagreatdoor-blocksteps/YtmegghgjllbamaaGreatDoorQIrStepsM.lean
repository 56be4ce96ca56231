/- Layer 14: what Translate tells may be. -/
import Derived.Test.YtmegghgjllbamaaGreatDoorQIrPartsM
namespace Go.Proofs.YtmegghgjllbamaaGreatDoor.Ir
open Go.RowKit
set_option linter.unusedVariables false
set_option maxRecDepth 100000
set_option linter.unusedSimpArgs false

theorem fill_sound {o s t d a i c : Int} (hp : isPl o) (hs : 0 ≤ s ∧ s < 32) (ht : 0 ≤ t ∧ t < 32) (hd : 0 ≤ d ∧ d < 32) (hne : ¬ (fillV o s t d a i).d = 0) : soundB { fillV o s t d a i with k := kindV o, c := c } = true := by
  unfold isPl at hp
  rcases hp with (rfl | rfl | rfl | rfl | rfl | rfl | rfl | rfl | rfl | rfl | rfl) | rfl | rfl | rfl | rfl | rfl | rfl | rfl | rfl | rfl | rfl
  all_goals
    simp [fillV] at hne
    simp [fillV, kindV, soundB, wrB, oprB]
    omega

theorem none_sound (c : Int) : soundB { M0 with c := c } = true := by simp [soundB, M0]

/-- The fields of what is decoded. -/
theorem dec_fields (x : Int) (hx : Cp.W32 x) : (0 ≤ (decV x).s ∧ (decV x).s < 32) ∧ (0 ≤ (decV x).t ∧ (decV x).t < 32) ∧ (0 ≤ (decV x).d ∧ (decV x).d < 32) := by
  rcases decV_told x hx with ⟨op, -, -, -, h1, h2, h3, -⟩ | ⟨-, -, h1, h2, h3, -⟩
  · rw [h1, h2, h3]
    unfold De.Dec.ds De.Dec.dt De.Dec.dd
    omega
  · rw [h1, h2, h3]
    omega

theorem op_sound (x : Int) (hx : Cp.W32 x) (c : Int) : soundB { opM (decV x) with c := c } = true := by
  obtain ⟨hs, ht, hd⟩ := dec_fields x hx
  unfold opM
  by_cases hp : plB (decV x) = true
  · rw [if_pos hp]
    by_cases h0 : (fillV (decV x).o (decV x).s (decV x).t (decV x).d (decV x).a (decV x).i).d = 0
    · rw [if_pos h0]; exact none_sound c
    · rw [if_neg h0]
      simp [plB] at hp
      exact fill_sound hp.2 hs ht hd h0
  · rw [if_neg hp]; exact none_sound c

theorem transF_may : ∀ (l : List Int) (k : Nat) (p : Int), p ≤ (k : Int) + 1 → k + l.length ≤ 16 → (∀ (i : Nat) (x : Int), l[i]? = some x → Cp.W32 x) → mayFrom p (transF k l) = true
  | [], k, p, _, _, _ => rfl
  | x :: l, k, p, hp, hk, hx => by
    unfold transF
    split
    · unfold mayFrom
      have h1 : decide (p ≤ ((k + 1 : Nat) : Int)) = true := by simp; omega
      have h2 : decide (((k + 1 : Nat) : Int) ≤ 16) = true := by simp at hk ⊢; omega
      have h3 := op_sound x (hx 0 x (by simp)) ((k + 1 : Nat) : Int)
      simp only [h1, h2, h3, Bool.true_and]
      exact transF_may l (k + 1) _ (by omega) (by simp at hk; omega) (fun i y h => hx (i + 1) y (by simpa using h))
    · rfl

theorem trans_may {l : List Int} (hx : ∀ (i : Nat) (x : Int), l[i]? = some x → Cp.W32 x) : mayB (transV l) = true := by
  unfold mayB
  rw [show decide ((transV l).length ≤ 16) = true by simpa using (transV_len l).2, Bool.true_and]
  refine transF_may (l.take 16) 0 0 (by omega) (by rw [List.length_take]; omega) (fun i x h => ?_)
  have hlt : i < 16 := by
    have := (List.getElem?_eq_some_iff.1 h).1
    rw [List.length_take] at this
    omega
  rw [List.getElem?_take_of_lt hlt] at h
  exact hx i x h

end Go.Proofs.YtmegghgjllbamaaGreatDoor.Ir
