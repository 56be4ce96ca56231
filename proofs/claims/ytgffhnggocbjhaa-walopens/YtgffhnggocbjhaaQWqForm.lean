/- Layer 19: a log that was formatted is sane. -/
import Derived.Test.YtgffhnggocbjhaaQWqPur
namespace Go.Proofs.Ytgffhnggocbjhaa
open Go.RowKit
set_option linter.unusedVariables false
set_option maxRecDepth 100000
set_option linter.unusedSimpArgs false

def S1 (n : Nat) : List ByteArray := setsR [(0, T0), (1, headC 1 [])] (List.replicate n T0)
def C00 : Crs := ⟨ByteArray.empty, 0, 0⟩
theorem S1_len (n : Nat) : (S1 n).length = n := by unfold S1; rw [setsR_len, List.length_replicate]
theorem numH_T0 : numH T0 = 0 := by
  have e : ∀ j, j < 64 → byteAt T0 j = 0 := fun j hj => byteAt_textOf 64 _ (fun _ => by decide) j hj
  unfold numH
  simp only [nb]
  rw [e 2 (by decide), e (2 + 1) (by decide), e (2 + 2) (by decide), e (2 + 3) (by decide)]
theorem S1_drop (n : Nat) : (S1 n).drop 34 = List.replicate (n - 34) T0 := by
  show (((List.replicate n T0).set 0 T0).set 1 (headC 1 [])).drop 34 = _
  rw [List.drop_set, if_pos (by decide), List.drop_set, if_pos (by decide), List.drop_replicate]

theorem form_new {n : Nat} (h42 : 42 ≤ n) (h40 : n ≤ 4034) : formE (newD n) = 0 ∧ formN (newD n) = Q (S1 n) 3 C00 ∧ San (S1 n) 1 [] := by
  have hok : ∀ p ∈ [((0 : Int), T0), (1, headC 1 [])], 0 ≤ p.1 ∧ p.1 < ((List.replicate n T0).length : Int) ∧ p.2.size = 64 := fun p hp => by
    rw [List.length_replicate]
    simp only [List.mem_cons, List.not_mem_nil, or_false] at hp
    rcases hp with rfl | rfl
    · exact ⟨by show (0 : Int) ≤ 0; decide, by show (0 : Int) < _; omega, T0_size⟩
    · exact ⟨by show (0 : Int) ≤ 1; decide, by show (1 : Int) < _; omega, headT_size _ _ _⟩
  have hf : (newD n).fits = true := by
    unfold Dk.fits newD
    rw [Bool.and_eq_true, decide_eq_true_eq, decide_eq_true_eq, List.length_replicate]
    exact ⟨h42, h40⟩
  have hrun : runL formD (newD n) = (Q (S1 n) 3 C00, true) := run_doC (S := List.replicate n T0) (c := C00) [((0 : Int), T0), (1, headC 1 [])] 0 hok
  have g0 : (S1 n).getD 0 T0 = T0 := by
    show (((List.replicate n T0).set 0 T0).set 1 (headC 1 [])).getD 0 T0 = T0
    rw [getD_set _ _ _ _ (by rw [List.length_set, List.length_replicate]; omega), if_neg (by decide), getD_set _ _ _ _ (by rw [List.length_replicate]; omega), if_pos rfl]
  have g1 : (S1 n).getD 1 T0 = headC 1 [] := by
    show (((List.replicate n T0).set 0 T0).set 1 (headC 1 [])).getD 1 T0 = _
    rw [getD_set _ _ _ _ (by rw [List.length_set, List.length_replicate]; omega), if_pos rfl]
  refine ⟨by unfold formE; rw [if_neg (by rw [hf]; decide), hrun]; rfl, by unfold formN; rw [if_neg (by rw [hf]; decide), hrun], ?_⟩
  refine ⟨by rw [S1_len]; exact h42, by rw [S1_len]; exact h40, ?_, by decide, by decide, by decide, (fun p hp => by cases hp), rfl, g1, ?_, (fun i p hp => by simp at hp), (fun p hp => by cases hp)⟩
  · exact setsR_64 _ _ (fun s hs => by rw [(List.mem_replicate.1 hs).2]; exact T0_size) (fun p hp => (hok p hp).2.2)
  · show numS (S1 n).length ((S1 n).getD 0 T0) 0 < 1
    rw [g0]
    unfold numS
    split
    · rw [numH_T0]; decide
    · decide

end Go.Proofs.Ytgffhnggocbjhaa
