/- Layer 13: the two steps whose answers the document fixes. -/
import Derived.Test.YthjcijlabpinkaaGreatDoorQCuSix
import Derived.Test.YthjcijlabpinkaaGreatDoorQCuReset
import Derived.Test.YthjcijlabpinkaaGreatDoorQCuLaid
namespace Go.Proofs.YthjcijlabpinkaaGreatDoor
open Go.RowKit
set_option linter.unusedVariables false
set_option maxRecDepth 100000
set_option linter.unusedSimpArgs false

/-- The words that are laid for them. -/
def Z0 : List Int := List.replicate 128 0 ++ [604045317, 4294967295]

theorem fill_at (zs : List Int) (k j : Nat) (hj : j < k) (z : Int) (hz : zs.getD j 0 = z) (h0 : 0 ≤ z) (h1 : z < 4294967296) : numOf (fillW zs k) (4 * j) 4 = z.toNat := by
  induction k with
  | zero => omega
  | succ k ih =>
    show numOf (putB (fillW zs k) (4 * k) 4 (zs.getD k 0).toNat) (4 * j) 4 = z.toNat
    by_cases e : j = k
    · subst e
      rw [num_put _ _ _ (by omega), hz]
    · rw [num_far _ _ _ _ (by omega)]
      exact ih (by omega)

theorem tick_0 (B : Nat → Nat) (D : Nat → Bool) : tkV 8 V0 B = V0 ∧ tkB 8 V0 B = B ∧ tkD 8 V0 D = D := by
  unfold tkV tkB tkD
  obtain ⟨e1, e2, e3⟩ := move_0 8 (Dm.tickV V0.d) V0.k B D
  have e : Dm.wayV V0.d = 0 := rfl
  rw [e, e1, e2, e3]
  exact ⟨rfl, rfl, rfl⟩

def K1 : Cp.Regs := ⟨0, 0, 0, 1, 0, 0, 0, 0, 0⟩
def K2 : Cp.Regs := ⟨0, 0, 0, 2, 0, 0, 0, 0, 0⟩
def C1 : Cs := ⟨2147484164, 2147484168, false, putR (fun _ => 0) 1 5, 0, 0, false, K1, Tl.T0⟩
def C2 : Cs := ⟨2147484032, 2147484036, false, putR (fun _ => 0) 1 5, 0, 0, false, ⟨0, 0, 0, 2, 0, 0, 2, 40, 2147484164⟩, Tl.T0⟩

theorem dec_one : decV 604045317 = ⟨46, 0, 1, 0, 0, 5, 0⟩ := by
  have h := decV_told 604045317 (by decide)
  generalize decV 604045317 = I at h
  obtain ⟨o, s, t, d, a, i, e⟩ := I
  rcases h with ⟨op, h1, h2, rfl, rfl, rfl, rfl, rfl, rfl, rfl⟩ | ⟨h1, -⟩
  · have : op = 46 := (by decide +kernel : ∀ op < 69, De.Dec.is 604045317 op = true → op = 46) op h1 h2
    subst this
    rfl
  · exact absurd (h1 46 (by omega)) (by decide +kernel)

theorem dec_two : (decV 4294967295).e = 40 := by
  have h := decV_told 4294967295 (by decide)
  generalize decV 4294967295 = I at h
  obtain ⟨o, s, t, d, a, i, e⟩ := I
  rcases h with ⟨op, h1, h2, -⟩ | ⟨h1, -, -, -, -, -, -, rfl⟩
  · have k : De.Dec.is 4294967295 op = false := (by decide +kernel : ∀ op < 69, De.Dec.is 4294967295 op = false) op h1
    exact absurd (h2.symm.trans k) (by decide)
  · rfl

theorem where_0 (c : Cs) (a : Int) (h0 : 2147483648 ≤ a) (h1 : a < 3221225472) (wr : Bool) (hu : Cp.userV c.C = false) : whereV c a wr = (a % 536870912, -1, false) := by
  unfold whereV
  rw [if_neg (by rw [hu]; simp), if_pos ⟨h0, h1⟩]

theorem pl_0 (c : Cs) (a : Int) (h0 : 2147483648 ≤ a) (h1 : a < 3221225472) (h4 : a % 4 = 0) (hu : Cp.userV c.C = false) : plV c a 4 false = (a % 536870912, F0, true) := by
  unfold plV
  rw [where_0 c a h0 h1 false hu, if_neg (by simpa using h4), if_pos rfl]

theorem step_1 (B : Nat → Nat) (D : Nat → Bool) (hB : numOf B 512 4 = 604045317) : stepM 8 ⟨C0, V0, B, D⟩ = ⟨C1, V0, B, D⟩ := by
  obtain ⟨e1, e2, e3⟩ := tick_0 B D
  have t : tickM 8 ⟨C0, V0, B, D⟩ = ⟨{ C0 with C := K1 }, V0, B, D⟩ := by
    have k : Cp.tickV C0.C (linesV V0) = K1 := by kernel_rfl
    unfold tickM
    rw [e1, e2, e3]
    show (⟨{ C0 with C := Cp.tickV C0.C (linesV V0) }, V0, B, D⟩ : Mc) = _
    rw [k]
  have hm : memX 8 B 512 4 = 604045317 := by
    unfold memX
    rw [if_pos (by decide)]
    show ((numOf B 512 4 : Nat) : Int) = _
    rw [hB]
    rfl
  have f : ftV 8 { C0 with C := K1 } B = (⟨46, 0, 1, 0, 0, 5, 0⟩, F0, true) := by
    have hp : plV { C0 with C := K1 } 2147484160 4 false = (512, F0, true) := pl_0 _ _ (by decide) (by decide) (by decide) (by decide)
    unfold ftV
    rw [show ({ C0 with C := K1 } : Cs).pc = 2147484160 from rfl, hp]
    simp only
    rw [hm, dec_one, if_neg (by decide), if_neg (by decide), if_neg (by decide)]
  unfold stepM
  rw [t]
  unfold restM
  simp only [f]
  rw [if_neg (by decide), if_neg (by decide), if_neg (by decide)]
  have d : doM 8 ⟨{ C0 with C := K1 }, V0, B, D⟩ ⟨46, 0, 1, 0, 0, 5, 0⟩ = nop ⟨{ C0 with C := K1, R := putR (fun _ => 0) 1 5 }, V0, B, D⟩ := by
    unfold doM
    rw [if_neg (by decide), if_neg (by decide), if_neg (by decide), if_neg (by decide), if_neg (by decide), if_neg (by decide), if_neg (by decide), if_neg (by decide), if_neg (by decide), if_neg (by decide), if_neg (by decide)]
    rfl
  rw [d, if_pos (show (nop _).k = true from rfl)]
  rfl

theorem step_2 (B : Nat → Nat) (D : Nat → Bool) (hB : numOf B 516 4 = 4294967295) : stepM 8 ⟨C1, V0, B, D⟩ = ⟨C2, V0, B, D⟩ := by
  obtain ⟨e1, e2, e3⟩ := tick_0 B D
  have t : tickM 8 ⟨C1, V0, B, D⟩ = ⟨{ C1 with C := K2 }, V0, B, D⟩ := by
    have k : Cp.tickV C1.C (linesV V0) = K2 := by kernel_rfl
    unfold tickM
    rw [e1, e2, e3]
    show (⟨{ C1 with C := Cp.tickV C1.C (linesV V0) }, V0, B, D⟩ : Mc) = _
    rw [k]
  have hm : memX 8 B 516 4 = 4294967295 := by
    unfold memX
    rw [if_pos (by decide)]
    show ((numOf B 516 4 : Nat) : Int) = _
    rw [hB]
    rfl
  have f : ftV 8 { C1 with C := K2 } B = (I0, ftC 10, false) := by
    have hp : plV { C1 with C := K2 } 2147484164 4 false = (516, F0, true) := pl_0 _ _ (by decide) (by decide) (by decide) (by decide)
    unfold ftV
    rw [show ({ C1 with C := K2 } : Cs).pc = 2147484164 from rfl, hp]
    simp only
    rw [hm, dec_two, if_neg (by decide), if_neg (by decide), if_pos (by decide)]
  unfold stepM
  rw [t]
  unfold restM
  simp only [f]
  have hf : faultC { C1 with C := K2 } (ftC 10) = C2 := by kernel_rfl
  rw [if_neg (by decide), if_pos trivial, hf]

theorem miss_2 : whereV C2 1040 true = (0, 3, true) := by
  have hf : findV C2.T 1040 (C2.C.h % 256) = -1 := by
    refine (findV_is C2.T 1040 (C2.C.h % 256)).one (Or.inl ⟨rfl, fun i hi h => ?_⟩)
    have := h.1
    exact absurd this (by show ¬ ((0 : Int) / 256 = 1040 / 256); decide)
  unfold whereV
  rw [hf, if_neg (by decide), if_neg (by decide)]
  rfl

theorem there_2 : whereV C2 2684354576 true = (16, -1, false) := where_0 C2 _ (by decide) (by decide) _ (by decide)

theorem words_2 : numOf (fillW Z0 130) 512 4 = 604045317 ∧ numOf (fillW Z0 130) 516 4 = 4294967295 :=
  ⟨fill_at Z0 130 128 (by omega) 604045317 rfl (by decide) (by decide), fill_at Z0 130 129 (by omega) 4294967295 rfl (by decide) (by decide)⟩

theorem C1_z : C1.R 0 = 0 ∧ C0.R 0 = 0 := ⟨rfl, rfl⟩

end Go.Proofs.YthjcijlabpinkaaGreatDoor
