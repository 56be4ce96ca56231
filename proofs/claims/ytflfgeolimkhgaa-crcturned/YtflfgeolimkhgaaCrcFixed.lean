/- The calls whose answers the document fixes are answered so. -/
import Derived.Test.YtflfgeolimkhgaaCrcWalks6
namespace Go.Proofs.Ytflfgeolimkhgaa
open Go.RowKit
set_option linter.unusedVariables false

theorem seal_empty : sealOf ⟨#[]⟩ = ⟨#[255, 255]⟩ := by decide +kernel

theorem not_sealed (t : ByteArray) : (⟨#[255, 254]⟩ : ByteArray) ≠ sealOf t := by
  intro h
  have e : (sealOf t).size = 2 := by rw [← h]; rfl
  rw [seal_size] at e
  have z : t = ⟨#[]⟩ := ByteArray.ext (Array.eq_empty_of_size_eq_zero (show t.size = 0 by omega))
  rw [z, seal_empty] at h
  exact absurd h (by decide)

theorem sum_known : Crc.on 65535 (nats ⟨#[49, 50, 51, 52, 53, 54, 55, 56, 57]⟩) = 10673 := by decide +kernel

theorem fixed_any (w : World) : Calls Try.prog 9 #[] w fun e w' => e = .returned (.bool true) ∧ Below w.heap.size w w' := by
  have h1 := open_yes ⟨#[]⟩ w (by decide)
  rw [seal_empty] at h1
  have h3 : ∀ w, Calls Try.prog 12 #[.string ⟨#[49, 50, 51, 52, 53, 54, 55, 56, 57]⟩] w fun e w' => e = .returned (.int .u16 10673) ∧ w' = w := fun w => by
    have := sum_any ⟨#[49, 50, 51, 52, 53, 54, 55, 56, 57]⟩ (by decide) w
    rw [sum_known] at this
    exact this
  have h4 : ∀ w, Calls Try.prog 16 #[.string ⟨#[]⟩] w fun e w' => e = .returned (.string ⟨#[255, 255]⟩) ∧ Below w.heap.size w w' := fun w => by
    have := seal_any ⟨#[]⟩ w (by decide)
    rw [seal_empty] at this
    exact this
  go_enter Try.func9, Try.ntmps9
  go_wp2_with fail
  refine h1.mono ?_
  rintro e w1 ⟨rfl, b1⟩
  go_wp2_with fail
  refine (open_no _ _ (by decide) not_sealed).mono ?_
  rintro e w2 ⟨rfl, b2⟩
  go_wp2_with fail
  refine (h3 _).mono ?_
  rintro e w3 ⟨rfl, rfl⟩
  go_wp2_with fail
  refine (h4 _).mono ?_
  rintro e w4 ⟨rfl, b4⟩
  go_wp2
  go_ret
  exact ⟨rfl, b1.trans ((b2.mono b1.size).trans (b4.mono (Nat.le_trans b1.size b2.size)))⟩

end Go.Proofs.Ytflfgeolimkhgaa
