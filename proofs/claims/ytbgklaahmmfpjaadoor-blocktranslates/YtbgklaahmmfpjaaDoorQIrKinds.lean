/- Layer 14: the document's kinds. -/
import Derived.Test.YtbgklaahmmfpjaaDoorQIrTrans2
import Derived.Test.YtbgklaahmmfpjaaDoorQDecWords
namespace Go.Proofs.YtbgklaahmmfpjaaDoor.Ir
open Go.RowKit
set_option linter.unusedVariables false
set_option maxRecDepth 100000
set_option linter.unusedSimpArgs false

/-- The document's kind; below 0: it is not plain. -/
def rkindV (o : Int) : Int := if isPl o then kindV o else -1

theorem rk_0 (w : World) : Calls Tryd.prog 10 #[.string ⟨#[115, 108, 108]⟩] w fun e w' => e = .returned (.int .i64 (rkindV 0)) ∧ w' = w := by
  go_enter Tryd.func10, Tryd.ntmps10
  go_wp2
  go_ret
  exact ⟨rfl, rfl⟩

theorem rk_1 (w : World) : Calls Tryd.prog 10 #[.string ⟨#[115, 114, 108]⟩] w fun e w' => e = .returned (.int .i64 (rkindV 1)) ∧ w' = w := by
  go_enter Tryd.func10, Tryd.ntmps10
  go_wp2
  go_ret
  exact ⟨rfl, rfl⟩

theorem rk_2 (w : World) : Calls Tryd.prog 10 #[.string ⟨#[115, 114, 97]⟩] w fun e w' => e = .returned (.int .i64 (rkindV 2)) ∧ w' = w := by
  go_enter Tryd.func10, Tryd.ntmps10
  go_wp2
  go_ret
  exact ⟨rfl, rfl⟩

theorem rk_3 (w : World) : Calls Tryd.prog 10 #[.string ⟨#[115, 108, 108, 118]⟩] w fun e w' => e = .returned (.int .i64 (rkindV 3)) ∧ w' = w := by
  go_enter Tryd.func10, Tryd.ntmps10
  go_wp2
  go_ret
  exact ⟨rfl, rfl⟩

theorem rk_4 (w : World) : Calls Tryd.prog 10 #[.string ⟨#[115, 114, 108, 118]⟩] w fun e w' => e = .returned (.int .i64 (rkindV 4)) ∧ w' = w := by
  go_enter Tryd.func10, Tryd.ntmps10
  go_wp2
  go_ret
  exact ⟨rfl, rfl⟩

theorem rk_5 (w : World) : Calls Tryd.prog 10 #[.string ⟨#[115, 114, 97, 118]⟩] w fun e w' => e = .returned (.int .i64 (rkindV 5)) ∧ w' = w := by
  go_enter Tryd.func10, Tryd.ntmps10
  go_wp2
  go_ret
  exact ⟨rfl, rfl⟩

theorem rk_6 (w : World) : Calls Tryd.prog 10 #[.string ⟨#[106, 114]⟩] w fun e w' => e = .returned (.int .i64 (rkindV 6)) ∧ w' = w := by
  go_enter Tryd.func10, Tryd.ntmps10
  go_wp2
  go_ret
  exact ⟨rfl, rfl⟩

theorem rk_7 (w : World) : Calls Tryd.prog 10 #[.string ⟨#[106, 97, 108, 114]⟩] w fun e w' => e = .returned (.int .i64 (rkindV 7)) ∧ w' = w := by
  go_enter Tryd.func10, Tryd.ntmps10
  go_wp2
  go_ret
  exact ⟨rfl, rfl⟩

theorem rk_8 (w : World) : Calls Tryd.prog 10 #[.string ⟨#[109, 111, 118, 122]⟩] w fun e w' => e = .returned (.int .i64 (rkindV 8)) ∧ w' = w := by
  go_enter Tryd.func10, Tryd.ntmps10
  go_wp2
  go_ret
  exact ⟨rfl, rfl⟩

theorem rk_9 (w : World) : Calls Tryd.prog 10 #[.string ⟨#[109, 111, 118, 110]⟩] w fun e w' => e = .returned (.int .i64 (rkindV 9)) ∧ w' = w := by
  go_enter Tryd.func10, Tryd.ntmps10
  go_wp2
  go_ret
  exact ⟨rfl, rfl⟩

theorem rk_10 (w : World) : Calls Tryd.prog 10 #[.string ⟨#[115, 121, 115, 99, 97, 108, 108]⟩] w fun e w' => e = .returned (.int .i64 (rkindV 10)) ∧ w' = w := by
  go_enter Tryd.func10, Tryd.ntmps10
  go_wp2
  go_ret
  exact ⟨rfl, rfl⟩

theorem rk_11 (w : World) : Calls Tryd.prog 10 #[.string ⟨#[98, 114, 101, 97, 107]⟩] w fun e w' => e = .returned (.int .i64 (rkindV 11)) ∧ w' = w := by
  go_enter Tryd.func10, Tryd.ntmps10
  go_wp2
  go_ret
  exact ⟨rfl, rfl⟩

theorem rk_12 (w : World) : Calls Tryd.prog 10 #[.string ⟨#[109, 102, 104, 105]⟩] w fun e w' => e = .returned (.int .i64 (rkindV 12)) ∧ w' = w := by
  go_enter Tryd.func10, Tryd.ntmps10
  go_wp2
  go_ret
  exact ⟨rfl, rfl⟩

theorem rk_13 (w : World) : Calls Tryd.prog 10 #[.string ⟨#[109, 116, 104, 105]⟩] w fun e w' => e = .returned (.int .i64 (rkindV 13)) ∧ w' = w := by
  go_enter Tryd.func10, Tryd.ntmps10
  go_wp2
  go_ret
  exact ⟨rfl, rfl⟩

theorem rk_14 (w : World) : Calls Tryd.prog 10 #[.string ⟨#[109, 102, 108, 111]⟩] w fun e w' => e = .returned (.int .i64 (rkindV 14)) ∧ w' = w := by
  go_enter Tryd.func10, Tryd.ntmps10
  go_wp2
  go_ret
  exact ⟨rfl, rfl⟩

theorem rk_15 (w : World) : Calls Tryd.prog 10 #[.string ⟨#[109, 116, 108, 111]⟩] w fun e w' => e = .returned (.int .i64 (rkindV 15)) ∧ w' = w := by
  go_enter Tryd.func10, Tryd.ntmps10
  go_wp2
  go_ret
  exact ⟨rfl, rfl⟩

theorem rk_16 (w : World) : Calls Tryd.prog 10 #[.string ⟨#[109, 117, 108, 116]⟩] w fun e w' => e = .returned (.int .i64 (rkindV 16)) ∧ w' = w := by
  go_enter Tryd.func10, Tryd.ntmps10
  go_wp2
  go_ret
  exact ⟨rfl, rfl⟩

theorem rk_17 (w : World) : Calls Tryd.prog 10 #[.string ⟨#[109, 117, 108, 116, 117]⟩] w fun e w' => e = .returned (.int .i64 (rkindV 17)) ∧ w' = w := by
  go_enter Tryd.func10, Tryd.ntmps10
  go_wp2
  go_ret
  exact ⟨rfl, rfl⟩

theorem rk_18 (w : World) : Calls Tryd.prog 10 #[.string ⟨#[100, 105, 118]⟩] w fun e w' => e = .returned (.int .i64 (rkindV 18)) ∧ w' = w := by
  go_enter Tryd.func10, Tryd.ntmps10
  go_wp2
  go_ret
  exact ⟨rfl, rfl⟩

theorem rk_19 (w : World) : Calls Tryd.prog 10 #[.string ⟨#[100, 105, 118, 117]⟩] w fun e w' => e = .returned (.int .i64 (rkindV 19)) ∧ w' = w := by
  go_enter Tryd.func10, Tryd.ntmps10
  go_wp2
  go_ret
  exact ⟨rfl, rfl⟩

theorem rk_20 (w : World) : Calls Tryd.prog 10 #[.string ⟨#[97, 100, 100]⟩] w fun e w' => e = .returned (.int .i64 (rkindV 20)) ∧ w' = w := by
  go_enter Tryd.func10, Tryd.ntmps10
  go_wp2
  go_ret
  exact ⟨rfl, rfl⟩

theorem rk_21 (w : World) : Calls Tryd.prog 10 #[.string ⟨#[97, 100, 100, 117]⟩] w fun e w' => e = .returned (.int .i64 (rkindV 21)) ∧ w' = w := by
  go_enter Tryd.func10, Tryd.ntmps10
  go_wp2
  go_ret
  exact ⟨rfl, rfl⟩

theorem rk_22 (w : World) : Calls Tryd.prog 10 #[.string ⟨#[115, 117, 98]⟩] w fun e w' => e = .returned (.int .i64 (rkindV 22)) ∧ w' = w := by
  go_enter Tryd.func10, Tryd.ntmps10
  go_wp2
  go_ret
  exact ⟨rfl, rfl⟩

theorem rk_23 (w : World) : Calls Tryd.prog 10 #[.string ⟨#[115, 117, 98, 117]⟩] w fun e w' => e = .returned (.int .i64 (rkindV 23)) ∧ w' = w := by
  go_enter Tryd.func10, Tryd.ntmps10
  go_wp2
  go_ret
  exact ⟨rfl, rfl⟩

theorem rk_24 (w : World) : Calls Tryd.prog 10 #[.string ⟨#[97, 110, 100]⟩] w fun e w' => e = .returned (.int .i64 (rkindV 24)) ∧ w' = w := by
  go_enter Tryd.func10, Tryd.ntmps10
  go_wp2
  go_ret
  exact ⟨rfl, rfl⟩

theorem rk_25 (w : World) : Calls Tryd.prog 10 #[.string ⟨#[111, 114]⟩] w fun e w' => e = .returned (.int .i64 (rkindV 25)) ∧ w' = w := by
  go_enter Tryd.func10, Tryd.ntmps10
  go_wp2
  go_ret
  exact ⟨rfl, rfl⟩

theorem rk_26 (w : World) : Calls Tryd.prog 10 #[.string ⟨#[120, 111, 114]⟩] w fun e w' => e = .returned (.int .i64 (rkindV 26)) ∧ w' = w := by
  go_enter Tryd.func10, Tryd.ntmps10
  go_wp2
  go_ret
  exact ⟨rfl, rfl⟩

theorem rk_27 (w : World) : Calls Tryd.prog 10 #[.string ⟨#[110, 111, 114]⟩] w fun e w' => e = .returned (.int .i64 (rkindV 27)) ∧ w' = w := by
  go_enter Tryd.func10, Tryd.ntmps10
  go_wp2
  go_ret
  exact ⟨rfl, rfl⟩

theorem rk_28 (w : World) : Calls Tryd.prog 10 #[.string ⟨#[115, 108, 116]⟩] w fun e w' => e = .returned (.int .i64 (rkindV 28)) ∧ w' = w := by
  go_enter Tryd.func10, Tryd.ntmps10
  go_wp2
  go_ret
  exact ⟨rfl, rfl⟩

theorem rk_29 (w : World) : Calls Tryd.prog 10 #[.string ⟨#[115, 108, 116, 117]⟩] w fun e w' => e = .returned (.int .i64 (rkindV 29)) ∧ w' = w := by
  go_enter Tryd.func10, Tryd.ntmps10
  go_wp2
  go_ret
  exact ⟨rfl, rfl⟩

theorem rk_30 (w : World) : Calls Tryd.prog 10 #[.string ⟨#[116, 101, 113]⟩] w fun e w' => e = .returned (.int .i64 (rkindV 30)) ∧ w' = w := by
  go_enter Tryd.func10, Tryd.ntmps10
  go_wp2
  go_ret
  exact ⟨rfl, rfl⟩

theorem rk_31 (w : World) : Calls Tryd.prog 10 #[.string ⟨#[116, 110, 101]⟩] w fun e w' => e = .returned (.int .i64 (rkindV 31)) ∧ w' = w := by
  go_enter Tryd.func10, Tryd.ntmps10
  go_wp2
  go_ret
  exact ⟨rfl, rfl⟩

theorem rk_32 (w : World) : Calls Tryd.prog 10 #[.string ⟨#[109, 117, 108]⟩] w fun e w' => e = .returned (.int .i64 (rkindV 32)) ∧ w' = w := by
  go_enter Tryd.func10, Tryd.ntmps10
  go_wp2
  go_ret
  exact ⟨rfl, rfl⟩

theorem rk_33 (w : World) : Calls Tryd.prog 10 #[.string ⟨#[99, 108, 122]⟩] w fun e w' => e = .returned (.int .i64 (rkindV 33)) ∧ w' = w := by
  go_enter Tryd.func10, Tryd.ntmps10
  go_wp2
  go_ret
  exact ⟨rfl, rfl⟩

theorem rk_34 (w : World) : Calls Tryd.prog 10 #[.string ⟨#[99, 108, 111]⟩] w fun e w' => e = .returned (.int .i64 (rkindV 34)) ∧ w' = w := by
  go_enter Tryd.func10, Tryd.ntmps10
  go_wp2
  go_ret
  exact ⟨rfl, rfl⟩

theorem rk_35 (w : World) : Calls Tryd.prog 10 #[.string ⟨#[98, 108, 116, 122]⟩] w fun e w' => e = .returned (.int .i64 (rkindV 35)) ∧ w' = w := by
  go_enter Tryd.func10, Tryd.ntmps10
  go_wp2
  go_ret
  exact ⟨rfl, rfl⟩

theorem rk_36 (w : World) : Calls Tryd.prog 10 #[.string ⟨#[98, 103, 101, 122]⟩] w fun e w' => e = .returned (.int .i64 (rkindV 36)) ∧ w' = w := by
  go_enter Tryd.func10, Tryd.ntmps10
  go_wp2
  go_ret
  exact ⟨rfl, rfl⟩

theorem rk_37 (w : World) : Calls Tryd.prog 10 #[.string ⟨#[98, 108, 116, 122, 97, 108]⟩] w fun e w' => e = .returned (.int .i64 (rkindV 37)) ∧ w' = w := by
  go_enter Tryd.func10, Tryd.ntmps10
  go_wp2
  go_ret
  exact ⟨rfl, rfl⟩

theorem rk_38 (w : World) : Calls Tryd.prog 10 #[.string ⟨#[98, 103, 101, 122, 97, 108]⟩] w fun e w' => e = .returned (.int .i64 (rkindV 38)) ∧ w' = w := by
  go_enter Tryd.func10, Tryd.ntmps10
  go_wp2
  go_ret
  exact ⟨rfl, rfl⟩

theorem rk_39 (w : World) : Calls Tryd.prog 10 #[.string ⟨#[106]⟩] w fun e w' => e = .returned (.int .i64 (rkindV 39)) ∧ w' = w := by
  go_enter Tryd.func10, Tryd.ntmps10
  go_wp2
  go_ret
  exact ⟨rfl, rfl⟩

theorem rk_40 (w : World) : Calls Tryd.prog 10 #[.string ⟨#[106, 97, 108]⟩] w fun e w' => e = .returned (.int .i64 (rkindV 40)) ∧ w' = w := by
  go_enter Tryd.func10, Tryd.ntmps10
  go_wp2
  go_ret
  exact ⟨rfl, rfl⟩

theorem rk_41 (w : World) : Calls Tryd.prog 10 #[.string ⟨#[98, 101, 113]⟩] w fun e w' => e = .returned (.int .i64 (rkindV 41)) ∧ w' = w := by
  go_enter Tryd.func10, Tryd.ntmps10
  go_wp2
  go_ret
  exact ⟨rfl, rfl⟩

theorem rk_42 (w : World) : Calls Tryd.prog 10 #[.string ⟨#[98, 110, 101]⟩] w fun e w' => e = .returned (.int .i64 (rkindV 42)) ∧ w' = w := by
  go_enter Tryd.func10, Tryd.ntmps10
  go_wp2
  go_ret
  exact ⟨rfl, rfl⟩

theorem rk_43 (w : World) : Calls Tryd.prog 10 #[.string ⟨#[98, 108, 101, 122]⟩] w fun e w' => e = .returned (.int .i64 (rkindV 43)) ∧ w' = w := by
  go_enter Tryd.func10, Tryd.ntmps10
  go_wp2
  go_ret
  exact ⟨rfl, rfl⟩

theorem rk_44 (w : World) : Calls Tryd.prog 10 #[.string ⟨#[98, 103, 116, 122]⟩] w fun e w' => e = .returned (.int .i64 (rkindV 44)) ∧ w' = w := by
  go_enter Tryd.func10, Tryd.ntmps10
  go_wp2
  go_ret
  exact ⟨rfl, rfl⟩

theorem rk_45 (w : World) : Calls Tryd.prog 10 #[.string ⟨#[97, 100, 100, 105]⟩] w fun e w' => e = .returned (.int .i64 (rkindV 45)) ∧ w' = w := by
  go_enter Tryd.func10, Tryd.ntmps10
  go_wp2
  go_ret
  exact ⟨rfl, rfl⟩

theorem rk_46 (w : World) : Calls Tryd.prog 10 #[.string ⟨#[97, 100, 100, 105, 117]⟩] w fun e w' => e = .returned (.int .i64 (rkindV 46)) ∧ w' = w := by
  go_enter Tryd.func10, Tryd.ntmps10
  go_wp2
  go_ret
  exact ⟨rfl, rfl⟩

theorem rk_47 (w : World) : Calls Tryd.prog 10 #[.string ⟨#[115, 108, 116, 105]⟩] w fun e w' => e = .returned (.int .i64 (rkindV 47)) ∧ w' = w := by
  go_enter Tryd.func10, Tryd.ntmps10
  go_wp2
  go_ret
  exact ⟨rfl, rfl⟩

theorem rk_48 (w : World) : Calls Tryd.prog 10 #[.string ⟨#[115, 108, 116, 105, 117]⟩] w fun e w' => e = .returned (.int .i64 (rkindV 48)) ∧ w' = w := by
  go_enter Tryd.func10, Tryd.ntmps10
  go_wp2
  go_ret
  exact ⟨rfl, rfl⟩

theorem rk_49 (w : World) : Calls Tryd.prog 10 #[.string ⟨#[97, 110, 100, 105]⟩] w fun e w' => e = .returned (.int .i64 (rkindV 49)) ∧ w' = w := by
  go_enter Tryd.func10, Tryd.ntmps10
  go_wp2
  go_ret
  exact ⟨rfl, rfl⟩

theorem rk_50 (w : World) : Calls Tryd.prog 10 #[.string ⟨#[111, 114, 105]⟩] w fun e w' => e = .returned (.int .i64 (rkindV 50)) ∧ w' = w := by
  go_enter Tryd.func10, Tryd.ntmps10
  go_wp2
  go_ret
  exact ⟨rfl, rfl⟩

theorem rk_51 (w : World) : Calls Tryd.prog 10 #[.string ⟨#[120, 111, 114, 105]⟩] w fun e w' => e = .returned (.int .i64 (rkindV 51)) ∧ w' = w := by
  go_enter Tryd.func10, Tryd.ntmps10
  go_wp2
  go_ret
  exact ⟨rfl, rfl⟩

theorem rk_52 (w : World) : Calls Tryd.prog 10 #[.string ⟨#[108, 117, 105]⟩] w fun e w' => e = .returned (.int .i64 (rkindV 52)) ∧ w' = w := by
  go_enter Tryd.func10, Tryd.ntmps10
  go_wp2
  go_ret
  exact ⟨rfl, rfl⟩

theorem rk_53 (w : World) : Calls Tryd.prog 10 #[.string ⟨#[109, 102, 99, 48]⟩] w fun e w' => e = .returned (.int .i64 (rkindV 53)) ∧ w' = w := by
  go_enter Tryd.func10, Tryd.ntmps10
  go_wp2
  go_ret
  exact ⟨rfl, rfl⟩

theorem rk_54 (w : World) : Calls Tryd.prog 10 #[.string ⟨#[109, 116, 99, 48]⟩] w fun e w' => e = .returned (.int .i64 (rkindV 54)) ∧ w' = w := by
  go_enter Tryd.func10, Tryd.ntmps10
  go_wp2
  go_ret
  exact ⟨rfl, rfl⟩

theorem rk_55 (w : World) : Calls Tryd.prog 10 #[.string ⟨#[116, 108, 98, 114]⟩] w fun e w' => e = .returned (.int .i64 (rkindV 55)) ∧ w' = w := by
  go_enter Tryd.func10, Tryd.ntmps10
  go_wp2
  go_ret
  exact ⟨rfl, rfl⟩

theorem rk_56 (w : World) : Calls Tryd.prog 10 #[.string ⟨#[116, 108, 98, 119, 105]⟩] w fun e w' => e = .returned (.int .i64 (rkindV 56)) ∧ w' = w := by
  go_enter Tryd.func10, Tryd.ntmps10
  go_wp2
  go_ret
  exact ⟨rfl, rfl⟩

theorem rk_57 (w : World) : Calls Tryd.prog 10 #[.string ⟨#[116, 108, 98, 112]⟩] w fun e w' => e = .returned (.int .i64 (rkindV 57)) ∧ w' = w := by
  go_enter Tryd.func10, Tryd.ntmps10
  go_wp2
  go_ret
  exact ⟨rfl, rfl⟩

theorem rk_58 (w : World) : Calls Tryd.prog 10 #[.string ⟨#[101, 114, 101, 116]⟩] w fun e w' => e = .returned (.int .i64 (rkindV 58)) ∧ w' = w := by
  go_enter Tryd.func10, Tryd.ntmps10
  go_wp2
  go_ret
  exact ⟨rfl, rfl⟩

theorem rk_59 (w : World) : Calls Tryd.prog 10 #[.string ⟨#[108, 98]⟩] w fun e w' => e = .returned (.int .i64 (rkindV 59)) ∧ w' = w := by
  go_enter Tryd.func10, Tryd.ntmps10
  go_wp2
  go_ret
  exact ⟨rfl, rfl⟩

theorem rk_60 (w : World) : Calls Tryd.prog 10 #[.string ⟨#[108, 104]⟩] w fun e w' => e = .returned (.int .i64 (rkindV 60)) ∧ w' = w := by
  go_enter Tryd.func10, Tryd.ntmps10
  go_wp2
  go_ret
  exact ⟨rfl, rfl⟩

theorem rk_61 (w : World) : Calls Tryd.prog 10 #[.string ⟨#[108, 119]⟩] w fun e w' => e = .returned (.int .i64 (rkindV 61)) ∧ w' = w := by
  go_enter Tryd.func10, Tryd.ntmps10
  go_wp2
  go_ret
  exact ⟨rfl, rfl⟩

theorem rk_62 (w : World) : Calls Tryd.prog 10 #[.string ⟨#[108, 98, 117]⟩] w fun e w' => e = .returned (.int .i64 (rkindV 62)) ∧ w' = w := by
  go_enter Tryd.func10, Tryd.ntmps10
  go_wp2
  go_ret
  exact ⟨rfl, rfl⟩

theorem rk_63 (w : World) : Calls Tryd.prog 10 #[.string ⟨#[108, 104, 117]⟩] w fun e w' => e = .returned (.int .i64 (rkindV 63)) ∧ w' = w := by
  go_enter Tryd.func10, Tryd.ntmps10
  go_wp2
  go_ret
  exact ⟨rfl, rfl⟩

theorem rk_64 (w : World) : Calls Tryd.prog 10 #[.string ⟨#[115, 98]⟩] w fun e w' => e = .returned (.int .i64 (rkindV 64)) ∧ w' = w := by
  go_enter Tryd.func10, Tryd.ntmps10
  go_wp2
  go_ret
  exact ⟨rfl, rfl⟩

theorem rk_65 (w : World) : Calls Tryd.prog 10 #[.string ⟨#[115, 104]⟩] w fun e w' => e = .returned (.int .i64 (rkindV 65)) ∧ w' = w := by
  go_enter Tryd.func10, Tryd.ntmps10
  go_wp2
  go_ret
  exact ⟨rfl, rfl⟩

theorem rk_66 (w : World) : Calls Tryd.prog 10 #[.string ⟨#[115, 119]⟩] w fun e w' => e = .returned (.int .i64 (rkindV 66)) ∧ w' = w := by
  go_enter Tryd.func10, Tryd.ntmps10
  go_wp2
  go_ret
  exact ⟨rfl, rfl⟩

theorem rk_67 (w : World) : Calls Tryd.prog 10 #[.string ⟨#[108, 108]⟩] w fun e w' => e = .returned (.int .i64 (rkindV 67)) ∧ w' = w := by
  go_enter Tryd.func10, Tryd.ntmps10
  go_wp2
  go_ret
  exact ⟨rfl, rfl⟩

theorem rk_68 (w : World) : Calls Tryd.prog 10 #[.string ⟨#[115, 99]⟩] w fun e w' => e = .returned (.int .i64 (rkindV 68)) ∧ w' = w := by
  go_enter Tryd.func10, Tryd.ntmps10
  go_wp2
  go_ret
  exact ⟨rfl, rfl⟩

theorem rkinds_any : ∀ op : Nat, op < 69 → ∀ w : World, Calls Tryd.prog 10 #[.string (De.Dec.name op)] w fun e w' => e = .returned (.int .i64 (rkindV (op : Int))) ∧ w' = w
  | 0, _ => rk_0
  | 1, _ => rk_1
  | 2, _ => rk_2
  | 3, _ => rk_3
  | 4, _ => rk_4
  | 5, _ => rk_5
  | 6, _ => rk_6
  | 7, _ => rk_7
  | 8, _ => rk_8
  | 9, _ => rk_9
  | 10, _ => rk_10
  | 11, _ => rk_11
  | 12, _ => rk_12
  | 13, _ => rk_13
  | 14, _ => rk_14
  | 15, _ => rk_15
  | 16, _ => rk_16
  | 17, _ => rk_17
  | 18, _ => rk_18
  | 19, _ => rk_19
  | 20, _ => rk_20
  | 21, _ => rk_21
  | 22, _ => rk_22
  | 23, _ => rk_23
  | 24, _ => rk_24
  | 25, _ => rk_25
  | 26, _ => rk_26
  | 27, _ => rk_27
  | 28, _ => rk_28
  | 29, _ => rk_29
  | 30, _ => rk_30
  | 31, _ => rk_31
  | 32, _ => rk_32
  | 33, _ => rk_33
  | 34, _ => rk_34
  | 35, _ => rk_35
  | 36, _ => rk_36
  | 37, _ => rk_37
  | 38, _ => rk_38
  | 39, _ => rk_39
  | 40, _ => rk_40
  | 41, _ => rk_41
  | 42, _ => rk_42
  | 43, _ => rk_43
  | 44, _ => rk_44
  | 45, _ => rk_45
  | 46, _ => rk_46
  | 47, _ => rk_47
  | 48, _ => rk_48
  | 49, _ => rk_49
  | 50, _ => rk_50
  | 51, _ => rk_51
  | 52, _ => rk_52
  | 53, _ => rk_53
  | 54, _ => rk_54
  | 55, _ => rk_55
  | 56, _ => rk_56
  | 57, _ => rk_57
  | 58, _ => rk_58
  | 59, _ => rk_59
  | 60, _ => rk_60
  | 61, _ => rk_61
  | 62, _ => rk_62
  | 63, _ => rk_63
  | 64, _ => rk_64
  | 65, _ => rk_65
  | 66, _ => rk_66
  | 67, _ => rk_67
  | 68, _ => rk_68
  | n + 69, h => absurd h (by omega)

end Go.Proofs.YtbgklaahmmfpjaaDoor.Ir
