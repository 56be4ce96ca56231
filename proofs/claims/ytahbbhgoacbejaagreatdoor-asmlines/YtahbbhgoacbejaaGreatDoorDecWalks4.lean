/- What the program's Decode and Encode answer. -/
import Derived.Test.YtahbbhgoacbejaaGreatDoorDecWalks3
namespace Go.Proofs.YtahbbhgoacbejaaGreatDoor
open Go.RowKit
set_option linter.unusedVariables false

/-- The instruction whose word a word is, field by field, and 0; or all 0 and 40, where there is none. -/
def Told (w : Nat) (o s t d a i e : Int) : Prop :=
  (∃ op, op < 69 ∧ Dec.is w op = true ∧ o = (op : Int) ∧ s = (Dec.ds op w : Nat) ∧ t = (Dec.dt op w : Nat) ∧ d = (Dec.dd op w : Nat) ∧ a = (Dec.da op w : Nat) ∧ i = Dec.di op w ∧ e = 0) ∨
    ((∀ op < 69, Dec.is w op = false) ∧ o = 0 ∧ s = 0 ∧ t = 0 ∧ d = 0 ∧ a = 0 ∧ i = 0 ∧ e = 40)

end Go.Proofs.YtahbbhgoacbejaaGreatDoor
