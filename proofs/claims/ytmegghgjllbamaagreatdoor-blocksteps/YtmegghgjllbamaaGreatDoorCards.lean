/-
  DERIVED. GIVEN WITH THE SEED: THE CARDS: each row of YtmegghgjllbamaaGreatDoorRows.lean that lists a variable, with what it lists TIED to the program's text (the seventh form; the later family's looks); each row that meets fmt, with fmt's text TOLD by the authors' own Lean function (tested against real Go, not proved from fmt's source: count such statements apart). THE CARD IS WHAT COUNTS. Prove the row's statement (the work); the ties are given (YtmegghgjllbamaaGreatDoorTie.lean); close each card by the builder's one call (the guide's Derived/Test/ToyasCard.lean, 'card_holds'). Laid BY PROGRAM, IN A SANDBOX (cutbox-door.mjs). By AI agents, Wed Nov 11 2026. No macro, syntax, notation, axiom, sorry.
-/
import Derived.Test.YtmegghgjllbamaaGreatDoorRows
import GoSem.ClaimSeven
namespace Go.Proofs.YtmegghgjllbamaaGreatDoor
namespace Rows

/-- THE TIED CARD OF 'zoetropelaw14.BlockSteps'. -/
def blockStepsCard : Claim7 := { stood := { row := blockStepsRow, standIns := [], harness := (true, "1eb9d18ce7c4ebe61d884cbfaa6554009e82b2874ad62c6dc9a19cff098dde97"), looks := false }, kinds := [], alts := [], laidByText := true, laidKinds := [.data, .data], laidTests := true, laidLooks := .later }
def BlockStepsCardSaid : Prop := Claim7.holds Tryz.pinned (.plain (OpenSpec.ofChange blockStepsSpec)) blockStepsCard

/-- THE SECOND FORM's CARD OF 'zoetropelaw14.BlockSteps'. -/
def blockStepsUptoCard : Claim7 := { stood := { row := blockStepsUptoRow, standIns := [], harness := (true, "1eb9d18ce7c4ebe61d884cbfaa6554009e82b2874ad62c6dc9a19cff098dde97"), looks := false }, kinds := [], alts := [], laidByText := true, laidKinds := [.data, .data], laidTests := true, laidLooks := .later }
def BlockStepsUptoCardSaid : Prop := Claim7.holds Tryz.pinned (.plain (OpenSpec.upto blockStepsSpec)) blockStepsUptoCard
end Rows
end Go.Proofs.YtmegghgjllbamaaGreatDoor
