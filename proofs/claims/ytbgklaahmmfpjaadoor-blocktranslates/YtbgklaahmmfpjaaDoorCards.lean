/-
  DERIVED. GIVEN WITH THE SEED: THE CARDS: each row of YtbgklaahmmfpjaaDoorRows.lean that lists a variable, with what it lists TIED to the program's text (the seventh form; the later family's looks); each row that meets fmt, with fmt's text TOLD by the authors' own Lean function (tested against real Go, not proved from fmt's source: count such statements apart). THE CARD IS WHAT COUNTS. Prove the row's statement (the work); the ties are given (YtbgklaahmmfpjaaDoorTie.lean); close each card by the builder's one call (the guide's Derived/Test/ToyasCard.lean, 'card_holds'). Laid BY PROGRAM, IN A SANDBOX (cutbox-door.mjs). By AI agents, Wed Nov 11 2026. No macro, syntax, notation, axiom, sorry.
-/
import Derived.Test.YtbgklaahmmfpjaaDoorRows
import GoSem.ClaimSeven
namespace Go.Proofs.YtbgklaahmmfpjaaDoor
namespace Rows

/-- THE TIED CARD OF 'zoetropelaw14.BlockTranslates'. -/
def blockTranslatesCard : Claim7 := { stood := { row := blockTranslatesRow, standIns := [], harness := (true, "4d688f6acc54fc34edbd574ad36e8a5917c2ee439e417133875ed823f3773eab"), looks := false }, kinds := [], alts := [], laidByText := true, laidKinds := [.data, .data], laidTests := true, laidLooks := .later }
def BlockTranslatesCardSaid : Prop := Claim7.holds Tryd.pinned (.plain (OpenSpec.ofChange blockTranslatesSpec)) blockTranslatesCard

/-- THE SECOND FORM's CARD OF 'zoetropelaw14.BlockTranslates'. -/
def blockTranslatesUptoCard : Claim7 := { stood := { row := blockTranslatesUptoRow, standIns := [], harness := (true, "4d688f6acc54fc34edbd574ad36e8a5917c2ee439e417133875ed823f3773eab"), looks := false }, kinds := [], alts := [], laidByText := true, laidKinds := [.data, .data], laidTests := true, laidLooks := .later }
def BlockTranslatesUptoCardSaid : Prop := Claim7.holds Tryd.pinned (.plain (OpenSpec.upto blockTranslatesSpec)) blockTranslatesUptoCard
end Rows
end Go.Proofs.YtbgklaahmmfpjaaDoor
