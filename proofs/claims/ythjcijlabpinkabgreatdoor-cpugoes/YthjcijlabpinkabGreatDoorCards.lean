/-
  DERIVED. GIVEN WITH THE SEED: THE CARDS: each row of YthjcijlabpinkabGreatDoorRows.lean that lists a variable, with what it lists TIED to the program's text (the seventh form; the later family's looks); each row that meets fmt, with fmt's text TOLD by the authors' own Lean function (tested against real Go, not proved from fmt's source: count such statements apart). THE CARD IS WHAT COUNTS. Prove the row's statement (the work); the ties are given (YthjcijlabpinkabGreatDoorTie.lean); close each card by the builder's one call (the guide's Derived/Test/ToyasCard.lean, 'card_holds'). Laid BY PROGRAM, IN A SANDBOX (cutbox-door.mjs). By AI agents, Wed Nov 11 2026. No macro, syntax, notation, axiom, sorry.
-/
import Derived.Test.YthjcijlabpinkabGreatDoorRows
import GoSem.ClaimSeven
namespace Go.Proofs.YthjcijlabpinkabGreatDoor
namespace Rows

/-- THE TIED CARD OF 'zoetropelaw13.CpuZero'. -/
def cpuZeroCard : Claim7 := { stood := { row := cpuZeroRow, standIns := [], harness := (true, "8d77385976107e5b73499f968193abe78b55aeaf5727ba7f4a513b66388d86d3"), looks := false }, kinds := [], alts := [], laidByText := true, laidKinds := [.data, .data], laidTests := true, laidLooks := .later }
def CpuZeroCardSaid : Prop := Claim7.holds Tryz.pinned (.plain (OpenSpec.ofChange cpuZeroSpec)) cpuZeroCard

/-- THE TIED CARD OF 'zoetropelaw13.CpuGoes'. -/
def cpuGoesCard : Claim7 := { stood := { row := cpuGoesRow, standIns := [], harness := (true, "8d77385976107e5b73499f968193abe78b55aeaf5727ba7f4a513b66388d86d3"), looks := false }, kinds := [], alts := [], laidByText := true, laidKinds := [.data, .data], laidTests := true, laidLooks := .later }
def CpuGoesCardSaid : Prop := Claim7.holds Tryz.pinned (.plain (OpenSpec.ofChange cpuGoesSpec)) cpuGoesCard

/-- THE SECOND FORM's CARD OF 'zoetropelaw13.CpuZero'. -/
def cpuZeroUptoCard : Claim7 := { stood := { row := cpuZeroUptoRow, standIns := [], harness := (true, "8d77385976107e5b73499f968193abe78b55aeaf5727ba7f4a513b66388d86d3"), looks := false }, kinds := [], alts := [], laidByText := true, laidKinds := [.data, .data], laidTests := true, laidLooks := .later }
def CpuZeroUptoCardSaid : Prop := Claim7.holds Tryz.pinned (.plain (OpenSpec.upto cpuZeroSpec)) cpuZeroUptoCard

/-- THE SECOND FORM's CARD OF 'zoetropelaw13.CpuGoes'. -/
def cpuGoesUptoCard : Claim7 := { stood := { row := cpuGoesUptoRow, standIns := [], harness := (true, "8d77385976107e5b73499f968193abe78b55aeaf5727ba7f4a513b66388d86d3"), looks := false }, kinds := [], alts := [], laidByText := true, laidKinds := [.data, .data], laidTests := true, laidLooks := .later }
def CpuGoesUptoCardSaid : Prop := Claim7.holds Tryz.pinned (.plain (OpenSpec.upto cpuGoesSpec)) cpuGoesUptoCard
end Rows
end Go.Proofs.YthjcijlabpinkabGreatDoor
