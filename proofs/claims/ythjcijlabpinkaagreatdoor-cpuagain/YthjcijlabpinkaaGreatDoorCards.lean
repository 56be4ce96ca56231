/-
  DERIVED. GIVEN WITH THE SEED: THE CARDS: each row of YthjcijlabpinkaaGreatDoorRows.lean that lists a variable, with what it lists TIED to the program's text (the seventh form; the later family's looks); each row that meets fmt, with fmt's text TOLD by the authors' own Lean function (tested against real Go, not proved from fmt's source: count such statements apart). THE CARD IS WHAT COUNTS. Prove the row's statement (the work); the ties are given (YthjcijlabpinkaaGreatDoorTie.lean); close each card by the builder's one call (the guide's Derived/Test/ToyasCard.lean, 'card_holds'). Laid BY PROGRAM, IN A SANDBOX (cutbox-door.mjs). By AI agents, Wed Nov 11 2026. No macro, syntax, notation, axiom, sorry.
-/
import Derived.Test.YthjcijlabpinkaaGreatDoorRows
import GoSem.ClaimSeven
namespace Go.Proofs.YthjcijlabpinkaaGreatDoor
namespace Rows

/-- THE TIED CARD OF 'zoetropelaw13.CpuWheres'. -/
def cpuWheresCard : Claim7 := { stood := { row := cpuWheresRow, standIns := [], harness := (true, "6c178bedd8c1a157bbacc125c521fc2a0c6d96205042f3cf44c763b86a819159"), looks := false }, kinds := [], alts := [], laidByText := true, laidKinds := [.data, .data], laidTests := true, laidLooks := .later }
def CpuWheresCardSaid : Prop := Claim7.holds Tryz.pinned (.plain (OpenSpec.ofChange cpuWheresSpec)) cpuWheresCard

/-- THE TIED CARD OF 'zoetropelaw13.CpuSteps'. -/
def cpuStepsCard : Claim7 := { stood := { row := cpuStepsRow, standIns := [], harness := (true, "6c178bedd8c1a157bbacc125c521fc2a0c6d96205042f3cf44c763b86a819159"), looks := false }, kinds := [], alts := [], laidByText := true, laidKinds := [.data, .data], laidTests := true, laidLooks := .later }
def CpuStepsCardSaid : Prop := Claim7.holds Tryz.pinned (.plain (OpenSpec.ofChange cpuStepsSpec)) cpuStepsCard

/-- THE TIED CARD OF 'zoetropelaw13.CpuDoes'. -/
def cpuDoesCard : Claim7 := { stood := { row := cpuDoesRow, standIns := [], harness := (true, "6c178bedd8c1a157bbacc125c521fc2a0c6d96205042f3cf44c763b86a819159"), looks := false }, kinds := [], alts := [], laidByText := true, laidKinds := [.data, .data], laidTests := true, laidLooks := .later }
def CpuDoesCardSaid : Prop := Claim7.holds Tryz.pinned (.plain (OpenSpec.ofChange cpuDoesSpec)) cpuDoesCard

/-- THE TIED CARD OF 'zoetropelaw13.CpuTexts'. -/
def cpuTextsCard : Claim7 := { stood := { row := cpuTextsRow, standIns := [], harness := (true, "6c178bedd8c1a157bbacc125c521fc2a0c6d96205042f3cf44c763b86a819159"), looks := false }, kinds := [], alts := [], laidByText := true, laidKinds := [.data, .data], laidTests := true, laidLooks := .later }
def CpuTextsCardSaid : Prop := Claim7.holds Tryz.pinned (.plain (OpenSpec.ofChange cpuTextsSpec)) cpuTextsCard

/-- THE TIED CARD OF 'zoetropelaw13.CpuAgain'. -/
def cpuAgainCard : Claim7 := { stood := { row := cpuAgainRow, standIns := [], harness := (true, "6c178bedd8c1a157bbacc125c521fc2a0c6d96205042f3cf44c763b86a819159"), looks := false }, kinds := [], alts := [], laidByText := true, laidKinds := [.data, .data], laidTests := true, laidLooks := .later }
def CpuAgainCardSaid : Prop := Claim7.holds Tryz.pinned (.plain (OpenSpec.ofChange cpuAgainSpec)) cpuAgainCard

/-- THE TIED CARD OF 'zoetropelaw13.CpuUser'. -/
def cpuUserCard : Claim7 := { stood := { row := cpuUserRow, standIns := [], harness := (true, "6c178bedd8c1a157bbacc125c521fc2a0c6d96205042f3cf44c763b86a819159"), looks := false }, kinds := [], alts := [], laidByText := true, laidKinds := [.data, .data], laidTests := true, laidLooks := .later }
def CpuUserCardSaid : Prop := Claim7.holds Tryz.pinned (.plain (OpenSpec.ofChange cpuUserSpec)) cpuUserCard

/-- THE SECOND FORM's CARD OF 'zoetropelaw13.CpuWheres'. -/
def cpuWheresUptoCard : Claim7 := { stood := { row := cpuWheresUptoRow, standIns := [], harness := (true, "6c178bedd8c1a157bbacc125c521fc2a0c6d96205042f3cf44c763b86a819159"), looks := false }, kinds := [], alts := [], laidByText := true, laidKinds := [.data, .data], laidTests := true, laidLooks := .later }
def CpuWheresUptoCardSaid : Prop := Claim7.holds Tryz.pinned (.plain (OpenSpec.upto cpuWheresSpec)) cpuWheresUptoCard

/-- THE SECOND FORM's CARD OF 'zoetropelaw13.CpuSteps'. -/
def cpuStepsUptoCard : Claim7 := { stood := { row := cpuStepsUptoRow, standIns := [], harness := (true, "6c178bedd8c1a157bbacc125c521fc2a0c6d96205042f3cf44c763b86a819159"), looks := false }, kinds := [], alts := [], laidByText := true, laidKinds := [.data, .data], laidTests := true, laidLooks := .later }
def CpuStepsUptoCardSaid : Prop := Claim7.holds Tryz.pinned (.plain (OpenSpec.upto cpuStepsSpec)) cpuStepsUptoCard

/-- THE SECOND FORM's CARD OF 'zoetropelaw13.CpuDoes'. -/
def cpuDoesUptoCard : Claim7 := { stood := { row := cpuDoesUptoRow, standIns := [], harness := (true, "6c178bedd8c1a157bbacc125c521fc2a0c6d96205042f3cf44c763b86a819159"), looks := false }, kinds := [], alts := [], laidByText := true, laidKinds := [.data, .data], laidTests := true, laidLooks := .later }
def CpuDoesUptoCardSaid : Prop := Claim7.holds Tryz.pinned (.plain (OpenSpec.upto cpuDoesSpec)) cpuDoesUptoCard

/-- THE SECOND FORM's CARD OF 'zoetropelaw13.CpuTexts'. -/
def cpuTextsUptoCard : Claim7 := { stood := { row := cpuTextsUptoRow, standIns := [], harness := (true, "6c178bedd8c1a157bbacc125c521fc2a0c6d96205042f3cf44c763b86a819159"), looks := false }, kinds := [], alts := [], laidByText := true, laidKinds := [.data, .data], laidTests := true, laidLooks := .later }
def CpuTextsUptoCardSaid : Prop := Claim7.holds Tryz.pinned (.plain (OpenSpec.upto cpuTextsSpec)) cpuTextsUptoCard

/-- THE SECOND FORM's CARD OF 'zoetropelaw13.CpuAgain'. -/
def cpuAgainUptoCard : Claim7 := { stood := { row := cpuAgainUptoRow, standIns := [], harness := (true, "6c178bedd8c1a157bbacc125c521fc2a0c6d96205042f3cf44c763b86a819159"), looks := false }, kinds := [], alts := [], laidByText := true, laidKinds := [.data, .data], laidTests := true, laidLooks := .later }
def CpuAgainUptoCardSaid : Prop := Claim7.holds Tryz.pinned (.plain (OpenSpec.upto cpuAgainSpec)) cpuAgainUptoCard

/-- THE SECOND FORM's CARD OF 'zoetropelaw13.CpuUser'. -/
def cpuUserUptoCard : Claim7 := { stood := { row := cpuUserUptoRow, standIns := [], harness := (true, "6c178bedd8c1a157bbacc125c521fc2a0c6d96205042f3cf44c763b86a819159"), looks := false }, kinds := [], alts := [], laidByText := true, laidKinds := [.data, .data], laidTests := true, laidLooks := .later }
def CpuUserUptoCardSaid : Prop := Claim7.holds Tryz.pinned (.plain (OpenSpec.upto cpuUserSpec)) cpuUserUptoCard
end Rows
end Go.Proofs.YthjcijlabpinkaaGreatDoor
