/-
  DERIVED. GIVEN WITH THE SEED: THE CARDS: each row of YtfnmihjchlljbaaDoorRows.lean that lists a variable, with what it lists TIED to the program's text (the seventh form; the later family's looks); each row that meets fmt, with fmt's text TOLD by the authors' own Lean function (tested against real Go, not proved from fmt's source: count such statements apart). THE CARD IS WHAT COUNTS. Prove the row's statement (the work); the ties are given (YtfnmihjchlljbaaDoorTie.lean); close each card by the builder's one call (the guide's Derived/Test/ToyasCard.lean, 'card_holds'). Laid BY PROGRAM, IN A SANDBOX (cutbox-door.mjs). By AI agents, Wed Nov 11 2026. No macro, syntax, notation, axiom, sorry.
-/
import Derived.Test.YtfnmihjchlljbaaDoorRows
import GoSem.ClaimSeven
namespace Go.Proofs.YtfnmihjchlljbaaDoor
namespace Rows

/-- THE TIED CARD OF 'zoetropelaw14.BlockTranslates'. -/
def blockTranslatesCard : Claim7 := { stood := { row := blockTranslatesRow, standIns := [], harness := (true, "adfbe8fadaffd7f95f0ea9fa11f85df567bb23ba28b8cef897e8bed61a560d65"), looks := false }, kinds := [], alts := [], laidByText := true, laidKinds := [.data, .data], laidTests := true, laidLooks := .later }
def BlockTranslatesCardSaid : Prop := Claim7.holds Tryd.pinned (.plain (OpenSpec.ofChange blockTranslatesSpec)) blockTranslatesCard

/-- THE TIED CARD OF 'zoetropelaw14.BlockMay'. -/
def blockMayCard : Claim7 := { stood := { row := blockMayRow, standIns := [], harness := (true, "adfbe8fadaffd7f95f0ea9fa11f85df567bb23ba28b8cef897e8bed61a560d65"), looks := false }, kinds := [], alts := [], laidByText := true, laidKinds := [.data, .data], laidTests := true, laidLooks := .later }
def BlockMayCardSaid : Prop := Claim7.holds Tryd.pinned (.plain (OpenSpec.ofChange blockMaySpec)) blockMayCard

/-- THE TIED CARD OF 'zoetropelaw14.BlockRuns'. -/
def blockRunsCard : Claim7 := { stood := { row := blockRunsRow, standIns := [], harness := (true, "adfbe8fadaffd7f95f0ea9fa11f85df567bb23ba28b8cef897e8bed61a560d65"), looks := false }, kinds := [], alts := [], laidByText := true, laidKinds := [.data, .data], laidTests := true, laidLooks := .later }
def BlockRunsCardSaid : Prop := Claim7.holds Tryd.pinned (.plain (OpenSpec.ofChange blockRunsSpec)) blockRunsCard

/-- THE TIED CARD OF 'zoetropelaw14.BlockParts'. -/
def blockPartsCard : Claim7 := { stood := { row := blockPartsRow, standIns := [], harness := (true, "adfbe8fadaffd7f95f0ea9fa11f85df567bb23ba28b8cef897e8bed61a560d65"), looks := false }, kinds := [], alts := [], laidByText := true, laidKinds := [.data, .data], laidTests := true, laidLooks := .later }
def BlockPartsCardSaid : Prop := Claim7.holds Tryd.pinned (.plain (OpenSpec.ofChange blockPartsSpec)) blockPartsCard

/-- THE TIED CARD OF 'zoetropelaw14.BlockValues'. -/
def blockValuesCard : Claim7 := { stood := { row := blockValuesRow, standIns := [], harness := (true, "adfbe8fadaffd7f95f0ea9fa11f85df567bb23ba28b8cef897e8bed61a560d65"), looks := false }, kinds := [], alts := [], laidByText := true, laidKinds := [.data, .data], laidTests := true, laidLooks := .later }
def BlockValuesCardSaid : Prop := Claim7.holds Tryd.pinned (.plain (OpenSpec.ofChange blockValuesSpec)) blockValuesCard

/-- THE TIED CARD OF 'zoetropelaw14.BlockKnown'. -/
def blockKnownCard : Claim7 := { stood := { row := blockKnownRow, standIns := [], harness := (true, "adfbe8fadaffd7f95f0ea9fa11f85df567bb23ba28b8cef897e8bed61a560d65"), looks := false }, kinds := [], alts := [], laidByText := true, laidKinds := [.data, .data], laidTests := true, laidLooks := .later }
def BlockKnownCardSaid : Prop := Claim7.holds Tryd.pinned (.plain (OpenSpec.ofChange blockKnownSpec)) blockKnownCard

/-- THE SECOND FORM's CARD OF 'zoetropelaw14.BlockTranslates'. -/
def blockTranslatesUptoCard : Claim7 := { stood := { row := blockTranslatesUptoRow, standIns := [], harness := (true, "adfbe8fadaffd7f95f0ea9fa11f85df567bb23ba28b8cef897e8bed61a560d65"), looks := false }, kinds := [], alts := [], laidByText := true, laidKinds := [.data, .data], laidTests := true, laidLooks := .later }
def BlockTranslatesUptoCardSaid : Prop := Claim7.holds Tryd.pinned (.plain (OpenSpec.upto blockTranslatesSpec)) blockTranslatesUptoCard

/-- THE SECOND FORM's CARD OF 'zoetropelaw14.BlockMay'. -/
def blockMayUptoCard : Claim7 := { stood := { row := blockMayUptoRow, standIns := [], harness := (true, "adfbe8fadaffd7f95f0ea9fa11f85df567bb23ba28b8cef897e8bed61a560d65"), looks := false }, kinds := [], alts := [], laidByText := true, laidKinds := [.data, .data], laidTests := true, laidLooks := .later }
def BlockMayUptoCardSaid : Prop := Claim7.holds Tryd.pinned (.plain (OpenSpec.upto blockMaySpec)) blockMayUptoCard

/-- THE SECOND FORM's CARD OF 'zoetropelaw14.BlockRuns'. -/
def blockRunsUptoCard : Claim7 := { stood := { row := blockRunsUptoRow, standIns := [], harness := (true, "adfbe8fadaffd7f95f0ea9fa11f85df567bb23ba28b8cef897e8bed61a560d65"), looks := false }, kinds := [], alts := [], laidByText := true, laidKinds := [.data, .data], laidTests := true, laidLooks := .later }
def BlockRunsUptoCardSaid : Prop := Claim7.holds Tryd.pinned (.plain (OpenSpec.upto blockRunsSpec)) blockRunsUptoCard

/-- THE SECOND FORM's CARD OF 'zoetropelaw14.BlockParts'. -/
def blockPartsUptoCard : Claim7 := { stood := { row := blockPartsUptoRow, standIns := [], harness := (true, "adfbe8fadaffd7f95f0ea9fa11f85df567bb23ba28b8cef897e8bed61a560d65"), looks := false }, kinds := [], alts := [], laidByText := true, laidKinds := [.data, .data], laidTests := true, laidLooks := .later }
def BlockPartsUptoCardSaid : Prop := Claim7.holds Tryd.pinned (.plain (OpenSpec.upto blockPartsSpec)) blockPartsUptoCard

/-- THE SECOND FORM's CARD OF 'zoetropelaw14.BlockValues'. -/
def blockValuesUptoCard : Claim7 := { stood := { row := blockValuesUptoRow, standIns := [], harness := (true, "adfbe8fadaffd7f95f0ea9fa11f85df567bb23ba28b8cef897e8bed61a560d65"), looks := false }, kinds := [], alts := [], laidByText := true, laidKinds := [.data, .data], laidTests := true, laidLooks := .later }
def BlockValuesUptoCardSaid : Prop := Claim7.holds Tryd.pinned (.plain (OpenSpec.upto blockValuesSpec)) blockValuesUptoCard

/-- THE SECOND FORM's CARD OF 'zoetropelaw14.BlockKnown'. -/
def blockKnownUptoCard : Claim7 := { stood := { row := blockKnownUptoRow, standIns := [], harness := (true, "adfbe8fadaffd7f95f0ea9fa11f85df567bb23ba28b8cef897e8bed61a560d65"), looks := false }, kinds := [], alts := [], laidByText := true, laidKinds := [.data, .data], laidTests := true, laidLooks := .later }
def BlockKnownUptoCardSaid : Prop := Claim7.holds Tryd.pinned (.plain (OpenSpec.upto blockKnownSpec)) blockKnownUptoCard
end Rows
end Go.Proofs.YtfnmihjchlljbaaDoor
