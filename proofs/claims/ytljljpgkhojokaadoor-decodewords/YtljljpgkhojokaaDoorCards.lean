/-
  DERIVED. GIVEN WITH THE SEED: THE CARDS: each row of YtljljpgkhojokaaDoorRows.lean that lists a variable, with what it lists TIED to the program's text (the seventh form; the later family's looks); each row that meets fmt, with fmt's text TOLD by the authors' own Lean function (tested against real Go, not proved from fmt's source: count such statements apart). THE CARD IS WHAT COUNTS. Prove the row's statement (the work); the ties are given (YtljljpgkhojokaaDoorTie.lean); close each card by the builder's one call (the guide's Derived/Test/ToyasCard.lean, 'card_holds'). Laid BY PROGRAM, IN A SANDBOX (cutbox-door.mjs). By AI agents, Wed Nov 11 2026. No macro, syntax, notation, axiom, sorry.
-/
import Derived.Test.YtljljpgkhojokaaDoorRows
import GoSem.ClaimSeven
namespace Go.Proofs.YtljljpgkhojokaaDoor
namespace Rows

/-- THE TIED CARD OF 'zoetropelaw04.DecodeWords'. -/
def decodeWordsCard : Claim7 := { stood := { row := decodeWordsRow, standIns := [], harness := (true, "95487e9011c6159a731691e7c17d9d4849ab5edee78d010281ae5fd3f00b9f99"), looks := false }, kinds := [], alts := [], laidByText := true, laidKinds := [.data, .data], laidTests := true, laidLooks := .later }
def DecodeWordsCardSaid : Prop := Claim7.holds Tryd.pinned (.plain (OpenSpec.ofChange decodeWordsSpec)) decodeWordsCard

/-- THE TIED CARD OF 'zoetropelaw04.DecodeInstrs'. -/
def decodeInstrsCard : Claim7 := { stood := { row := decodeInstrsRow, standIns := [], harness := (true, "95487e9011c6159a731691e7c17d9d4849ab5edee78d010281ae5fd3f00b9f99"), looks := false }, kinds := [], alts := [], laidByText := true, laidKinds := [.data, .data], laidTests := true, laidLooks := .later }
def DecodeInstrsCardSaid : Prop := Claim7.holds Tryd.pinned (.plain (OpenSpec.ofChange decodeInstrsSpec)) decodeInstrsCard

/-- THE TIED CARD OF 'zoetropelaw04.DecodeNames'. -/
def decodeNamesCard : Claim7 := { stood := { row := decodeNamesRow, standIns := [], harness := (true, "95487e9011c6159a731691e7c17d9d4849ab5edee78d010281ae5fd3f00b9f99"), looks := false }, kinds := [], alts := [], laidByText := true, laidKinds := [.data, .data], laidTests := true, laidLooks := .later }
def DecodeNamesCardSaid : Prop := Claim7.holds Tryd.pinned (.plain (OpenSpec.ofChange decodeNamesSpec)) decodeNamesCard

/-- THE TIED CARD OF 'zoetropelaw04.DecodeBack'. -/
def decodeBackCard : Claim7 := { stood := { row := decodeBackRow, standIns := [], harness := (true, "95487e9011c6159a731691e7c17d9d4849ab5edee78d010281ae5fd3f00b9f99"), looks := false }, kinds := [], alts := [], laidByText := true, laidKinds := [.data, .data], laidTests := true, laidLooks := .later }
def DecodeBackCardSaid : Prop := Claim7.holds Tryd.pinned (.plain (OpenSpec.ofChange decodeBackSpec)) decodeBackCard

/-- THE TIED CARD OF 'zoetropelaw04.DecodeNear'. -/
def decodeNearCard : Claim7 := { stood := { row := decodeNearRow, standIns := [], harness := (true, "95487e9011c6159a731691e7c17d9d4849ab5edee78d010281ae5fd3f00b9f99"), looks := false }, kinds := [], alts := [], laidByText := true, laidKinds := [.data, .data], laidTests := true, laidLooks := .later }
def DecodeNearCardSaid : Prop := Claim7.holds Tryd.pinned (.plain (OpenSpec.ofChange decodeNearSpec)) decodeNearCard

/-- THE TIED CARD OF 'zoetropelaw04.DecodeFields'. -/
def decodeFieldsCard : Claim7 := { stood := { row := decodeFieldsRow, standIns := [], harness := (true, "95487e9011c6159a731691e7c17d9d4849ab5edee78d010281ae5fd3f00b9f99"), looks := false }, kinds := [], alts := [], laidByText := true, laidKinds := [.data, .data], laidTests := true, laidLooks := .later }
def DecodeFieldsCardSaid : Prop := Claim7.holds Tryd.pinned (.plain (OpenSpec.ofChange decodeFieldsSpec)) decodeFieldsCard

/-- THE SECOND FORM's CARD OF 'zoetropelaw04.DecodeWords'. -/
def decodeWordsUptoCard : Claim7 := { stood := { row := decodeWordsUptoRow, standIns := [], harness := (true, "95487e9011c6159a731691e7c17d9d4849ab5edee78d010281ae5fd3f00b9f99"), looks := false }, kinds := [], alts := [], laidByText := true, laidKinds := [.data, .data], laidTests := true, laidLooks := .later }
def DecodeWordsUptoCardSaid : Prop := Claim7.holds Tryd.pinned (.plain (OpenSpec.upto decodeWordsSpec)) decodeWordsUptoCard

/-- THE SECOND FORM's CARD OF 'zoetropelaw04.DecodeInstrs'. -/
def decodeInstrsUptoCard : Claim7 := { stood := { row := decodeInstrsUptoRow, standIns := [], harness := (true, "95487e9011c6159a731691e7c17d9d4849ab5edee78d010281ae5fd3f00b9f99"), looks := false }, kinds := [], alts := [], laidByText := true, laidKinds := [.data, .data], laidTests := true, laidLooks := .later }
def DecodeInstrsUptoCardSaid : Prop := Claim7.holds Tryd.pinned (.plain (OpenSpec.upto decodeInstrsSpec)) decodeInstrsUptoCard

/-- THE SECOND FORM's CARD OF 'zoetropelaw04.DecodeNames'. -/
def decodeNamesUptoCard : Claim7 := { stood := { row := decodeNamesUptoRow, standIns := [], harness := (true, "95487e9011c6159a731691e7c17d9d4849ab5edee78d010281ae5fd3f00b9f99"), looks := false }, kinds := [], alts := [], laidByText := true, laidKinds := [.data, .data], laidTests := true, laidLooks := .later }
def DecodeNamesUptoCardSaid : Prop := Claim7.holds Tryd.pinned (.plain (OpenSpec.upto decodeNamesSpec)) decodeNamesUptoCard

/-- THE SECOND FORM's CARD OF 'zoetropelaw04.DecodeBack'. -/
def decodeBackUptoCard : Claim7 := { stood := { row := decodeBackUptoRow, standIns := [], harness := (true, "95487e9011c6159a731691e7c17d9d4849ab5edee78d010281ae5fd3f00b9f99"), looks := false }, kinds := [], alts := [], laidByText := true, laidKinds := [.data, .data], laidTests := true, laidLooks := .later }
def DecodeBackUptoCardSaid : Prop := Claim7.holds Tryd.pinned (.plain (OpenSpec.upto decodeBackSpec)) decodeBackUptoCard

/-- THE SECOND FORM's CARD OF 'zoetropelaw04.DecodeNear'. -/
def decodeNearUptoCard : Claim7 := { stood := { row := decodeNearUptoRow, standIns := [], harness := (true, "95487e9011c6159a731691e7c17d9d4849ab5edee78d010281ae5fd3f00b9f99"), looks := false }, kinds := [], alts := [], laidByText := true, laidKinds := [.data, .data], laidTests := true, laidLooks := .later }
def DecodeNearUptoCardSaid : Prop := Claim7.holds Tryd.pinned (.plain (OpenSpec.upto decodeNearSpec)) decodeNearUptoCard

/-- THE SECOND FORM's CARD OF 'zoetropelaw04.DecodeFields'. -/
def decodeFieldsUptoCard : Claim7 := { stood := { row := decodeFieldsUptoRow, standIns := [], harness := (true, "95487e9011c6159a731691e7c17d9d4849ab5edee78d010281ae5fd3f00b9f99"), looks := false }, kinds := [], alts := [], laidByText := true, laidKinds := [.data, .data], laidTests := true, laidLooks := .later }
def DecodeFieldsUptoCardSaid : Prop := Claim7.holds Tryd.pinned (.plain (OpenSpec.upto decodeFieldsSpec)) decodeFieldsUptoCard
end Rows
end Go.Proofs.YtljljpgkhojokaaDoor
