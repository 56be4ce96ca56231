/-
  NARROWER THAN 'FOR EVERY INPUT', by the rows' own cells (each row's printed sentence says how): BlockSteps: laid.
  DERIVED. THE GIVEN ROWS OF THIS SEAT. 1 by the template 'for every input the law returns true; each argument reads behind the call as it read before'; 0 by the template 'total and deterministic' (their statements: YtmegghgjllbamaaGreatDoorTotals.lean).
  GIVEN WITH THE SEED: the statements are not yours to turn. If you find one false, say at which input.
  Laid BY PROGRAM, IN A SANDBOX (cutbox-rows.mjs): the forced cells as the released guide's own fill.sh prints them over the translation 692068bbfe565396… (all of the seat's roots in one cut). By AI agents, Wed Nov 11 2026. No macro, syntax, notation, axiom, sorry.
-/
import Derived.Test.YtmegghgjllbamaaGreatDoorChecked
import GoSem.Claim
import GoSem.ClaimJoined
import GoSem.ClaimMapViews
import Derived.JoinedTies
import Derived.KernelRfl
namespace Go.Proofs.YtmegghgjllbamaaGreatDoor
/- THE CELL 'sum', in the pinned program and in every row, IS THE sha256 OF THE DUMP (.gsa) THAT YtmegghgjllbamaaGreatDoorProg.lean LOADS. Nothing in Lean hashes anything: it is a label: what it is worth is what the hold of that sum in a sandbox is worth. -/
noncomputable def Tryz.pinned : Pinned := { name := "ytmegghgjllbamaagreatdoor", sum := "692068bbfe5653968709ee401372377e946c74c8ce18ef847ac69ed5ddc8b412", checked := Tryz.checked }
namespace Rows
def none {H : Type} : Left H := { results := [], args := [] }

/- WHAT THE LISTED PACKAGE-LEVEL VARIABLES READ AS WHEN THE CALL BEGINS. Each datum BY PROGRAM (the guide's laid-datum.mjs) off the statement by which the dump's own 'gosem.cut.vars' lays the variable. In a bare row this is a premise. The card (YtmegghgjllbamaaGreatDoorCards.lean) ties it to the program's text. -/
def laid_zoetrope_decode_zeros {H : Type} : DataW H := .agg [.agg [.lit (.string [115, 108, 108]), .lit (.int .i64 1), .lit (.int .u32 0), .lit (.int .u32 0)], .agg [.lit (.string [115, 114, 108]), .lit (.int .i64 1), .lit (.int .u32 0), .lit (.int .u32 2)], .agg [.lit (.string [115, 114, 97]), .lit (.int .i64 1), .lit (.int .u32 0), .lit (.int .u32 3)], .agg [.lit (.string [115, 108, 108, 118]), .lit (.int .i64 2), .lit (.int .u32 0), .lit (.int .u32 4)], .agg [.lit (.string [115, 114, 108, 118]), .lit (.int .i64 2), .lit (.int .u32 0), .lit (.int .u32 6)], .agg [.lit (.string [115, 114, 97, 118]), .lit (.int .i64 2), .lit (.int .u32 0), .lit (.int .u32 7)], .agg [.lit (.string [106, 114]), .lit (.int .i64 3), .lit (.int .u32 0), .lit (.int .u32 8)], .agg [.lit (.string [106, 97, 108, 114]), .lit (.int .i64 4), .lit (.int .u32 0), .lit (.int .u32 9)], .agg [.lit (.string [109, 111, 118, 122]), .lit (.int .i64 5), .lit (.int .u32 0), .lit (.int .u32 10)], .agg [.lit (.string [109, 111, 118, 110]), .lit (.int .i64 5), .lit (.int .u32 0), .lit (.int .u32 11)], .agg [.lit (.string [115, 121, 115, 99, 97, 108, 108]), .lit (.int .i64 6), .lit (.int .u32 0), .lit (.int .u32 12)], .agg [.lit (.string [98, 114, 101, 97, 107]), .lit (.int .i64 6), .lit (.int .u32 0), .lit (.int .u32 13)], .agg [.lit (.string [109, 102, 104, 105]), .lit (.int .i64 7), .lit (.int .u32 0), .lit (.int .u32 16)], .agg [.lit (.string [109, 116, 104, 105]), .lit (.int .i64 8), .lit (.int .u32 0), .lit (.int .u32 17)], .agg [.lit (.string [109, 102, 108, 111]), .lit (.int .i64 7), .lit (.int .u32 0), .lit (.int .u32 18)], .agg [.lit (.string [109, 116, 108, 111]), .lit (.int .i64 8), .lit (.int .u32 0), .lit (.int .u32 19)], .agg [.lit (.string [109, 117, 108, 116]), .lit (.int .i64 9), .lit (.int .u32 0), .lit (.int .u32 24)], .agg [.lit (.string [109, 117, 108, 116, 117]), .lit (.int .i64 9), .lit (.int .u32 0), .lit (.int .u32 25)], .agg [.lit (.string [100, 105, 118]), .lit (.int .i64 9), .lit (.int .u32 0), .lit (.int .u32 26)], .agg [.lit (.string [100, 105, 118, 117]), .lit (.int .i64 9), .lit (.int .u32 0), .lit (.int .u32 27)], .agg [.lit (.string [97, 100, 100]), .lit (.int .i64 5), .lit (.int .u32 0), .lit (.int .u32 32)], .agg [.lit (.string [97, 100, 100, 117]), .lit (.int .i64 5), .lit (.int .u32 0), .lit (.int .u32 33)], .agg [.lit (.string [115, 117, 98]), .lit (.int .i64 5), .lit (.int .u32 0), .lit (.int .u32 34)], .agg [.lit (.string [115, 117, 98, 117]), .lit (.int .i64 5), .lit (.int .u32 0), .lit (.int .u32 35)], .agg [.lit (.string [97, 110, 100]), .lit (.int .i64 5), .lit (.int .u32 0), .lit (.int .u32 36)], .agg [.lit (.string [111, 114]), .lit (.int .i64 5), .lit (.int .u32 0), .lit (.int .u32 37)], .agg [.lit (.string [120, 111, 114]), .lit (.int .i64 5), .lit (.int .u32 0), .lit (.int .u32 38)], .agg [.lit (.string [110, 111, 114]), .lit (.int .i64 5), .lit (.int .u32 0), .lit (.int .u32 39)], .agg [.lit (.string [115, 108, 116]), .lit (.int .i64 5), .lit (.int .u32 0), .lit (.int .u32 42)], .agg [.lit (.string [115, 108, 116, 117]), .lit (.int .i64 5), .lit (.int .u32 0), .lit (.int .u32 43)], .agg [.lit (.string [116, 101, 113]), .lit (.int .i64 9), .lit (.int .u32 0), .lit (.int .u32 52)], .agg [.lit (.string [116, 110, 101]), .lit (.int .i64 9), .lit (.int .u32 0), .lit (.int .u32 54)]]
def laid_zoetrope_decode_others {H : Type} : DataW H := .agg [.agg [.lit (.string [109, 117, 108]), .lit (.int .i64 5), .lit (.int .u32 28), .lit (.int .u32 2)], .agg [.lit (.string [99, 108, 122]), .lit (.int .i64 10), .lit (.int .u32 28), .lit (.int .u32 32)], .agg [.lit (.string [99, 108, 111]), .lit (.int .i64 10), .lit (.int .u32 28), .lit (.int .u32 33)], .agg [.lit (.string [98, 108, 116, 122]), .lit (.int .i64 11), .lit (.int .u32 1), .lit (.int .u32 0)], .agg [.lit (.string [98, 103, 101, 122]), .lit (.int .i64 11), .lit (.int .u32 1), .lit (.int .u32 1)], .agg [.lit (.string [98, 108, 116, 122, 97, 108]), .lit (.int .i64 11), .lit (.int .u32 1), .lit (.int .u32 16)], .agg [.lit (.string [98, 103, 101, 122, 97, 108]), .lit (.int .i64 11), .lit (.int .u32 1), .lit (.int .u32 17)], .agg [.lit (.string [106]), .lit (.int .i64 12), .lit (.int .u32 2), .lit (.int .u32 0)], .agg [.lit (.string [106, 97, 108]), .lit (.int .i64 12), .lit (.int .u32 3), .lit (.int .u32 0)], .agg [.lit (.string [98, 101, 113]), .lit (.int .i64 13), .lit (.int .u32 4), .lit (.int .u32 0)], .agg [.lit (.string [98, 110, 101]), .lit (.int .i64 13), .lit (.int .u32 5), .lit (.int .u32 0)], .agg [.lit (.string [98, 108, 101, 122]), .lit (.int .i64 11), .lit (.int .u32 6), .lit (.int .u32 0)], .agg [.lit (.string [98, 103, 116, 122]), .lit (.int .i64 11), .lit (.int .u32 7), .lit (.int .u32 0)], .agg [.lit (.string [97, 100, 100, 105]), .lit (.int .i64 14), .lit (.int .u32 8), .lit (.int .u32 0)], .agg [.lit (.string [97, 100, 100, 105, 117]), .lit (.int .i64 14), .lit (.int .u32 9), .lit (.int .u32 0)], .agg [.lit (.string [115, 108, 116, 105]), .lit (.int .i64 14), .lit (.int .u32 10), .lit (.int .u32 0)], .agg [.lit (.string [115, 108, 116, 105, 117]), .lit (.int .i64 14), .lit (.int .u32 11), .lit (.int .u32 0)], .agg [.lit (.string [97, 110, 100, 105]), .lit (.int .i64 15), .lit (.int .u32 12), .lit (.int .u32 0)], .agg [.lit (.string [111, 114, 105]), .lit (.int .i64 15), .lit (.int .u32 13), .lit (.int .u32 0)], .agg [.lit (.string [120, 111, 114, 105]), .lit (.int .i64 15), .lit (.int .u32 14), .lit (.int .u32 0)], .agg [.lit (.string [108, 117, 105]), .lit (.int .i64 16), .lit (.int .u32 15), .lit (.int .u32 0)], .agg [.lit (.string [109, 102, 99, 48]), .lit (.int .i64 17), .lit (.int .u32 16), .lit (.int .u32 0)], .agg [.lit (.string [109, 116, 99, 48]), .lit (.int .i64 17), .lit (.int .u32 16), .lit (.int .u32 4)], .agg [.lit (.string [116, 108, 98, 114]), .lit (.int .i64 18), .lit (.int .u32 16), .lit (.int .u32 1)], .agg [.lit (.string [116, 108, 98, 119, 105]), .lit (.int .i64 18), .lit (.int .u32 16), .lit (.int .u32 2)], .agg [.lit (.string [116, 108, 98, 112]), .lit (.int .i64 18), .lit (.int .u32 16), .lit (.int .u32 8)], .agg [.lit (.string [101, 114, 101, 116]), .lit (.int .i64 18), .lit (.int .u32 16), .lit (.int .u32 24)], .agg [.lit (.string [108, 98]), .lit (.int .i64 19), .lit (.int .u32 32), .lit (.int .u32 0)], .agg [.lit (.string [108, 104]), .lit (.int .i64 19), .lit (.int .u32 33), .lit (.int .u32 0)], .agg [.lit (.string [108, 119]), .lit (.int .i64 19), .lit (.int .u32 35), .lit (.int .u32 0)], .agg [.lit (.string [108, 98, 117]), .lit (.int .i64 19), .lit (.int .u32 36), .lit (.int .u32 0)], .agg [.lit (.string [108, 104, 117]), .lit (.int .i64 19), .lit (.int .u32 37), .lit (.int .u32 0)], .agg [.lit (.string [115, 98]), .lit (.int .i64 19), .lit (.int .u32 40), .lit (.int .u32 0)], .agg [.lit (.string [115, 104]), .lit (.int .i64 19), .lit (.int .u32 41), .lit (.int .u32 0)], .agg [.lit (.string [115, 119]), .lit (.int .i64 19), .lit (.int .u32 43), .lit (.int .u32 0)], .agg [.lit (.string [108, 108]), .lit (.int .i64 19), .lit (.int .u32 48), .lit (.int .u32 0)], .agg [.lit (.string [115, 99]), .lit (.int .i64 19), .lit (.int .u32 56), .lit (.int .u32 0)]]

/-- 'zoetropelaw14.BlockSteps': WHATEVER THE INPUT: true; the input reads as it did. -/
def blockStepsSpec : ChangeSpec := { name := "blockSteps", fn := fun _ => fun
  | [d1, d2] => { results := [.lit (.bool true)], args := [d1, d2] }
  | _ => none }
def blockStepsRow : OpenClaim := { program := "ytmegghgjllbamaagreatdoor", sum := "692068bbfe5653968709ee401372377e946c74c8ce18ef847ac69ed5ddc8b412", func := "zoetrope/zoetropelaw14.BlockSteps", spec := "blockSteps", named := ["zoetrope/decode.zeros", "zoetrope/decode.others"], apart := false, laid := [("zoetrope/decode.zeros", laid_zoetrope_decode_zeros), ("zoetrope/decode.others", laid_zoetrope_decode_others)] }
def BlockStepsSaid : Prop := blockStepsRow.holds Tryz.pinned (OpenSpec.ofChange blockStepsSpec)

/-- ITS FALSE NEIGHBOUR: 'it returns false'. Refute it at one input. -/
def blockStepsWrong : ChangeSpec := { name := "blockSteps", fn := fun _ => fun
  | [d1, d2] => { results := [.lit (.bool false)], args := [d1, d2] }
  | _ => none }
def BlockStepsWrongFalsely : Prop := blockStepsRow.holds Tryz.pinned (OpenSpec.ofChange blockStepsWrong)

/- THE SECOND FORM. 'bulk': how many values and letters a reading holds, each counted each time it is reached (what is shared counts as often as it is met; a slice's spare places count too). A statement '..UptoSaid' is the law's where the arguments, and the package variables that the reading takes, are together of bulk at most 1048576: NARROWER than '..Said'. Prove '..Said' where nothing that the law and all that it calls make is longer than what came in: it says more and counts as full. Else prove '..UptoSaid'. A law counts once. -/
mutual
def uptoBulk {H : Type} : DataW H → Nat
  | .lit (.string bytes) => bytes.length + 1
  | .lit _ => 1
  | .nil => 1
  | .ptr d => uptoBulk d + 1
  | .slice elems spare => uptoBulkAll elems + uptoBulkAll spare + 1
  | .agg parts => uptoBulkAll parts + 1
  | .iface _ d => uptoBulk d + 1
  | .map entries => uptoBulkEntries entries + 1
  | .held _ => 1
def uptoBulkAll {H : Type} : List (DataW H) → Nat
  | [] => 0
  | d :: r => uptoBulk d + uptoBulkAll r
def uptoBulkEntries {H : Type} : List (Lit × DataW H) → Nat
  | [] => 0
  | x :: r => uptoBulkEntry x + uptoBulkEntries r
def uptoBulkEntry {H : Type} : Lit × DataW H → Nat
  | (.string bytes, d) => bytes.length + uptoBulk d + 1
  | (_, d) => uptoBulk d + 1
 end
def uptoSmall : (H : Type) → List (DataW H) → Bool := fun _ ds => decide (uptoBulkAll ds ≤ 1048576)
def OpenSpec.upto (s : _root_.Go.ChangeSpec) : _root_.Go.OpenSpec := { _root_.Go.OpenSpec.ofChange s with cond := some uptoSmall }

/-- 'zoetropelaw14.BlockSteps', WHERE WHAT IT READS IS OF BULK AT MOST 1048576: true; the input reads as it did. -/
def blockStepsUptoRow : OpenClaim := { program := "ytmegghgjllbamaagreatdoor", sum := "692068bbfe5653968709ee401372377e946c74c8ce18ef847ac69ed5ddc8b412", func := "zoetrope/zoetropelaw14.BlockSteps", spec := "blockSteps", named := ["zoetrope/decode.zeros", "zoetrope/decode.others"], apart := false, laid := [("zoetrope/decode.zeros", laid_zoetrope_decode_zeros), ("zoetrope/decode.others", laid_zoetrope_decode_others)], narrowed := true }
def BlockStepsUptoSaid : Prop := blockStepsUptoRow.holds Tryz.pinned (OpenSpec.upto blockStepsSpec)

end Rows
end Go.Proofs.YtmegghgjllbamaaGreatDoor
