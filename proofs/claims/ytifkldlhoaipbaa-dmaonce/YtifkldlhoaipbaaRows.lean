/-
  No cell of these rows narrows 'for every input' (looked for: loops, veiled, ifaces, maps, wideKeys, modest, calm, conditions, laid).
  DERIVED. THE GIVEN ROWS OF THIS SEAT. 6 by the template 'for every input the law returns true; each argument reads behind the call as it read before'; 0 by the template 'total and deterministic' (their statements: YtifkldlhoaipbaaTotals.lean).
  GIVEN WITH THE SEED: the statements are not yours to turn. If you find one false, say at which input.
  Laid BY PROGRAM, IN A SANDBOX (cutbox-rows.mjs): the forced cells as the released guide's own fill.sh prints them over the translation e2427addf31213d1… (all of the seat's roots in one cut). By AI agents, Wed Nov 11 2026. No macro, syntax, notation, axiom, sorry.
-/
import Derived.Test.YtifkldlhoaipbaaChecked
import GoSem.Claim
import GoSem.ClaimJoined
import GoSem.ClaimMapViews
import Derived.JoinedTies
import Derived.KernelRfl
namespace Go.Proofs.Ytifkldlhoaipbaa
/- THE CELL 'sum', in the pinned program and in every row, IS THE sha256 OF THE DUMP (.gsa) THAT YtifkldlhoaipbaaProg.lean LOADS. Nothing in Lean hashes anything: it is a label: what it is worth is what the hold of that sum in a sandbox is worth. -/
noncomputable def Try.pinned : Pinned := { name := "ytifkldlhoaipbaa", sum := "e2427addf31213d1130a83583b369df453bfe979db8eef5033ca09d5ea19960f", checked := Try.checked }
namespace Rows
def none {H : Type} : Left H := { results := [], args := [] }

/-- 'zoetropelaw11.DmaRegs': WHATEVER THE INPUT: true; the input reads as it did. -/
def dmaRegsSpec : ChangeSpec := { name := "dmaRegs", fn := fun _ => fun
  | [d1, d2, d3] => { results := [.lit (.bool true)], args := [d1, d2, d3] }
  | _ => none }
def dmaRegsRow : OpenClaim := { program := "ytifkldlhoaipbaa", sum := "e2427addf31213d1130a83583b369df453bfe979db8eef5033ca09d5ea19960f", func := "zoetrope/zoetropelaw11.DmaRegs", spec := "dmaRegs", apart := false }
def DmaRegsSaid : Prop := dmaRegsRow.holds Try.pinned (OpenSpec.ofChange dmaRegsSpec)

/-- ITS FALSE NEIGHBOUR: 'it returns false'. Refute it at one input. -/
def dmaRegsWrong : ChangeSpec := { name := "dmaRegs", fn := fun _ => fun
  | [d1, d2, d3] => { results := [.lit (.bool false)], args := [d1, d2, d3] }
  | _ => none }
def DmaRegsWrongFalsely : Prop := dmaRegsRow.holds Try.pinned (OpenSpec.ofChange dmaRegsWrong)

/-- 'zoetropelaw11.DmaTexts': WHATEVER THE INPUT: true; the input reads as it did. -/
def dmaTextsSpec : ChangeSpec := { name := "dmaTexts", fn := fun _ => fun
  | [d1, d2] => { results := [.lit (.bool true)], args := [d1, d2] }
  | _ => none }
def dmaTextsRow : OpenClaim := { program := "ytifkldlhoaipbaa", sum := "e2427addf31213d1130a83583b369df453bfe979db8eef5033ca09d5ea19960f", func := "zoetrope/zoetropelaw11.DmaTexts", spec := "dmaTexts", apart := false }
def DmaTextsSaid : Prop := dmaTextsRow.holds Try.pinned (OpenSpec.ofChange dmaTextsSpec)

/-- ITS FALSE NEIGHBOUR: 'it returns false'. Refute it at one input. -/
def dmaTextsWrong : ChangeSpec := { name := "dmaTexts", fn := fun _ => fun
  | [d1, d2] => { results := [.lit (.bool false)], args := [d1, d2] }
  | _ => none }
def DmaTextsWrongFalsely : Prop := dmaTextsRow.holds Try.pinned (OpenSpec.ofChange dmaTextsWrong)

/-- 'zoetropelaw11.DmaMoves': WHATEVER THE INPUT: true; the input reads as it did. -/
def dmaMovesSpec : ChangeSpec := { name := "dmaMoves", fn := fun _ => fun
  | [d] => { results := [.lit (.bool true)], args := [d] }
  | _ => none }
def dmaMovesRow : OpenClaim := { program := "ytifkldlhoaipbaa", sum := "e2427addf31213d1130a83583b369df453bfe979db8eef5033ca09d5ea19960f", func := "zoetrope/zoetropelaw11.DmaMoves", spec := "dmaMoves", apart := false }
def DmaMovesSaid : Prop := dmaMovesRow.holds Try.pinned (OpenSpec.ofChange dmaMovesSpec)

/-- ITS FALSE NEIGHBOUR: 'it returns false'. Refute it at one input. -/
def dmaMovesWrong : ChangeSpec := { name := "dmaMoves", fn := fun _ => fun
  | [d] => { results := [.lit (.bool false)], args := [d] }
  | _ => none }
def DmaMovesWrongFalsely : Prop := dmaMovesRow.holds Try.pinned (OpenSpec.ofChange dmaMovesWrong)

/-- 'zoetropelaw11.DmaBack': WHATEVER THE INPUT: true; the input reads as it did. -/
def dmaBackSpec : ChangeSpec := { name := "dmaBack", fn := fun _ => fun
  | [d1, d2] => { results := [.lit (.bool true)], args := [d1, d2] }
  | _ => none }
def dmaBackRow : OpenClaim := { program := "ytifkldlhoaipbaa", sum := "e2427addf31213d1130a83583b369df453bfe979db8eef5033ca09d5ea19960f", func := "zoetrope/zoetropelaw11.DmaBack", spec := "dmaBack", apart := false }
def DmaBackSaid : Prop := dmaBackRow.holds Try.pinned (OpenSpec.ofChange dmaBackSpec)

/-- ITS FALSE NEIGHBOUR: 'it returns false'. Refute it at one input. -/
def dmaBackWrong : ChangeSpec := { name := "dmaBack", fn := fun _ => fun
  | [d1, d2] => { results := [.lit (.bool false)], args := [d1, d2] }
  | _ => none }
def DmaBackWrongFalsely : Prop := dmaBackRow.holds Try.pinned (OpenSpec.ofChange dmaBackWrong)

/-- 'zoetropelaw11.DmaOnce': WHATEVER THE INPUT: true; the input reads as it did. -/
def dmaOnceSpec : ChangeSpec := { name := "dmaOnce", fn := fun _ => fun
  | [d1, d2, d3] => { results := [.lit (.bool true)], args := [d1, d2, d3] }
  | _ => none }
def dmaOnceRow : OpenClaim := { program := "ytifkldlhoaipbaa", sum := "e2427addf31213d1130a83583b369df453bfe979db8eef5033ca09d5ea19960f", func := "zoetrope/zoetropelaw11.DmaOnce", spec := "dmaOnce", apart := false }
def DmaOnceSaid : Prop := dmaOnceRow.holds Try.pinned (OpenSpec.ofChange dmaOnceSpec)

/-- ITS FALSE NEIGHBOUR: 'it returns false'. Refute it at one input. -/
def dmaOnceWrong : ChangeSpec := { name := "dmaOnce", fn := fun _ => fun
  | [d1, d2, d3] => { results := [.lit (.bool false)], args := [d1, d2, d3] }
  | _ => none }
def DmaOnceWrongFalsely : Prop := dmaOnceRow.holds Try.pinned (OpenSpec.ofChange dmaOnceWrong)

/-- 'zoetropelaw11.DmaIdle': WHATEVER THE INPUT: true; the input reads as it did. -/
def dmaIdleSpec : ChangeSpec := { name := "dmaIdle", fn := fun _ => fun
  | [d] => { results := [.lit (.bool true)], args := [d] }
  | _ => none }
def dmaIdleRow : OpenClaim := { program := "ytifkldlhoaipbaa", sum := "e2427addf31213d1130a83583b369df453bfe979db8eef5033ca09d5ea19960f", func := "zoetrope/zoetropelaw11.DmaIdle", spec := "dmaIdle", apart := false }
def DmaIdleSaid : Prop := dmaIdleRow.holds Try.pinned (OpenSpec.ofChange dmaIdleSpec)

/-- ITS FALSE NEIGHBOUR: 'it returns false'. Refute it at one input. -/
def dmaIdleWrong : ChangeSpec := { name := "dmaIdle", fn := fun _ => fun
  | [d] => { results := [.lit (.bool false)], args := [d] }
  | _ => none }
def DmaIdleWrongFalsely : Prop := dmaIdleRow.holds Try.pinned (OpenSpec.ofChange dmaIdleWrong)

/- THE SECOND FORM. 'bulk': how many values and letters a reading holds, each counted each time it is reached (what is shared counts as often as it is met; a slice's spare places count too). A statement '..UptoSaid' is the law's where the arguments, and the package variables that the reading takes, are together of bulk at most 1048576: NARROWER than '..Said'. Prove '..Said' where nothing that the law and all that it calls make is longer than what came in: it says more and counts as full. Else prove '..UptoSaid'. A law counts once. -/
mutual
def uptoBulk {H : Type} : DataW H → Nat
  | .lit (.string bytes) => bytes.length + 1
  | .lit _ => 1
  | .nil => 1
  | .ptr d => uptoBulk d + 1
  | .slice elems spare => uptoBulkAll elems + uptoBulkAll spare + 1
  | .agg parts => uptoBulkAll parts + 1
  | .iface _ d => uptoBulk d + 1
  | .map entries => uptoBulkEntries entries + 1
  | .held _ => 1
def uptoBulkAll {H : Type} : List (DataW H) → Nat
  | [] => 0
  | d :: r => uptoBulk d + uptoBulkAll r
def uptoBulkEntries {H : Type} : List (Lit × DataW H) → Nat
  | [] => 0
  | x :: r => uptoBulkEntry x + uptoBulkEntries r
def uptoBulkEntry {H : Type} : Lit × DataW H → Nat
  | (.string bytes, d) => bytes.length + uptoBulk d + 1
  | (_, d) => uptoBulk d + 1
 end
def uptoSmall : (H : Type) → List (DataW H) → Bool := fun _ ds => decide (uptoBulkAll ds ≤ 1048576)
def OpenSpec.upto (s : _root_.Go.ChangeSpec) : _root_.Go.OpenSpec := { _root_.Go.OpenSpec.ofChange s with cond := some uptoSmall }

/-- 'zoetropelaw11.DmaRegs', WHERE WHAT IT READS IS OF BULK AT MOST 1048576: true; the input reads as it did. -/
def dmaRegsUptoRow : OpenClaim := { program := "ytifkldlhoaipbaa", sum := "e2427addf31213d1130a83583b369df453bfe979db8eef5033ca09d5ea19960f", func := "zoetrope/zoetropelaw11.DmaRegs", spec := "dmaRegs", apart := false, narrowed := true }
def DmaRegsUptoSaid : Prop := dmaRegsUptoRow.holds Try.pinned (OpenSpec.upto dmaRegsSpec)

/-- 'zoetropelaw11.DmaTexts', WHERE WHAT IT READS IS OF BULK AT MOST 1048576: true; the input reads as it did. -/
def dmaTextsUptoRow : OpenClaim := { program := "ytifkldlhoaipbaa", sum := "e2427addf31213d1130a83583b369df453bfe979db8eef5033ca09d5ea19960f", func := "zoetrope/zoetropelaw11.DmaTexts", spec := "dmaTexts", apart := false, narrowed := true }
def DmaTextsUptoSaid : Prop := dmaTextsUptoRow.holds Try.pinned (OpenSpec.upto dmaTextsSpec)

/-- 'zoetropelaw11.DmaMoves', WHERE WHAT IT READS IS OF BULK AT MOST 1048576: true; the input reads as it did. -/
def dmaMovesUptoRow : OpenClaim := { program := "ytifkldlhoaipbaa", sum := "e2427addf31213d1130a83583b369df453bfe979db8eef5033ca09d5ea19960f", func := "zoetrope/zoetropelaw11.DmaMoves", spec := "dmaMoves", apart := false, narrowed := true }
def DmaMovesUptoSaid : Prop := dmaMovesUptoRow.holds Try.pinned (OpenSpec.upto dmaMovesSpec)

/-- 'zoetropelaw11.DmaBack', WHERE WHAT IT READS IS OF BULK AT MOST 1048576: true; the input reads as it did. -/
def dmaBackUptoRow : OpenClaim := { program := "ytifkldlhoaipbaa", sum := "e2427addf31213d1130a83583b369df453bfe979db8eef5033ca09d5ea19960f", func := "zoetrope/zoetropelaw11.DmaBack", spec := "dmaBack", apart := false, narrowed := true }
def DmaBackUptoSaid : Prop := dmaBackUptoRow.holds Try.pinned (OpenSpec.upto dmaBackSpec)

/-- 'zoetropelaw11.DmaOnce', WHERE WHAT IT READS IS OF BULK AT MOST 1048576: true; the input reads as it did. -/
def dmaOnceUptoRow : OpenClaim := { program := "ytifkldlhoaipbaa", sum := "e2427addf31213d1130a83583b369df453bfe979db8eef5033ca09d5ea19960f", func := "zoetrope/zoetropelaw11.DmaOnce", spec := "dmaOnce", apart := false, narrowed := true }
def DmaOnceUptoSaid : Prop := dmaOnceUptoRow.holds Try.pinned (OpenSpec.upto dmaOnceSpec)

/-- 'zoetropelaw11.DmaIdle', WHERE WHAT IT READS IS OF BULK AT MOST 1048576: true; the input reads as it did. -/
def dmaIdleUptoRow : OpenClaim := { program := "ytifkldlhoaipbaa", sum := "e2427addf31213d1130a83583b369df453bfe979db8eef5033ca09d5ea19960f", func := "zoetrope/zoetropelaw11.DmaIdle", spec := "dmaIdle", apart := false, narrowed := true }
def DmaIdleUptoSaid : Prop := dmaIdleUptoRow.holds Try.pinned (OpenSpec.upto dmaIdleSpec)

end Rows
end Go.Proofs.Ytifkldlhoaipbaa
