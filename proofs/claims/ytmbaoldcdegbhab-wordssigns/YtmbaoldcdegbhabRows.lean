/-
  No cell of these rows narrows 'for every input' (looked for: loops, veiled, ifaces, maps, wideKeys, modest, calm, conditions, laid).
  DERIVED. THE GIVEN ROWS OF THIS SEAT. 3 by the template 'for every input the law returns true; each argument reads behind the call as it read before'; 0 by the template 'total and deterministic' (their statements: YtmbaoldcdegbhabTotals.lean).
  GIVEN WITH THE SEED: the statements are not yours to turn. If you find one false, say at which input.
  Laid BY PROGRAM, IN A SANDBOX (cutbox-rows.mjs): the forced cells as the released guide's own fill.sh prints them over the translation bbbcf1edaa372425… (all of the seat's roots in one cut). By AI agents, Wed Nov 11 2026. No macro, syntax, notation, axiom, sorry.
-/
import Derived.Test.YtmbaoldcdegbhabChecked
import GoSem.Claim
import GoSem.ClaimJoined
import GoSem.ClaimMapViews
import Derived.JoinedTies
import Derived.KernelRfl
namespace Go.Proofs.Ytmbaoldcdegbhab
/- THE CELL 'sum', in the pinned program and in every row, IS THE sha256 OF THE DUMP (.gsa) THAT YtmbaoldcdegbhabProg.lean LOADS. Nothing in Lean hashes anything: it is a label: what it is worth is what the hold of that sum in a sandbox is worth. -/
noncomputable def Try.pinned : Pinned := { name := "ytmbaoldcdegbhab", sum := "bbbcf1edaa372425d46d9d2c0426c1c9a7a72580d2e6be80644322b39050f387", checked := Try.checked }
namespace Rows
def none {H : Type} : Left H := { results := [], args := [] }

/-- 'zoetropelaw01.WordsSigns': WHATEVER THE INPUT: true; the input reads as it did. -/
def wordsSignsSpec : ChangeSpec := { name := "wordsSigns", fn := fun _ => fun
  | [d1, d2, d3] => { results := [.lit (.bool true)], args := [d1, d2, d3] }
  | _ => none }
def wordsSignsRow : OpenClaim := { program := "ytmbaoldcdegbhab", sum := "bbbcf1edaa372425d46d9d2c0426c1c9a7a72580d2e6be80644322b39050f387", func := "zoetrope/zoetropelaw01.WordsSigns", spec := "wordsSigns", apart := false }
def WordsSignsSaid : Prop := wordsSignsRow.holds Try.pinned (OpenSpec.ofChange wordsSignsSpec)

/-- ITS FALSE NEIGHBOUR: 'it returns false'. Refute it at one input. -/
def wordsSignsWrong : ChangeSpec := { name := "wordsSigns", fn := fun _ => fun
  | [d1, d2, d3] => { results := [.lit (.bool false)], args := [d1, d2, d3] }
  | _ => none }
def WordsSignsWrongFalsely : Prop := wordsSignsRow.holds Try.pinned (OpenSpec.ofChange wordsSignsWrong)

/-- 'zoetropelaw01.WordsShiftOn': WHATEVER THE INPUT: true; the input reads as it did. -/
def wordsShiftOnSpec : ChangeSpec := { name := "wordsShiftOn", fn := fun _ => fun
  | [d1, d2, d3] => { results := [.lit (.bool true)], args := [d1, d2, d3] }
  | _ => none }
def wordsShiftOnRow : OpenClaim := { program := "ytmbaoldcdegbhab", sum := "bbbcf1edaa372425d46d9d2c0426c1c9a7a72580d2e6be80644322b39050f387", func := "zoetrope/zoetropelaw01.WordsShiftOn", spec := "wordsShiftOn", apart := false }
def WordsShiftOnSaid : Prop := wordsShiftOnRow.holds Try.pinned (OpenSpec.ofChange wordsShiftOnSpec)

/-- ITS FALSE NEIGHBOUR: 'it returns false'. Refute it at one input. -/
def wordsShiftOnWrong : ChangeSpec := { name := "wordsShiftOn", fn := fun _ => fun
  | [d1, d2, d3] => { results := [.lit (.bool false)], args := [d1, d2, d3] }
  | _ => none }
def WordsShiftOnWrongFalsely : Prop := wordsShiftOnRow.holds Try.pinned (OpenSpec.ofChange wordsShiftOnWrong)

/-- 'zoetropelaw01.WordsLead': WHATEVER THE INPUT: true; the input reads as it did. -/
def wordsLeadSpec : ChangeSpec := { name := "wordsLead", fn := fun _ => fun
  | [d] => { results := [.lit (.bool true)], args := [d] }
  | _ => none }
def wordsLeadRow : OpenClaim := { program := "ytmbaoldcdegbhab", sum := "bbbcf1edaa372425d46d9d2c0426c1c9a7a72580d2e6be80644322b39050f387", func := "zoetrope/zoetropelaw01.WordsLead", spec := "wordsLead", apart := false }
def WordsLeadSaid : Prop := wordsLeadRow.holds Try.pinned (OpenSpec.ofChange wordsLeadSpec)

/-- ITS FALSE NEIGHBOUR: 'it returns false'. Refute it at one input. -/
def wordsLeadWrong : ChangeSpec := { name := "wordsLead", fn := fun _ => fun
  | [d] => { results := [.lit (.bool false)], args := [d] }
  | _ => none }
def WordsLeadWrongFalsely : Prop := wordsLeadRow.holds Try.pinned (OpenSpec.ofChange wordsLeadWrong)

/- THE SECOND FORM. 'bulk': how many values and letters a reading holds, each counted each time it is reached (what is shared counts as often as it is met; a slice's spare places count too). A statement '..UptoSaid' is the law's where the arguments, and the package variables that the reading takes, are together of bulk at most 1048576: NARROWER than '..Said'. Prove '..Said' where nothing that the law and all that it calls make is longer than what came in: it says more and counts as full. Else prove '..UptoSaid'. A law counts once. -/
mutual
def uptoBulk {H : Type} : DataW H → Nat
  | .lit (.string bytes) => bytes.length + 1
  | .lit _ => 1
  | .nil => 1
  | .ptr d => uptoBulk d + 1
  | .slice elems spare => uptoBulkAll elems + uptoBulkAll spare + 1
  | .agg parts => uptoBulkAll parts + 1
  | .iface _ d => uptoBulk d + 1
  | .map entries => uptoBulkEntries entries + 1
  | .held _ => 1
def uptoBulkAll {H : Type} : List (DataW H) → Nat
  | [] => 0
  | d :: r => uptoBulk d + uptoBulkAll r
def uptoBulkEntries {H : Type} : List (Lit × DataW H) → Nat
  | [] => 0
  | x :: r => uptoBulkEntry x + uptoBulkEntries r
def uptoBulkEntry {H : Type} : Lit × DataW H → Nat
  | (.string bytes, d) => bytes.length + uptoBulk d + 1
  | (_, d) => uptoBulk d + 1
 end
def uptoSmall : (H : Type) → List (DataW H) → Bool := fun _ ds => decide (uptoBulkAll ds ≤ 1048576)
def OpenSpec.upto (s : _root_.Go.ChangeSpec) : _root_.Go.OpenSpec := { _root_.Go.OpenSpec.ofChange s with cond := some uptoSmall }

/-- 'zoetropelaw01.WordsSigns', WHERE WHAT IT READS IS OF BULK AT MOST 1048576: true; the input reads as it did. -/
def wordsSignsUptoRow : OpenClaim := { program := "ytmbaoldcdegbhab", sum := "bbbcf1edaa372425d46d9d2c0426c1c9a7a72580d2e6be80644322b39050f387", func := "zoetrope/zoetropelaw01.WordsSigns", spec := "wordsSigns", apart := false, narrowed := true }
def WordsSignsUptoSaid : Prop := wordsSignsUptoRow.holds Try.pinned (OpenSpec.upto wordsSignsSpec)

/-- 'zoetropelaw01.WordsShiftOn', WHERE WHAT IT READS IS OF BULK AT MOST 1048576: true; the input reads as it did. -/
def wordsShiftOnUptoRow : OpenClaim := { program := "ytmbaoldcdegbhab", sum := "bbbcf1edaa372425d46d9d2c0426c1c9a7a72580d2e6be80644322b39050f387", func := "zoetrope/zoetropelaw01.WordsShiftOn", spec := "wordsShiftOn", apart := false, narrowed := true }
def WordsShiftOnUptoSaid : Prop := wordsShiftOnUptoRow.holds Try.pinned (OpenSpec.upto wordsShiftOnSpec)

/-- 'zoetropelaw01.WordsLead', WHERE WHAT IT READS IS OF BULK AT MOST 1048576: true; the input reads as it did. -/
def wordsLeadUptoRow : OpenClaim := { program := "ytmbaoldcdegbhab", sum := "bbbcf1edaa372425d46d9d2c0426c1c9a7a72580d2e6be80644322b39050f387", func := "zoetrope/zoetropelaw01.WordsLead", spec := "wordsLead", apart := false, narrowed := true }
def WordsLeadUptoSaid : Prop := wordsLeadUptoRow.holds Try.pinned (OpenSpec.upto wordsLeadSpec)

end Rows
end Go.Proofs.Ytmbaoldcdegbhab
