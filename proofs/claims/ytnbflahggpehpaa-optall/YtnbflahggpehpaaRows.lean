/-
  No cell of these rows narrows 'for every input' (looked for: loops, veiled, ifaces, maps, wideKeys, modest, calm, conditions, laid).
  DERIVED. THE GIVEN ROWS OF THIS SEAT. 6 by the template 'for every input the law returns true; each argument reads behind the call as it read before'; 0 by the template 'total and deterministic' (their statements: YtnbflahggpehpaaTotals.lean).
  GIVEN WITH THE SEED: the statements are not yours to turn. If you find one false, say at which input.
  Laid BY PROGRAM, IN A SANDBOX (cutbox-rows.mjs): the forced cells as the released guide's own fill.sh prints them over the translation 5bdf82805401d089… (all of the seat's roots in one cut). By AI agents, Wed Nov 11 2026. No macro, syntax, notation, axiom, sorry.
-/
import Derived.Test.YtnbflahggpehpaaChecked
import GoSem.Claim
import GoSem.ClaimJoined
import GoSem.ClaimMapViews
import Derived.JoinedTies
import Derived.KernelRfl
namespace Go.Proofs.Ytnbflahggpehpaa
/- THE CELL 'sum', in the pinned program and in every row, IS THE sha256 OF THE DUMP (.gsa) THAT YtnbflahggpehpaaProg.lean LOADS. Nothing in Lean hashes anything: it is a label: what it is worth is what the hold of that sum in a sandbox is worth. -/
noncomputable def Try.pinned : Pinned := { name := "ytnbflahggpehpaa", sum := "5bdf82805401d0894e065c00a1107c2062e65d754622c4db2e1ca3d985ff2878", checked := Try.checked }
namespace Rows
def none {H : Type} : Left H := { results := [], args := [] }

/-- 'zoetropelaw15.OptCopies': WHATEVER THE INPUT: true; the input reads as it did. -/
def optCopiesSpec : ChangeSpec := { name := "optCopies", fn := fun _ => fun
  | [d] => { results := [.lit (.bool true)], args := [d] }
  | _ => none }
def optCopiesRow : OpenClaim := { program := "ytnbflahggpehpaa", sum := "5bdf82805401d0894e065c00a1107c2062e65d754622c4db2e1ca3d985ff2878", func := "zoetrope/zoetropelaw15.OptCopies", spec := "optCopies", unfollowed := true, recurses := true, apart := false }
def OptCopiesSaid : Prop := optCopiesRow.holds Try.pinned (OpenSpec.ofChange optCopiesSpec)

/-- ITS FALSE NEIGHBOUR: 'it returns false'. Refute it at one input. -/
def optCopiesWrong : ChangeSpec := { name := "optCopies", fn := fun _ => fun
  | [d] => { results := [.lit (.bool false)], args := [d] }
  | _ => none }
def OptCopiesWrongFalsely : Prop := optCopiesRow.holds Try.pinned (OpenSpec.ofChange optCopiesWrong)

/-- 'zoetropelaw15.OptFolds': WHATEVER THE INPUT: true; the input reads as it did. -/
def optFoldsSpec : ChangeSpec := { name := "optFolds", fn := fun _ => fun
  | [d] => { results := [.lit (.bool true)], args := [d] }
  | _ => none }
def optFoldsRow : OpenClaim := { program := "ytnbflahggpehpaa", sum := "5bdf82805401d0894e065c00a1107c2062e65d754622c4db2e1ca3d985ff2878", func := "zoetrope/zoetropelaw15.OptFolds", spec := "optFolds", unfollowed := true, recurses := true, apart := false }
def OptFoldsSaid : Prop := optFoldsRow.holds Try.pinned (OpenSpec.ofChange optFoldsSpec)

/-- ITS FALSE NEIGHBOUR: 'it returns false'. Refute it at one input. -/
def optFoldsWrong : ChangeSpec := { name := "optFolds", fn := fun _ => fun
  | [d] => { results := [.lit (.bool false)], args := [d] }
  | _ => none }
def OptFoldsWrongFalsely : Prop := optFoldsRow.holds Try.pinned (OpenSpec.ofChange optFoldsWrong)

/-- 'zoetropelaw15.OptDead': WHATEVER THE INPUT: true; the input reads as it did. -/
def optDeadSpec : ChangeSpec := { name := "optDead", fn := fun _ => fun
  | [d] => { results := [.lit (.bool true)], args := [d] }
  | _ => none }
def optDeadRow : OpenClaim := { program := "ytnbflahggpehpaa", sum := "5bdf82805401d0894e065c00a1107c2062e65d754622c4db2e1ca3d985ff2878", func := "zoetrope/zoetropelaw15.OptDead", spec := "optDead", unfollowed := true, recurses := true, apart := false }
def OptDeadSaid : Prop := optDeadRow.holds Try.pinned (OpenSpec.ofChange optDeadSpec)

/-- ITS FALSE NEIGHBOUR: 'it returns false'. Refute it at one input. -/
def optDeadWrong : ChangeSpec := { name := "optDead", fn := fun _ => fun
  | [d] => { results := [.lit (.bool false)], args := [d] }
  | _ => none }
def OptDeadWrongFalsely : Prop := optDeadRow.holds Try.pinned (OpenSpec.ofChange optDeadWrong)

/-- 'zoetropelaw15.OptAll': WHATEVER THE INPUT: true; the input reads as it did. -/
def optAllSpec : ChangeSpec := { name := "optAll", fn := fun _ => fun
  | [d1, d2] => { results := [.lit (.bool true)], args := [d1, d2] }
  | _ => none }
def optAllRow : OpenClaim := { program := "ytnbflahggpehpaa", sum := "5bdf82805401d0894e065c00a1107c2062e65d754622c4db2e1ca3d985ff2878", func := "zoetrope/zoetropelaw15.OptAll", spec := "optAll", unfollowed := true, recurses := true, apart := false }
def OptAllSaid : Prop := optAllRow.holds Try.pinned (OpenSpec.ofChange optAllSpec)

/-- ITS FALSE NEIGHBOUR: 'it returns false'. Refute it at one input. -/
def optAllWrong : ChangeSpec := { name := "optAll", fn := fun _ => fun
  | [d1, d2] => { results := [.lit (.bool false)], args := [d1, d2] }
  | _ => none }
def OptAllWrongFalsely : Prop := optAllRow.holds Try.pinned (OpenSpec.ofChange optAllWrong)

/-- 'zoetropelaw15.OptSame': WHATEVER THE INPUT: true; the input reads as it did. -/
def optSameSpec : ChangeSpec := { name := "optSame", fn := fun _ => fun
  | [d1, d2, d3] => { results := [.lit (.bool true)], args := [d1, d2, d3] }
  | _ => none }
def optSameRow : OpenClaim := { program := "ytnbflahggpehpaa", sum := "5bdf82805401d0894e065c00a1107c2062e65d754622c4db2e1ca3d985ff2878", func := "zoetrope/zoetropelaw15.OptSame", spec := "optSame", unfollowed := true, recurses := true, apart := false }
def OptSameSaid : Prop := optSameRow.holds Try.pinned (OpenSpec.ofChange optSameSpec)

/-- ITS FALSE NEIGHBOUR: 'it returns false'. Refute it at one input. -/
def optSameWrong : ChangeSpec := { name := "optSame", fn := fun _ => fun
  | [d1, d2, d3] => { results := [.lit (.bool false)], args := [d1, d2, d3] }
  | _ => none }
def OptSameWrongFalsely : Prop := optSameRow.holds Try.pinned (OpenSpec.ofChange optSameWrong)

/-- 'zoetropelaw15.OptEach': WHATEVER THE INPUT: true; the input reads as it did. -/
def optEachSpec : ChangeSpec := { name := "optEach", fn := fun _ => fun
  | [d1, d2] => { results := [.lit (.bool true)], args := [d1, d2] }
  | _ => none }
def optEachRow : OpenClaim := { program := "ytnbflahggpehpaa", sum := "5bdf82805401d0894e065c00a1107c2062e65d754622c4db2e1ca3d985ff2878", func := "zoetrope/zoetropelaw15.OptEach", spec := "optEach", unfollowed := true, recurses := true, apart := false }
def OptEachSaid : Prop := optEachRow.holds Try.pinned (OpenSpec.ofChange optEachSpec)

/-- ITS FALSE NEIGHBOUR: 'it returns false'. Refute it at one input. -/
def optEachWrong : ChangeSpec := { name := "optEach", fn := fun _ => fun
  | [d1, d2] => { results := [.lit (.bool false)], args := [d1, d2] }
  | _ => none }
def OptEachWrongFalsely : Prop := optEachRow.holds Try.pinned (OpenSpec.ofChange optEachWrong)

/- THE SECOND FORM. 'bulk': how many values and letters a reading holds, each counted each time it is reached (what is shared counts as often as it is met; a slice's spare places count too). A statement '..UptoSaid' is the law's where the arguments, and the package variables that the reading takes, are together of bulk at most 1048576: NARROWER than '..Said'. Prove '..Said' where nothing that the law and all that it calls make is longer than what came in: it says more and counts as full. Else prove '..UptoSaid'. A law counts once. -/
mutual
def uptoBulk {H : Type} : DataW H → Nat
  | .lit (.string bytes) => bytes.length + 1
  | .lit _ => 1
  | .nil => 1
  | .ptr d => uptoBulk d + 1
  | .slice elems spare => uptoBulkAll elems + uptoBulkAll spare + 1
  | .agg parts => uptoBulkAll parts + 1
  | .iface _ d => uptoBulk d + 1
  | .map entries => uptoBulkEntries entries + 1
  | .held _ => 1
def uptoBulkAll {H : Type} : List (DataW H) → Nat
  | [] => 0
  | d :: r => uptoBulk d + uptoBulkAll r
def uptoBulkEntries {H : Type} : List (Lit × DataW H) → Nat
  | [] => 0
  | x :: r => uptoBulkEntry x + uptoBulkEntries r
def uptoBulkEntry {H : Type} : Lit × DataW H → Nat
  | (.string bytes, d) => bytes.length + uptoBulk d + 1
  | (_, d) => uptoBulk d + 1
 end
def uptoSmall : (H : Type) → List (DataW H) → Bool := fun _ ds => decide (uptoBulkAll ds ≤ 1048576)
def OpenSpec.upto (s : _root_.Go.ChangeSpec) : _root_.Go.OpenSpec := { _root_.Go.OpenSpec.ofChange s with cond := some uptoSmall }

/-- 'zoetropelaw15.OptCopies', WHERE WHAT IT READS IS OF BULK AT MOST 1048576: true; the input reads as it did. -/
def optCopiesUptoRow : OpenClaim := { program := "ytnbflahggpehpaa", sum := "5bdf82805401d0894e065c00a1107c2062e65d754622c4db2e1ca3d985ff2878", func := "zoetrope/zoetropelaw15.OptCopies", spec := "optCopies", unfollowed := true, recurses := true, apart := false, narrowed := true }
def OptCopiesUptoSaid : Prop := optCopiesUptoRow.holds Try.pinned (OpenSpec.upto optCopiesSpec)

/-- 'zoetropelaw15.OptFolds', WHERE WHAT IT READS IS OF BULK AT MOST 1048576: true; the input reads as it did. -/
def optFoldsUptoRow : OpenClaim := { program := "ytnbflahggpehpaa", sum := "5bdf82805401d0894e065c00a1107c2062e65d754622c4db2e1ca3d985ff2878", func := "zoetrope/zoetropelaw15.OptFolds", spec := "optFolds", unfollowed := true, recurses := true, apart := false, narrowed := true }
def OptFoldsUptoSaid : Prop := optFoldsUptoRow.holds Try.pinned (OpenSpec.upto optFoldsSpec)

/-- 'zoetropelaw15.OptDead', WHERE WHAT IT READS IS OF BULK AT MOST 1048576: true; the input reads as it did. -/
def optDeadUptoRow : OpenClaim := { program := "ytnbflahggpehpaa", sum := "5bdf82805401d0894e065c00a1107c2062e65d754622c4db2e1ca3d985ff2878", func := "zoetrope/zoetropelaw15.OptDead", spec := "optDead", unfollowed := true, recurses := true, apart := false, narrowed := true }
def OptDeadUptoSaid : Prop := optDeadUptoRow.holds Try.pinned (OpenSpec.upto optDeadSpec)

/-- 'zoetropelaw15.OptAll', WHERE WHAT IT READS IS OF BULK AT MOST 1048576: true; the input reads as it did. -/
def optAllUptoRow : OpenClaim := { program := "ytnbflahggpehpaa", sum := "5bdf82805401d0894e065c00a1107c2062e65d754622c4db2e1ca3d985ff2878", func := "zoetrope/zoetropelaw15.OptAll", spec := "optAll", unfollowed := true, recurses := true, apart := false, narrowed := true }
def OptAllUptoSaid : Prop := optAllUptoRow.holds Try.pinned (OpenSpec.upto optAllSpec)

/-- 'zoetropelaw15.OptSame', WHERE WHAT IT READS IS OF BULK AT MOST 1048576: true; the input reads as it did. -/
def optSameUptoRow : OpenClaim := { program := "ytnbflahggpehpaa", sum := "5bdf82805401d0894e065c00a1107c2062e65d754622c4db2e1ca3d985ff2878", func := "zoetrope/zoetropelaw15.OptSame", spec := "optSame", unfollowed := true, recurses := true, apart := false, narrowed := true }
def OptSameUptoSaid : Prop := optSameUptoRow.holds Try.pinned (OpenSpec.upto optSameSpec)

/-- 'zoetropelaw15.OptEach', WHERE WHAT IT READS IS OF BULK AT MOST 1048576: true; the input reads as it did. -/
def optEachUptoRow : OpenClaim := { program := "ytnbflahggpehpaa", sum := "5bdf82805401d0894e065c00a1107c2062e65d754622c4db2e1ca3d985ff2878", func := "zoetrope/zoetropelaw15.OptEach", spec := "optEach", unfollowed := true, recurses := true, apart := false, narrowed := true }
def OptEachUptoSaid : Prop := optEachUptoRow.holds Try.pinned (OpenSpec.upto optEachSpec)

end Rows
end Go.Proofs.Ytnbflahggpehpaa
