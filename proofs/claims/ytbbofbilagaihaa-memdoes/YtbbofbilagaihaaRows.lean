/-
  No cell of these rows narrows 'for every input' (looked for: loops, veiled, ifaces, maps, wideKeys, modest, calm, conditions, laid).
  DERIVED. THE GIVEN ROWS OF THIS SEAT. 6 by the template 'for every input the law returns true; each argument reads behind the call as it read before'; 0 by the template 'total and deterministic' (their statements: YtbbofbilagaihaaTotals.lean).
  GIVEN WITH THE SEED: the statements are not yours to turn. If you find one false, say at which input.
  Laid BY PROGRAM, IN A SANDBOX (cutbox-rows.mjs): the forced cells as the released guide's own fill.sh prints them over the translation e7c3cfacfca828f1… (all of the seat's roots in one cut). By AI agents, Wed Nov 11 2026. No macro, syntax, notation, axiom, sorry.
-/
import Derived.Test.YtbbofbilagaihaaChecked
import GoSem.Claim
import GoSem.ClaimJoined
import GoSem.ClaimMapViews
import Derived.JoinedTies
import Derived.KernelRfl
namespace Go.Proofs.Ytbbofbilagaihaa
/- THE CELL 'sum', in the pinned program and in every row, IS THE sha256 OF THE DUMP (.gsa) THAT YtbbofbilagaihaaProg.lean LOADS. Nothing in Lean hashes anything: it is a label: what it is worth is what the hold of that sum in a sandbox is worth. -/
noncomputable def Try.pinned : Pinned := { name := "ytbbofbilagaihaa", sum := "e7c3cfacfca828f1f1bbcab7b97ae769a3c20970fd3c4bc154d20591e8e02561", checked := Try.checked }
namespace Rows
def none {H : Type} : Left H := { results := [], args := [] }

/-- 'zoetropelaw06.MemNews': WHATEVER THE INPUT: true; the input reads as it did. -/
def memNewsSpec : ChangeSpec := { name := "memNews", fn := fun _ => fun
  | [d] => { results := [.lit (.bool true)], args := [d] }
  | _ => none }
def memNewsRow : OpenClaim := { program := "ytbbofbilagaihaa", sum := "e7c3cfacfca828f1f1bbcab7b97ae769a3c20970fd3c4bc154d20591e8e02561", func := "zoetrope/zoetropelaw06.MemNews", spec := "memNews", apart := false }
def MemNewsSaid : Prop := memNewsRow.holds Try.pinned (OpenSpec.ofChange memNewsSpec)

/-- ITS FALSE NEIGHBOUR: 'it returns false'. Refute it at one input. -/
def memNewsWrong : ChangeSpec := { name := "memNews", fn := fun _ => fun
  | [d] => { results := [.lit (.bool false)], args := [d] }
  | _ => none }
def MemNewsWrongFalsely : Prop := memNewsRow.holds Try.pinned (OpenSpec.ofChange memNewsWrong)

/-- 'zoetropelaw06.MemDoes': WHATEVER THE INPUT: true; the input reads as it did. -/
def memDoesSpec : ChangeSpec := { name := "memDoes", fn := fun _ => fun
  | [d1, d2] => { results := [.lit (.bool true)], args := [d1, d2] }
  | _ => none }
def memDoesRow : OpenClaim := { program := "ytbbofbilagaihaa", sum := "e7c3cfacfca828f1f1bbcab7b97ae769a3c20970fd3c4bc154d20591e8e02561", func := "zoetrope/zoetropelaw06.MemDoes", spec := "memDoes", apart := false }
def MemDoesSaid : Prop := memDoesRow.holds Try.pinned (OpenSpec.ofChange memDoesSpec)

/-- ITS FALSE NEIGHBOUR: 'it returns false'. Refute it at one input. -/
def memDoesWrong : ChangeSpec := { name := "memDoes", fn := fun _ => fun
  | [d1, d2] => { results := [.lit (.bool false)], args := [d1, d2] }
  | _ => none }
def MemDoesWrongFalsely : Prop := memDoesRow.holds Try.pinned (OpenSpec.ofChange memDoesWrong)

/-- 'zoetropelaw06.MemBack': WHATEVER THE INPUT: true; the input reads as it did. -/
def memBackSpec : ChangeSpec := { name := "memBack", fn := fun _ => fun
  | [d] => { results := [.lit (.bool true)], args := [d] }
  | _ => none }
def memBackRow : OpenClaim := { program := "ytbbofbilagaihaa", sum := "e7c3cfacfca828f1f1bbcab7b97ae769a3c20970fd3c4bc154d20591e8e02561", func := "zoetrope/zoetropelaw06.MemBack", spec := "memBack", apart := false }
def MemBackSaid : Prop := memBackRow.holds Try.pinned (OpenSpec.ofChange memBackSpec)

/-- ITS FALSE NEIGHBOUR: 'it returns false'. Refute it at one input. -/
def memBackWrong : ChangeSpec := { name := "memBack", fn := fun _ => fun
  | [d] => { results := [.lit (.bool false)], args := [d] }
  | _ => none }
def MemBackWrongFalsely : Prop := memBackRow.holds Try.pinned (OpenSpec.ofChange memBackWrong)

/-- 'zoetropelaw06.MemDirty': WHATEVER THE INPUT: true; the input reads as it did. -/
def memDirtySpec : ChangeSpec := { name := "memDirty", fn := fun _ => fun
  | [d1, d2] => { results := [.lit (.bool true)], args := [d1, d2] }
  | _ => none }
def memDirtyRow : OpenClaim := { program := "ytbbofbilagaihaa", sum := "e7c3cfacfca828f1f1bbcab7b97ae769a3c20970fd3c4bc154d20591e8e02561", func := "zoetrope/zoetropelaw06.MemDirty", spec := "memDirty", apart := false }
def MemDirtySaid : Prop := memDirtyRow.holds Try.pinned (OpenSpec.ofChange memDirtySpec)

/-- ITS FALSE NEIGHBOUR: 'it returns false'. Refute it at one input. -/
def memDirtyWrong : ChangeSpec := { name := "memDirty", fn := fun _ => fun
  | [d1, d2] => { results := [.lit (.bool false)], args := [d1, d2] }
  | _ => none }
def MemDirtyWrongFalsely : Prop := memDirtyRow.holds Try.pinned (OpenSpec.ofChange memDirtyWrong)

/-- 'zoetropelaw06.MemPages': WHATEVER THE INPUT: true; the input reads as it did. -/
def memPagesSpec : ChangeSpec := { name := "memPages", fn := fun _ => fun
  | [d1, d2] => { results := [.lit (.bool true)], args := [d1, d2] }
  | _ => none }
def memPagesRow : OpenClaim := { program := "ytbbofbilagaihaa", sum := "e7c3cfacfca828f1f1bbcab7b97ae769a3c20970fd3c4bc154d20591e8e02561", func := "zoetrope/zoetropelaw06.MemPages", spec := "memPages", apart := false }
def MemPagesSaid : Prop := memPagesRow.holds Try.pinned (OpenSpec.ofChange memPagesSpec)

/-- ITS FALSE NEIGHBOUR: 'it returns false'. Refute it at one input. -/
def memPagesWrong : ChangeSpec := { name := "memPages", fn := fun _ => fun
  | [d1, d2] => { results := [.lit (.bool false)], args := [d1, d2] }
  | _ => none }
def MemPagesWrongFalsely : Prop := memPagesRow.holds Try.pinned (OpenSpec.ofChange memPagesWrong)

/-- 'zoetropelaw06.MemApart': WHATEVER THE INPUT: true; the input reads as it did. -/
def memApartSpec : ChangeSpec := { name := "memApart", fn := fun _ => fun
  | [d1, d2] => { results := [.lit (.bool true)], args := [d1, d2] }
  | _ => none }
def memApartRow : OpenClaim := { program := "ytbbofbilagaihaa", sum := "e7c3cfacfca828f1f1bbcab7b97ae769a3c20970fd3c4bc154d20591e8e02561", func := "zoetrope/zoetropelaw06.MemApart", spec := "memApart", apart := false }
def MemApartSaid : Prop := memApartRow.holds Try.pinned (OpenSpec.ofChange memApartSpec)

/-- ITS FALSE NEIGHBOUR: 'it returns false'. Refute it at one input. -/
def memApartWrong : ChangeSpec := { name := "memApart", fn := fun _ => fun
  | [d1, d2] => { results := [.lit (.bool false)], args := [d1, d2] }
  | _ => none }
def MemApartWrongFalsely : Prop := memApartRow.holds Try.pinned (OpenSpec.ofChange memApartWrong)

/- THE SECOND FORM. 'bulk': how many values and letters a reading holds, each counted each time it is reached (what is shared counts as often as it is met; a slice's spare places count too). A statement '..UptoSaid' is the law's where the arguments, and the package variables that the reading takes, are together of bulk at most 1048576: NARROWER than '..Said'. Prove '..Said' where nothing that the law and all that it calls make is longer than what came in: it says more and counts as full. Else prove '..UptoSaid'. A law counts once. -/
mutual
def uptoBulk {H : Type} : DataW H → Nat
  | .lit (.string bytes) => bytes.length + 1
  | .lit _ => 1
  | .nil => 1
  | .ptr d => uptoBulk d + 1
  | .slice elems spare => uptoBulkAll elems + uptoBulkAll spare + 1
  | .agg parts => uptoBulkAll parts + 1
  | .iface _ d => uptoBulk d + 1
  | .map entries => uptoBulkEntries entries + 1
  | .held _ => 1
def uptoBulkAll {H : Type} : List (DataW H) → Nat
  | [] => 0
  | d :: r => uptoBulk d + uptoBulkAll r
def uptoBulkEntries {H : Type} : List (Lit × DataW H) → Nat
  | [] => 0
  | x :: r => uptoBulkEntry x + uptoBulkEntries r
def uptoBulkEntry {H : Type} : Lit × DataW H → Nat
  | (.string bytes, d) => bytes.length + uptoBulk d + 1
  | (_, d) => uptoBulk d + 1
 end
def uptoSmall : (H : Type) → List (DataW H) → Bool := fun _ ds => decide (uptoBulkAll ds ≤ 1048576)
def OpenSpec.upto (s : _root_.Go.ChangeSpec) : _root_.Go.OpenSpec := { _root_.Go.OpenSpec.ofChange s with cond := some uptoSmall }

/-- 'zoetropelaw06.MemNews', WHERE WHAT IT READS IS OF BULK AT MOST 1048576: true; the input reads as it did. -/
def memNewsUptoRow : OpenClaim := { program := "ytbbofbilagaihaa", sum := "e7c3cfacfca828f1f1bbcab7b97ae769a3c20970fd3c4bc154d20591e8e02561", func := "zoetrope/zoetropelaw06.MemNews", spec := "memNews", apart := false, narrowed := true }
def MemNewsUptoSaid : Prop := memNewsUptoRow.holds Try.pinned (OpenSpec.upto memNewsSpec)

/-- 'zoetropelaw06.MemDoes', WHERE WHAT IT READS IS OF BULK AT MOST 1048576: true; the input reads as it did. -/
def memDoesUptoRow : OpenClaim := { program := "ytbbofbilagaihaa", sum := "e7c3cfacfca828f1f1bbcab7b97ae769a3c20970fd3c4bc154d20591e8e02561", func := "zoetrope/zoetropelaw06.MemDoes", spec := "memDoes", apart := false, narrowed := true }
def MemDoesUptoSaid : Prop := memDoesUptoRow.holds Try.pinned (OpenSpec.upto memDoesSpec)

/-- 'zoetropelaw06.MemBack', WHERE WHAT IT READS IS OF BULK AT MOST 1048576: true; the input reads as it did. -/
def memBackUptoRow : OpenClaim := { program := "ytbbofbilagaihaa", sum := "e7c3cfacfca828f1f1bbcab7b97ae769a3c20970fd3c4bc154d20591e8e02561", func := "zoetrope/zoetropelaw06.MemBack", spec := "memBack", apart := false, narrowed := true }
def MemBackUptoSaid : Prop := memBackUptoRow.holds Try.pinned (OpenSpec.upto memBackSpec)

/-- 'zoetropelaw06.MemDirty', WHERE WHAT IT READS IS OF BULK AT MOST 1048576: true; the input reads as it did. -/
def memDirtyUptoRow : OpenClaim := { program := "ytbbofbilagaihaa", sum := "e7c3cfacfca828f1f1bbcab7b97ae769a3c20970fd3c4bc154d20591e8e02561", func := "zoetrope/zoetropelaw06.MemDirty", spec := "memDirty", apart := false, narrowed := true }
def MemDirtyUptoSaid : Prop := memDirtyUptoRow.holds Try.pinned (OpenSpec.upto memDirtySpec)

/-- 'zoetropelaw06.MemPages', WHERE WHAT IT READS IS OF BULK AT MOST 1048576: true; the input reads as it did. -/
def memPagesUptoRow : OpenClaim := { program := "ytbbofbilagaihaa", sum := "e7c3cfacfca828f1f1bbcab7b97ae769a3c20970fd3c4bc154d20591e8e02561", func := "zoetrope/zoetropelaw06.MemPages", spec := "memPages", apart := false, narrowed := true }
def MemPagesUptoSaid : Prop := memPagesUptoRow.holds Try.pinned (OpenSpec.upto memPagesSpec)

/-- 'zoetropelaw06.MemApart', WHERE WHAT IT READS IS OF BULK AT MOST 1048576: true; the input reads as it did. -/
def memApartUptoRow : OpenClaim := { program := "ytbbofbilagaihaa", sum := "e7c3cfacfca828f1f1bbcab7b97ae769a3c20970fd3c4bc154d20591e8e02561", func := "zoetrope/zoetropelaw06.MemApart", spec := "memApart", apart := false, narrowed := true }
def MemApartUptoSaid : Prop := memApartUptoRow.holds Try.pinned (OpenSpec.upto memApartSpec)

end Rows
end Go.Proofs.Ytbbofbilagaihaa
