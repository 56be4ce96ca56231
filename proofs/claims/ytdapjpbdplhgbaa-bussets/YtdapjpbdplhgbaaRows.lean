/-
  No cell of these rows narrows 'for every input' (looked for: loops, veiled, ifaces, maps, wideKeys, modest, calm, conditions, laid).
  DERIVED. THE GIVEN ROWS OF THIS SEAT. 5 by the template 'for every input the law returns true; each argument reads behind the call as it read before'; 0 by the template 'total and deterministic' (their statements: YtdapjpbdplhgbaaTotals.lean).
  GIVEN WITH THE SEED: the statements are not yours to turn. If you find one false, say at which input.
  Laid BY PROGRAM, IN A SANDBOX (cutbox-rows.mjs): the forced cells as the released guide's own fill.sh prints them over the translation fd3047bd2dbed995… (all of the seat's roots in one cut). By AI agents, Wed Nov 11 2026. No macro, syntax, notation, axiom, sorry.
-/
import Derived.Test.YtdapjpbdplhgbaaChecked
import GoSem.Claim
import GoSem.ClaimJoined
import GoSem.ClaimMapViews
import Derived.JoinedTies
import Derived.KernelRfl
namespace Go.Proofs.Ytdapjpbdplhgbaa
/- THE CELL 'sum', in the pinned program and in every row, IS THE sha256 OF THE DUMP (.gsa) THAT YtdapjpbdplhgbaaProg.lean LOADS. Nothing in Lean hashes anything: it is a label: what it is worth is what the hold of that sum in a sandbox is worth. -/
noncomputable def Try.pinned : Pinned := { name := "ytdapjpbdplhgbaa", sum := "fd3047bd2dbed995d7c7e7cc494d2a1186477f8def427aa90d5539140f95ff7a", checked := Try.checked }
namespace Rows
def none {H : Type} : Left H := { results := [], args := [] }

/-- 'zoetropelaw12.BusSets': WHATEVER THE INPUT: true; the input reads as it did. -/
def busSetsSpec : ChangeSpec := { name := "busSets", fn := fun _ => fun
  | [d] => { results := [.lit (.bool true)], args := [d] }
  | _ => none }
def busSetsRow : OpenClaim := { program := "ytdapjpbdplhgbaa", sum := "fd3047bd2dbed995d7c7e7cc494d2a1186477f8def427aa90d5539140f95ff7a", func := "zoetrope/zoetropelaw12.BusSets", spec := "busSets", unfollowed := true, recurses := true, apart := false }
def BusSetsSaid : Prop := busSetsRow.holds Try.pinned (OpenSpec.ofChange busSetsSpec)

/-- ITS FALSE NEIGHBOUR: 'it returns false'. Refute it at one input. -/
def busSetsWrong : ChangeSpec := { name := "busSets", fn := fun _ => fun
  | [d] => { results := [.lit (.bool false)], args := [d] }
  | _ => none }
def BusSetsWrongFalsely : Prop := busSetsRow.holds Try.pinned (OpenSpec.ofChange busSetsWrong)

/-- 'zoetropelaw12.BusBack': WHATEVER THE INPUT: true; the input reads as it did. -/
def busBackSpec : ChangeSpec := { name := "busBack", fn := fun _ => fun
  | [d1, d2] => { results := [.lit (.bool true)], args := [d1, d2] }
  | _ => none }
def busBackRow : OpenClaim := { program := "ytdapjpbdplhgbaa", sum := "fd3047bd2dbed995d7c7e7cc494d2a1186477f8def427aa90d5539140f95ff7a", func := "zoetrope/zoetropelaw12.BusBack", spec := "busBack", unfollowed := true, recurses := true, apart := false }
def BusBackSaid : Prop := busBackRow.holds Try.pinned (OpenSpec.ofChange busBackSpec)

/-- ITS FALSE NEIGHBOUR: 'it returns false'. Refute it at one input. -/
def busBackWrong : ChangeSpec := { name := "busBack", fn := fun _ => fun
  | [d1, d2] => { results := [.lit (.bool false)], args := [d1, d2] }
  | _ => none }
def BusBackWrongFalsely : Prop := busBackRow.holds Try.pinned (OpenSpec.ofChange busBackWrong)

/-- 'zoetropelaw12.BusRefuses': WHATEVER THE INPUT: true; the input reads as it did. -/
def busRefusesSpec : ChangeSpec := { name := "busRefuses", fn := fun _ => fun
  | [d] => { results := [.lit (.bool true)], args := [d] }
  | _ => none }
def busRefusesRow : OpenClaim := { program := "ytdapjpbdplhgbaa", sum := "fd3047bd2dbed995d7c7e7cc494d2a1186477f8def427aa90d5539140f95ff7a", func := "zoetrope/zoetropelaw12.BusRefuses", spec := "busRefuses", unfollowed := true, recurses := true, apart := false }
def BusRefusesSaid : Prop := busRefusesRow.holds Try.pinned (OpenSpec.ofChange busRefusesSpec)

/-- ITS FALSE NEIGHBOUR: 'it returns false'. Refute it at one input. -/
def busRefusesWrong : ChangeSpec := { name := "busRefuses", fn := fun _ => fun
  | [d] => { results := [.lit (.bool false)], args := [d] }
  | _ => none }
def BusRefusesWrongFalsely : Prop := busRefusesRow.holds Try.pinned (OpenSpec.ofChange busRefusesWrong)

/-- 'zoetropelaw12.BusMemory': WHATEVER THE INPUT: true; the input reads as it did. -/
def busMemorySpec : ChangeSpec := { name := "busMemory", fn := fun _ => fun
  | [d1, d2] => { results := [.lit (.bool true)], args := [d1, d2] }
  | _ => none }
def busMemoryRow : OpenClaim := { program := "ytdapjpbdplhgbaa", sum := "fd3047bd2dbed995d7c7e7cc494d2a1186477f8def427aa90d5539140f95ff7a", func := "zoetrope/zoetropelaw12.BusMemory", spec := "busMemory", unfollowed := true, recurses := true, apart := false }
def BusMemorySaid : Prop := busMemoryRow.holds Try.pinned (OpenSpec.ofChange busMemorySpec)

/-- ITS FALSE NEIGHBOUR: 'it returns false'. Refute it at one input. -/
def busMemoryWrong : ChangeSpec := { name := "busMemory", fn := fun _ => fun
  | [d1, d2] => { results := [.lit (.bool false)], args := [d1, d2] }
  | _ => none }
def BusMemoryWrongFalsely : Prop := busMemoryRow.holds Try.pinned (OpenSpec.ofChange busMemoryWrong)

/-- 'zoetropelaw12.BusPeeks': WHATEVER THE INPUT: true; the input reads as it did. -/
def busPeeksSpec : ChangeSpec := { name := "busPeeks", fn := fun _ => fun
  | [d1, d2] => { results := [.lit (.bool true)], args := [d1, d2] }
  | _ => none }
def busPeeksRow : OpenClaim := { program := "ytdapjpbdplhgbaa", sum := "fd3047bd2dbed995d7c7e7cc494d2a1186477f8def427aa90d5539140f95ff7a", func := "zoetrope/zoetropelaw12.BusPeeks", spec := "busPeeks", unfollowed := true, recurses := true, apart := false }
def BusPeeksSaid : Prop := busPeeksRow.holds Try.pinned (OpenSpec.ofChange busPeeksSpec)

/-- ITS FALSE NEIGHBOUR: 'it returns false'. Refute it at one input. -/
def busPeeksWrong : ChangeSpec := { name := "busPeeks", fn := fun _ => fun
  | [d1, d2] => { results := [.lit (.bool false)], args := [d1, d2] }
  | _ => none }
def BusPeeksWrongFalsely : Prop := busPeeksRow.holds Try.pinned (OpenSpec.ofChange busPeeksWrong)

/- THE SECOND FORM. 'bulk': how many values and letters a reading holds, each counted each time it is reached (what is shared counts as often as it is met; a slice's spare places count too). A statement '..UptoSaid' is the law's where the arguments, and the package variables that the reading takes, are together of bulk at most 1048576: NARROWER than '..Said'. Prove '..Said' where nothing that the law and all that it calls make is longer than what came in: it says more and counts as full. Else prove '..UptoSaid'. A law counts once. -/
mutual
def uptoBulk {H : Type} : DataW H → Nat
  | .lit (.string bytes) => bytes.length + 1
  | .lit _ => 1
  | .nil => 1
  | .ptr d => uptoBulk d + 1
  | .slice elems spare => uptoBulkAll elems + uptoBulkAll spare + 1
  | .agg parts => uptoBulkAll parts + 1
  | .iface _ d => uptoBulk d + 1
  | .map entries => uptoBulkEntries entries + 1
  | .held _ => 1
def uptoBulkAll {H : Type} : List (DataW H) → Nat
  | [] => 0
  | d :: r => uptoBulk d + uptoBulkAll r
def uptoBulkEntries {H : Type} : List (Lit × DataW H) → Nat
  | [] => 0
  | x :: r => uptoBulkEntry x + uptoBulkEntries r
def uptoBulkEntry {H : Type} : Lit × DataW H → Nat
  | (.string bytes, d) => bytes.length + uptoBulk d + 1
  | (_, d) => uptoBulk d + 1
 end
def uptoSmall : (H : Type) → List (DataW H) → Bool := fun _ ds => decide (uptoBulkAll ds ≤ 1048576)
def OpenSpec.upto (s : _root_.Go.ChangeSpec) : _root_.Go.OpenSpec := { _root_.Go.OpenSpec.ofChange s with cond := some uptoSmall }

/-- 'zoetropelaw12.BusSets', WHERE WHAT IT READS IS OF BULK AT MOST 1048576: true; the input reads as it did. -/
def busSetsUptoRow : OpenClaim := { program := "ytdapjpbdplhgbaa", sum := "fd3047bd2dbed995d7c7e7cc494d2a1186477f8def427aa90d5539140f95ff7a", func := "zoetrope/zoetropelaw12.BusSets", spec := "busSets", unfollowed := true, recurses := true, apart := false, narrowed := true }
def BusSetsUptoSaid : Prop := busSetsUptoRow.holds Try.pinned (OpenSpec.upto busSetsSpec)

/-- 'zoetropelaw12.BusBack', WHERE WHAT IT READS IS OF BULK AT MOST 1048576: true; the input reads as it did. -/
def busBackUptoRow : OpenClaim := { program := "ytdapjpbdplhgbaa", sum := "fd3047bd2dbed995d7c7e7cc494d2a1186477f8def427aa90d5539140f95ff7a", func := "zoetrope/zoetropelaw12.BusBack", spec := "busBack", unfollowed := true, recurses := true, apart := false, narrowed := true }
def BusBackUptoSaid : Prop := busBackUptoRow.holds Try.pinned (OpenSpec.upto busBackSpec)

/-- 'zoetropelaw12.BusRefuses', WHERE WHAT IT READS IS OF BULK AT MOST 1048576: true; the input reads as it did. -/
def busRefusesUptoRow : OpenClaim := { program := "ytdapjpbdplhgbaa", sum := "fd3047bd2dbed995d7c7e7cc494d2a1186477f8def427aa90d5539140f95ff7a", func := "zoetrope/zoetropelaw12.BusRefuses", spec := "busRefuses", unfollowed := true, recurses := true, apart := false, narrowed := true }
def BusRefusesUptoSaid : Prop := busRefusesUptoRow.holds Try.pinned (OpenSpec.upto busRefusesSpec)

/-- 'zoetropelaw12.BusMemory', WHERE WHAT IT READS IS OF BULK AT MOST 1048576: true; the input reads as it did. -/
def busMemoryUptoRow : OpenClaim := { program := "ytdapjpbdplhgbaa", sum := "fd3047bd2dbed995d7c7e7cc494d2a1186477f8def427aa90d5539140f95ff7a", func := "zoetrope/zoetropelaw12.BusMemory", spec := "busMemory", unfollowed := true, recurses := true, apart := false, narrowed := true }
def BusMemoryUptoSaid : Prop := busMemoryUptoRow.holds Try.pinned (OpenSpec.upto busMemorySpec)

/-- 'zoetropelaw12.BusPeeks', WHERE WHAT IT READS IS OF BULK AT MOST 1048576: true; the input reads as it did. -/
def busPeeksUptoRow : OpenClaim := { program := "ytdapjpbdplhgbaa", sum := "fd3047bd2dbed995d7c7e7cc494d2a1186477f8def427aa90d5539140f95ff7a", func := "zoetrope/zoetropelaw12.BusPeeks", spec := "busPeeks", unfollowed := true, recurses := true, apart := false, narrowed := true }
def BusPeeksUptoSaid : Prop := busPeeksUptoRow.holds Try.pinned (OpenSpec.upto busPeeksSpec)

end Rows
end Go.Proofs.Ytdapjpbdplhgbaa
