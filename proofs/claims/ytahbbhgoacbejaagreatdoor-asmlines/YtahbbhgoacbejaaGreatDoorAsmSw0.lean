/- The switch over a form's name in the document's Parse, as it stands in the translation. -/
import Derived.Test.YtahbbhgoacbejaaGreatDoorAsmParse
import Derived.Test.YtahbbhgoacbejaaGreatDoorAsmParM
import Derived.Deep.RegionHeld3
namespace Go.Proofs.YtahbbhgoacbejaaGreatDoor
open Go

/-- The block of that number. -/
def blockOf (n : Nat) : Code → Option Code
  | .block m c => if m == n then some (.block m c) else blockOf n c
  | .loop c => blockOf n c
  | .scope c => blockOf n c
  | .seq a b => match blockOf n a with
    | some c => some c
    | none => blockOf n b
  | .cond _ a b => match blockOf n a with
    | some c => some c
    | none => blockOf n b
  | _ => none

theorem drew_heap {W : World} {b : Nat} {o : Obj} (h : W.heap[b]? = some o) : W.drew.heap[b]? = some o := h

noncomputable def SW : Code := (Tryz.f10.body.bind (blockOf 4)).getD .skip

end Go.Proofs.YtahbbhgoacbejaaGreatDoor
