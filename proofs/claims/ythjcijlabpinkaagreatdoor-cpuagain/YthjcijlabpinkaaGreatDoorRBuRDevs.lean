/- Layer 12: the contract of Devices, the document's. -/
import Derived.Test.YthjcijlabpinkaaGreatDoorRBuDev
import Derived.Test.YthjcijlabpinkaaGreatDoorRTmRef
import Derived.Test.YthjcijlabpinkaaGreatDoorRUaRText
import Derived.Test.YthjcijlabpinkaaGreatDoorRUaTwo
import Derived.Test.YthjcijlabpinkaaGreatDoorRDmRef
import Derived.Deep.RegionHeld3
namespace Go.Proofs.YthjcijlabpinkaaGreatDoor
open Go.RowKit
set_option linter.unusedVariables false
set_option maxRecDepth 100000

theorem RBus.reads {x : World} {b p gb gd n : Nat} {v : Dv} {B : Nat → Nat} {D : Nat → Bool} (h : RBus x b p gb gd n v B D) :
    (loadCellsFrom ⟨b, 1, none⟩ 0 Tm.N3 #[]).run Tryz.prog x = .ok (Tm.cellsT v.t) x ∧ (loadCellsFrom ⟨b, 4, none⟩ 0 Ua.N3 #[]).run Tryz.prog x = .ok (Ua.cellsU v.u) x ∧ (loadCellsFrom ⟨b, 7, none⟩ 0 Dm.N5 #[]).run Tryz.prog x = .ok (Dm.cellsD v.d) x ∧
      x.cell? ⟨b, 12, none⟩ = some (.int .i64 v.g.a) ∧ x.cell? ⟨b, 13, none⟩ = some (.int .i64 v.g.b) ∧ x.cell? ⟨b, 14, none⟩ = some (.int .i64 v.g.c) ∧ x.cell? ⟨b, 15, none⟩ = some (.int .i64 v.g.d) ∧ x.cell? ⟨b, 16, none⟩ = some (.string v.k) := by
  have q : Box x b (cellsM v p) := ⟨h.row, h.at', h.lt⟩
  exact ⟨q.loads 1 _ rfl rfl, q.loads 4 _ rfl rfl, q.loads 7 _ rfl rfl, q.cell 12, q.cell 13, q.cell 14, q.cell 15, q.cell 16⟩

end Go.Proofs.YthjcijlabpinkaaGreatDoor
