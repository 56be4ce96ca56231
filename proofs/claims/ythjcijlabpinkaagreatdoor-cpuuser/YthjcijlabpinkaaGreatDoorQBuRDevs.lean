/- Layer 12: the contract of Devices, the document's. -/
import Derived.Test.YthjcijlabpinkaaGreatDoorQBuDev
import Derived.Test.YthjcijlabpinkaaGreatDoorQTmRef
import Derived.Test.YthjcijlabpinkaaGreatDoorQUaRText
import Derived.Test.YthjcijlabpinkaaGreatDoorQUaTwo
import Derived.Test.YthjcijlabpinkaaGreatDoorQDmRef
import Derived.Deep.RegionHeld3
namespace Go.Proofs.YthjcijlabpinkaaGreatDoor
open Go.RowKit
set_option linter.unusedVariables false
set_option maxRecDepth 100000

/-- What the document's bus's statement reads. -/
theorem RBus.reads {x : World} {b p gb gd n : Nat} {v : Dv} {B : Nat → Nat} {D : Nat → Bool} (h : RBus x b p gb gd n v B D) :
    (loadCellsFrom ⟨b, 1, none⟩ 0 Tm.N3 #[]).run Tryz.prog x = .ok (Tm.cellsT v.t) x ∧ (loadCellsFrom ⟨b, 4, none⟩ 0 Ua.N3 #[]).run Tryz.prog x = .ok (Ua.cellsU v.u) x ∧ (loadCellsFrom ⟨b, 7, none⟩ 0 Dm.N5 #[]).run Tryz.prog x = .ok (Dm.cellsD v.d) x ∧
      x.cell? ⟨b, 12, none⟩ = some (.int .i64 v.g.a) ∧ x.cell? ⟨b, 13, none⟩ = some (.int .i64 v.g.b) ∧ x.cell? ⟨b, 14, none⟩ = some (.int .i64 v.g.c) ∧ x.cell? ⟨b, 15, none⟩ = some (.int .i64 v.g.d) ∧ x.cell? ⟨b, 16, none⟩ = some (.string v.k) := by
  have q : Box x b (cellsM v p) := ⟨h.row, h.at', h.lt⟩
  exact ⟨q.loads 1 _ rfl rfl, q.loads 4 _ rfl rfl, q.loads 7 _ rfl rfl, q.cell 12, q.cell 13, q.cell 14, q.cell 15, q.cell 16⟩

def RRead (b p gb gd n : Nat) (v : Dv) (B : Nat → Nat) (D : Nat → Bool) (w y : World) : Prop :=
    (loadCellsFrom ⟨b, 1, none⟩ 0 Tm.N3 #[]).run Tryz.prog y = .ok (Tm.cellsT v.t) y ∧ (loadCellsFrom ⟨b, 4, none⟩ 0 Ua.N3 #[]).run Tryz.prog y = .ok (Ua.cellsU v.u) y ∧ (loadCellsFrom ⟨b, 7, none⟩ 0 Dm.N5 #[]).run Tryz.prog y = .ok (Dm.cellsD v.d) y ∧
      y.cell? ⟨b, 12, none⟩ = some (.int .i64 v.g.a) ∧ y.cell? ⟨b, 13, none⟩ = some (.int .i64 v.g.b) ∧ y.cell? ⟨b, 14, none⟩ = some (.int .i64 v.g.c) ∧ y.cell? ⟨b, 15, none⟩ = some (.int .i64 v.g.d) ∧ y.cell? ⟨b, 16, none⟩ = some (.string v.k) ∧ (RBus y b p gb gd n v B D ∧ Below w.heap.size w y)

theorem rreads_on {w x y : World} {b p gb gd n : Nat} {v : Dv} {B : Nat → Nat} {D : Nat → Bool} (h : RBus x b p gb gd n v B D ∧ Below w.heap.size w x) (hb : Below x.heap.size x y) : RRead b p gb gd n v B D w y :=
  have q := (h.1.on hb).reads
  ⟨q.1, q.2.1, q.2.2.1, q.2.2.2.1, q.2.2.2.2.1, q.2.2.2.2.2.1, q.2.2.2.2.2.2.1, q.2.2.2.2.2.2.2, h.1.on hb, onto h.2 (Nat.le_refl _) hb⟩

theorem cat_devs (A1 A2 A3 A4 g1 g2 g3 g4 k : ByteArray) (h : A3 = g1 ++ g2 ++ g3 ++ g4) : A1 ++ A2 ++ g1 ++ g2 ++ g3 ++ g4 ++ k ++ A4 = A1 ++ A2 ++ A3 ++ k ++ A4 := by
  rw [h]
  simp only [ByteArray.append_assoc]

theorem textG_cat (g : Rg) : textG g = Dm.wordV g.a ++ Dm.wordV g.b ++ Dm.wordV g.c ++ Dm.wordV g.d := by
  apply Ua.lst_ext
  rw [Ua.lst_append, Ua.lst_append, Ua.lst_append]
  have f : ∀ ns : List Int, Ua.lst (strOfNums ns) = ns.map fun n => UInt8.ofNat n.toNat := fun ns => rfl
  unfold textG Dm.wordV
  rw [f, f, f, f, f, ← List.map_append, ← List.map_append, ← List.map_append]
  rfl

set_option maxHeartbeats 4000000 in
set_option maxRecDepth 100000 in
theorem rdevices_any {w : World} {b p gb gd n : Nat} {v : Dv} {B : Nat → Nat} {D : Nat → Bool} (hB : RBus w b p gb gd n v B D) :
    Calls Tryz.prog 21 #[.pointer (some ⟨b, 0, none⟩)] w fun e w' => e = .returned (.string (devV v)) ∧ Below w.heap.size w w' := by
  obtain ⟨z1, z2, z3, z4, z5, z6, z7, z8, z9, z10⟩ := sizeRules
  obtain ⟨-, -, -, -, -, -, -, -, -, -, n1, n2, n3, n4, n5⟩ := cellSizes
  have hw := hB.wv
  obtain ⟨ga, gb', gc, gd'⟩ := hw.g
  have ct := hide (Tm.rtext_any hw.t)
  have cd := hide (Dm.rtext_any hw.d)
  have cw := hide (fun (x : Int) (h0 : 0 ≤ x) (h1 : x ≤ 65520) (y : World) => Dm.rword_any (v := x) ⟨h0, by omega⟩ y)
  have cu := hide (Ua.rtext_any v.u hw.u)
  obtain ⟨h1, h2, -, h4⟩ := sizes_v v hw
  have hk := hw.k
  have hz : ∀ x : Int, (Dm.wordV x).size = 4 := fun x => strOfNums_size _
  have h5 : ¬ (9223372036854775807 < 1066 + (Ua.textV v.u).size) := by
    have := hw.u.i
    have := hw.u.o
    rw [h4]; omega
  have hcat := hide (cat_devs (Tm.textV v.t) (Dm.textV v.d) (textG v.g) (Ua.textV v.u) _ _ _ _ v.k (textG_cat v.g))
  unfold devV
  rw [← hcat.out]
  clear hcat
  generalize Tm.textV v.t = A1 at *
  generalize Dm.textV v.d = A2 at *
  generalize Ua.textV v.u = A4 at *
  clear h4
  have S0 := rreads_on ⟨hB, Below.refl _ w⟩ (Below.refl _ w).drew
  unfold RRead at S0
  clear hw hB
  have u1 : IntKind.u32.wrap v.g.a = v.g.a := by simp [IntKind.wrap, IntKind.bits, IntKind.signed]; omega
  have u2 : IntKind.u32.wrap v.g.b = v.g.b := by simp [IntKind.wrap, IntKind.bits, IntKind.signed]; omega
  have u3 : IntKind.u32.wrap v.g.c = v.g.c := by simp [IntKind.wrap, IntKind.bits, IntKind.signed]; omega
  have u4 : IntKind.u32.wrap v.g.d = v.g.d := by simp [IntKind.wrap, IntKind.bits, IntKind.signed]; omega
  go_enter Tryz.func21, Tryz.ntmps21
  go_wp2_with fail
  go_region_held3 (fun y => (loadCellsFrom ⟨b, 1, none⟩ 0 Tm.N3 #[]).run Tryz.prog y = .ok (Tm.cellsT v.t) y ∧ (loadCellsFrom ⟨b, 4, none⟩ 0 Ua.N3 #[]).run Tryz.prog y = .ok (Ua.cellsU v.u) y ∧ (loadCellsFrom ⟨b, 7, none⟩ 0 Dm.N5 #[]).run Tryz.prog y = .ok (Dm.cellsD v.d) y ∧
      y.cell? ⟨b, 12, none⟩ = some (.int .i64 v.g.a) ∧ y.cell? ⟨b, 13, none⟩ = some (.int .i64 v.g.b) ∧ y.cell? ⟨b, 14, none⟩ = some (.int .i64 v.g.c) ∧ y.cell? ⟨b, 15, none⟩ = some (.int .i64 v.g.d) ∧ y.cell? ⟨b, 16, none⟩ = some (.string v.k) ∧ (RBus y b p gb gd n v B D ∧ Below w.heap.size w y))
    (first | exact S0 | assumption | exact rreads_on (And.right (And.right (And.right (And.right (And.right (And.right (And.right (And.right (by assumption))))))))) (by assumption))
    (first
      | (go_at_call 78; refine (ct.out _).mono ?_; rintro e w1 ⟨rfl, b1⟩; go_wp2_with fail)
      | (go_at_call 79; refine (cd.out _).mono ?_; rintro e w1 ⟨rfl, b1⟩; go_wp2_with fail)
      | (go_at_call 80; refine (cw.out _ (by omega) (by omega) _).mono ?_; rintro e w1 ⟨rfl, b1⟩; go_wp2_with fail)
      | (go_at_call 81; refine (cu.out _).mono ?_; rintro e w1 ⟨rfl, b1⟩; go_wp2_with fail))
  have HB : Below w.heap.size w w1 := by
    have h : RRead b p gb gd n v B D w w1 := by assumption
    exact h.2.2.2.2.2.2.2.2.2
  replace HB := hide HB
  clear S0
  go_wp2
  go_ret
  exact ⟨rfl, HB.out⟩

end Go.Proofs.YthjcijlabpinkaaGreatDoor
