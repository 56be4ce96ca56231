/- Layer 12: the contract of Devices, the program's. -/
import Derived.Test.YtdapjpbdplhgbaaGreatQBuText
import Derived.Deep.RegionHeld3
namespace Go.Proofs.YtdapjpbdplhgbaaGreat
open Go.RowKit
set_option linter.unusedVariables false
set_option maxRecDepth 100000

/-- The devices' bytes. -/
def devV (v : Dv) : ByteArray := Tm.textV v.t ++ Dm.textV v.d ++ textG v.g ++ v.k ++ Ua.textV v.u

theorem sizes_v (v : Dv) (h : Wv v) : (Tm.textV v.t).size = 9 ∧ (Dm.textV v.d).size = 17 ∧ (textG v.g).size = 16 ∧ (Ua.textV v.u).size = 3 + v.u.i.size + v.u.o.size := by
  refine ⟨strOfNums_size _, strOfNums_size _, strOfNums_size _, ?_⟩
  unfold Ua.textV Ua.countV
  rw [ByteArray.size_append, ByteArray.size_append, ByteArray.size_append, ByteArray.size_append, Ua.byteT_size, Ua.byteT_size, Ua.byteT_size]
  omega

theorem devV_size (v : Dv) (h : Wv v) : (devV v).size = 1069 + v.u.i.size + v.u.o.size := by
  obtain ⟨h1, h2, h3, h4⟩ := sizes_v v h
  unfold devV
  rw [ByteArray.size_append, ByteArray.size_append, ByteArray.size_append, ByteArray.size_append, h1, h2, h3, h4, h.k]
  omega

/-- What a bus's statement reads. -/
theorem Bus.reads {x : World} {b p g n c : Nat} {v : Dv} {B : Nat → Nat} {D : Nat → Bool} (h : Bus x b p g n c v B D) :
    (loadCellsFrom ⟨b, 0, none⟩ 0 Tm.N3 #[]).run Tryz.prog x = .ok (Tm.cellsT v.t) x ∧ (loadCellsFrom ⟨b, 3, none⟩ 0 Ua.N3 #[]).run Tryz.prog x = .ok (Ua.cellsU v.u) x ∧ (loadCellsFrom ⟨b, 6, none⟩ 0 Dm.N5 #[]).run Tryz.prog x = .ok (Dm.cellsD v.d) x ∧
      (loadCellsFrom ⟨b, 11, none⟩ 0 N4 #[]).run Tryz.prog x = .ok (cellsG v.g) x ∧ x.cell? ⟨b, 15, none⟩ = some (.string v.k) := by
  have q : Box x b (cellsB v p) := ⟨h.row, h.at', h.lt⟩
  exact ⟨q.loads 0 _ rfl rfl, q.loads 3 _ rfl rfl, q.loads 6 _ rfl rfl, q.loads 11 _ rfl rfl, q.cell 15⟩

theorem reads_on {w x y : World} {b p g n c : Nat} {v : Dv} {B : Nat → Nat} {D : Nat → Bool} (h : Bus x b p g n c v B D ∧ Below w.heap.size w x) (hb : Below x.heap.size x y) :
    (loadCellsFrom ⟨b, 0, none⟩ 0 Tm.N3 #[]).run Tryz.prog y = .ok (Tm.cellsT v.t) y ∧ (loadCellsFrom ⟨b, 3, none⟩ 0 Ua.N3 #[]).run Tryz.prog y = .ok (Ua.cellsU v.u) y ∧ (loadCellsFrom ⟨b, 6, none⟩ 0 Dm.N5 #[]).run Tryz.prog y = .ok (Dm.cellsD v.d) y ∧
      (loadCellsFrom ⟨b, 11, none⟩ 0 N4 #[]).run Tryz.prog y = .ok (cellsG v.g) y ∧ y.cell? ⟨b, 15, none⟩ = some (.string v.k) ∧ (Bus y b p g n c v B D ∧ Below w.heap.size w y) :=
  have q := (h.1.on hb).reads
  ⟨q.1, q.2.1, q.2.2.1, q.2.2.2.1, q.2.2.2.2, h.1.on hb, onto h.2 (Nat.le_refl _) hb⟩

set_option maxHeartbeats 2000000 in
set_option maxRecDepth 100000 in
theorem devices_any {w : World} {b p g n c : Nat} {v : Dv} {B : Nat → Nat} {D : Nat → Bool} (hB : Bus w b p g n c v B D) :
    Calls Tryz.prog 11 #[.pointer (some ⟨b, 0, none⟩)] w fun e w' => e = .returned (.string (devV v)) ∧ Below w.heap.size w w' := by
  obtain ⟨z1, z2, z3, z4, z5, z6, z7, z8, z9, z10⟩ := sizeRules
  obtain ⟨-, -, -, -, -, -, -, -, -, -, n1, n2, n3, n4, n5⟩ := cellSizes
  have hw := hB.wv
  have ct := hide (Tm.text_any hw.t)
  have cd := hide (Dm.text_any hw.d)
  have cg := hide (textG_any hw.g)
  have cu := hide (Ua.text_any v.u hw.u)
  obtain ⟨h1, h2, h3, h4⟩ := sizes_v v hw
  have hk := hw.k
  have h5 : ¬ (9223372036854775807 < 1066 + (Ua.textV v.u).size) := by
    have := hw.u.i
    have := hw.u.o
    rw [h4]; omega
  unfold devV
  generalize Tm.textV v.t = A1 at *
  generalize Dm.textV v.d = A2 at *
  generalize textG v.g = A3 at *
  generalize Ua.textV v.u = A4 at *
  clear h4
  have S0 := reads_on ⟨hB, Below.refl _ w⟩ (Below.refl _ w).drew
  clear hw hB
  go_enter Tryz.func11, Tryz.ntmps11
  go_wp2_with fail
  go_region_held3 (fun x => (loadCellsFrom ⟨b, 0, none⟩ 0 Tm.N3 #[]).run Tryz.prog x = .ok (Tm.cellsT v.t) x ∧ (loadCellsFrom ⟨b, 3, none⟩ 0 Ua.N3 #[]).run Tryz.prog x = .ok (Ua.cellsU v.u) x ∧ (loadCellsFrom ⟨b, 6, none⟩ 0 Dm.N5 #[]).run Tryz.prog x = .ok (Dm.cellsD v.d) x ∧
      (loadCellsFrom ⟨b, 11, none⟩ 0 N4 #[]).run Tryz.prog x = .ok (cellsG v.g) x ∧ x.cell? ⟨b, 15, none⟩ = some (.string v.k) ∧ (Bus x b p g n c v B D ∧ Below w.heap.size w x))
    (first | exact S0 | assumption | exact reads_on (And.right (And.right (And.right (And.right (And.right (by assumption)))))) (by assumption))
    (first
      | (go_at_call 40; refine (ct.out _).mono ?_; rintro e w1 ⟨rfl, b1⟩; go_wp2_with fail)
      | (go_at_call 41; refine (cd.out _).mono ?_; rintro e w1 ⟨rfl, b1⟩; go_wp2_with fail)
      | (go_at_call 42; refine (cg.out _).mono ?_; rintro e w1 ⟨rfl, b1⟩; go_wp2_with fail)
      | (go_at_call 43; refine (cu.out _).mono ?_; rintro e w1 ⟨rfl, b1⟩; go_wp2_with fail))
  have HB : Below w.heap.size w w1 := by
    have h : (loadCellsFrom ⟨b, 0, none⟩ 0 Tm.N3 #[]).run Tryz.prog w1 = .ok (Tm.cellsT v.t) w1 ∧ (loadCellsFrom ⟨b, 3, none⟩ 0 Ua.N3 #[]).run Tryz.prog w1 = .ok (Ua.cellsU v.u) w1 ∧ (loadCellsFrom ⟨b, 6, none⟩ 0 Dm.N5 #[]).run Tryz.prog w1 = .ok (Dm.cellsD v.d) w1 ∧
      (loadCellsFrom ⟨b, 11, none⟩ 0 N4 #[]).run Tryz.prog w1 = .ok (cellsG v.g) w1 ∧ w1.cell? ⟨b, 15, none⟩ = some (.string v.k) ∧ (Bus w1 b p g n c v B D ∧ Below w.heap.size w w1) := by assumption
    exact h.2.2.2.2.2.2
  replace HB := hide HB
  clear S0
  go_wp2
  go_ret
  exact ⟨rfl, HB.out⟩

end Go.Proofs.YtdapjpbdplhgbaaGreat
