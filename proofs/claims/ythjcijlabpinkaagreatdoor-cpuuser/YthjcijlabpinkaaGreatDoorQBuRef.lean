/- Layer 12: the contracts of Load and Store, the document's. -/
import Derived.Test.YthjcijlabpinkaaGreatDoorQBuOne
import Derived.Test.YthjcijlabpinkaaGreatDoorQRngAll
namespace Go.Proofs.YthjcijlabpinkaaGreatDoor
open Go.RowKit
set_option linter.unusedVariables false
set_option maxRecDepth 100000

theorem rdev_yes (a : Int) (h0 : 520093696 ≤ a) (h1 : a < 520094720) (w : World) : Calls Tryz.prog 89 #[.int .u32 a] w fun e w' => e = .returned (.bool true) ∧ w' = w := by
  have d1 : decide (520093696 ≤ a) = true := by simpa using h0
  have d2 : decide (a ≤ 520094719) = true := by simp; omega
  clear h0 h1
  go_enter Tryz.func89, Tryz.ntmps89
  go_wp2
  go_ret
  exact ⟨rfl, rfl⟩

theorem rdev_no (a : Int) (h : a < 520093696 ∨ 520094720 ≤ a) (w : World) : Calls Tryz.prog 89 #[.int .u32 a] w fun e w' => e = .returned (.bool false) ∧ w' = w := by
  by_cases h0 : 520093696 ≤ a
  · have d1 : decide (520093696 ≤ a) = true := by simpa using h0
    have d2 : decide (a ≤ 520094719) = false := by simp; omega
    clear h0 h
    go_enter Tryz.func89, Tryz.ntmps89
    go_wp2
    go_ret
    exact ⟨rfl, rfl⟩
  · have d1 : decide (520093696 ≤ a) = false := by simpa using h0
    clear h0 h
    go_enter Tryz.func89, Tryz.ntmps89
    go_wp2
    go_ret
    exact ⟨rfl, rfl⟩

theorem rin_yes (a c r : Int) (hr : a - c = r) (c0 : 0 ≤ c) (c1 : c ≤ 520094464) (r0 : 0 ≤ r) (r1 : r < 256) (w : World) : Calls Tryz.prog 92 #[.int .u32 a, .int .u32 c] w fun e w' => e = .returned (.int .i64 r) ∧ w' = w := by
  have d1 : decide (a < c) = false := by simp; omega
  have d2 : decide (c + 255 < a) = false := by simp; omega
  go_enter Tryz.func92, Tryz.ntmps92
  go_wp2
  go_ret
  exact ⟨rfl, rfl⟩

theorem rin_no (a c : Int) (a0 : 0 ≤ a) (a1 : a < 4294967296) (c0 : 0 ≤ c) (c1 : c ≤ 520094464) (h : c + 255 < a) (w : World) : Calls Tryz.prog 92 #[.int .u32 a, .int .u32 c] w fun e w' => e = .returned (.int .i64 (-1)) ∧ w' = w := by
  have d1 : decide (a < c) = false := by simp; omega
  have d2 : decide (c + 255 < a) = true := by simpa using h
  go_enter Tryz.func92, Tryz.ntmps92
  go_wp2
  go_ret
  exact ⟨rfl, rfl⟩

def allE (E : Int) : Int := if E = 0 then 0 else 121

theorem rall_any (E : Int) (w : World) : Calls Tryz.prog 90 #[.int .i64 E] w fun e w' => e = .returned (.int .i64 (allE E)) ∧ w' = w := by
  unfold allE
  by_cases h : E = 0
  · subst h
    go_enter Tryz.func90, Tryz.ntmps90
    go_wp2
    go_ret
    exact ⟨rfl, rfl⟩
  · have h' : (E == 0) = false := by simpa using h
    rw [if_neg h]
    clear h
    go_enter Tryz.func90, Tryz.ntmps90
    go_wp2
    go_ret
    exact ⟨rfl, rfl⟩

theorem rload_mem {w : World} {b p gb gd n : Nat} {v : Dv} {B : Nat → Nat} {D : Nat → Bool} (hB : RBus w b p gb gd n v B D) (a s : Int) (h : a < 520093696 ∨ 520094720 ≤ a) (X E : Int)
    (cm : Calls Tryz.prog 64 #[.pointer (some ⟨p, 0, none⟩), .int .u32 a, .int .i64 s] w fun e w' => e = .returned (.tuple #[.int .u32 X, .int .i64 E]) ∧ w' = w) :
    Calls Tryz.prog 156 #[.pointer (some ⟨b, 0, none⟩), .int .u32 a, .int .i64 s] w fun e w' => e = .returned (.tuple #[.int .u32 (if E = 0 then X else 0), .int .i64 (if E = 0 then 0 else 121)]) ∧ w' = w := by
  have cd := hide (rdev_no a h)
  have m1 : w.cell? ⟨b, 0, none⟩ = some (.pointer (some ⟨p, 0, none⟩)) := hB.cell 0
  replace cm := hide cm
  clear h
  by_cases hE : E = 0
  · subst hE
    simp only [if_pos]
    go_enter Tryz.func156, Tryz.ntmps156
    go_wp2_with fail
    refine (cd.out _).mono ?_
    rintro e w1 ⟨rfl, rfl⟩
    go_wp2_with fail
    refine cm.out.mono ?_
    rintro e w1 ⟨rfl, rfl⟩
    go_wp2
    go_ret2
    exact ⟨rfl, rfl⟩
  · have hE' : (E == 0) = false := by simpa using hE
    simp only [if_neg hE]
    clear hE
    go_enter Tryz.func156, Tryz.ntmps156
    go_wp2_with fail
    refine (cd.out _).mono ?_
    rintro e w1 ⟨rfl, rfl⟩
    go_wp2_with fail
    refine cm.out.mono ?_
    rintro e w1 ⟨rfl, rfl⟩
    go_wp2
    go_ret2
    exact ⟨rfl, rfl⟩

theorem rload_no {w : World} {b : Nat} (a s : Int) (a0 : 0 ≤ a) (h0 : 520093696 ≤ a) (h1 : a < 520094720) (h : ¬ (s = 4 ∧ a % 4 = 0)) :
    Calls Tryz.prog 156 #[.pointer (some ⟨b, 0, none⟩), .int .u32 a, .int .i64 s] w fun e w' => e = .returned (.tuple #[.int .u32 0, .int .i64 121]) ∧ w' = w := by
  have cd := hide (rdev_yes a h0 h1)
  by_cases hs : s = 4
  · subst hs
    have h' : (a % 4 == 0) = false := by simp; omega
    have h'' : (a % 4 != 0) = true := by simp; omega
    clear h
    go_enter Tryz.func156, Tryz.ntmps156
    go_wp2_with fail
    refine (cd.out _).mono ?_
    rintro e w1 ⟨rfl, rfl⟩
    go_wp2
    go_ret2
    exact ⟨rfl, rfl⟩
  · have h' : (s == 4) = false := by simpa using hs
    have h'' : (s != 4) = true := by simpa using hs
    clear h hs
    go_enter Tryz.func156, Tryz.ntmps156
    go_wp2_with fail
    refine (cd.out _).mono ?_
    rintro e w1 ⟨rfl, rfl⟩
    go_wp2
    go_ret2
    exact ⟨rfl, rfl⟩

set_option maxHeartbeats 1000000 in
theorem rload_t {w : World} {b p gb gd n : Nat} {v : Dv} {B : Nat → Nat} {D : Nat → Bool} (hB : RBus w b p gb gd n v B D) (a r : Int) (hr : a - 520093696 = r) (r0 : 0 ≤ r) (r1 : r < 256) (h4 : a % 4 = 0) :
    Calls Tryz.prog 156 #[.pointer (some ⟨b, 0, none⟩), .int .u32 a, .int .i64 4] w fun e w' => e = .returned (.tuple #[.int .u32 (Tm.readV v.t r), .int .i64 (allE (Tm.formV r))]) ∧ Below w.heap.size w w' := by
  obtain ⟨t1, t2, t3, t4, t5, t6, t7, t8, t9⟩ := rowRules
  obtain ⟨z1, -, -, -, -, -, -, -, -, -⟩ := sizeRules
  obtain ⟨-, -, -, -, -, -, -, -, -, -, n1, n2, n3, n4, n5⟩ := cellSizes
  obtain ⟨f1, f2, f3, f4, p1, p2, p3, p4, -, -, -, -, -, -, -, -, -, -, -, -, -, -, -⟩ := mParts
  have cd := hide (rdev_yes a (by omega) (by omega))
  have ci := hide (rin_yes a 520093696 r hr (by omega) (by omega) r0 r1)
  have cr := hide (Tm.rread_any v.t r)
  generalize Tm.readV v.t r = X at *
  generalize Tm.formV r = E at *
  have ca := hide (rall_any E)
  generalize allE E = F at *
  obtain ⟨g1, g2⟩ := And.intro hB.row hB.at'
  have d0 : decide (0 ≤ r) = true := by simpa using r0
  clear hB
  go_enter Tryz.func156, Tryz.ntmps156
  go_wp2_with fail
  refine (cd.out _).mono ?_
  rintro e w1 ⟨rfl, rfl⟩
  go_wp2_with fail
  refine (ci.out _).mono ?_
  rintro e w1 ⟨rfl, rfl⟩
  go_wp2_with fail
  refine (cr.out _).mono ?_
  rintro e w1 ⟨rfl, b1⟩
  clear g1 g2
  go_wp2_with fail
  refine (ca.out _).mono ?_
  rintro e w2 ⟨rfl, rfl⟩
  go_wp2
  go_ret2
  exact ⟨rfl, b1⟩

set_option maxHeartbeats 1000000 in
theorem rload_d {w : World} {b p gb gd n : Nat} {v : Dv} {B : Nat → Nat} {D : Nat → Bool} (hB : RBus w b p gb gd n v B D) (a r : Int) (hr : a - 520094208 = r) (r0 : 0 ≤ r) (r1 : r < 256) (h4 : a % 4 = 0) :
    Calls Tryz.prog 156 #[.pointer (some ⟨b, 0, none⟩), .int .u32 a, .int .i64 4] w fun e w' => e = .returned (.tuple #[.int .u32 (Dm.readV v.d r), .int .i64 (allE (Dm.formV r))]) ∧ Below w.heap.size w w' := by
  obtain ⟨t1, t2, t3, t4, t5, t6, t7, t8, t9⟩ := rowRules
  obtain ⟨-, -, z3, -, -, -, -, -, -, -⟩ := sizeRules
  obtain ⟨-, -, -, -, -, -, -, -, -, -, n1, n2, n3, n4, n5⟩ := cellSizes
  obtain ⟨f1, f2, f3, f4, p1, p2, p3, p4, -, -, -, -, -, -, -, -, -, -, -, -, -, -, -⟩ := mParts
  have cd := hide (rdev_yes a (by omega) (by omega))
  have c1 := hide (rin_no a 520093696 (by omega) (by omega) (by omega) (by omega) (by omega))
  have c2 := hide (rin_no a 520093952 (by omega) (by omega) (by omega) (by omega) (by omega))
  have ci := hide (rin_yes a 520094208 r hr (by omega) (by omega) r0 r1)
  have cr := hide (Dm.rread_any v.d r)
  generalize Dm.readV v.d r = X at *
  generalize Dm.formV r = E at *
  have ca := hide (rall_any E)
  generalize allE E = F at *
  obtain ⟨g1, g2⟩ := And.intro hB.row hB.at'
  have d0 : decide (0 ≤ r) = true := by simpa using r0
  clear hB
  go_enter Tryz.func156, Tryz.ntmps156
  go_wp2_with fail
  refine (cd.out _).mono ?_
  rintro e w1 ⟨rfl, rfl⟩
  go_wp2_with fail
  refine (c1.out _).mono ?_
  rintro e w1 ⟨rfl, rfl⟩
  go_wp2_with fail
  refine (c2.out _).mono ?_
  rintro e w1 ⟨rfl, rfl⟩
  go_wp2_with fail
  refine (ci.out _).mono ?_
  rintro e w1 ⟨rfl, rfl⟩
  go_wp2_with fail
  refine (cr.out _).mono ?_
  rintro e w1 ⟨rfl, b1⟩
  clear g1 g2
  go_wp2_with fail
  refine (ca.out _).mono ?_
  rintro e w2 ⟨rfl, rfl⟩
  go_wp2
  go_ret2
  exact ⟨rfl, b1⟩

set_option maxHeartbeats 1000000 in
theorem rload_u {w : World} {b p gb gd n : Nat} {v : Dv} {B : Nat → Nat} {D : Nat → Bool} (hB : RBus w b p gb gd n v B D) (a r : Int) (hr : a - 520093952 = r) (r0 : 0 ≤ r) (r1 : r < 256) (h4 : a % 4 = 0) (q : Dv) (hq : Wv q)
    (hE : Ua.formV r = 0 ∧ q = { v with u := Ua.leftV v.u r } ∨ ¬ Ua.formV r = 0 ∧ q = v) :
    Calls Tryz.prog 156 #[.pointer (some ⟨b, 0, none⟩), .int .u32 a, .int .i64 4] w fun e w' => e = .returned (.tuple #[.int .u32 (Ua.readV v.u r), .int .i64 (allE (Ua.formV r))]) ∧ RBus w' b p gb gd n q B D ∧ Kept [b] w w' := by
  obtain ⟨t1, t2, t3, t4, t5, t6, t7, t8, t9⟩ := rowRules
  obtain ⟨-, z2, -, -, -, -, z7, -, -, -⟩ := sizeRules
  obtain ⟨-, k2, -, -, -, -, o2, -, -, -, n1, n2, n3, n4, n5⟩ := cellSizes
  obtain ⟨-, -, -, x1, x2, x3, -, -, -, -, -, -, -, -, -⟩ := boxRules
  obtain ⟨f1, f2, f3, f4, p1, p2, p3, p4, s1, s2, s3, s4, -, -, -, -, -, -, -, -, -, -, -⟩ := mParts
  have cd := hide (rdev_yes a (by omega) (by omega))
  have c1 := hide (rin_no a 520093696 (by omega) (by omega) (by omega) (by omega) (by omega))
  have ci := hide (rin_yes a 520093952 r hr (by omega) (by omega) r0 r1)
  have cr := hide (Ua.rread_any v.u hB.wv.u r)
  generalize Ua.readV v.u r = X at *
  generalize Ua.leftV v.u r = U at *
  generalize Ua.formV r = E at *
  have ca := hide (rall_any E)
  generalize allE E = F at *
  obtain ⟨g1, g2⟩ := And.intro hB.row hB.at'
  have d0 : decide (0 ≤ r) = true := by simpa using r0
  replace hB := hide hB
  go_enter Tryz.func156, Tryz.ntmps156
  go_wp2_with fail
  refine (cd.out _).mono ?_
  rintro e w1 ⟨rfl, rfl⟩
  go_wp2_with fail
  refine (c1.out _).mono ?_
  rintro e w1 ⟨rfl, rfl⟩
  go_wp2_with fail
  refine (ci.out _).mono ?_
  rintro e w1 ⟨rfl, rfl⟩
  go_wp2_with fail
  refine (cr.out _).mono ?_
  rintro e w1 ⟨rfl, b1⟩
  have B1 := hB.out.on b1
  have K1 := hide (Kept.of (l := [b]) b1)
  clear g1 g2 hB b1
  obtain ⟨g1, g2, g3⟩ := And.intro B1.row (And.intro B1.at' B1.lt)
  have g4 : ¬ b = w1.heap.size := by omega
  replace B1 := hide B1
  rcases hE with ⟨rfl, rfl⟩ | ⟨hE, rfl⟩
  · go_wp2_with fail
    refine (ca.out _).mono ?_
    rintro e w2 ⟨rfl, rfl⟩
    go_wp2
    go_ret2
    exact ⟨rfl, (B1.out.set _ hq).on (grow _ _), (K1.out.trans (Kept.set _ _ _ (by simp))).trans (Kept.of (grow _ _))⟩
  · have hE' : (E == 0) = false := by simpa using hE
    go_wp2_with fail
    refine (ca.out _).mono ?_
    rintro e w2 ⟨rfl, rfl⟩
    go_wp2
    go_ret2
    exact ⟨rfl, B1.out.on (grow _ _), K1.out.trans (Kept.of (grow _ _))⟩

set_option maxHeartbeats 1000000 in
theorem rload_g {w : World} {b p gb gd n : Nat} {v : Dv} {B : Nat → Nat} {D : Nat → Bool} (hB : RBus w b p gb gd n v B D) (q : Dv) (hq : Wv q) (hE : q = { v with g := nextG v.g }) :
    Calls Tryz.prog 156 #[.pointer (some ⟨b, 0, none⟩), .int .u32 520094464, .int .i64 4] w fun e w' => e = .returned (.tuple #[.int .u32 (nextX v.g), .int .i64 0]) ∧ RBus w' b p gb gd n q B D ∧ Kept [b] w w' := by
  subst hE
  obtain ⟨t1, t2, t3, t4, t5, t6, t7, t8, t9⟩ := rowRules
  obtain ⟨-, -, -, z4, -, -, -, -, z9, -⟩ := sizeRules
  obtain ⟨-, -, -, k4, -, -, -, -, o4, -, n1, n2, n3, n4, n5⟩ := cellSizes
  obtain ⟨-, -, -, -, -, -, -, -, -, x1, x2, x3, -, -, -⟩ := boxRules
  obtain ⟨f1, f2, f3, f4, p1, p2, p3, p4, s1, s2, s3, s4, -, -, -, -, -, -, -, -, -, -, -⟩ := mParts
  have cd := hide (rdev_yes 520094464 (by omega) (by omega))
  have c1 := hide (rin_no 520094464 520093696 (by omega) (by omega) (by omega) (by omega) (by omega))
  have c2 := hide (rin_no 520094464 520093952 (by omega) (by omega) (by omega) (by omega) (by omega))
  have c3 := hide (rin_no 520094464 520094208 (by omega) (by omega) (by omega) (by omega) (by omega))
  have cr := hide (rnext_g v.g)
  generalize nextX v.g = X at *
  generalize nextG v.g = G at *
  obtain ⟨g1, g2⟩ := And.intro hB.row hB.at'
  replace hB := hide hB
  go_enter Tryz.func156, Tryz.ntmps156
  go_wp2_with fail
  refine (cd.out _).mono ?_
  rintro e w1 ⟨rfl, rfl⟩
  go_wp2_with fail
  refine (c1.out _).mono ?_
  rintro e w1 ⟨rfl, rfl⟩
  go_wp2_with fail
  refine (c2.out _).mono ?_
  rintro e w1 ⟨rfl, rfl⟩
  go_wp2_with fail
  refine (c3.out _).mono ?_
  rintro e w1 ⟨rfl, rfl⟩
  go_wp2_with fail
  refine (cr.out _).mono ?_
  rintro e w1 ⟨rfl, b1⟩
  have B1 := hB.out.on b1
  have K1 := hide (Kept.of (l := [b]) b1)
  clear g1 g2 hB b1
  obtain ⟨g1, g2, g3⟩ := And.intro B1.row (And.intro B1.at' B1.lt)
  have g4 : ¬ b = w1.heap.size := by omega
  replace B1 := hide B1
  go_wp2
  go_ret2
  exact ⟨rfl, (B1.out.set _ hq).on (grow _ _), (K1.out.trans (Kept.set _ _ _ (by simp))).trans (Kept.of (grow _ _))⟩

set_option maxHeartbeats 1000000 in
theorem rload_g0 {w : World} {b : Nat} (a : Int) (h0 : 520094464 < a) (h1 : a < 520094720) (h4 : a % 4 = 0) :
    Calls Tryz.prog 156 #[.pointer (some ⟨b, 0, none⟩), .int .u32 a, .int .i64 4] w fun e w' => e = .returned (.tuple #[.int .u32 0, .int .i64 121]) ∧ w' = w := by
  have cd := hide (rdev_yes a (by omega) (by omega))
  have c1 := hide (rin_no a 520093696 (by omega) (by omega) (by omega) (by omega) (by omega))
  have c2 := hide (rin_no a 520093952 (by omega) (by omega) (by omega) (by omega) (by omega))
  have c3 := hide (rin_no a 520094208 (by omega) (by omega) (by omega) (by omega) (by omega))
  have d1 : (a == 520094464) = false := by simp; omega
  have d2 : (a != 520094464) = true := by simp; omega
  go_enter Tryz.func156, Tryz.ntmps156
  go_wp2_with fail
  refine (cd.out _).mono ?_
  rintro e w1 ⟨rfl, rfl⟩
  go_wp2_with fail
  refine (c1.out _).mono ?_
  rintro e w1 ⟨rfl, rfl⟩
  go_wp2_with fail
  refine (c2.out _).mono ?_
  rintro e w1 ⟨rfl, rfl⟩
  go_wp2_with fail
  refine (c3.out _).mono ?_
  rintro e w1 ⟨rfl, rfl⟩
  go_wp2
  go_ret2
  exact ⟨rfl, rfl⟩

end Go.Proofs.YthjcijlabpinkaaGreatDoor
