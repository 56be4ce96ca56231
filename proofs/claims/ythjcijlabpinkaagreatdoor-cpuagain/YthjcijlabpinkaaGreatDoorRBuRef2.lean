/- Layer 12: the contract of Store, the document's; both as functions of the state. -/
import Derived.Test.YthjcijlabpinkaaGreatDoorRBuRef
namespace Go.Proofs.YthjcijlabpinkaaGreatDoor
open Go.RowKit
set_option linter.unusedVariables false
set_option maxRecDepth 100000

theorem rstore_no {w : World} {b : Nat} (a s m : Int) (a0 : 0 ≤ a) (h0 : 520093696 ≤ a) (h1 : a < 520094720) (h : ¬ (s = 4 ∧ a % 4 = 0)) :
    Calls Tryz.prog 28 #[.pointer (some ⟨b, 0, none⟩), .int .u32 a, .int .i64 s, .int .u32 m] w fun e w' => e = .returned (.int .i64 121) ∧ w' = w := by
  have cd := hide (rdev_yes a h0 h1)
  by_cases hs : s = 4
  · subst hs
    have h' : (a % 4 == 0) = false := by simp; omega
    have h'' : (a % 4 != 0) = true := by simp; omega
    clear h
    go_enter Tryz.func28, Tryz.ntmps28
    go_wp2_with fail
    refine (cd.out _).mono ?_
    rintro e w1 ⟨rfl, rfl⟩
    go_wp2
    go_ret
    exact ⟨rfl, rfl⟩
  · have h' : (s == 4) = false := by simpa using hs
    have h'' : (s != 4) = true := by simpa using hs
    clear h hs
    go_enter Tryz.func28, Tryz.ntmps28
    go_wp2_with fail
    refine (cd.out _).mono ?_
    rintro e w1 ⟨rfl, rfl⟩
    go_wp2
    go_ret
    exact ⟨rfl, rfl⟩

theorem rstore_mem {w : World} {b p gb gd n : Nat} {v : Dv} {B : Nat → Nat} {D : Nat → Bool} (hB : RBus w b p gb gd n v B D) (a s m : Int) (h : a < 520093696 ∨ 520094720 ≤ a) (E : Int) {R : World → Prop}
    (cm : Calls Tryz.prog 91 #[.pointer (some ⟨p, 0, none⟩), .int .u32 a, .int .i64 s, .int .u32 m] w fun e w' => e = .returned (.int .i64 E) ∧ R w') :
    Calls Tryz.prog 28 #[.pointer (some ⟨b, 0, none⟩), .int .u32 a, .int .i64 s, .int .u32 m] w fun e w' => e = .returned (.int .i64 (allE E)) ∧ R w' := by
  have cd := hide (rdev_no a h)
  have m1 : w.cell? ⟨b, 0, none⟩ = some (.pointer (some ⟨p, 0, none⟩)) := hB.cell 0
  replace cm := hide cm
  have ca := hide (rall_any E)
  generalize allE E = F at *
  clear h
  go_enter Tryz.func28, Tryz.ntmps28
  go_wp2_with fail
  refine (cd.out _).mono ?_
  rintro e w1 ⟨rfl, rfl⟩
  go_wp2_with fail
  refine cm.out.mono ?_
  rintro e w1 ⟨rfl, hR⟩
  replace hR := hide hR
  go_wp2_with fail
  refine (ca.out _).mono ?_
  rintro e w2 ⟨rfl, rfl⟩
  go_wp2
  go_ret
  exact ⟨rfl, hR.out⟩

set_option maxHeartbeats 1000000 in
theorem rstore_t {w : World} {b p gb gd n : Nat} {v : Dv} {B : Nat → Nat} {D : Nat → Bool} (hB : RBus w b p gb gd n v B D) (a r m : Int) (m0 : 0 ≤ m) (m1 : m < 4294967296) (hr : a - 520093696 = r) (r0 : 0 ≤ r) (r1 : r < 256) (h4 : a % 4 = 0) (q : Dv) (hq : Wv q)
    (hE : Tm.formV r = 0 ∧ q = { v with t := Tm.writeV v.t r m } ∨ ¬ Tm.formV r = 0 ∧ q = v) :
    Calls Tryz.prog 28 #[.pointer (some ⟨b, 0, none⟩), .int .u32 a, .int .i64 4, .int .u32 m] w fun e w' => e = .returned (.int .i64 (allE (Tm.formV r))) ∧ RBus w' b p gb gd n q B D ∧ Kept [b] w w' := by
  obtain ⟨t1, t2, t3, t4, t5, t6, t7, t8, t9⟩ := rowRules
  obtain ⟨z1, z2, z3, z4, z5, z6, z7, z8, z9, z10⟩ := sizeRules
  obtain ⟨k1, k2, k3, k4, k5, o1, o2, o3, o4, o5, n1, n2, n3, n4, n5⟩ := cellSizes
  obtain ⟨x1, x2, x3, x4, x5, x6, x7, x8, x9, -, -, -, -, -, -⟩ := boxRules
  obtain ⟨f1, f2, f3, f4, p1, p2, p3, p4, s1, s2, s3, s4, -, -, -, -, -, -, -, -, -, -, -⟩ := mParts
  have cd := hide (rdev_yes a (by omega) (by omega))
  have ci := hide (rin_yes a 520093696 r hr (by omega) (by omega) r0 r1)
  have cr := hide (Tm.rwrite_any v.t r m)
  generalize Tm.writeV v.t r m = U at *
  generalize Tm.formV r = E at *
  have ca := hide (rall_any E)
  generalize allE E = F at *
  obtain ⟨g1, g2⟩ := And.intro hB.row hB.at'
  have d0 : decide (0 ≤ r) = true := by simpa using r0
  replace hB := hide hB
  go_enter Tryz.func28, Tryz.ntmps28
  go_wp2_with fail
  refine (cd.out _).mono ?_
  rintro e w1 ⟨rfl, rfl⟩
  go_wp2_with fail
  refine (ci.out _).mono ?_
  rintro e w1 ⟨rfl, rfl⟩
  go_wp2_with fail
  refine (cr.out _).mono ?_
  rintro e w1 ⟨rfl, b1⟩
  have B1 := hB.out.on b1
  have K1 := hide (Kept.of (l := [b]) b1)
  clear g1 g2 hB b1
  obtain ⟨g1, g2, g3⟩ := And.intro B1.row (And.intro B1.at' B1.lt)
  have g4 : ¬ b = w1.heap.size := by omega
  replace B1 := hide B1
  rcases hE with ⟨rfl, rfl⟩ | ⟨hE, rfl⟩
  · go_wp2_with fail
    refine (ca.out _).mono ?_
    rintro e w2 ⟨rfl, rfl⟩
    go_wp2
    go_ret
    exact ⟨rfl, (B1.out.set _ hq).on (grow _ _), (K1.out.trans (Kept.set _ _ _ (by simp))).trans (Kept.of (grow _ _))⟩
  · have hE' : (E == 0) = false := by simpa using hE
    go_wp2_with fail
    refine (ca.out _).mono ?_
    rintro e w2 ⟨rfl, rfl⟩
    go_wp2
    go_ret
    exact ⟨rfl, B1.out.on (grow _ _), K1.out.trans (Kept.of (grow _ _))⟩

set_option maxHeartbeats 1000000 in
theorem rstore_u {w : World} {b p gb gd n : Nat} {v : Dv} {B : Nat → Nat} {D : Nat → Bool} (hB : RBus w b p gb gd n v B D) (a r m : Int) (m0 : 0 ≤ m) (m1 : m < 4294967296) (hr : a - 520093952 = r) (r0 : 0 ≤ r) (r1 : r < 256) (h4 : a % 4 = 0) (q : Dv) (hq : Wv q)
    (hE : Ua.formV r = 0 ∧ q = { v with u := Ua.writeV v.u r m } ∨ ¬ Ua.formV r = 0 ∧ q = v) :
    Calls Tryz.prog 28 #[.pointer (some ⟨b, 0, none⟩), .int .u32 a, .int .i64 4, .int .u32 m] w fun e w' => e = .returned (.int .i64 (allE (Ua.formV r))) ∧ RBus w' b p gb gd n q B D ∧ Kept [b] w w' := by
  obtain ⟨t1, t2, t3, t4, t5, t6, t7, t8, t9⟩ := rowRules
  obtain ⟨z1, z2, z3, z4, z5, z6, z7, z8, z9, z10⟩ := sizeRules
  obtain ⟨k1, k2, k3, k4, k5, o1, o2, o3, o4, o5, n1, n2, n3, n4, n5⟩ := cellSizes
  obtain ⟨x1, x2, x3, x4, x5, x6, x7, x8, x9, -, -, -, -, -, -⟩ := boxRules
  obtain ⟨f1, f2, f3, f4, p1, p2, p3, p4, s1, s2, s3, s4, -, -, -, -, -, -, -, -, -, -, -⟩ := mParts
  have cd := hide (rdev_yes a (by omega) (by omega))
  have i0 := hide (rin_no a 520093696 (by omega) (by omega) (by omega) (by omega) (by omega))
  have ci := hide (rin_yes a 520093952 r hr (by omega) (by omega) r0 r1)
  have cr := hide (Ua.rwrite_any v.u hB.wv.u r m m0 m1)
  generalize Ua.writeV v.u r m = U at *
  generalize Ua.formV r = E at *
  have ca := hide (rall_any E)
  generalize allE E = F at *
  obtain ⟨g1, g2⟩ := And.intro hB.row hB.at'
  have d0 : decide (0 ≤ r) = true := by simpa using r0
  replace hB := hide hB
  go_enter Tryz.func28, Tryz.ntmps28
  go_wp2_with fail
  refine (cd.out _).mono ?_
  rintro e w1 ⟨rfl, rfl⟩
  go_wp2_with fail
  refine (i0.out _).mono ?_
  rintro e w1 ⟨rfl, rfl⟩
  go_wp2_with fail
  refine (ci.out _).mono ?_
  rintro e w1 ⟨rfl, rfl⟩
  go_wp2_with fail
  refine (cr.out _).mono ?_
  rintro e w1 ⟨rfl, b1⟩
  have B1 := hB.out.on b1
  have K1 := hide (Kept.of (l := [b]) b1)
  clear g1 g2 hB b1
  obtain ⟨g1, g2, g3⟩ := And.intro B1.row (And.intro B1.at' B1.lt)
  have g4 : ¬ b = w1.heap.size := by omega
  replace B1 := hide B1
  rcases hE with ⟨rfl, rfl⟩ | ⟨hE, rfl⟩
  · go_wp2_with fail
    refine (ca.out _).mono ?_
    rintro e w2 ⟨rfl, rfl⟩
    go_wp2
    go_ret
    exact ⟨rfl, (B1.out.set _ hq).on (grow _ _), (K1.out.trans (Kept.set _ _ _ (by simp))).trans (Kept.of (grow _ _))⟩
  · have hE' : (E == 0) = false := by simpa using hE
    go_wp2_with fail
    refine (ca.out _).mono ?_
    rintro e w2 ⟨rfl, rfl⟩
    go_wp2
    go_ret
    exact ⟨rfl, B1.out.on (grow _ _), K1.out.trans (Kept.of (grow _ _))⟩

set_option maxHeartbeats 1000000 in
theorem rstore_d {w : World} {b p gb gd n : Nat} {v : Dv} {B : Nat → Nat} {D : Nat → Bool} (hB : RBus w b p gb gd n v B D) (a r m : Int) (m0 : 0 ≤ m) (m1 : m < 4294967296) (hr : a - 520094208 = r) (r0 : 0 ≤ r) (r1 : r < 256) (h4 : a % 4 = 0) (q : Dv) (hq : Wv q)
    (hE : Dm.formV r = 0 ∧ q = { v with d := Dm.writeV v.d r m } ∨ ¬ Dm.formV r = 0 ∧ q = v) :
    Calls Tryz.prog 28 #[.pointer (some ⟨b, 0, none⟩), .int .u32 a, .int .i64 4, .int .u32 m] w fun e w' => e = .returned (.int .i64 (allE (Dm.formV r))) ∧ RBus w' b p gb gd n q B D ∧ Kept [b] w w' := by
  obtain ⟨t1, t2, t3, t4, t5, t6, t7, t8, t9⟩ := rowRules
  obtain ⟨z1, z2, z3, z4, z5, z6, z7, z8, z9, z10⟩ := sizeRules
  obtain ⟨k1, k2, k3, k4, k5, o1, o2, o3, o4, o5, n1, n2, n3, n4, n5⟩ := cellSizes
  obtain ⟨x1, x2, x3, x4, x5, x6, x7, x8, x9, -, -, -, -, -, -⟩ := boxRules
  obtain ⟨f1, f2, f3, f4, p1, p2, p3, p4, s1, s2, s3, s4, -, -, -, -, -, -, -, -, -, -, -⟩ := mParts
  have cd := hide (rdev_yes a (by omega) (by omega))
  have i0 := hide (rin_no a 520093696 (by omega) (by omega) (by omega) (by omega) (by omega))
  have i1 := hide (rin_no a 520093952 (by omega) (by omega) (by omega) (by omega) (by omega))
  have ci := hide (rin_yes a 520094208 r hr (by omega) (by omega) r0 r1)
  have cr := hide (Dm.rwrite_any v.d hB.wv.d r m)
  generalize Dm.writeV v.d r m = U at *
  generalize Dm.formV r = E at *
  have ca := hide (rall_any E)
  generalize allE E = F at *
  obtain ⟨g1, g2⟩ := And.intro hB.row hB.at'
  have d0 : decide (0 ≤ r) = true := by simpa using r0
  replace hB := hide hB
  go_enter Tryz.func28, Tryz.ntmps28
  go_wp2_with fail
  refine (cd.out _).mono ?_
  rintro e w1 ⟨rfl, rfl⟩
  go_wp2_with fail
  refine (i0.out _).mono ?_
  rintro e w1 ⟨rfl, rfl⟩
  go_wp2_with fail
  refine (i1.out _).mono ?_
  rintro e w1 ⟨rfl, rfl⟩
  go_wp2_with fail
  refine (ci.out _).mono ?_
  rintro e w1 ⟨rfl, rfl⟩
  go_wp2_with fail
  refine (cr.out _).mono ?_
  rintro e w1 ⟨rfl, b1⟩
  have B1 := hB.out.on b1
  have K1 := hide (Kept.of (l := [b]) b1)
  clear g1 g2 hB b1
  obtain ⟨g1, g2, g3⟩ := And.intro B1.row (And.intro B1.at' B1.lt)
  have g4 : ¬ b = w1.heap.size := by omega
  replace B1 := hide B1
  rcases hE with ⟨rfl, rfl⟩ | ⟨hE, rfl⟩
  · go_wp2_with fail
    refine (ca.out _).mono ?_
    rintro e w2 ⟨rfl, rfl⟩
    go_wp2
    go_ret
    exact ⟨rfl, (B1.out.set _ hq).on (grow _ _), (K1.out.trans (Kept.set _ _ _ (by simp))).trans (Kept.of (grow _ _))⟩
  · have hE' : (E == 0) = false := by simpa using hE
    go_wp2_with fail
    refine (ca.out _).mono ?_
    rintro e w2 ⟨rfl, rfl⟩
    go_wp2
    go_ret
    exact ⟨rfl, B1.out.on (grow _ _), K1.out.trans (Kept.of (grow _ _))⟩

set_option maxHeartbeats 1000000 in
theorem rstore_g {w : World} {b p gb gd n : Nat} {v : Dv} {B : Nat → Nat} {D : Nat → Bool} (hB : RBus w b p gb gd n v B D) (m : Int) (m0 : 0 ≤ m) (m1 : m < 4294967296) (q : Dv) (hq : Wv q) (hE : q = { v with g := stirG v.g m }) :
    Calls Tryz.prog 28 #[.pointer (some ⟨b, 0, none⟩), .int .u32 520094464, .int .i64 4, .int .u32 m] w fun e w' => e = .returned (.int .i64 0) ∧ RBus w' b p gb gd n q B D ∧ Kept [b] w w' := by
  subst hE
  obtain ⟨t1, t2, t3, t4, t5, t6, t7, t8, t9⟩ := rowRules
  obtain ⟨-, -, -, z4, -, -, -, -, z9, -⟩ := sizeRules
  obtain ⟨-, -, -, k4, -, -, -, -, o4, -, n1, n2, n3, n4, n5⟩ := cellSizes
  obtain ⟨f1, f2, f3, f4, p1, p2, p3, p4, s1, s2, s3, s4, -, -, -, -, -, -, -, -, -, -, -⟩ := mParts
  have cd := hide (rdev_yes 520094464 (by omega) (by omega))
  have c1 := hide (rin_no 520094464 520093696 (by omega) (by omega) (by omega) (by omega) (by omega))
  have c2 := hide (rin_no 520094464 520093952 (by omega) (by omega) (by omega) (by omega) (by omega))
  have c3 := hide (rin_no 520094464 520094208 (by omega) (by omega) (by omega) (by omega) (by omega))
  have cr := hide (rstir_g v.g m ⟨m0, by omega⟩)
  generalize stirG v.g m = G at *
  obtain ⟨g1, g2⟩ := And.intro hB.row hB.at'
  replace hB := hide hB
  go_enter Tryz.func28, Tryz.ntmps28
  go_wp2_with fail
  refine (cd.out _).mono ?_
  rintro e w1 ⟨rfl, rfl⟩
  go_wp2_with fail
  refine (c1.out _).mono ?_
  rintro e w1 ⟨rfl, rfl⟩
  go_wp2_with fail
  refine (c2.out _).mono ?_
  rintro e w1 ⟨rfl, rfl⟩
  go_wp2_with fail
  refine (c3.out _).mono ?_
  rintro e w1 ⟨rfl, rfl⟩
  go_wp2_with fail
  refine (cr.out _).mono ?_
  rintro e w1 ⟨rfl, b1⟩
  have B1 := hB.out.on b1
  have K1 := hide (Kept.of (l := [b]) b1)
  clear g1 g2 hB b1
  obtain ⟨g1, g2⟩ := And.intro B1.row B1.at'
  replace B1 := hide B1
  go_wp2
  go_ret
  exact ⟨rfl, B1.out.set _ hq, K1.out.trans (Kept.set _ _ _ (by simp))⟩

set_option maxHeartbeats 1000000 in
theorem rstore_g0 {w : World} {b : Nat} (a m : Int) (h0 : 520094464 < a) (h1 : a < 520094720) (h4 : a % 4 = 0) :
    Calls Tryz.prog 28 #[.pointer (some ⟨b, 0, none⟩), .int .u32 a, .int .i64 4, .int .u32 m] w fun e w' => e = .returned (.int .i64 121) ∧ w' = w := by
  have cd := hide (rdev_yes a (by omega) (by omega))
  have c1 := hide (rin_no a 520093696 (by omega) (by omega) (by omega) (by omega) (by omega))
  have c2 := hide (rin_no a 520093952 (by omega) (by omega) (by omega) (by omega) (by omega))
  have c3 := hide (rin_no a 520094208 (by omega) (by omega) (by omega) (by omega) (by omega))
  have d1 : (a == 520094464) = false := by simp; omega
  have d2 : (a != 520094464) = true := by simp; omega
  go_enter Tryz.func28, Tryz.ntmps28
  go_wp2_with fail
  refine (cd.out _).mono ?_
  rintro e w1 ⟨rfl, rfl⟩
  go_wp2_with fail
  refine (c1.out _).mono ?_
  rintro e w1 ⟨rfl, rfl⟩
  go_wp2_with fail
  refine (c2.out _).mono ?_
  rintro e w1 ⟨rfl, rfl⟩
  go_wp2_with fail
  refine (c3.out _).mono ?_
  rintro e w1 ⟨rfl, rfl⟩
  go_wp2
  go_ret
  exact ⟨rfl, rfl⟩

theorem rmemStore {w : World} {p gb gd n : Nat} {B : Nat → Nat} {D : Nat → Bool} (M : RMem w p gb gd n B D) (a s m : Int) (a0 : 0 ≤ a) (a1 : a < 4294967296) (m0 : 0 ≤ m) (m1 : m < 4294967296) :
    Calls Tryz.prog 91 #[.pointer (some ⟨p, 0, none⟩), .int .u32 a, .int .i64 s, .int .u32 m] w fun e w' => e = .returned (.int .i64 (if mayI n a s then 0 else 61)) ∧
      (RMem w' p gb gd n (if mayI n a s then putB B a.toNat s.toNat m.toNat else B) (if mayI n a s then putD D (a.toNat / 256) else D) ∧ RKept p gb gd w w') := by
  by_cases h : mayI n a s
  · obtain ⟨k, z, rfl, rfl, hm⟩ := may_nat a0 h
    obtain ⟨j, rfl⟩ : ∃ j : Nat, m = (j : Int) := ⟨m.toNat, by omega⟩
    simp only [if_pos h, Int.toNat_natCast]
    exact rstore_any M k z j (by omega) (by omega) hm
  · simp only [if_neg h]
    refine (rstore_bad M a s m a0 a1 h).mono ?_
    rintro e w1 ⟨rfl, rfl⟩
    exact ⟨rfl, M, RKept.refl _ _ _ _⟩

theorem finW_all (v : Dv) (B : Nat → Nat) (D : Nat → Bool) (E : Int) (q : Dv) : (finW v B D E q).E = allE E ∧ (finW v B D E q).B = B ∧ (finW v B D E q).D = D ∧ (E = 0 ∧ (finW v B D E q).v = q ∨ ¬ E = 0 ∧ (finW v B D E q).v = v) := by
  unfold finW allE
  by_cases h : E = 0
  · rw [if_pos h, if_pos h]; exact ⟨rfl, rfl, rfl, Or.inl ⟨h, rfl⟩⟩
  · rw [if_neg h, if_neg h]; exact ⟨rfl, rfl, rfl, Or.inr ⟨h, rfl⟩⟩

theorem rstore_is {w : World} {b p gb gd n : Nat} {v : Dv} {B : Nat → Nat} {D : Nat → Bool} (hB : RBus w b p gb gd n v B D) (a s m : Int) (a0 : 0 ≤ a) (a1 : a < 4294967296) (m0 : 0 ≤ m) (m1 : m < 4294967296) :
    Calls Tryz.prog 28 #[.pointer (some ⟨b, 0, none⟩), .int .u32 a, .int .i64 s, .int .u32 m] w fun e w' =>
      e = .returned (.int .i64 (stA n v B D a s m).E) ∧ RBus w' b p gb gd n (stA n v B D a s m).v (stA n v B D a s m).B (stA n v B D a s m).D ∧ Kept [b, p, gb, gd] w w' := by
  have hv := hB.wv
  have hw1 := (stA_w (n := n) hv B D a s m m0 m1).1
  unfold stA at *
  by_cases hd : 520093696 ≤ a ∧ a < 520094720
  · rw [if_pos hd] at *
    by_cases hw : s = 4 ∧ a % 4 = 0
    · rw [if_pos hw] at *
      obtain ⟨rfl, h4⟩ := hw
      unfold wrA at *
      by_cases h1 : a < 520093952
      · rw [if_pos h1] at *
        obtain ⟨e1, e2, e3, e4⟩ := finW_all v B D (Tm.formV (a - 520093696)) { v with t := Tm.writeV v.t (a - 520093696) m }
        rw [e1, e2, e3]
        refine (rstore_t hB a (a - 520093696) m m0 m1 rfl (by omega) (by omega) h4 _ hw1 e4).mono ?_
        rintro e w1 ⟨rfl, k1, k2⟩
        exact ⟨rfl, k1, k2.mono (by simp)⟩
      · rw [if_neg h1] at *
        by_cases h2 : a < 520094208
        · rw [if_pos h2] at *
          obtain ⟨e1, e2, e3, e4⟩ := finW_all v B D (Ua.formV (a - 520093952)) { v with u := Ua.writeV v.u (a - 520093952) m }
          rw [e1, e2, e3]
          refine (rstore_u hB a (a - 520093952) m m0 m1 rfl (by omega) (by omega) h4 _ hw1 e4).mono ?_
          rintro e w1 ⟨rfl, k1, k2⟩
          exact ⟨rfl, k1, k2.mono (by simp)⟩
        · rw [if_neg h2] at *
          by_cases h3 : a < 520094464
          · rw [if_pos h3] at *
            obtain ⟨e1, e2, e3, e4⟩ := finW_all v B D (Dm.formV (a - 520094208)) { v with d := Dm.writeV v.d (a - 520094208) m }
            rw [e1, e2, e3]
            refine (rstore_d hB a (a - 520094208) m m0 m1 rfl (by omega) (by omega) h4 _ hw1 e4).mono ?_
            rintro e w1 ⟨rfl, k1, k2⟩
            exact ⟨rfl, k1, k2.mono (by simp)⟩
          · rw [if_neg h3] at *
            by_cases h5 : a = 520094464
            · subst h5
              refine (rstore_g hB m m0 m1 _ (hv.setG (stirG_w _ _)) rfl).mono ?_
              rintro e w1 ⟨rfl, k1, k2⟩
              exact ⟨rfl, k1, k2.mono (by simp)⟩
            · have hE : ¬ rgE (a - 520094464) = 0 := by unfold rgE; rw [if_neg (by omega)]; decide
              unfold finW
              rw [if_neg hE]
              refine (rstore_g0 a m (by omega) hd.2 h4).mono ?_
              rintro e w1 ⟨rfl, rfl⟩
              exact ⟨rfl, hB, Kept.refl _ _⟩
    · rw [if_neg hw]
      refine (rstore_no a s m a0 hd.1 hd.2 hw).mono ?_
      rintro e w1 ⟨rfl, rfl⟩
      exact ⟨rfl, hB, Kept.refl _ _⟩
  · rw [if_neg hd]
    refine (rstore_mem hB a s m (by omega) _ (rmemStore hB.m a s m a0 a1 m0 m1)).mono ?_
    rintro e w1 ⟨rfl, M1, G1⟩
    by_cases h : mayI n a s
    · simp only [if_pos h] at M1 ⊢
      exact ⟨rfl, hB.mem G1 M1, Kept.rkept G1 (by simp) (by simp) (by simp)⟩
    · simp only [if_neg h] at M1 ⊢
      exact ⟨rfl, hB.mem G1 M1, Kept.rkept G1 (by simp) (by simp) (by simp)⟩

end Go.Proofs.YthjcijlabpinkaaGreatDoor
