/- Layer 15: contracts of the program's small functions. -/
import Derived.Test.YtnbflahggpehpabQOpPlain
namespace Go.Proofs.Ytnbflahggpehpab.Ir
open Go.RowKit
set_option linter.unusedVariables false
set_option maxRecDepth 100000
set_option linter.unusedSimpArgs false

theorem oreg_any (n : Int) (w : World) : Calls Try.prog 15 #[.int .i64 n] w fun e w' => e = .returned (.bool (regB n)) ∧ w' = w := by
  unfold regB
  by_cases h : 0 ≤ n
  · have hd : decide (0 ≤ n) = true := by simpa using h
    by_cases k : n < 32
    · have kd : decide (n < 32) = true := by simpa using k
      go_enter Try.func15, Try.ntmps15
      go_wp2
      go_ret
      exact ⟨by simp [h, k], rfl⟩
    · have kd : decide (n < 32) = false := by simpa using k
      go_enter Try.func15, Try.ntmps15
      go_wp2
      go_ret
      exact ⟨by simp [k], rfl⟩
  · have hd : decide (0 ≤ n) = false := by simpa using h
    go_enter Try.func15, Try.ntmps15
    go_wp2
    go_ret
    exact ⟨by simp [h], rfl⟩

theorem takesA_any (n : Int) (w : World) : Calls Try.prog 30 #[.int .i64 n] w fun e w' => e = .returned (.bool (tkA n)) ∧ w' = w := by
  unfold tkA
  by_cases h : 2 ≤ n
  · have hd : decide (2 ≤ n) = true := by simpa using h
    by_cases k : n < 14
    · have kd : decide (n < 14) = true := by simpa using k
      go_enter Try.func30, Try.ntmps30
      go_wp2
      go_ret
      exact ⟨by simp [h, k], rfl⟩
    · have kd : decide (n < 14) = false := by simpa using k
      go_enter Try.func30, Try.ntmps30
      go_wp2
      go_ret
      exact ⟨by simp [k], rfl⟩
  · have hd : decide (2 ≤ n) = false := by simpa using h
    go_enter Try.func30, Try.ntmps30
    go_wp2
    go_ret
    exact ⟨by simp [h], rfl⟩

theorem takesB_any (n : Int) (w : World) : Calls Try.prog 31 #[.int .i64 n] w fun e w' => e = .returned (.bool (tkB n)) ∧ w' = w := by
  unfold tkB
  by_cases h : 2 < n
  · have hd : decide (2 < n) = true := by simpa using h
    by_cases k : n < 14
    · have kd : decide (n < 14) = true := by simpa using k
      go_enter Try.func31, Try.ntmps31
      go_wp2
      go_ret
      exact ⟨by simp [h, k], rfl⟩
    · have kd : decide (n < 14) = false := by simpa using k
      go_enter Try.func31, Try.ntmps31
      go_wp2
      go_ret
      exact ⟨by simp [k], rfl⟩
  · have hd : decide (2 < n) = false := by simpa using h
    go_enter Try.func31, Try.ntmps31
    go_wp2
    go_ret
    exact ⟨by simp [h], rfl⟩

theorem dropsA_any (n : Int) (w : World) : Calls Try.prog 34 #[.int .i64 n] w fun e w' => e = .returned (.bool (dzA n)) ∧ w' = w := by
  unfold dzA
  by_cases h : n = 3
  · subst h
    go_enter Try.func34, Try.ntmps34
    go_wp2
    go_ret
    exact ⟨rfl, rfl⟩
  · have e1 : (n == 3) = false := by simpa using h
    by_cases h6 : n = 6
    · subst h6
      go_enter Try.func34, Try.ntmps34
      go_wp2
      go_ret
      exact ⟨rfl, rfl⟩
    · have e2 : (n == 6) = false := by simpa using h6
      rw [e1, e2]
      go_enter Try.func34, Try.ntmps34
      go_wp2
      go_ret
      exact ⟨rfl, rfl⟩

theorem dropsB_any (n : Int) (w : World) : Calls Try.prog 35 #[.int .i64 n] w fun e w' => e = .returned (.bool (dzB n)) ∧ w' = w := by
  have c := hide (dropsA_any n)
  unfold dzB
  generalize dzA n = D at *
  cases D
  all_goals
    go_enter Try.func35, Try.ntmps35
    go_wp2_with fail
    refine (c.out _).mono ?_
    rintro e w1 ⟨rfl, rfl⟩
    go_wp2
    go_ret
    exact ⟨by simp, rfl⟩

/-- Sizes, noughts and parts of the passes' rows. -/
theorem opSizes : (∀ w : World, (sizeOf 53).run Try.prog w = .ok NS w) ∧ (∀ w : World, (zeroValue 53).run Try.prog w = .ok (.agg (cellsS fun _ => 0)) w) ∧
    (∀ S : Nat → Int, (cellsS S).size = NS) ∧ (∀ S : Nat → Int, ones (cellsS S) = true) ∧ ¬ NS = 0 ∧ (∀ S : Nat → Int, fitsP (cellsS S) 0 NS = true) ∧ (∀ S : Nat → Int, part (cellsS S) 0 NS = cellsS S) ∧ (∀ R Q : Nat → Int, placed (cellsS R) 0 (cellsS Q) = cellsS Q) ∧
    (∀ (S : Nat → Int) (j : Nat), j < 32 → (cellsS S)[j]? = some (.int .i64 (S j))) :=
  ⟨Try.sizeOf53, Try.zeroValue53, sizeS, fun _ => rfl, by decide, fun S => by simp [fitsP, sizeS], fun S => part_all _ _ (sizeS S), fun R Q => placed_all _ _ (by rw [sizeS, sizeS]), get_S⟩

theorem opSizesL : (∀ w : World, (sizeOf 48).run Try.prog w = .ok NL w) ∧ (∀ w : World, (zeroValue 48).run Try.prog w = .ok (.agg (cellsL L0)) w) ∧
    (∀ S : Nat → Bool, (cellsL S).size = NL) ∧ (∀ S : Nat → Bool, ones (cellsL S) = true) ∧ ¬ NL = 0 ∧ (∀ S : Nat → Bool, fitsP (cellsL S) 0 NL = true) ∧ (∀ S : Nat → Bool, part (cellsL S) 0 NL = cellsL S) ∧
    (∀ (S : Nat → Bool) (j : Nat), j < 32 → (cellsL S)[j]? = some (.bool (S j))) :=
  ⟨Try.sizeOf48, Try.zeroValue48, sizeL, fun _ => rfl, by decide, fun S => by simp [fitsP, sizeL], fun S => part_all _ _ (sizeL S), get_L⟩

theorem opSizesK : (∀ w : World, (sizeOf 40).run Try.prog w = .ok NK w) ∧ (∀ w : World, (sizeOf 39).run Try.prog w = .ok N2 w) ∧ (∀ w : World, (zeroValue 39).run Try.prog w = .ok (.agg (cellsN none)) w) ∧
    (∀ K, (cellsK K).size = NK) ∧ (∀ K, ones (cellsK K) = true) ∧ ¬ NK = 0 ∧ (∀ a, (cellsN a).size = N2) ∧ (∀ a, ones (cellsN a) = true) ∧ ¬ N2 = 0 ∧ (∀ a, fitsP (cellsN a) 0 N2 = true) ∧ (∀ a, part (cellsN a) 0 N2 = cellsN a) ∧
    (∀ K (j : Nat), j < 32 → fitsP (cellsK K) (j * N2) N2 = true) ∧ (∀ K (j : Nat), j < 32 → part (cellsK K) (j * N2) N2 = cellsN (K j)) ∧ (∀ K (j : Nat), j < 32 → ∀ v, placed (cellsK K) (j * N2) (cellsN v) = cellsK (putK K j v)) ∧
    (∀ a, (cellsN a)[0]? = some (.bool a.isSome)) ∧ (∀ a, (cellsN a)[1]? = some (.int .u32 (a.getD 0))) :=
  ⟨Try.sizeOf40, Try.sizeOf39, Try.zeroValue39, sizeK, fun K => by
    unfold ones cellsK
    rw [List.all_eq_true]
    intro v hv
    simp only [List.mem_map] at hv
    obtain ⟨j, -, rfl⟩ := hv
    split <;> rfl, by decide, fun _ => rfl, fun _ => rfl, by decide, fun _ => rfl, fun _ => rfl, fun K j h => by simp [fitsP, sizeK, NK, N2]; omega, part_K, placed_K, fun _ => rfl, fun _ => rfl⟩

theorem isZero_any (a : Option Int) (w : World) : Calls Try.prog 33 #[.agg (cellsN a)] w fun e w' => e = .returned (.bool (decide (a = some 0))) ∧ Below w.heap.size w w' := by
  obtain ⟨r1, r2, r3, r4, r5, r6, r7, r8, r9⟩ := rowRules
  obtain ⟨z1, z2, z3, z4, z5, z6, z7, z8, z9, z10, z11, z12, z13, z14, z15, z16⟩ := opSizesK
  have g := hide (grow w (.cells (cellsN a) 39))
  cases a with
  | none =>
    have e1 : (none : Option Int).isSome = false := rfl
    go_enter Try.func33, Try.ntmps33
    go_wp2
    go_ret
    exact ⟨by simp, g.out⟩
  | some x =>
    have e1 : (some x).isSome = true := rfl
    have e2 : (some x).getD 0 = x := rfl
    go_enter Try.func33, Try.ntmps33
    go_wp2
    go_ret
    exact ⟨by simp; rfl, g.out⟩

set_option maxHeartbeats 2000000 in
theorem readsA_any (m : Mi) (w : World) : Calls Try.prog 22 #[.agg (cellsM m)] w fun e w' => e = .returned (.bool (rdA m)) ∧ Below w.heap.size w w' := by
  obtain ⟨r1, r2, r3, r4, r5, r6, r7, r8, r9⟩ := rowRules
  obtain ⟨s1, s2, s3, s4, s5, s6, s7, s8, s9, s10⟩ := irSizes
  obtain ⟨p1, p2, p3, p4, p5, p6, p7⟩ := irParts
  have c := hide (takesA_any m.k)
  have c2 := hide (oreg_any m.a)
  have g := hide (grow w (.cells (cellsM m) 32))
  unfold rdA
  generalize tkA m.k = T at *
  cases T
  · go_enter Try.func22, Try.ntmps22
    go_wp2_with fail
    refine (c.out _).mono ?_
    rintro e w1 ⟨rfl, rfl⟩
    go_wp2
    go_ret
    exact ⟨by simp, g.out⟩
  · go_enter Try.func22, Try.ntmps22
    go_wp2_with fail
    refine (c.out _).mono ?_
    rintro e w1 ⟨rfl, rfl⟩
    go_wp2_with fail
    refine (c2.out _).mono ?_
    rintro e w1 ⟨rfl, rfl⟩
    go_wp2
    go_ret
    exact ⟨by simp, g.out⟩

set_option maxHeartbeats 2000000 in
theorem readsB_any (m : Mi) (w : World) : Calls Try.prog 23 #[.agg (cellsM m)] w fun e w' => e = .returned (.bool (rdB m)) ∧ Below w.heap.size w w' := by
  obtain ⟨r1, r2, r3, r4, r5, r6, r7, r8, r9⟩ := rowRules
  obtain ⟨s1, s2, s3, s4, s5, s6, s7, s8, s9, s10⟩ := irSizes
  obtain ⟨p1, p2, p3, p4, p5, p6, p7⟩ := irParts
  have c := hide (takesB_any m.k)
  have c2 := hide (oreg_any m.b)
  have g := hide (grow w (.cells (cellsM m) 32))
  unfold rdB
  generalize tkB m.k = T at *
  cases T
  · go_enter Try.func23, Try.ntmps23
    go_wp2_with fail
    refine (c.out _).mono ?_
    rintro e w1 ⟨rfl, rfl⟩
    go_wp2
    go_ret
    exact ⟨by simp, g.out⟩
  · go_enter Try.func23, Try.ntmps23
    go_wp2_with fail
    refine (c.out _).mono ?_
    rintro e w1 ⟨rfl, rfl⟩
    go_wp2_with fail
    refine (c2.out _).mono ?_
    rintro e w1 ⟨rfl, rfl⟩
    go_wp2
    go_ret
    exact ⟨by simp, g.out⟩

theorem wr_is (m : Mi) : wrB m = (decide (0 < m.k) && decide (m.k < 14) && !(m.d == 0) && regB m.d) := by
  rw [Bool.eq_iff_iff]
  simp [wrB, regB]
  omega

set_option maxHeartbeats 2000000 in
theorem owrites_any (m : Mi) (w : World) : Calls Try.prog 19 #[.agg (cellsM m)] w fun e w' => e = .returned (.bool (wrB m)) ∧ Below w.heap.size w w' := by
  obtain ⟨r1, r2, r3, r4, r5, r6, r7, r8, r9⟩ := rowRules
  obtain ⟨s1, s2, s3, s4, s5, s6, s7, s8, s9, s10⟩ := irSizes
  obtain ⟨p1, p2, p3, p4, p5, p6, p7⟩ := irParts
  have c := hide (oreg_any m.d)
  rw [wr_is]
  generalize regB m.d = T at *
  have g := hide (grow w (.cells (cellsM m) 32))
  by_cases h1 : 0 < m.k
  · have d1 : decide (0 < m.k) = true := by simpa using h1
    by_cases h2 : m.k < 14
    · have d2 : decide (m.k < 14) = true := by simpa using h2
      by_cases h3 : m.d = 0
      · have d3 : (m.d == 0) = true := by simpa using h3
        have d4 : (m.d != 0) = false := by simpa using h3
        rw [d1, d2, d3]
        clear h3
        go_enter Try.func19, Try.ntmps19
        go_wp2
        go_ret
        exact ⟨by simp, g.out⟩
      · have d3 : (m.d == 0) = false := by simpa using h3
        have d4 : (m.d != 0) = true := by simpa using h3
        rw [d1, d2, d3]
        go_enter Try.func19, Try.ntmps19
        go_wp2_with fail
        refine (c.out _).mono ?_
        rintro e w1 ⟨rfl, rfl⟩
        go_wp2
        go_ret
        exact ⟨by simp, g.out⟩
    · have d2 : decide (m.k < 14) = false := by simpa using h2
      rw [d1, d2]
      go_enter Try.func19, Try.ntmps19
      go_wp2
      go_ret
      exact ⟨by simp, g.out⟩
  · have d1 : decide (0 < m.k) = false := by simpa using h1
    rw [d1]
    go_enter Try.func19, Try.ntmps19
    go_wp2
    go_ret
    exact ⟨by simp, g.out⟩

end Go.Proofs.Ytnbflahggpehpab.Ir
