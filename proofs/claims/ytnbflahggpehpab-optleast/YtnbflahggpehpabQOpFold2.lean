/- Layer 15: contract of folded. -/
import Derived.Test.YtnbflahggpehpabQOpFold
namespace Go.Proofs.Ytnbflahggpehpab.Ir
open Go.RowKit
set_option linter.unusedVariables false
set_option maxRecDepth 100000
set_option linter.unusedSimpArgs false

/-- What is held in folded: the operation, both numbers, and room for the answer. -/
def HeldF (w : World) (m : Mi) (a b : Option Int) (y : World) : Prop :=
  Box y w.heap.size (cellsM m) ∧ Box y (w.heap.size + 1) (cellsN a) ∧ Box y (w.heap.size + 1 + 1) (cellsN b) ∧ Box y (w.heap.size + 1 + 1 + 1) (cellsM M0) ∧ Below w.heap.size w y

theorem HeldF.new (w : World) (m : Mi) (a b : Option Int) : HeldF w m a b ((((w.alloc (.cells (cellsM m) 32)).alloc (.cells (cellsN a) 39)).alloc (.cells (cellsN b) 39)).alloc (.cells (cellsM M0) 32)) := by
  have x1 := Box.new w (cellsM m) 32
  have x2 := Box.new (w.alloc (.cells (cellsM m) 32)) (cellsN a) 39
  have x3 := Box.new ((w.alloc (.cells (cellsM m) 32)).alloc (.cells (cellsN a) 39)) (cellsN b) 39
  have x4 := Box.new (((w.alloc (.cells (cellsM m) 32)).alloc (.cells (cellsN a) 39)).alloc (.cells (cellsN b) 39)) (cellsM M0) 32
  simp only [World.size_alloc] at x2 x3 x4
  exact ⟨((x1.on (grow _ _)).on (grow _ _)).on (grow _ _), (x2.on (grow _ _)).on (grow _ _), x3.on (grow _ _), x4, onto (onto (onto (grow _ _) (Nat.le_refl _) (grow _ _)) (Nat.le_refl _) (grow _ _)) (Nat.le_refl _) (grow _ _)⟩

theorem HeldF.on {w : World} {m : Mi} {a b : Option Int} {y z : World} (h : HeldF w m a b y) (hb : Below y.heap.size y z) : HeldF w m a b z :=
  ⟨h.1.on hb, h.2.1.on hb, h.2.2.1.on hb, h.2.2.2.1.on hb, onto h.2.2.2.2 (Nat.le_refl _) hb⟩

theorem HeldF.done {w : World} {m : Mi} {a b : Option Int} {y : World} (h : HeldF w m a b y) (c : Array Value) : Below w.heap.size w (y.setRow (w.heap.size + 1 + 1 + 1) c) := below_setRow h.2.2.2.2 (by omega) _

/-- What is read of a world that holds them. -/
theorem HeldF.reads {w : World} {m : Mi} {a b : Option Int} {y : World} (h : HeldF w m a b y) : y.cell? ⟨w.heap.size, 0, none⟩ = some (.int .i64 m.k) ∧ y.cell? ⟨w.heap.size, 1, none⟩ = some (.int .i64 m.d) ∧ y.cell? ⟨w.heap.size, 2, none⟩ = some (.int .i64 m.a) ∧ y.cell? ⟨w.heap.size, 3, none⟩ = some (.int .i64 m.b) ∧
    y.cell? ⟨w.heap.size, 4, none⟩ = some (.int .u32 m.m) ∧ y.cell? ⟨w.heap.size, 5, none⟩ = some (.int .i64 m.c) ∧ y.cell? ⟨w.heap.size + 1, 0, none⟩ = some (.bool a.isSome) ∧ y.cell? ⟨w.heap.size + 1, 1, none⟩ = some (.int .u32 (a.getD 0)) ∧ y.cell? ⟨w.heap.size + 1 + 1, 0, none⟩ = some (.bool b.isSome) ∧ y.cell? ⟨w.heap.size + 1 + 1, 1, none⟩ = some (.int .u32 (b.getD 0)) ∧
    (loadCellsFrom ⟨w.heap.size, 0, none⟩ 0 N6 #[]).run Try.prog y = .ok (cellsM m) y ∧ (loadCellsFrom ⟨w.heap.size + 1, 0, none⟩ 0 N2 #[]).run Try.prog y = .ok (cellsN a) y ∧ (loadCellsFrom ⟨w.heap.size + 1 + 1, 0, none⟩ 0 N2 #[]).run Try.prog y = .ok (cellsN b) y ∧
    isRow y (w.heap.size + 1 + 1 + 1) = true ∧ rowAt y (w.heap.size + 1 + 1 + 1) = cellsM M0 :=
  ⟨(h.1.cell 0).trans rfl, (h.1.cell 1).trans rfl, (h.1.cell 2).trans rfl, (h.1.cell 3).trans rfl, (h.1.cell 4).trans rfl, (h.1.cell 5).trans rfl, (h.2.1.cell 0).trans rfl, (h.2.1.cell 1).trans rfl, (h.2.2.1.cell 0).trans rfl, (h.2.2.1.cell 1).trans rfl,
    h.1.loads 0 N6 rfl rfl, h.2.1.loads 0 N2 rfl rfl, h.2.2.1.loads 0 N2 rfl rfl, h.2.2.2.1.1, h.2.2.2.1.2.1⟩

/-- What is told of a world within a region of folded. -/
def HeldG (w : World) (m : Mi) (a b : Option Int) (y : World) : Prop := Box y w.heap.size (cellsM m) ∧ Box y (w.heap.size + 1) (cellsN a) ∧ Box y (w.heap.size + 1 + 1) (cellsN b)

theorem HeldG.far {w : World} {m : Mi} {a b : Option Int} {y : World} (h : HeldG w m a b y) (c : Array Value) : HeldG w m a b (y.setRow (w.heap.size + 1 + 1 + 1) c) := ⟨h.1.far _ _ (by omega), h.2.1.far _ _ (by omega), h.2.2.far _ _ (by omega)⟩

theorem HeldG.reads {w : World} {m : Mi} {a b : Option Int} {y : World} (h : HeldG w m a b y) : y.cell? ⟨w.heap.size, 0, none⟩ = some (.int .i64 m.k) ∧ y.cell? ⟨w.heap.size, 1, none⟩ = some (.int .i64 m.d) ∧
    y.cell? ⟨w.heap.size, 4, none⟩ = some (.int .u32 m.m) ∧ y.cell? ⟨w.heap.size, 5, none⟩ = some (.int .i64 m.c) ∧ y.cell? ⟨w.heap.size + 1, 1, none⟩ = some (.int .u32 (a.getD 0)) ∧ y.cell? ⟨w.heap.size + 1 + 1, 1, none⟩ = some (.int .u32 (b.getD 0)) :=
  ⟨(h.1.cell 0).trans rfl, (h.1.cell 1).trans rfl, (h.1.cell 4).trans rfl, (h.1.cell 5).trans rfl, (h.2.1.cell 1).trans rfl, (h.2.2.cell 1).trans rfl⟩

/-- An operation that is built with some of its parts. -/
theorem built_set (d x c : Int) : (((((cellsM M0).setIfInBounds 0 (.int .i64 1)).setIfInBounds 1 (.int .i64 d)).setIfInBounds 4 (.int .u32 x)).setIfInBounds 5 (.int .i64 c)) = cellsM ⟨1, d, 0, 0, x, c⟩ := rfl

set_option maxHeartbeats 4000000 in
theorem folded_any (m : Mi) (a b : Option Int) (ha : Cp.W32 (a.getD 0)) (hb : Cp.W32 (b.getD 0)) (w : World) : Calls Try.prog 18 #[.agg (cellsM m), .agg (cellsN a), .agg (cellsN b)] w fun e w' =>
    e = .returned (.agg (cellsM (fdM m a b))) ∧ Below w.heap.size w w' := by
  obtain ⟨r1, r2, r3, r4, r5, r6, r7, r8, r9⟩ := rowRules
  obtain ⟨s1, s2, s3, s4, s5, s6, s7, s8, s9, s10⟩ := irSizes
  obtain ⟨q1, q2, q3, q4, q5, q6⟩ := irWhole
  obtain ⟨p1, p2, p3, p4, p5, p6, p7⟩ := irParts
  obtain ⟨t1, t2, t3, t4, t5, t6, t7⟩ := irSets
  obtain ⟨z1, z2, z3, z4, z5, z6, z7, z8, z9, z10, z11, z12, z13, z14, z15, z16⟩ := opSizesK
  have e6 : ¬ cellsM M0 = #[] := by simp [cellsM]
  have e7 : ¬ N6 < 1 + 1 := by decide
  have e8 : ¬ N6 < 2 := by decide
  have e9 : ¬ N6 < 3 := by decide
  have e10 : ¬ N6 < 5 := by decide
  have e11 : ¬ N6 < 6 := by decide
  have h0 := hide (HeldF.new w m a b)
  have cA := hide (takesA_any m.k)
  have cB := hide (takesB_any m.k)
  have cv := hide (value_any m.k (a.getD 0) (b.getD 0) m.m ha hb)
  have cz1 := hide (isZero_any a)
  have cz2 := hide (isZero_any b)
  have cd1 := hide (dropsA_any m.k)
  have cd2 := hide (dropsB_any m.k)
  obtain ⟨R, hR⟩ : ∃ R, R = fdM m a b := ⟨_, rfl⟩
  rw [← hR]
  unfold fdM at hR
  obtain ⟨Z1, hZ1⟩ : ∃ Z, decide (a = some 0) = Z := ⟨_, rfl⟩
  obtain ⟨Z2, hZ2⟩ : ∃ Z, decide (b = some 0) = Z := ⟨_, rfl⟩
  rw [hZ1] at cz1
  rw [hZ2] at cz2
  replace hZ1 := hide hZ1
  replace hZ2 := hide hZ2
  generalize valV m.k (a.getD 0) (b.getD 0) m.m = x at *
  generalize tkA m.k = TA at *
  generalize tkB m.k = TB at *
  generalize dzA m.k = DA at *
  generalize dzB m.k = DB at *
  replace hR := hide hR
  clear ha hb
  go_enter Try.func18, Try.ntmps18
  go_wp2_with fail
  generalize World.alloc (World.alloc (World.alloc (World.alloc w _) _) _) _ = Y at *
  refine (cA.out _).mono ?_
  rintro r Y1 ⟨rfl, rfl⟩
  obtain ⟨x1, x2, x3, x4, x5, x6, x7, x8, x9, x10, x11, x12, x13, x14, x15⟩ := h0.out.reads
  clear cA
  cases TA
  · have hd := hide (h0.out.done (cellsM m))
    go_wp2
    refine bodyPost_ret (v := .agg (cellsM m)) (by simp [results, Try.results18, go_sem, *]) rfl ⟨?_, hd.out⟩
    rw [hR.out, if_pos (by simp)]
  · replace hR : Hid (R = _) := hide (hR.out.trans (if_neg (by decide)))
    by_cases hK : a.isSome = true ∧ (b.isSome = true ∨ TB = false)
    · replace hR : Hid (R = _) := hide (hR.out.trans (if_pos hK))
      obtain ⟨hK1, hK2⟩ := hK
      rw [hK1] at x7
      have hd := hide (h0.out.done (cellsM ⟨1, m.d, 0, 0, x, m.c⟩))
      have hll := hide (Box.loads (Box.drew (h0.out.2.2.2.1.set (cellsM ⟨1, m.d, 0, 0, x, m.c⟩))) 0 N6 (q1 _) (q2 _))
      have hG : HeldG w m a b _ := ⟨h0.out.1, h0.out.2.1, h0.out.2.2.1⟩
      by_cases hb : b.isSome = true
      case' pos =>
        rw [hb] at x9
        go_wp2_with fail
      case' neg =>
        have hb' : b.isSome = false := by simpa using hb
        obtain rfl : TB = false := by
          rcases hK2 with h | h
          · exact absurd h hb
          · exact h
        rw [hb'] at x9
        go_wp2_with fail
        refine (cB.out _).mono ?_
        rintro r Y2 ⟨rfl, rfl⟩
        go_wp2_with fail
      all_goals
        clear hK1 hK2 hb cB cz1 cz2 cd1 cd2 h0
        clear x1 x2 x3 x4 x5 x6 x7 x8 x9 x10 x11 x12 x13
        refine wp_region_held_drew (S := HeldG w m a b) (by kernel_rfl) (by exact hG) (fun hHeld => ?_)
        -- 0: fieldAddr
        refine wpAnyH_take (i := 0) (oi := { dst := some 26, op := Op.fieldAddr 32 (Operand.tmp 3) 1, type := 0, pos := "opt.go:83", after := #[], guard := none }) (v := ?_) rfl (by kernel_rfl) (by kernel_rfl) (by kernel_rfl) (fun _ _ _ h => h) (Or.inl ⟨by rfl, ?_⟩) (by assumption) ?_
        rotate_left
        · intro y hSw
          obtain ⟨v1, v2, v3, v4, v5, v6⟩ := HeldG.reads hSw
          go_simp
          try with_reducible rfl
        try simp only [Act.put, List.setIfInBounds_toArray, List.set_cons_zero, List.set_cons_succ]
        -- 1: load
        refine wpAnyH_take (i := 1) (oi := { dst := some 27, op := Op.load 3 (Operand.tmp 26), type := 3, pos := "opt.go:83", after := #[{ on := 0, ground := Ground.data }], guard := none }) (v := ?_) rfl (by kernel_rfl) (by kernel_rfl) (by kernel_rfl) (fun _ _ _ h => h) (Or.inl ⟨by rfl, ?_⟩) (by assumption) ?_
        rotate_left
        · intro y hSw
          obtain ⟨v1, v2, v3, v4, v5, v6⟩ := HeldG.reads hSw
          go_simp
          try with_reducible rfl
        try simp only [Act.put, List.setIfInBounds_toArray, List.set_cons_zero, List.set_cons_succ]
        -- 2: fieldAddr
        refine wpAnyH_take (i := 2) (oi := { dst := some 28, op := Op.fieldAddr 32 (Operand.tmp 3) 0, type := 0, pos := "opt.go:83", after := #[], guard := none }) (v := ?_) rfl (by kernel_rfl) (by kernel_rfl) (by kernel_rfl) (fun _ _ _ h => h) (Or.inl ⟨by rfl, ?_⟩) (by assumption) ?_
        rotate_left
        · intro y hSw
          obtain ⟨v1, v2, v3, v4, v5, v6⟩ := HeldG.reads hSw
          go_simp
          try with_reducible rfl
        try simp only [Act.put, List.setIfInBounds_toArray, List.set_cons_zero, List.set_cons_succ]
        -- 3: load
        refine wpAnyH_take (i := 3) (oi := { dst := some 29, op := Op.load 3 (Operand.tmp 28), type := 3, pos := "opt.go:83", after := #[{ on := 2, ground := Ground.data }], guard := none }) (v := ?_) rfl (by kernel_rfl) (by kernel_rfl) (by kernel_rfl) (fun _ _ _ h => h) (Or.inl ⟨by rfl, ?_⟩) (by assumption) ?_
        rotate_left
        · intro y hSw
          obtain ⟨v1, v2, v3, v4, v5, v6⟩ := HeldG.reads hSw
          go_simp
          try with_reducible rfl
        try simp only [Act.put, List.setIfInBounds_toArray, List.set_cons_zero, List.set_cons_succ]
        -- 4: fieldAddr
        refine wpAnyH_take (i := 4) (oi := { dst := some 30, op := Op.fieldAddr 39 (Operand.tmp 4) 1, type := 0, pos := "opt.go:83", after := #[], guard := none }) (v := ?_) rfl (by kernel_rfl) (by kernel_rfl) (by kernel_rfl) (fun _ _ _ h => h) (Or.inl ⟨by rfl, ?_⟩) (by assumption) ?_
        rotate_left
        · intro y hSw
          obtain ⟨v1, v2, v3, v4, v5, v6⟩ := HeldG.reads hSw
          go_simp
          try with_reducible rfl
        try simp only [Act.put, List.setIfInBounds_toArray, List.set_cons_zero, List.set_cons_succ]
        -- 5: load
        refine wpAnyH_take (i := 5) (oi := { dst := some 31, op := Op.load 30 (Operand.tmp 30), type := 30, pos := "opt.go:83", after := #[{ on := 4, ground := Ground.data }], guard := none }) (v := ?_) rfl (by kernel_rfl) (by kernel_rfl) (by kernel_rfl) (fun _ _ _ h => h) (Or.inl ⟨by rfl, ?_⟩) (by assumption) ?_
        rotate_left
        · intro y hSw
          obtain ⟨v1, v2, v3, v4, v5, v6⟩ := HeldG.reads hSw
          go_simp
          try with_reducible rfl
        try simp only [Act.put, List.setIfInBounds_toArray, List.set_cons_zero, List.set_cons_succ]
        -- 6: fieldAddr
        refine wpAnyH_take (i := 6) (oi := { dst := some 32, op := Op.fieldAddr 39 (Operand.tmp 5) 1, type := 0, pos := "opt.go:83", after := #[], guard := none }) (v := ?_) rfl (by kernel_rfl) (by kernel_rfl) (by kernel_rfl) (fun _ _ _ h => h) (Or.inl ⟨by rfl, ?_⟩) (by assumption) ?_
        rotate_left
        · intro y hSw
          obtain ⟨v1, v2, v3, v4, v5, v6⟩ := HeldG.reads hSw
          go_simp
          try with_reducible rfl
        try simp only [Act.put, List.setIfInBounds_toArray, List.set_cons_zero, List.set_cons_succ]
        -- 7: load
        refine wpAnyH_take (i := 7) (oi := { dst := some 33, op := Op.load 30 (Operand.tmp 32), type := 30, pos := "opt.go:83", after := #[{ on := 6, ground := Ground.data }], guard := none }) (v := ?_) rfl (by kernel_rfl) (by kernel_rfl) (by kernel_rfl) (fun _ _ _ h => h) (Or.inl ⟨by rfl, ?_⟩) (by assumption) ?_
        rotate_left
        · intro y hSw
          obtain ⟨v1, v2, v3, v4, v5, v6⟩ := HeldG.reads hSw
          go_simp
          try with_reducible rfl
        try simp only [Act.put, List.setIfInBounds_toArray, List.set_cons_zero, List.set_cons_succ]
        -- 8: fieldAddr
        refine wpAnyH_take (i := 8) (oi := { dst := some 34, op := Op.fieldAddr 32 (Operand.tmp 3) 4, type := 0, pos := "opt.go:83", after := #[], guard := none }) (v := ?_) rfl (by kernel_rfl) (by kernel_rfl) (by kernel_rfl) (fun _ _ _ h => h) (Or.inl ⟨by rfl, ?_⟩) (by assumption) ?_
        rotate_left
        · intro y hSw
          obtain ⟨v1, v2, v3, v4, v5, v6⟩ := HeldG.reads hSw
          go_simp
          try with_reducible rfl
        try simp only [Act.put, List.setIfInBounds_toArray, List.set_cons_zero, List.set_cons_succ]
        -- 9: load
        refine wpAnyH_take (i := 9) (oi := { dst := some 35, op := Op.load 30 (Operand.tmp 34), type := 30, pos := "opt.go:83", after := #[{ on := 8, ground := Ground.data }], guard := none }) (v := ?_) rfl (by kernel_rfl) (by kernel_rfl) (by kernel_rfl) (fun _ _ _ h => h) (Or.inl ⟨by rfl, ?_⟩) (by assumption) ?_
        rotate_left
        · intro y hSw
          obtain ⟨v1, v2, v3, v4, v5, v6⟩ := HeldG.reads hSw
          go_simp
          try with_reducible rfl
        try simp only [Act.put, List.setIfInBounds_toArray, List.set_cons_zero, List.set_cons_succ]
        -- 11: fieldAddr
        refine wpAnyH_take (i := 11) (oi := { dst := some 37, op := Op.fieldAddr 32 (Operand.tmp 3) 5, type := 0, pos := "opt.go:83", after := #[], guard := none }) (v := ?_) rfl (by kernel_rfl) (by kernel_rfl) (by kernel_rfl) (fun _ _ _ h => h) (Or.inl ⟨by rfl, ?_⟩) (by assumption) ?_
        rotate_left
        · intro y hSw
          obtain ⟨v1, v2, v3, v4, v5, v6⟩ := HeldG.reads hSw
          go_simp
          try with_reducible rfl
        try simp only [Act.put, List.setIfInBounds_toArray, List.set_cons_zero, List.set_cons_succ]
        -- 12: load
        refine wpAnyH_take (i := 12) (oi := { dst := some 38, op := Op.load 3 (Operand.tmp 37), type := 3, pos := "opt.go:83", after := #[{ on := 11, ground := Ground.data }], guard := none }) (v := ?_) rfl (by kernel_rfl) (by kernel_rfl) (by kernel_rfl) (fun _ _ _ h => h) (Or.inl ⟨by rfl, ?_⟩) (by assumption) ?_
        rotate_left
        · intro y hSw
          obtain ⟨v1, v2, v3, v4, v5, v6⟩ := HeldG.reads hSw
          go_simp
          try with_reducible rfl
        try simp only [Act.put, List.setIfInBounds_toArray, List.set_cons_zero, List.set_cons_succ]
        -- 10: call
        refine wpAnyH_ready (rs := [10]) (by kernel_rfl) (by simp) ?_
        refine AllReadyH.cons (o := { dst := some 36, op := Op.call { callee := Callee.value (Operand.func 32), args := #[Operand.tmp 29, Operand.tmp 31, Operand.tmp 33, Operand.tmp 35], argTypes := #[3, 30, 30, 30] }, type := 30, pos := "opt.go:83", after := #[{ on := 3, ground := Ground.data }, { on := 5, ground := Ground.data }, { on := 7, ground := Ground.data }, { on := 9, ground := Ground.data }], guard := none }) rfl (fun K hK => ?_) AllReadyH.nil
        go_simp
        refine (cv.out _).mono ?_
        rintro r Y4 ⟨rfl, rfl⟩
        go_wp2_with fail
        refine hK.out _ _ hHeld (fun hHeld => ?_)
        clear hK K
        try simp only [Act.put, List.setIfInBounds_toArray, List.set_cons_zero, List.set_cons_succ]
        -- 13: build
        refine wpAnyH_take (i := 13) (oi := { dst := some 39, op := Op.build 32 #[(0, Operand.const (Value.int IntKind.i64 1)), (1, Operand.tmp 27), (4, Operand.tmp 36), (5, Operand.tmp 38)], type := 32, pos := "opt.go:83", after := #[{ on := 1, ground := Ground.data }, { on := 10, ground := Ground.data }, { on := 12, ground := Ground.data }], guard := none }) (v := ?_) rfl (by kernel_rfl) (by kernel_rfl) (by kernel_rfl) (fun _ _ _ h => h) (Or.inl ⟨by rfl, ?_⟩) (by assumption) ?_
        rotate_left
        · intro y hSw
          obtain ⟨v1, v2, v3, v4, v5, v6⟩ := HeldG.reads hSw
          go_simp
          try with_reducible rfl
        try simp only [Act.put, List.setIfInBounds_toArray, List.set_cons_zero, List.set_cons_succ]
        -- 14: store
        refine wpAnyH_ready (rs := [14]) (by kernel_rfl) (by simp) ?_
        refine AllReadyH.cons (o := { dst := none, op := Op.store 32 (Operand.tmp 6) (Operand.tmp 39), type := 0, pos := "opt.go:83", after := #[{ on := 13, ground := Ground.data }, { on := 10, ground := Ground.chain }, { on := 0, ground := Ground.phase }, { on := 1, ground := Ground.phase }, { on := 2, ground := Ground.phase }, { on := 3, ground := Ground.phase }, { on := 4, ground := Ground.phase }, { on := 5, ground := Ground.phase }, { on := 6, ground := Ground.phase }, { on := 7, ground := Ground.phase }, { on := 8, ground := Ground.phase }, { on := 9, ground := Ground.phase }, { on := 10, ground := Ground.phase }, { on := 11, ground := Ground.phase }, { on := 12, ground := Ground.phase }, { on := 13, ground := Ground.phase }], guard := none }) rfl (fun K hK => ?_) AllReadyH.nil
        go_simp
        refine hK.out _ _ (HeldG.far hHeld _) (fun hHeld => ?_)
        clear hK K
        try simp only [Act.put, List.setIfInBounds_toArray, List.set_cons_zero, List.set_cons_succ]
        refine wpAnyH_done (by kernel_rfl) ?_ _

        go_wp2
        have hll := hll.out
        refine bodyPost_ret (v := .agg (cellsM ⟨1, m.d, 0, 0, x, m.c⟩)) (by simp [results, Try.results18, go_sem, M0, *]) rfl ⟨?_, hd.out.drew⟩
        rw [hR.out]
    · replace hK := hide hK
      by_cases hA : a.isSome = true
      case' pos =>
        have hB : b.isSome = false := by
          have := hK.out
          cases hb : b.isSome
          · rfl
          · exact absurd ⟨hA, Or.inl hb⟩ this
        have hT : TB = true := by
          have := hK.out
          cases TB
          · exact absurd ⟨hA, Or.inr rfl⟩ this
          · rfl
        subst hT
        rw [hA] at x7
        rw [hB] at x9
        go_wp2_with fail
        refine (cB.out _).mono ?_
        rintro r Y2 ⟨rfl, rfl⟩
        go_wp2_with fail
        clear hB
      case' neg =>
        have hA' : a.isSome = false := by simpa using hA
        rw [hA'] at x7
        go_wp2_with fail
        clear hA'
      all_goals
        clear hA cB x1 x2 x3 x4 x5 x6 x7 x8 x9 x10 x11 x12 x13 x14 x15
        refine (cz1.out _).mono ?_
        rintro r Y2 ⟨rfl, hY2⟩
        have h2 := hide (h0.out.on hY2)
        clear hY2 h0 cz1
        obtain ⟨x1, x2, x3, x4, x5, x6, x7, x8, x9, x10, x11, x12, x13, x14, x15⟩ := h2.out.reads
        cases Z1
        case' false =>
          have hN : Hid (¬ (a = some 0 ∧ DA = true)) := hide (fun h => by have := hZ1.out; simp [h.1] at this)
          go_wp2_with fail
          clear cd1
        case' true =>
          go_wp2_with fail
          refine (cd1.out _).mono ?_
          rintro r Y4 ⟨rfl, rfl⟩
          cases DA
          case' true =>
            have hd1 := hide (h2.out.done (cellsM ⟨2, m.d, m.b, 0, 0, m.c⟩))
            go_wp2
            refine bodyPost_ret (v := .agg (cellsM ⟨2, m.d, m.b, 0, 0, m.c⟩)) (by simp [results, Try.results18, go_sem, M0, *]) rfl ⟨?_, hd1.out⟩
            rw [hR.out, if_neg hK.out, if_pos ⟨of_decide_eq_true hZ1.out, by simp⟩]
          have hN : Hid (¬ (a = some 0 ∧ (false : Bool) = true)) := hide (by simp)
          go_wp2_with fail
          clear cd1
        all_goals
          clear x1 x2 x3 x4 x5 x6 x7 x8 x9 x10 x11 x12 x13 x14 x15
          refine (cz2.out _).mono ?_
          rintro r Y3 ⟨rfl, hY3⟩
          have h3 := hide (h2.out.on hY3)
          obtain ⟨x1, x2, x3, x4, x5, x6, x7, x8, x9, x10, x11, x12, x13, x14, x15⟩ := h3.out.reads
          clear hY3 h2 cz2
          have hd1 := hide (h3.out.done (cellsM ⟨2, m.d, m.a, 0, 0, m.c⟩))
          have hd2 := hide (h3.out.done (cellsM m))
          clear h3
          cases Z2
          · go_wp2
            refine bodyPost_ret (v := .agg (cellsM m)) (by simp [results, Try.results18, go_sem, *]) rfl ⟨?_, hd2.out⟩
            rw [hR.out, if_neg hK.out, if_neg hN.out, if_neg (fun h => by have := hZ2.out; simp [h.1] at this)]
          · go_wp2_with fail
            refine (cd2.out _).mono ?_
            rintro r Y4 ⟨rfl, rfl⟩
            cases DB
            · go_wp2
              refine bodyPost_ret (v := .agg (cellsM m)) (by simp [results, Try.results18, go_sem, *]) rfl ⟨?_, hd2.out⟩
              rw [hR.out, if_neg hK.out, if_neg hN.out, if_neg (by simp)]
            · go_wp2
              refine bodyPost_ret (v := .agg (cellsM ⟨2, m.d, m.a, 0, 0, m.c⟩)) (by simp [results, Try.results18, go_sem, M0, *]) rfl ⟨?_, hd1.out⟩
              rw [hR.out, if_neg hK.out, if_neg hN.out, if_pos ⟨of_decide_eq_true hZ2.out, by simp⟩]

end Go.Proofs.Ytnbflahggpehpab.Ir
