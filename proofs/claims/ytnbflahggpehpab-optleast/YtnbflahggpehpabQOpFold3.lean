/- Layer 15: contract of what Fold makes of an operation. -/
import Derived.Test.YtnbflahggpehpabQOpFold2
import Derived.Test.YtnbflahggpehpabQOpLast
namespace Go.Proofs.Ytnbflahggpehpab.Ir
open Go.RowKit
set_option linter.unusedVariables false
set_option maxRecDepth 100000
set_option linter.unusedSimpArgs false

/-- The value of Fold's meaning. -/
def meanF (B : Nat) : Value := .func (.func 14) #[] #[.pointer (some ⟨B, 0, none⟩)]

/-- What is told of a world within Fold's statement. -/
def HeldT (w : World) (B C : Nat) (K : Nat → Option Int) (m : Mi) (y : World) : Prop := Box y w.heap.size (cellsM m) ∧ y.cell? ⟨C, 0, none⟩ = some (meanF B) ∧ Box y B (cellsK K)

theorem HeldT.on {w : World} {B C : Nat} {K : Nat → Option Int} {m : Mi} {y z : World} (h : HeldT w B C K m y) (hC : C < y.heap.size) (hb : Below y.heap.size y z) : HeldT w B C K m z :=
  ⟨h.1.on hb, (hb.cell (p := ⟨C, 0, none⟩) hC).trans h.2.1, h.2.2.on hb⟩

theorem HeldT.reads {w : World} {B C : Nat} {K : Nat → Option Int} {m : Mi} {y : World} (h : HeldT w B C K m y) : y.cell? ⟨w.heap.size, 2, none⟩ = some (.int .i64 m.a) ∧ y.cell? ⟨w.heap.size, 3, none⟩ = some (.int .i64 m.b) ∧ y.cell? ⟨w.heap.size, 4, none⟩ = some (.int .u32 m.m) ∧
    (loadCellsFrom ⟨w.heap.size, 0, none⟩ 0 N6 #[]).run Try.prog y = .ok (cellsM m) y ∧ y.cell? ⟨C, 0, none⟩ = some (meanF B) :=
  ⟨(h.1.cell 2).trans rfl, (h.1.cell 3).trans rfl, (h.1.cell 4).trans rfl, h.1.loads 0 N6 rfl rfl, h.2.1⟩

theorem HeldC.whole {w : World} {B : Nat} {c : Array Value} {m : Mi} {y : World} (h : HeldC w B c m y) (q : Mi) : HeldC w B c q (y.setRow w.heap.size (cellsM q)) :=
  ⟨h.1.far _ _ (by have := h.2.2.2.1; omega), h.2.1.set _, h.2.2.1.far _ _ (by omega), h.2.2.2.1, grown_row h.2.2.2.2 (Or.inr (Nat.le_refl _)) _⟩

theorem HeldC.drew {w : World} {B : Nat} {c : Array Value} {m : Mi} {y : World} (h : HeldC w B c m y) : HeldC w B c m y.drew :=
  ⟨h.1, h.2.1, h.2.2.1, h.2.2.2.1, ⟨h.2.2.2.2.os, h.2.2.2.2.tape, h.2.2.2.2.output, h.2.2.2.2.size, h.2.2.2.2.block⟩⟩

theorem putK_twice (K : Nat → Option Int) (D : Nat) (a b : Option Int) : putK (putK K D a) D b = putK K D b := by
  funext j
  unfold putK
  by_cases h : j = D
  · rw [if_pos h, if_pos h]
  · rw [if_neg h, if_neg h, if_neg h]

theorem mnK_w {K : Nat → Option Int} {n imm : Int} (hK : ∀ n, Cp.W32 ((K n).getD 0)) (hm : Cp.W32 imm) : Cp.W32 ((mnK K n imm).getD 0) := by
  unfold mnK
  split
  · exact hm
  · split
    · exact hK _
    · exact Cp.w0

set_option maxHeartbeats 4000000 in
theorem fold1_any (K : Nat → Option Int) (m : Mi) (B C : Nat) (w : World) (hB : Box w B (cellsK K)) (hC : w.cell? ⟨C, 0, none⟩ = some (meanF B)) (hK : ∀ n, Cp.W32 ((K n).getD 0)) (hm : Cp.W32 m.m) :
    Calls Try.prog 17 #[.agg (cellsM m), .pointer (some ⟨C, 0, none⟩), .pointer (some ⟨B, 0, none⟩)] w fun e w' => e = .returned (.agg (cellsM (fdF K m))) ∧ Box w' B (cellsK (fdK K (fdF K m))) ∧ w.grownBy w' (some B) := by
  obtain ⟨r1, r2, r3, r4, r5, r6, r7, r8, r9⟩ := rowRules
  obtain ⟨s1, s2, s3, s4, s5, s6, s7, s8, s9, s10⟩ := irSizes
  obtain ⟨q1, q2, q3, q4, q5, q6⟩ := irWhole
  obtain ⟨p1, p2, p3, p4, p5, p6, p7⟩ := irParts
  obtain ⟨z1, z2, z3, z4, z5, z6, z7, z8, z9, z10, z11, z12, z13, z14, z15, z16⟩ := opSizesK
  obtain ⟨n1, n2, n3, n4, n5⟩ := numSets
  obtain ⟨k1, k2⟩ := rowSets
  have h0 := hide (HeldC.new w B (cellsK K) m hB)
  have hCw : C < w.heap.size := World.block_lt_of_cell? w ⟨C, 0, none⟩ hC
  have g0 := onto (grow w (.cells (cellsM m) 32)) (Nat.le_refl _) (grow _ (.cells (cellsM M0) 32))
  have hHeld : HeldT w B C K m ((w.alloc (.cells (cellsM m) 32)).alloc (.cells (cellsM M0) 32)) := ⟨h0.out.2.1, (g0.cell (p := ⟨C, 0, none⟩) hCw).trans hC, h0.out.1⟩
  have cm := hide (fun n y hy => mean1_any K n m.m B y hy)
  have cf := hide (folded_any m _ _ (mnK_w hK hm (n := m.a)) (mnK_w hK hm (n := m.b)))
  obtain ⟨R, hR⟩ : ∃ R, R = fdF K m := ⟨_, rfl⟩
  rw [← hR]
  rw [show fdM m (mnK K m.a m.m) (mnK K m.b m.m) = R from hR.symm] at cf
  obtain ⟨K2, hK2⟩ : ∃ K2, K2 = fdK K R := ⟨_, rfl⟩
  rw [← hK2]
  replace hK2 := hide hK2
  have cw := hide (owrites_any R)
  clear hR hC hK hm g0
  go_enter Try.func17, Try.ntmps17
  go_wp2_with fail
  generalize World.alloc (World.alloc w _) _ = Y0 at *
  have h1 := hide h0.out.drew
  have hC1 : C < Y0.drew.heap.size := by have := h0.out.2.2.2.2.size; show C < Y0.heap.size; omega
  clear h0
  refine region_last 14 (HeldT w B C K m) (by kernel_rfl) (by exact hHeld) (fun hHeld => ?_)
  -- 0: load
  refine AnyL.take (i := 0) (oi := { dst := some 5, op := Op.load 32 (Operand.tmp 3), type := 32, pos := "opt.go:66", after := #[], guard := none }) (v := ?_) rfl (by kernel_rfl) (by kernel_rfl) (by kernel_rfl) (by kernel_rfl) (fun _ _ _ h => h) (Or.inl ⟨by rfl, ?_⟩) (by assumption) ?_
  rotate_left
  · intro y hSw
    obtain ⟨v1, v2, v3, v4, v5⟩ := HeldT.reads hSw
    go_simp
    try with_reducible rfl
  try simp only [Act.put, List.setIfInBounds_toArray, List.set_cons_zero, List.set_cons_succ]
  -- 1: load
  refine AnyL.take (i := 1) (oi := { dst := some 6, op := Op.load 42 (Operand.tmp 1), type := 42, pos := "opt.go:66", after := #[], guard := none }) (v := ?_) rfl (by kernel_rfl) (by kernel_rfl) (by kernel_rfl) (by kernel_rfl) (fun _ _ _ h => h) (Or.inl ⟨by rfl, ?_⟩) (by assumption) ?_
  rotate_left
  · intro y hSw
    obtain ⟨v1, v2, v3, v4, v5⟩ := HeldT.reads hSw
    go_simp
    try with_reducible rfl
  try simp only [Act.put, List.setIfInBounds_toArray, List.set_cons_zero, List.set_cons_succ]
  -- 2: fieldAddr
  refine AnyL.take (i := 2) (oi := { dst := some 7, op := Op.fieldAddr 32 (Operand.tmp 3) 2, type := 0, pos := "opt.go:66", after := #[], guard := none }) (v := ?_) rfl (by kernel_rfl) (by kernel_rfl) (by kernel_rfl) (by kernel_rfl) (fun _ _ _ h => h) (Or.inl ⟨by rfl, ?_⟩) (by assumption) ?_
  rotate_left
  · intro y hSw
    obtain ⟨v1, v2, v3, v4, v5⟩ := HeldT.reads hSw
    go_simp
    try with_reducible rfl
  try simp only [Act.put, List.setIfInBounds_toArray, List.set_cons_zero, List.set_cons_succ]
  -- 3: load
  refine AnyL.take (i := 3) (oi := { dst := some 8, op := Op.load 3 (Operand.tmp 7), type := 3, pos := "opt.go:66", after := #[{ on := 2, ground := Ground.data }], guard := none }) (v := ?_) rfl (by kernel_rfl) (by kernel_rfl) (by kernel_rfl) (by kernel_rfl) (fun _ _ _ h => h) (Or.inl ⟨by rfl, ?_⟩) (by assumption) ?_
  rotate_left
  · intro y hSw
    obtain ⟨v1, v2, v3, v4, v5⟩ := HeldT.reads hSw
    go_simp
    try with_reducible rfl
  try simp only [Act.put, List.setIfInBounds_toArray, List.set_cons_zero, List.set_cons_succ]
  -- 4: fieldAddr
  refine AnyL.take (i := 4) (oi := { dst := some 9, op := Op.fieldAddr 32 (Operand.tmp 3) 4, type := 0, pos := "opt.go:66", after := #[], guard := none }) (v := ?_) rfl (by kernel_rfl) (by kernel_rfl) (by kernel_rfl) (by kernel_rfl) (fun _ _ _ h => h) (Or.inl ⟨by rfl, ?_⟩) (by assumption) ?_
  rotate_left
  · intro y hSw
    obtain ⟨v1, v2, v3, v4, v5⟩ := HeldT.reads hSw
    go_simp
    try with_reducible rfl
  try simp only [Act.put, List.setIfInBounds_toArray, List.set_cons_zero, List.set_cons_succ]
  -- 5: load
  refine AnyL.take (i := 5) (oi := { dst := some 10, op := Op.load 30 (Operand.tmp 9), type := 30, pos := "opt.go:66", after := #[{ on := 4, ground := Ground.data }], guard := none }) (v := ?_) rfl (by kernel_rfl) (by kernel_rfl) (by kernel_rfl) (by kernel_rfl) (fun _ _ _ h => h) (Or.inl ⟨by rfl, ?_⟩) (by assumption) ?_
  rotate_left
  · intro y hSw
    obtain ⟨v1, v2, v3, v4, v5⟩ := HeldT.reads hSw
    go_simp
    try with_reducible rfl
  try simp only [Act.put, List.setIfInBounds_toArray, List.set_cons_zero, List.set_cons_succ]
  -- 7: load
  refine AnyL.take (i := 7) (oi := { dst := some 12, op := Op.load 42 (Operand.tmp 1), type := 42, pos := "opt.go:66", after := #[], guard := none }) (v := ?_) rfl (by kernel_rfl) (by kernel_rfl) (by kernel_rfl) (by kernel_rfl) (fun _ _ _ h => h) (Or.inl ⟨by rfl, ?_⟩) (by assumption) ?_
  rotate_left
  · intro y hSw
    obtain ⟨v1, v2, v3, v4, v5⟩ := HeldT.reads hSw
    go_simp
    try with_reducible rfl
  try simp only [Act.put, List.setIfInBounds_toArray, List.set_cons_zero, List.set_cons_succ]
  -- 8: fieldAddr
  refine AnyL.take (i := 8) (oi := { dst := some 13, op := Op.fieldAddr 32 (Operand.tmp 3) 3, type := 0, pos := "opt.go:66", after := #[], guard := none }) (v := ?_) rfl (by kernel_rfl) (by kernel_rfl) (by kernel_rfl) (by kernel_rfl) (fun _ _ _ h => h) (Or.inl ⟨by rfl, ?_⟩) (by assumption) ?_
  rotate_left
  · intro y hSw
    obtain ⟨v1, v2, v3, v4, v5⟩ := HeldT.reads hSw
    go_simp
    try with_reducible rfl
  try simp only [Act.put, List.setIfInBounds_toArray, List.set_cons_zero, List.set_cons_succ]
  -- 9: load
  refine AnyL.take (i := 9) (oi := { dst := some 14, op := Op.load 3 (Operand.tmp 13), type := 3, pos := "opt.go:66", after := #[{ on := 8, ground := Ground.data }], guard := none }) (v := ?_) rfl (by kernel_rfl) (by kernel_rfl) (by kernel_rfl) (by kernel_rfl) (fun _ _ _ h => h) (Or.inl ⟨by rfl, ?_⟩) (by assumption) ?_
  rotate_left
  · intro y hSw
    obtain ⟨v1, v2, v3, v4, v5⟩ := HeldT.reads hSw
    go_simp
    try with_reducible rfl
  try simp only [Act.put, List.setIfInBounds_toArray, List.set_cons_zero, List.set_cons_succ]
  -- 10: fieldAddr
  refine AnyL.take (i := 10) (oi := { dst := some 15, op := Op.fieldAddr 32 (Operand.tmp 3) 4, type := 0, pos := "opt.go:66", after := #[], guard := none }) (v := ?_) rfl (by kernel_rfl) (by kernel_rfl) (by kernel_rfl) (by kernel_rfl) (fun _ _ _ h => h) (Or.inl ⟨by rfl, ?_⟩) (by assumption) ?_
  rotate_left
  · intro y hSw
    obtain ⟨v1, v2, v3, v4, v5⟩ := HeldT.reads hSw
    go_simp
    try with_reducible rfl
  try simp only [Act.put, List.setIfInBounds_toArray, List.set_cons_zero, List.set_cons_succ]
  -- 11: load
  refine AnyL.take (i := 11) (oi := { dst := some 16, op := Op.load 30 (Operand.tmp 15), type := 30, pos := "opt.go:66", after := #[{ on := 10, ground := Ground.data }], guard := none }) (v := ?_) rfl (by kernel_rfl) (by kernel_rfl) (by kernel_rfl) (by kernel_rfl) (fun _ _ _ h => h) (Or.inl ⟨by rfl, ?_⟩) (by assumption) ?_
  rotate_left
  · intro y hSw
    obtain ⟨v1, v2, v3, v4, v5⟩ := HeldT.reads hSw
    go_simp
    try with_reducible rfl
  try simp only [Act.put, List.setIfInBounds_toArray, List.set_cons_zero, List.set_cons_succ]
  -- 6: call
  refine AnyL.one (i := 6) (o := { dst := some 11, op := Op.call { callee := Callee.value (Operand.tmp 6), args := #[Operand.tmp 8, Operand.tmp 10], argTypes := #[3, 30] }, type := 39, pos := "opt.go:66", after := #[{ on := 1, ground := Ground.data }, { on := 3, ground := Ground.data }, { on := 5, ground := Ground.data }], guard := none }) (by kernel_rfl) rfl (fun KK hKK => ?_)
  unfold meanF at *
  go_simp
  refine (cm.out m.a _ hHeld.2.2).mono ?_
  rintro r Y2 ⟨rfl, hY2⟩
  have h2 := hide (h1.out.on hY2)
  have hC2 : C < Y2.heap.size := by have := hY2.size; omega
  clear h1
  go_wp2_with fail
  replace hHeld : HeldT w B C K m _ := hHeld.on hC1 hY2
  clear hY2
  refine hKK.out _ _ (Or.inr hHeld) ?_
  clear hKK KK
  try simp only [Act.put, List.setIfInBounds_toArray, List.set_cons_zero, List.set_cons_succ]
  -- 12: call
  refine AnyL.one (i := 12) (o := { dst := some 17, op := Op.call { callee := Callee.value (Operand.tmp 12), args := #[Operand.tmp 14, Operand.tmp 16], argTypes := #[3, 30] }, type := 39, pos := "opt.go:66", after := #[{ on := 7, ground := Ground.data }, { on := 9, ground := Ground.data }, { on := 11, ground := Ground.data }, { on := 6, ground := Ground.chain }], guard := none }) (by kernel_rfl) rfl (fun KK hKK => ?_)
  go_simp
  refine (cm.out m.b _ hHeld.2.2).mono ?_
  rintro r Y3 ⟨rfl, hY3⟩
  have h3 := hide (h2.out.on hY3)
  have hC3 : C < Y3.heap.size := by have := hY3.size; omega
  clear h2
  go_wp2_with fail
  replace hHeld : HeldT w B C K m _ := hHeld.on hC2 hY3
  clear hY3
  refine hKK.out _ _ (Or.inr hHeld) ?_
  clear hKK KK
  try simp only [Act.put, List.setIfInBounds_toArray, List.set_cons_zero, List.set_cons_succ]
  -- 13: call
  refine AnyL.one (i := 13) (o := { dst := some 18, op := Op.call { callee := Callee.value (Operand.func 18), args := #[Operand.tmp 5, Operand.tmp 11, Operand.tmp 17], argTypes := #[32, 39, 39] }, type := 32, pos := "opt.go:66", after := #[{ on := 0, ground := Ground.data }, { on := 6, ground := Ground.data }, { on := 12, ground := Ground.data }, { on := 12, ground := Ground.chain }], guard := none }) (by kernel_rfl) rfl (fun KK hKK => ?_)
  go_simp
  refine (cf.out _).mono ?_
  rintro r Y4 ⟨rfl, hY4⟩
  have h4 := hide (h3.out.on hY4)
  clear h3
  go_wp2_with fail
  replace hHeld : HeldT w B C K m _ := hHeld.on hC3 hY4
  clear hY4
  obtain ⟨b1, b2, b3⟩ := h4.out.2.1
  have h5 := hide (h4.out.whole R)
  refine hKK.out _ _ (Or.inr hHeld) ?_
  clear hKK KK
  try simp only [Act.put, List.setIfInBounds_toArray, List.set_cons_zero, List.set_cons_succ]
  -- 14: store
  refine AnyL.one (i := 14) (o := { dst := none, op := Op.store 32 (Operand.tmp 3) (Operand.tmp 18), type := 0, pos := "opt.go:66", after := #[{ on := 13, ground := Ground.data }, { on := 13, ground := Ground.chain }, { on := 0, ground := Ground.phase }, { on := 1, ground := Ground.phase }, { on := 2, ground := Ground.phase }, { on := 3, ground := Ground.phase }, { on := 4, ground := Ground.phase }, { on := 5, ground := Ground.phase }, { on := 6, ground := Ground.phase }, { on := 7, ground := Ground.phase }, { on := 8, ground := Ground.phase }, { on := 9, ground := Ground.phase }, { on := 10, ground := Ground.phase }, { on := 11, ground := Ground.phase }, { on := 12, ground := Ground.phase }, { on := 13, ground := Ground.phase }], guard := none }) (by kernel_rfl) rfl (fun KK hKK => ?_)
  go_simp
  refine hKK.out _ _ (Or.inl rfl) ?_
  clear hKK KK
  try simp only [Act.put, List.setIfInBounds_toArray, List.set_cons_zero, List.set_cons_succ]
  refine AnyL.done (by kernel_rfl) ?_ _

  clear b1 b2 b3 h4 hHeld cm cf
  have l5 := h5.out.2.1.loads 0 N6 (q1 _) (q2 _)
  go_wp2_with fail
  generalize World.setRow Y4 _ _ = Y5 at *
  refine (cw.out _).mono ?_
  rintro r Y6 ⟨rfl, hY6⟩
  have h6 := hide (h5.out.on hY6)
  clear h5 hY6 l5
  have l6 := h6.out.2.1.loads 0 N6 (q1 _) (q2 _)
  by_cases hW : wrB R = true
  · obtain ⟨D, hD, hD32⟩ : ∃ D : Nat, R.d = (D : Int) ∧ D < 32 := ⟨R.d.toNat, by simp [wrB] at hW; omega, by simp [wrB] at hW; omega⟩
    have x1 : Y6.cell? ⟨w.heap.size, 1, none⟩ = some (.int .i64 (D : Int)) := by rw [← hD]; exact (h6.out.2.1.cell 1).trans (p2 R)
    obtain ⟨b1, b2, b3⟩ := h6.out.1
    have f1 : fitsP (cellsK K) (D * N2) N2 = true := z12 K D hD32
    have f2 : placed (cellsK K) (D * N2) (cellsN none) = cellsK (putK K D none) := z14 K D hD32 none
    have h7 := hide (h6.out.note (cellsK (putK K D none)))
    have l7 := h7.out.2.1.loads 0 N6 (q1 _) (q2 _)
    rw [hW] at cw ⊢
    clear h6
    go_wp2_with fail
    generalize World.setRow Y6 _ _ = Y7 at *
    clear x1 b1 b2 b3 f1 f2 l6
    refine (cw.out _).mono ?_
    rintro r Y8 ⟨rfl, hY8⟩
    have h8 := hide (h7.out.on hY8)
    clear h7 hY8 l7 cw
    have l8 := h8.out.2.1.loads 0 N6 (q1 _) (q2 _)
    have x0 : Y8.cell? ⟨w.heap.size, 0, none⟩ = some (.int .i64 R.k) := (h8.out.2.1.cell 0).trans (p1 R)
    have x1 : Y8.cell? ⟨w.heap.size, 1, none⟩ = some (.int .i64 (D : Int)) := by rw [← hD]; exact (h8.out.2.1.cell 1).trans (p2 R)
    have x4 : Y8.cell? ⟨w.heap.size, 4, none⟩ = some (.int .u32 R.m) := (h8.out.2.1.cell 4).trans (p5 R)
    by_cases hk : R.k = 1
    · have e1 : (R.k == 1) = true := by simpa using hk
      have eK : K2 = putK K D (some R.m) := by rw [hK2.out, fdK, hW, hD, hk]; rfl
      obtain ⟨b1, b2, b3⟩ := h8.out.1
      have f1 : fitsP (cellsK (putK K D none)) (D * N2) N2 = true := z12 _ D hD32
      replace eK : Hid (K2 = putK (putK K D none) D (some R.m)) := hide (by rw [eK, putK_twice])
      have h9 := h8.out.note (cellsK (putK (putK K D none) D (some R.m)))
      have l9 := h9.2.1.loads 0 N6 (q1 _) (q2 _)
      obtain ⟨d1, d2, d3⟩ := h8.out.2.2.1
      have nB : ¬ w.heap.size + 1 = B := by have := h9.2.2.2.1; omega
      have h10 := hide (h9.done (cellsM R))
      clear h8 h9 hK2 hk hD hW
      go_wp2
      refine bodyPost_ret (v := .agg (cellsM R)) (by simp [results, Try.results17, go_sem, *]) rfl ⟨rfl, ?_⟩
      rw [eK.out]
      exact h10.out
    · have e1 : (R.k == 1) = false := by simpa using hk
      have eK : K2 = putK K D none := by rw [hK2.out, fdK, hW, hD, if_neg hk]; rfl
      rw [← eK] at h8
      obtain ⟨d1, d2, d3⟩ := h8.out.2.2.1
      have h10 := hide (h8.out.done (cellsM R))
      clear h8 hK2 eK hk hD hW
      go_wp2
      refine bodyPost_ret (v := .agg (cellsM R)) (by simp [results, Try.results17, go_sem, *]) rfl ⟨rfl, ?_⟩
      exact h10.out
  · have hW' : wrB R = false := by simpa using hW
    have eK : K2 = K := by rw [hK2.out, fdK, hW']; rfl
    subst eK
    rw [hW'] at cw ⊢
    clear hW hK2
    go_wp2_with fail
    refine (cw.out _).mono ?_
    rintro r Y8 ⟨rfl, hY8⟩
    have h8 := hide (h6.out.on hY8)
    clear h6 hY8 l6 cw
    have l8 := h8.out.2.1.loads 0 N6 (q1 _) (q2 _)
    obtain ⟨d1, d2, d3⟩ := h8.out.2.2.1
    have h10 := hide (h8.out.done (cellsM R))
    clear h8
    go_wp2
    refine bodyPost_ret (v := .agg (cellsM R)) (by simp [results, Try.results17, go_sem, *]) rfl ⟨rfl, ?_⟩
    exact h10.out

end Go.Proofs.Ytnbflahggpehpab.Ir
