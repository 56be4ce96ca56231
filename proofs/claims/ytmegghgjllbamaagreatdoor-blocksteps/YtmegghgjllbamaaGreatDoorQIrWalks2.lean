/- Layer 14: contracts of behind, isSound. -/
import Derived.Test.YtmegghgjllbamaaGreatDoorQIrWalks
namespace Go.Proofs.YtmegghgjllbamaaGreatDoor.Ir
open Go.RowKit
set_option linter.unusedVariables false
set_option maxRecDepth 100000
set_option linter.unusedSimpArgs false

theorem meanO_w {n imm : Int} {R : Nat → Int} (hm : Cp.W32 imm) (hR : ∀ k, Cp.W32 (R k)) : Cp.W32 (meanO n imm R) := by
  unfold meanO
  exact w_ite hm (w_ite (hR _) Cp.w0)

theorem putR_w {R : Nat → Int} (hR : ∀ k, Cp.W32 (R k)) {v : Int} (hv : Cp.W32 v) (k : Nat) : ∀ j, Cp.W32 (putR R k v j) := fun j => w_ite hv (hR j)

theorem behV_w {m : Mi} {R : Nat → Int} (hm : Cp.W32 m.m) (hR : ∀ k, Cp.W32 (R k)) : ∀ k, Cp.W32 (behV m R k) := by
  unfold behV
  split
  · exact putR_w hR (valV_w _ _ _ _ (meanO_w hm hR) (meanO_w hm hR) hm) _
  · exact hR

/-- What is held in behind's region. -/
def HeldH (w : World) (m : Mi) (R : Nat → Int) (y : World) : Prop :=
  Box y w.heap.size (cellsM m) ∧ Box y (w.heap.size + 1) (cellsX R) ∧ Box y (w.heap.size + 2) (cellsX X0) ∧ Below w.heap.size w y

theorem HeldH.on {w : World} {m : Mi} {R : Nat → Int} {y z : World} (h : HeldH w m R y) (hb : Below y.heap.size y z) : HeldH w m R z :=
  ⟨h.1.on hb, h.2.1.on hb, h.2.2.1.on hb, onto h.2.2.2 (Nat.le_refl _) hb⟩

theorem HeldH.new (w : World) (m : Mi) (R : Nat → Int) : HeldH w m R (((w.alloc (.cells (cellsM m) 66)).alloc (.cells (cellsX R) 24)).alloc (.cells (cellsX X0) 24)) := by
  have a := Box.new w (cellsM m) 66
  have b := Box.new (w.alloc (.cells (cellsM m) 66)) (cellsX R) 24
  have c := Box.new ((w.alloc (.cells (cellsM m) 66)).alloc (.cells (cellsX R) 24)) (cellsX X0) 24
  simp only [World.size_alloc] at b c
  exact ⟨(a.on (grow _ _)).on (grow _ _), b.on (grow _ _), c, onto (onto (grow _ _) (Nat.le_refl _) (grow _ _)) (Nat.le_refl _) (grow _ _)⟩

/-- What is told of it. -/
theorem HeldH.told {w : World} {m : Mi} {R : Nat → Int} {y : World} (h : HeldH w m R y) :
    y.cell? ⟨w.heap.size, 0, none⟩ = some (.int .i64 m.k) ∧ y.cell? ⟨w.heap.size, 1, none⟩ = some (.int .i64 m.d) ∧ y.cell? ⟨w.heap.size, 2, none⟩ = some (.int .i64 m.a) ∧
    y.cell? ⟨w.heap.size, 3, none⟩ = some (.int .i64 m.b) ∧ y.cell? ⟨w.heap.size, 4, none⟩ = some (.int .u32 m.m) ∧ (loadCellsFrom ⟨w.heap.size, 0, none⟩ 0 N6 #[]).run Tryz.prog y = .ok (cellsM m) y ∧
    (loadCellsFrom ⟨w.heap.size + 1, 0, none⟩ 0 N32 #[]).run Tryz.prog y = .ok (cellsX R) y ∧ HeldH w m R y := by
  obtain ⟨p1, p2, p3, p4, p5, p6, p7⟩ := irParts
  obtain ⟨q1, q2, q3, q4, q5, q6⟩ := irWhole
  refine ⟨?_, ?_, ?_, ?_, ?_, h.1.loads 0 N6 (q1 _) (q2 _), h.2.1.loads 0 N32 (q4 _) (q5 _), h⟩
  · rw [h.1.cell]; exact p1 _
  · rw [h.1.cell]; exact p2 _
  · rw [h.1.cell]; exact p3 _
  · rw [h.1.cell]; exact p4 _
  · rw [h.1.cell]; exact p5 _

theorem HeldH.put {w : World} {m : Mi} {R : Nat → Int} {y : World} (h : HeldH w m R y) (Q : Nat → Int) : HeldH w m Q (y.setRow (w.heap.size + 1) (cellsX Q)) :=
  ⟨h.1.far _ _ (by omega), h.2.1.set _, h.2.2.1.far _ _ (by omega), below_setRow h.2.2.2 (by omega) _⟩

set_option maxHeartbeats 4000000 in
theorem behind_any (m : Mi) (R : Nat → Int) (hm : Cp.W32 m.m) (hR : ∀ k, Cp.W32 (R k)) (w : World) :
    Calls Tryz.prog 20 #[.agg (cellsM m), .agg (cellsX R)] w fun e w' => e = .returned (.agg (cellsX (behV m R))) ∧ Below w.heap.size w w' := by
  obtain ⟨r1, r2, r3, r4, r5, r6, r7, r8, r9⟩ := rowRules
  obtain ⟨s1, s2, s3, s4, s5, s6, s7, s8, s9, s10⟩ := irSizes
  obtain ⟨q1, q2, q3, q4, q5, q6⟩ := irWhole
  obtain ⟨k1, k2⟩ := rowSets
  have cw := hide (writes_any m)
  have c1 := hide (meaning_any m.a m.m R)
  have c2 := hide (meaning_any m.b m.m R)
  have c3 := hide (value_any m.k _ _ m.m (meanO_w (n := m.a) hm hR) (meanO_w (n := m.b) hm hR))
  have H0 := HeldH.new w m R
  unfold behV
  generalize meanO m.a m.m R = A at *
  generalize meanO m.b m.m R = B at *
  generalize valV m.k A B m.m = V at *
  by_cases h : wrB m = true
  · rw [if_pos h]
    rw [h] at cw
    obtain ⟨d, hd, hd32⟩ : ∃ d : Nat, m.d = (d : Int) ∧ d < 32 := ⟨m.d.toNat, by simp [wrB] at h; omega, by simp [wrB] at h; omega⟩
    have hsx := hide (set_X R d hd32 V)
    obtain ⟨mk, md, ma, mb, mm, mc⟩ := m
    simp only at hd
    subst hd
    simp only [Int.toNat_natCast]
    have hdI : (d : Int) < 32 := by omega
    clear h hm hR
    go_enter Tryz.func20, Tryz.ntmps20
    go_wp2_with fail
    refine (cw.out _).mono ?_
    rintro e w1 ⟨rfl, h1⟩
    have hH := hide ((H0.on h1).on (Below.refl _ _).drew)
    clear cw H0 h1
    go_wp2_with fail
    refine wp_region_held_drew (S := fun y => Box y w.heap.size (cellsM ⟨mk, (d : Int), ma, mb, mm, mc⟩)) (by kernel_rfl) hH.out.1 (fun hHeld => ?_)
    refine wpAnyH_take (i := 0) (v := ?_) rfl (by kernel_rfl) (by kernel_rfl) (by kernel_rfl) (fun _ _ _ h => h) (Or.inl ⟨by rfl, ?_⟩) (by assumption) ?_
    rotate_left
    · intro y hSw
      have l0 : y.cell? ⟨w.heap.size, 0, none⟩ = some (.int .i64 mk) := hSw.cell 0; have l1 : y.cell? ⟨w.heap.size, 1, none⟩ = some (.int .i64 (d : Int)) := hSw.cell 1; have l2 : y.cell? ⟨w.heap.size, 2, none⟩ = some (.int .i64 ma) := hSw.cell 2; have l3 : y.cell? ⟨w.heap.size, 3, none⟩ = some (.int .i64 mb) := hSw.cell 3; have l4 : y.cell? ⟨w.heap.size, 4, none⟩ = some (.int .u32 mm) := hSw.cell 4
      go_simp
      try with_reducible rfl
    try simp only [Act.put, List.setIfInBounds_toArray, List.set_cons_zero, List.set_cons_succ]
    refine wpAnyH_take (i := 1) (v := ?_) rfl (by kernel_rfl) (by kernel_rfl) (by kernel_rfl) (fun _ _ _ h => h) (Or.inl ⟨by rfl, ?_⟩) (by assumption) ?_
    rotate_left
    · intro y hSw
      have l0 : y.cell? ⟨w.heap.size, 0, none⟩ = some (.int .i64 mk) := hSw.cell 0; have l1 : y.cell? ⟨w.heap.size, 1, none⟩ = some (.int .i64 (d : Int)) := hSw.cell 1; have l2 : y.cell? ⟨w.heap.size, 2, none⟩ = some (.int .i64 ma) := hSw.cell 2; have l3 : y.cell? ⟨w.heap.size, 3, none⟩ = some (.int .i64 mb) := hSw.cell 3; have l4 : y.cell? ⟨w.heap.size, 4, none⟩ = some (.int .u32 mm) := hSw.cell 4
      go_simp
      try with_reducible rfl
    try simp only [Act.put, List.setIfInBounds_toArray, List.set_cons_zero, List.set_cons_succ]
    refine wpAnyH_take (i := 2) (v := ?_) rfl (by kernel_rfl) (by kernel_rfl) (by kernel_rfl) (fun _ _ _ h => h) (Or.inl ⟨by rfl, ?_⟩) (by assumption) ?_
    rotate_left
    · intro y hSw
      have l0 : y.cell? ⟨w.heap.size, 0, none⟩ = some (.int .i64 mk) := hSw.cell 0; have l1 : y.cell? ⟨w.heap.size, 1, none⟩ = some (.int .i64 (d : Int)) := hSw.cell 1; have l2 : y.cell? ⟨w.heap.size, 2, none⟩ = some (.int .i64 ma) := hSw.cell 2; have l3 : y.cell? ⟨w.heap.size, 3, none⟩ = some (.int .i64 mb) := hSw.cell 3; have l4 : y.cell? ⟨w.heap.size, 4, none⟩ = some (.int .u32 mm) := hSw.cell 4
      go_simp
      try with_reducible rfl
    try simp only [Act.put, List.setIfInBounds_toArray, List.set_cons_zero, List.set_cons_succ]
    refine wpAnyH_take (i := 3) (v := ?_) rfl (by kernel_rfl) (by kernel_rfl) (by kernel_rfl) (fun _ _ _ h => h) (Or.inl ⟨by rfl, ?_⟩) (by assumption) ?_
    rotate_left
    · intro y hSw
      have l0 : y.cell? ⟨w.heap.size, 0, none⟩ = some (.int .i64 mk) := hSw.cell 0; have l1 : y.cell? ⟨w.heap.size, 1, none⟩ = some (.int .i64 (d : Int)) := hSw.cell 1; have l2 : y.cell? ⟨w.heap.size, 2, none⟩ = some (.int .i64 ma) := hSw.cell 2; have l3 : y.cell? ⟨w.heap.size, 3, none⟩ = some (.int .i64 mb) := hSw.cell 3; have l4 : y.cell? ⟨w.heap.size, 4, none⟩ = some (.int .u32 mm) := hSw.cell 4
      go_simp
      try with_reducible rfl
    try simp only [Act.put, List.setIfInBounds_toArray, List.set_cons_zero, List.set_cons_succ]
    refine wpAnyH_take (i := 4) (v := ?_) rfl (by kernel_rfl) (by kernel_rfl) (by kernel_rfl) (fun _ _ _ h => h) (Or.inl ⟨by rfl, ?_⟩) (by assumption) ?_
    rotate_left
    · intro y hSw
      have l0 : y.cell? ⟨w.heap.size, 0, none⟩ = some (.int .i64 mk) := hSw.cell 0; have l1 : y.cell? ⟨w.heap.size, 1, none⟩ = some (.int .i64 (d : Int)) := hSw.cell 1; have l2 : y.cell? ⟨w.heap.size, 2, none⟩ = some (.int .i64 ma) := hSw.cell 2; have l3 : y.cell? ⟨w.heap.size, 3, none⟩ = some (.int .i64 mb) := hSw.cell 3; have l4 : y.cell? ⟨w.heap.size, 4, none⟩ = some (.int .u32 mm) := hSw.cell 4
      go_simp
      try with_reducible rfl
    try simp only [Act.put, List.setIfInBounds_toArray, List.set_cons_zero, List.set_cons_succ]
    refine wpAnyH_take (i := 5) (v := ?_) rfl (by kernel_rfl) (by kernel_rfl) (by kernel_rfl) (fun _ _ _ h => h) (Or.inl ⟨by rfl, ?_⟩) (by assumption) ?_
    rotate_left
    · intro y hSw
      have l0 : y.cell? ⟨w.heap.size, 0, none⟩ = some (.int .i64 mk) := hSw.cell 0; have l1 : y.cell? ⟨w.heap.size, 1, none⟩ = some (.int .i64 (d : Int)) := hSw.cell 1; have l2 : y.cell? ⟨w.heap.size, 2, none⟩ = some (.int .i64 ma) := hSw.cell 2; have l3 : y.cell? ⟨w.heap.size, 3, none⟩ = some (.int .i64 mb) := hSw.cell 3; have l4 : y.cell? ⟨w.heap.size, 4, none⟩ = some (.int .u32 mm) := hSw.cell 4
      go_simp
      try with_reducible rfl
    try simp only [Act.put, List.setIfInBounds_toArray, List.set_cons_zero, List.set_cons_succ]
    refine wpAnyH_take (i := 6) (v := ?_) rfl (by kernel_rfl) (by kernel_rfl) (by kernel_rfl) (fun _ _ _ h => h) (Or.inl ⟨by rfl, ?_⟩) (by assumption) ?_
    rotate_left
    · intro y hSw
      have l0 : y.cell? ⟨w.heap.size, 0, none⟩ = some (.int .i64 mk) := hSw.cell 0; have l1 : y.cell? ⟨w.heap.size, 1, none⟩ = some (.int .i64 (d : Int)) := hSw.cell 1; have l2 : y.cell? ⟨w.heap.size, 2, none⟩ = some (.int .i64 ma) := hSw.cell 2; have l3 : y.cell? ⟨w.heap.size, 3, none⟩ = some (.int .i64 mb) := hSw.cell 3; have l4 : y.cell? ⟨w.heap.size, 4, none⟩ = some (.int .u32 mm) := hSw.cell 4
      go_simp
      try with_reducible rfl
    try simp only [Act.put, List.setIfInBounds_toArray, List.set_cons_zero, List.set_cons_succ]
    refine wpAnyH_take (i := 7) (v := ?_) rfl (by kernel_rfl) (by kernel_rfl) (by kernel_rfl) (fun _ _ _ h => h) (Or.inl ⟨by rfl, ?_⟩) (by assumption) ?_
    rotate_left
    · intro y hSw
      have l0 : y.cell? ⟨w.heap.size, 0, none⟩ = some (.int .i64 mk) := hSw.cell 0; have l1 : y.cell? ⟨w.heap.size, 1, none⟩ = some (.int .i64 (d : Int)) := hSw.cell 1; have l2 : y.cell? ⟨w.heap.size, 2, none⟩ = some (.int .i64 ma) := hSw.cell 2; have l3 : y.cell? ⟨w.heap.size, 3, none⟩ = some (.int .i64 mb) := hSw.cell 3; have l4 : y.cell? ⟨w.heap.size, 4, none⟩ = some (.int .u32 mm) := hSw.cell 4
      go_simp
      try with_reducible rfl
    try simp only [Act.put, List.setIfInBounds_toArray, List.set_cons_zero, List.set_cons_succ]
    refine wpAnyH_take (i := 10) (v := ?_) rfl (by kernel_rfl) (by kernel_rfl) (by kernel_rfl) (fun _ _ _ h => h) (Or.inl ⟨by rfl, ?_⟩) (by assumption) ?_
    rotate_left
    · intro y hSw
      have l0 : y.cell? ⟨w.heap.size, 0, none⟩ = some (.int .i64 mk) := hSw.cell 0; have l1 : y.cell? ⟨w.heap.size, 1, none⟩ = some (.int .i64 (d : Int)) := hSw.cell 1; have l2 : y.cell? ⟨w.heap.size, 2, none⟩ = some (.int .i64 ma) := hSw.cell 2; have l3 : y.cell? ⟨w.heap.size, 3, none⟩ = some (.int .i64 mb) := hSw.cell 3; have l4 : y.cell? ⟨w.heap.size, 4, none⟩ = some (.int .u32 mm) := hSw.cell 4
      go_simp
      try with_reducible rfl
    try simp only [Act.put, List.setIfInBounds_toArray, List.set_cons_zero, List.set_cons_succ]
    refine wpAnyH_take (i := 11) (v := ?_) rfl (by kernel_rfl) (by kernel_rfl) (by kernel_rfl) (fun _ _ _ h => h) (Or.inl ⟨by rfl, ?_⟩) (by assumption) ?_
    rotate_left
    · intro y hSw
      have l0 : y.cell? ⟨w.heap.size, 0, none⟩ = some (.int .i64 mk) := hSw.cell 0; have l1 : y.cell? ⟨w.heap.size, 1, none⟩ = some (.int .i64 (d : Int)) := hSw.cell 1; have l2 : y.cell? ⟨w.heap.size, 2, none⟩ = some (.int .i64 ma) := hSw.cell 2; have l3 : y.cell? ⟨w.heap.size, 3, none⟩ = some (.int .i64 mb) := hSw.cell 3; have l4 : y.cell? ⟨w.heap.size, 4, none⟩ = some (.int .u32 mm) := hSw.cell 4
      go_simp
      try with_reducible rfl
    try simp only [Act.put, List.setIfInBounds_toArray, List.set_cons_zero, List.set_cons_succ]
    refine wpAnyH_take (i := 12) (v := ?_) rfl (by kernel_rfl) (by kernel_rfl) (by kernel_rfl) (fun _ _ _ h => h) (Or.inl ⟨by rfl, ?_⟩) (by assumption) ?_
    rotate_left
    · intro y hSw
      have l0 : y.cell? ⟨w.heap.size, 0, none⟩ = some (.int .i64 mk) := hSw.cell 0; have l1 : y.cell? ⟨w.heap.size, 1, none⟩ = some (.int .i64 (d : Int)) := hSw.cell 1; have l2 : y.cell? ⟨w.heap.size, 2, none⟩ = some (.int .i64 ma) := hSw.cell 2; have l3 : y.cell? ⟨w.heap.size, 3, none⟩ = some (.int .i64 mb) := hSw.cell 3; have l4 : y.cell? ⟨w.heap.size, 4, none⟩ = some (.int .u32 mm) := hSw.cell 4
      go_simp
      try with_reducible rfl
    try simp only [Act.put, List.setIfInBounds_toArray, List.set_cons_zero, List.set_cons_succ]
    refine wpAnyH_take (i := 13) (v := ?_) rfl (by kernel_rfl) (by kernel_rfl) (by kernel_rfl) (fun _ _ _ h => h) (Or.inl ⟨by rfl, ?_⟩) (by assumption) ?_
    rotate_left
    · intro y hSw
      have l0 : y.cell? ⟨w.heap.size, 0, none⟩ = some (.int .i64 mk) := hSw.cell 0; have l1 : y.cell? ⟨w.heap.size, 1, none⟩ = some (.int .i64 (d : Int)) := hSw.cell 1; have l2 : y.cell? ⟨w.heap.size, 2, none⟩ = some (.int .i64 ma) := hSw.cell 2; have l3 : y.cell? ⟨w.heap.size, 3, none⟩ = some (.int .i64 mb) := hSw.cell 3; have l4 : y.cell? ⟨w.heap.size, 4, none⟩ = some (.int .u32 mm) := hSw.cell 4
      go_simp
      try with_reducible rfl
    try simp only [Act.put, List.setIfInBounds_toArray, List.set_cons_zero, List.set_cons_succ]
    refine wpAnyH_take (i := 16) (v := ?_) rfl (by kernel_rfl) (by kernel_rfl) (by kernel_rfl) (fun _ _ _ h => h) (Or.inl ⟨by rfl, ?_⟩) (by assumption) ?_
    rotate_left
    · intro y hSw
      have l0 : y.cell? ⟨w.heap.size, 0, none⟩ = some (.int .i64 mk) := hSw.cell 0; have l1 : y.cell? ⟨w.heap.size, 1, none⟩ = some (.int .i64 (d : Int)) := hSw.cell 1; have l2 : y.cell? ⟨w.heap.size, 2, none⟩ = some (.int .i64 ma) := hSw.cell 2; have l3 : y.cell? ⟨w.heap.size, 3, none⟩ = some (.int .i64 mb) := hSw.cell 3; have l4 : y.cell? ⟨w.heap.size, 4, none⟩ = some (.int .u32 mm) := hSw.cell 4
      go_simp
      try with_reducible rfl
    try simp only [Act.put, List.setIfInBounds_toArray, List.set_cons_zero, List.set_cons_succ]
    refine wpAnyH_take (i := 17) (v := ?_) rfl (by kernel_rfl) (by kernel_rfl) (by kernel_rfl) (fun _ _ _ h => h) (Or.inl ⟨by rfl, ?_⟩) (by assumption) ?_
    rotate_left
    · intro y hSw
      have l0 : y.cell? ⟨w.heap.size, 0, none⟩ = some (.int .i64 mk) := hSw.cell 0; have l1 : y.cell? ⟨w.heap.size, 1, none⟩ = some (.int .i64 (d : Int)) := hSw.cell 1; have l2 : y.cell? ⟨w.heap.size, 2, none⟩ = some (.int .i64 ma) := hSw.cell 2; have l3 : y.cell? ⟨w.heap.size, 3, none⟩ = some (.int .i64 mb) := hSw.cell 3; have l4 : y.cell? ⟨w.heap.size, 4, none⟩ = some (.int .u32 mm) := hSw.cell 4
      go_simp
      try with_reducible rfl
    try simp only [Act.put, List.setIfInBounds_toArray, List.set_cons_zero, List.set_cons_succ]
    refine wpAnyH_ready (rs := [8, 14]) (by kernel_rfl) (by simp) ?_
    refine AllReadyH.cons rfl (fun K hK => ?_) ?_
    · have ldX := hH.out.2.1.loads 0 N32 (q4 _) (q5 _)
      go_simp
      refine hK.out _ _ (hHeld) (fun hHeld => ?_)
      clear hK K
      try simp only [Act.put, List.setIfInBounds_toArray, List.set_cons_zero, List.set_cons_succ]
      clear ldX
      refine wpAnyH_ready (rs := [9, 14]) (by kernel_rfl) (by simp) ?_
      refine AllReadyH.cons rfl (fun K hK => ?_) ?_
      · go_simp
        refine (c1.out _).mono ?_
        rintro e y9 ⟨rfl, bl⟩
        replace hH := hide (hH.out.on bl)
        go_wp2_with fail
        refine hK.out _ _ (hHeld.on bl) (fun hHeld => ?_)
        clear hK K
        try simp only [Act.put, List.setIfInBounds_toArray, List.set_cons_zero, List.set_cons_succ]
        clear bl
        refine wpAnyH_ready (rs := [14]) (by kernel_rfl) (by simp) ?_
        refine AllReadyH.cons rfl (fun K hK => ?_) AllReadyH.nil
        have ldX := hH.out.2.1.loads 0 N32 (q4 _) (q5 _)
        go_simp
        refine hK.out _ _ (hHeld) (fun hHeld => ?_)
        clear hK K
        try simp only [Act.put, List.setIfInBounds_toArray, List.set_cons_zero, List.set_cons_succ]
        clear ldX
        refine wpAnyH_ready (rs := [15]) (by kernel_rfl) (by simp) ?_
        refine AllReadyH.cons rfl (fun K hK => ?_) AllReadyH.nil
        go_simp
        refine (c2.out _).mono ?_
        rintro e y15 ⟨rfl, bl⟩
        replace hH := hide (hH.out.on bl)
        go_wp2_with fail
        refine hK.out _ _ (hHeld.on bl) (fun hHeld => ?_)
        clear hK K
        try simp only [Act.put, List.setIfInBounds_toArray, List.set_cons_zero, List.set_cons_succ]
        clear bl
        refine wpAnyH_ready (rs := [18]) (by kernel_rfl) (by simp) ?_
        refine AllReadyH.cons rfl (fun K hK => ?_) AllReadyH.nil
        go_simp
        refine (c3.out _).mono ?_
        rintro e y18 ⟨rfl, rfl⟩
        go_wp2_with fail
        refine hK.out _ _ (hHeld) (fun hHeld => ?_)
        clear hK K
        try simp only [Act.put, List.setIfInBounds_toArray, List.set_cons_zero, List.set_cons_succ]
        refine wpAnyH_take (i := 19) (v := ?_) rfl (by kernel_rfl) (by kernel_rfl) (by kernel_rfl) (fun _ _ _ h => h) (Or.inl ⟨by rfl, ?_⟩) (by assumption) ?_
        rotate_left
        · intro y hSw
          have l0 : y.cell? ⟨w.heap.size, 0, none⟩ = some (.int .i64 mk) := hSw.cell 0; have l1 : y.cell? ⟨w.heap.size, 1, none⟩ = some (.int .i64 (d : Int)) := hSw.cell 1; have l2 : y.cell? ⟨w.heap.size, 2, none⟩ = some (.int .i64 ma) := hSw.cell 2; have l3 : y.cell? ⟨w.heap.size, 3, none⟩ = some (.int .i64 mb) := hSw.cell 3; have l4 : y.cell? ⟨w.heap.size, 4, none⟩ = some (.int .u32 mm) := hSw.cell 4
          go_simp
          try with_reducible rfl
        try simp only [Act.put, List.setIfInBounds_toArray, List.set_cons_zero, List.set_cons_succ]
        refine wpAnyH_ready (rs := [20]) (by kernel_rfl) (by simp) ?_
        refine AllReadyH.cons rfl (fun K hK => ?_) AllReadyH.nil
        have cX := hH.out.2.1.cell d
        have fX := hH.out.2.1.free d
        rw [get_X R d hd32] at cX
        have e3 := setCell_row (w.heap.size + 1) _ d (.int .u32 V) hH.out.2.1.1
        rw [hH.out.2.1.2.1, hsx.out] at e3
        go_simp
        refine hK.out _ _ (hHeld.far (w.heap.size + 1) (cellsX (putR R d V)) (by omega)) (fun hHeld => ?_)
        clear hK K
        try simp only [Act.put, List.setIfInBounds_toArray, List.set_cons_zero, List.set_cons_succ]
        have H2 := hH.out.put (putR R d V)
        clear cX fX e3 hHeld hH
        refine wpAnyH_done (by kernel_rfl) ?_ _
        generalize World.setRow _ (w.heap.size + 1) (cellsX (putR R d V)) = x2 at *
        obtain ⟨b1, b2, b3, b4⟩ := H2
        obtain ⟨x1', x2', x3'⟩ := b2
        obtain ⟨y1', y2', y3'⟩ := b3
        go_wp2
        refine bodyPost_ret (v := .agg (cellsX (putR R d V))) (by simp [results, Tryz.results20, go_sem, *]) rfl ⟨rfl, ?_⟩
        exact below_setRow b4 (by omega) _
      refine AllReadyH.cons rfl (fun K hK => ?_) AllReadyH.nil
      have ldX := hH.out.2.1.loads 0 N32 (q4 _) (q5 _)
      go_simp
      refine hK.out _ _ (hHeld) (fun hHeld => ?_)
      clear hK K
      try simp only [Act.put, List.setIfInBounds_toArray, List.set_cons_zero, List.set_cons_succ]
      clear ldX
      refine wpAnyH_ready (rs := [9]) (by kernel_rfl) (by simp) ?_
      refine AllReadyH.cons rfl (fun K hK => ?_) AllReadyH.nil
      go_simp
      refine (c1.out _).mono ?_
      rintro e y9 ⟨rfl, bl⟩
      replace hH := hide (hH.out.on bl)
      go_wp2_with fail
      refine hK.out _ _ (hHeld.on bl) (fun hHeld => ?_)
      clear hK K
      try simp only [Act.put, List.setIfInBounds_toArray, List.set_cons_zero, List.set_cons_succ]
      clear bl
      refine wpAnyH_ready (rs := [15]) (by kernel_rfl) (by simp) ?_
      refine AllReadyH.cons rfl (fun K hK => ?_) AllReadyH.nil
      go_simp
      refine (c2.out _).mono ?_
      rintro e y15 ⟨rfl, bl⟩
      replace hH := hide (hH.out.on bl)
      go_wp2_with fail
      refine hK.out _ _ (hHeld.on bl) (fun hHeld => ?_)
      clear hK K
      try simp only [Act.put, List.setIfInBounds_toArray, List.set_cons_zero, List.set_cons_succ]
      clear bl
      refine wpAnyH_ready (rs := [18]) (by kernel_rfl) (by simp) ?_
      refine AllReadyH.cons rfl (fun K hK => ?_) AllReadyH.nil
      go_simp
      refine (c3.out _).mono ?_
      rintro e y18 ⟨rfl, rfl⟩
      go_wp2_with fail
      refine hK.out _ _ (hHeld) (fun hHeld => ?_)
      clear hK K
      try simp only [Act.put, List.setIfInBounds_toArray, List.set_cons_zero, List.set_cons_succ]
      refine wpAnyH_take (i := 19) (v := ?_) rfl (by kernel_rfl) (by kernel_rfl) (by kernel_rfl) (fun _ _ _ h => h) (Or.inl ⟨by rfl, ?_⟩) (by assumption) ?_
      rotate_left
      · intro y hSw
        have l0 : y.cell? ⟨w.heap.size, 0, none⟩ = some (.int .i64 mk) := hSw.cell 0; have l1 : y.cell? ⟨w.heap.size, 1, none⟩ = some (.int .i64 (d : Int)) := hSw.cell 1; have l2 : y.cell? ⟨w.heap.size, 2, none⟩ = some (.int .i64 ma) := hSw.cell 2; have l3 : y.cell? ⟨w.heap.size, 3, none⟩ = some (.int .i64 mb) := hSw.cell 3; have l4 : y.cell? ⟨w.heap.size, 4, none⟩ = some (.int .u32 mm) := hSw.cell 4
        go_simp
        try with_reducible rfl
      try simp only [Act.put, List.setIfInBounds_toArray, List.set_cons_zero, List.set_cons_succ]
      refine wpAnyH_ready (rs := [20]) (by kernel_rfl) (by simp) ?_
      refine AllReadyH.cons rfl (fun K hK => ?_) AllReadyH.nil
      have cX := hH.out.2.1.cell d
      have fX := hH.out.2.1.free d
      rw [get_X R d hd32] at cX
      have e3 := setCell_row (w.heap.size + 1) _ d (.int .u32 V) hH.out.2.1.1
      rw [hH.out.2.1.2.1, hsx.out] at e3
      go_simp
      refine hK.out _ _ (hHeld.far (w.heap.size + 1) (cellsX (putR R d V)) (by omega)) (fun hHeld => ?_)
      clear hK K
      try simp only [Act.put, List.setIfInBounds_toArray, List.set_cons_zero, List.set_cons_succ]
      have H2 := hH.out.put (putR R d V)
      clear cX fX e3 hHeld hH
      refine wpAnyH_done (by kernel_rfl) ?_ _
      generalize World.setRow _ (w.heap.size + 1) (cellsX (putR R d V)) = x2 at *
      obtain ⟨b1, b2, b3, b4⟩ := H2
      obtain ⟨x1', x2', x3'⟩ := b2
      obtain ⟨y1', y2', y3'⟩ := b3
      go_wp2
      refine bodyPost_ret (v := .agg (cellsX (putR R d V))) (by simp [results, Tryz.results20, go_sem, *]) rfl ⟨rfl, ?_⟩
      exact below_setRow b4 (by omega) _
    refine AllReadyH.cons rfl (fun K hK => ?_) AllReadyH.nil
    have ldX := hH.out.2.1.loads 0 N32 (q4 _) (q5 _)
    go_simp
    refine hK.out _ _ (hHeld) (fun hHeld => ?_)
    clear hK K
    try simp only [Act.put, List.setIfInBounds_toArray, List.set_cons_zero, List.set_cons_succ]
    clear ldX
    refine wpAnyH_ready (rs := [8]) (by kernel_rfl) (by simp) ?_
    refine AllReadyH.cons rfl (fun K hK => ?_) AllReadyH.nil
    have ldX := hH.out.2.1.loads 0 N32 (q4 _) (q5 _)
    go_simp
    refine hK.out _ _ (hHeld) (fun hHeld => ?_)
    clear hK K
    try simp only [Act.put, List.setIfInBounds_toArray, List.set_cons_zero, List.set_cons_succ]
    clear ldX
    refine wpAnyH_ready (rs := [9]) (by kernel_rfl) (by simp) ?_
    refine AllReadyH.cons rfl (fun K hK => ?_) AllReadyH.nil
    go_simp
    refine (c1.out _).mono ?_
    rintro e y9 ⟨rfl, bl⟩
    replace hH := hide (hH.out.on bl)
    go_wp2_with fail
    refine hK.out _ _ (hHeld.on bl) (fun hHeld => ?_)
    clear hK K
    try simp only [Act.put, List.setIfInBounds_toArray, List.set_cons_zero, List.set_cons_succ]
    clear bl
    refine wpAnyH_ready (rs := [15]) (by kernel_rfl) (by simp) ?_
    refine AllReadyH.cons rfl (fun K hK => ?_) AllReadyH.nil
    go_simp
    refine (c2.out _).mono ?_
    rintro e y15 ⟨rfl, bl⟩
    replace hH := hide (hH.out.on bl)
    go_wp2_with fail
    refine hK.out _ _ (hHeld.on bl) (fun hHeld => ?_)
    clear hK K
    try simp only [Act.put, List.setIfInBounds_toArray, List.set_cons_zero, List.set_cons_succ]
    clear bl
    refine wpAnyH_ready (rs := [18]) (by kernel_rfl) (by simp) ?_
    refine AllReadyH.cons rfl (fun K hK => ?_) AllReadyH.nil
    go_simp
    refine (c3.out _).mono ?_
    rintro e y18 ⟨rfl, rfl⟩
    go_wp2_with fail
    refine hK.out _ _ (hHeld) (fun hHeld => ?_)
    clear hK K
    try simp only [Act.put, List.setIfInBounds_toArray, List.set_cons_zero, List.set_cons_succ]
    refine wpAnyH_take (i := 19) (v := ?_) rfl (by kernel_rfl) (by kernel_rfl) (by kernel_rfl) (fun _ _ _ h => h) (Or.inl ⟨by rfl, ?_⟩) (by assumption) ?_
    rotate_left
    · intro y hSw
      have l0 : y.cell? ⟨w.heap.size, 0, none⟩ = some (.int .i64 mk) := hSw.cell 0; have l1 : y.cell? ⟨w.heap.size, 1, none⟩ = some (.int .i64 (d : Int)) := hSw.cell 1; have l2 : y.cell? ⟨w.heap.size, 2, none⟩ = some (.int .i64 ma) := hSw.cell 2; have l3 : y.cell? ⟨w.heap.size, 3, none⟩ = some (.int .i64 mb) := hSw.cell 3; have l4 : y.cell? ⟨w.heap.size, 4, none⟩ = some (.int .u32 mm) := hSw.cell 4
      go_simp
      try with_reducible rfl
    try simp only [Act.put, List.setIfInBounds_toArray, List.set_cons_zero, List.set_cons_succ]
    refine wpAnyH_ready (rs := [20]) (by kernel_rfl) (by simp) ?_
    refine AllReadyH.cons rfl (fun K hK => ?_) AllReadyH.nil
    have cX := hH.out.2.1.cell d
    have fX := hH.out.2.1.free d
    rw [get_X R d hd32] at cX
    have e3 := setCell_row (w.heap.size + 1) _ d (.int .u32 V) hH.out.2.1.1
    rw [hH.out.2.1.2.1, hsx.out] at e3
    go_simp
    refine hK.out _ _ (hHeld.far (w.heap.size + 1) (cellsX (putR R d V)) (by omega)) (fun hHeld => ?_)
    clear hK K
    try simp only [Act.put, List.setIfInBounds_toArray, List.set_cons_zero, List.set_cons_succ]
    have H2 := hH.out.put (putR R d V)
    clear cX fX e3 hHeld hH
    refine wpAnyH_done (by kernel_rfl) ?_ _
    generalize World.setRow _ (w.heap.size + 1) (cellsX (putR R d V)) = x2 at *
    obtain ⟨b1, b2, b3, b4⟩ := H2
    obtain ⟨x1', x2', x3'⟩ := b2
    obtain ⟨y1', y2', y3'⟩ := b3
    go_wp2
    refine bodyPost_ret (v := .agg (cellsX (putR R d V))) (by simp [results, Tryz.results20, go_sem, *]) rfl ⟨rfl, ?_⟩
    exact below_setRow b4 (by omega) _
  · rw [if_neg h]
    have h' : wrB m = false := by simpa using h
    rw [h'] at cw
    clear h h' hm hR c1 c2 c3
    go_enter Tryz.func20, Tryz.ntmps20
    go_wp2_with fail
    refine (cw.out _).mono ?_
    rintro e w1 ⟨rfl, h1⟩
    have H1 := H0.on h1
    clear cw H0
    obtain ⟨b1, b2, b3, b4⟩ := H1
    obtain ⟨x1, x2, x3⟩ := b2
    obtain ⟨y1, y2, y3⟩ := b3
    go_wp2
    refine bodyPost_ret (v := .agg (cellsX R)) (by simp [results, Tryz.results20, go_sem, *]) rfl ⟨rfl, ?_⟩
    exact below_setRow b4 (by omega) _

end Go.Proofs.YtmegghgjllbamaaGreatDoor.Ir
