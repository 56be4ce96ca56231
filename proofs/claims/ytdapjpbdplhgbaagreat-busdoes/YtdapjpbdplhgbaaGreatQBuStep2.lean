/- Layer 12: the devices' state with a byte turned, set on both buses. -/
import Derived.Test.YtdapjpbdplhgbaaGreatQBuStep
import Derived.Test.YtdapjpbdplhgbaaGreatQDmThree
import Derived.Test.YtdapjpbdplhgbaaGreatQBuRTick
import Derived.Test.YtdapjpbdplhgbaaGreatQBuBackM
namespace Go.Proofs.YtdapjpbdplhgbaaGreat
open Go.RowKit
set_option linter.unusedVariables false
set_option maxRecDepth 100000

theorem and_w16 (v : Int) (h0 : 0 ≤ v) (h1 : v < 4294967296) : bits .and .u32 v 65535 = v % 65536 := by
  rw [u32_and v 65535 h0 (by omega) (by omega) (by omega)]
  have := Nat.and_two_pow_sub_one_eq_mod v.toNat 16
  rw [show (65535 : Int).toNat = 2 ^ 16 - 1 from rfl, this]
  omega

theorem RowIs.on {w y : World} {B n : Nat} {f : Nat → Nat} (h : RowIs w B n f) (hb : Below w.heap.size w y) : RowIs y B n f := h.keep (hb.block B h.lt)

/-- A byte of a row of the call's own is another one. -/
theorem Side.turned {w x : World} {b p g c b' p' gb gd n : Nat} {v : Dv} {B : Nat → Nat} {D : Nat → Bool} (h : Side w x b p g c b' p' gb gd n v B D) {R j : Nat} (hR : R ∉ [b, g] ∧ p ≠ R ∧ R ∉ [b', p', gb, gd] ∧ w.heap.size ≤ R) (r : Int) :
    Side w (x.drew.setCell ⟨R, j, none⟩ (.int .u8 r)) b p g c b' p' gb gd n v B D := by
  obtain ⟨h1, h2, h3, h4⟩ := hR
  simp at h1 h3
  have k : Kept [R] x (x.drew.setCell ⟨R, j, none⟩ (.int .u8 r)) := (Kept.of (Below.refl _ x).drew).trans (Kept.cell x.drew R j _ (by simp))
  have hl : ∀ i, i ∈ [R] → w.heap.size ≤ i := by intro i hi; simp at hi; subst hi; exact h4
  exact ⟨h.o1.keep k hl (by simp; omega) (by simp; omega) (by simp; omega), h.o2.keep k hl (by simp; omega) (by simp; omega) (by simp; omega) (by simp; omega), h.n1, h.n2⟩

theorem RowIs.drewSet {w : World} {B n : Nat} {f : Nat → Nat} (h : RowIs w B n f) {k : Nat} (hk : k < n) (v : Nat) : RowIs (w.drew.setCell ⟨B, k, none⟩ (.int .u8 ((v : Nat) : Int))) B n (fun j => if j = k then v else f j) :=
  RowIs.set (w := w.drew) ⟨h.lt, h.cell, h.free⟩ hk v

set_option maxHeartbeats 2000000 in
set_option maxRecDepth 100000 in
theorem step_set {w x : World} {b p g c b' p' gb gd n : Nat} {v : Dv} {B : Nat → Nat} {D : Nat → Bool} (S : Side w x b p g c b' p' gb gd n v B D) (o : Op12) (ho : o.Fits) (hk : o.k = 6) :
    Calls Tryz.prog 10 #[.pointer (some ⟨b, 0, none⟩), .pointer (some ⟨b', 0, none⟩), .agg (cellsO o)] x fun e y => e = .returned (.bool true) ∧ ∃ v' B' D', Side w y b p g c b' p' gb gd n v' B' D' := by
  obtain ⟨k, z, a, m, ea, ek, em⟩ := o
  simp only at hk
  subst hk
  obtain ⟨a0, a1, m0, m1, e0, e1, -, -, z0, z1⟩ := ho
  simp only at a0 a1 m0 m1 e0 e1 z0 z1
  unfold cellsO
  simp only
  have S1 := hide (S.on (grow x (.cells #[.int .i64 6, .int .i64 z, .int .u32 a, .int .u32 m, .int .i64 ea, .int .i64 ek, .int .u32 em] 34)))
  have hbx := hide (Box.new x #[.int .i64 6, .int .i64 z, .int .u32 a, .int .u32 m, .int .i64 ea, .int .i64 ek, .int .u32 em] 34)
  have hL : Hid (x.heap.size ∉ [b, g] ∧ x.heap.size ∉ [b', p', gb, gd]) := hide (by
    have l1 := S.o1.bus.lt
    have l2 := S.o1.bus.m.zg
    have l3 := S.o2.bus.lt
    have l4 := S.o2.bus.m.zp
    have l5 := S.o2.bus.m.zb
    have l6 := S.o2.bus.m.zd
    constructor <;> (simp; omega))
  clear S
  have hv := hide S1.out.o1.bus.wv
  have hz := devV_size v hv.out
  have hzi := hv.out.u.i
  have hzo := hv.out.u.o
  obtain ⟨N, hN⟩ : ∃ N, (devV v).size = N := ⟨_, rfl⟩
  have hN0 : 0 < N := by omega
  have hN1 : N ≤ 2000 := by omega
  obtain ⟨T, hT⟩ : ∃ T, devV v = T := ⟨_, rfl⟩
  have cd := hide (fun (X : World) (hB : Bus X b p g n c v B D) => devices_any hB)
  rw [hT] at cd hN
  clear hz hT hzi hzo
  go_enter Tryz.func10, Tryz.ntmps10
  go_wp2_with fail
  generalize hLx : x.heap.size = L at *
  generalize x.alloc (.cells #[.int .i64 6, .int .i64 z, .int .u32 a, .int .u32 m, .int .i64 ea, .int .i64 ek, .int .u32 em] 34) = y0 at *
  clear hLx
  refine (cd.out _ S1.out.o1.bus).mono ?_
  rintro e y1 ⟨rfl, b1⟩
  have hlt1 : L < y1.heap.size := Nat.lt_of_lt_of_le hbx.out.2.2 b1.size
  have hN3 : y1.heap.size ∉ [b, g] ∧ p ≠ y1.heap.size ∧ y1.heap.size ∉ [b', p', gb, gd] ∧ w.heap.size ≤ y1.heap.size := by
    have S9 := S1.out.on b1
    have l1 := S9.o1.bus.lt
    have l2 := S9.o1.bus.m.zg
    have l0 := S9.o1.bus.m.zp
    have l3 := S9.o2.bus.lt
    have l4 := S9.o2.bus.m.zp
    have l5 := S9.o2.bus.m.zb
    have l6 := S9.o2.bus.m.zd
    have l7 := S9.o1.be.size
    refine ⟨by simp; omega, by omega, by simp; omega, l7⟩
  replace S1 := hide ((S1.out.on b1).on (Dm.row_below y1 T))
  replace hbx := hide ((hbx.out.on b1).on (Dm.row_below y1 T))
  have hcv := Dm.conv_row y1 T
  have hrow := hide (Dm.row_of y1 T)
  rw [hN] at hcv hrow
  have hlt0 : Hid (L < y1.heap.size) := hide hlt1
  clear b1 cd hlt1
  go_wp2_with fail
  have hN2 : Hid (y1.heap.size ∉ [b, g] ∧ p ≠ y1.heap.size ∧ y1.heap.size ∉ [b', p', gb, gd] ∧ w.heap.size ≤ y1.heap.size) := hide hN3
  clear hN3
  generalize Dm.rowWorld y1 T = y2 at *
  generalize y1.heap.size = R at *
  have hRL : L ≠ R := by have := hlt0.out; omega
  clear hcv hlt0
  obtain ⟨q, hq⟩ : ∃ q, m % 65536 = q := ⟨_, rfl⟩
  have hq0 : 0 ≤ q ∧ q < 65536 := by omega
  have h1 := and_w16 m m0 m1
  rw [hq] at h1
  have h2 : IntKind.i64.wrap q = q := by simp [IntKind.wrap, IntKind.bits, IntKind.signed]; omega
  obtain ⟨j, hj⟩ : ∃ j : Nat, q % (N : Int) = (j : Int) := ⟨(q % (N : Int)).toNat, by have := Int.emod_nonneg q (show (N : Int) ≠ 0 by omega); omega⟩
  have hjN : j < N := by have := Int.emod_lt_of_pos q (show (0 : Int) < (N : Int) by omega); omega
  have h3 : q.tmod (N : Int) = (j : Int) := by rw [Int.tmod_eq_emod_of_nonneg hq0.1]; exact hj
  have h3' : IntKind.i64.wrap (j : Int) = (j : Int) := by simp [IntKind.wrap, IntKind.bits, IntKind.signed]; omega
  obtain ⟨s8, hs8⟩ : ∃ s8, IntKind.u8.wrap z = s8 := ⟨_, rfl⟩
  obtain ⟨fj, hfj⟩ : ∃ fj : Int, ((byteAt T j : Nat) : Int) = fj := ⟨_, rfl⟩
  obtain ⟨r, hr⟩ : ∃ r : Nat, bits .xor .u8 fj s8 = (r : Int) ∧ r < 256 := by
    refine ⟨(bits .xor .u8 fj s8).toNat, ?_⟩
    have hb : 0 ≤ bits .xor .u8 fj s8 ∧ bits .xor .u8 fj s8 < 256 := by
      show 0 ≤ IntKind.u8.wrap _ ∧ IntKind.u8.wrap _ < 256
      simp [IntKind.wrap, IntKind.bits, IntKind.signed]
      omega
    omega
  have CB : y2.drew.cell? ⟨R, j, none⟩ = some (.int .u8 fj) := by rw [← hfj]; exact hrow.out.cell j hjN
  have FB : y2.drew.frozen? ⟨R, j, none⟩ = false := hrow.out.free j hjN
  have C1 : y2.cell? ⟨L, 1, none⟩ = some (.int .i64 z) := hbx.out.cell 1
  have C3 : y2.cell? ⟨L, 3, none⟩ = some (.int .u32 m) := hbx.out.cell 3
  have hNz : ¬ ((N : Int) = 0) := by omega
  have hNn : ¬ N = 0 := by omega
  have hNb : ((N : Int) == 0) = false := by simp; omega
  have hjn' : (j : Int) < (N : Int) := by omega
  have hxor := hr.1
  clear hq hj hfj
  have turn : (y2.setCell ⟨R, j, none⟩ (.int .u8 (r : Int))).drew.cell? ⟨L, 1, none⟩ = some (.int .i64 z) ∧ (y2.setCell ⟨R, j, none⟩ (.int .u8 (r : Int))).drew.cell? ⟨L, 3, none⟩ = some (.int .u32 m) :=
    ⟨(World.cell?_setCell_other y2 _ _ _ (by intro e; injection e with e1; exact hRL e1.symm)).trans C1, (World.cell?_setCell_other y2 _ _ _ (by intro e; injection e with e1; exact hRL e1.symm)).trans C3⟩
  refine wp_region_held_drew (S := fun x => x.cell? ⟨L, 1, none⟩ = some (.int .i64 z) ∧ x.cell? ⟨L, 3, none⟩ = some (.int .u32 m)) (by kernel_rfl) ⟨C1, C3⟩ (fun hHeld => ?_)
  refine wpAnyH_take (i := 0) (oi := { dst := some 126, op := Op.move (Operand.tmp 18), type := 55, pos := "law.go:73", after := #[], guard := none }) (v := ?_) rfl (by kernel_rfl) (by kernel_rfl) (by kernel_rfl) (fun _ _ _ h => h) (Or.inl ⟨by rfl, ?_⟩) (by assumption) ?_
  rotate_left
  · intro y hSw
    obtain ⟨q0, q1⟩ := hSw
    go_simp
    try with_reducible rfl
  try simp only [Act.put, List.setIfInBounds_toArray, List.set_cons_zero, List.set_cons_succ]
  refine wpAnyH_take (i := 1) (oi := { dst := some 127, op := Op.fieldAddr 34 (Operand.tmp 5) 3, type := 0, pos := "law.go:73", after := #[], guard := none }) (v := ?_) rfl (by kernel_rfl) (by kernel_rfl) (by kernel_rfl) (fun _ _ _ h => h) (Or.inl ⟨by rfl, ?_⟩) (by assumption) ?_
  rotate_left
  · intro y hSw
    obtain ⟨q0, q1⟩ := hSw
    go_simp
    try with_reducible rfl
  try simp only [Act.put, List.setIfInBounds_toArray, List.set_cons_zero, List.set_cons_succ]
  refine wpAnyH_take (i := 2) (oi := { dst := some 128, op := Op.load 30 (Operand.tmp 127), type := 30, pos := "law.go:73", after := #[{ on := 1, ground := Ground.data }], guard := none }) (v := ?_) rfl (by kernel_rfl) (by kernel_rfl) (by kernel_rfl) (fun _ _ _ h => h) (Or.inl ⟨by rfl, ?_⟩) (by assumption) ?_
  rotate_left
  · intro y hSw
    obtain ⟨q0, q1⟩ := hSw
    go_simp
    try with_reducible rfl
  try simp only [Act.put, List.setIfInBounds_toArray, List.set_cons_zero, List.set_cons_succ]
  refine wpAnyH_take (i := 3) (oi := { dst := some 129, op := Op.binOp BinOp.and 30 (Operand.tmp 128) (Operand.const (Value.int IntKind.u32 65535)) 30, type := 30, pos := "law.go:73", after := #[{ on := 2, ground := Ground.data }], guard := none }) (v := ?_) rfl (by kernel_rfl) (by kernel_rfl) (by kernel_rfl) (fun _ _ _ h => h) (Or.inl ⟨by rfl, ?_⟩) (by assumption) ?_
  rotate_left
  · intro y hSw
    obtain ⟨q0, q1⟩ := hSw
    go_simp
    try with_reducible rfl
  try simp only [Act.put, List.setIfInBounds_toArray, List.set_cons_zero, List.set_cons_succ]
  refine wpAnyH_take (i := 4) (oi := { dst := some 130, op := Op.convert 30 3 (Operand.tmp 129), type := 3, pos := "law.go:73", after := #[{ on := 3, ground := Ground.data }], guard := none }) (v := ?_) rfl (by kernel_rfl) (by kernel_rfl) (by kernel_rfl) (fun _ _ _ h => h) (Or.inl ⟨by rfl, ?_⟩) (by assumption) ?_
  rotate_left
  · intro y hSw
    obtain ⟨q0, q1⟩ := hSw
    go_simp
    try with_reducible rfl
  try simp only [Act.put, List.setIfInBounds_toArray, List.set_cons_zero, List.set_cons_succ]
  refine wpAnyH_take (i := 5) (oi := { dst := some 131, op := Op.move (Operand.tmp 18), type := 55, pos := "law.go:73", after := #[], guard := none }) (v := ?_) rfl (by kernel_rfl) (by kernel_rfl) (by kernel_rfl) (fun _ _ _ h => h) (Or.inl ⟨by rfl, ?_⟩) (by assumption) ?_
  rotate_left
  · intro y hSw
    obtain ⟨q0, q1⟩ := hSw
    go_simp
    try with_reducible rfl
  try simp only [Act.put, List.setIfInBounds_toArray, List.set_cons_zero, List.set_cons_succ]
  refine wpAnyH_take (i := 10) (oi := { dst := some 136, op := Op.fieldAddr 34 (Operand.tmp 5) 1, type := 0, pos := "law.go:73", after := #[], guard := none }) (v := ?_) rfl (by kernel_rfl) (by kernel_rfl) (by kernel_rfl) (fun _ _ _ h => h) (Or.inl ⟨by rfl, ?_⟩) (by assumption) ?_
  rotate_left
  · intro y hSw
    obtain ⟨q0, q1⟩ := hSw
    go_simp
    try with_reducible rfl
  try simp only [Act.put, List.setIfInBounds_toArray, List.set_cons_zero, List.set_cons_succ]
  refine wpAnyH_take (i := 11) (oi := { dst := some 137, op := Op.load 3 (Operand.tmp 136), type := 3, pos := "law.go:73", after := #[{ on := 10, ground := Ground.data }], guard := none }) (v := ?_) rfl (by kernel_rfl) (by kernel_rfl) (by kernel_rfl) (fun _ _ _ h => h) (Or.inl ⟨by rfl, ?_⟩) (by assumption) ?_
  rotate_left
  · intro y hSw
    obtain ⟨q0, q1⟩ := hSw
    go_simp
    try with_reducible rfl
  try simp only [Act.put, List.setIfInBounds_toArray, List.set_cons_zero, List.set_cons_succ]
  refine wpAnyH_take (i := 12) (oi := { dst := some 138, op := Op.convert 3 5 (Operand.tmp 137), type := 5, pos := "law.go:73", after := #[{ on := 11, ground := Ground.data }], guard := none }) (v := ?_) rfl (by kernel_rfl) (by kernel_rfl) (by kernel_rfl) (fun _ _ _ h => h) (Or.inl ⟨by rfl, ?_⟩) (by assumption) ?_
  rotate_left
  · intro y hSw
    obtain ⟨q0, q1⟩ := hSw
    go_simp
    try with_reducible rfl
  try simp only [Act.put, List.setIfInBounds_toArray, List.set_cons_zero, List.set_cons_succ]
  refine wpAnyH_ready (rs := [6]) (by kernel_rfl) (by simp) ?_
  refine AllReadyH.cons (o := { dst := some 132, op := Op.call { callee := Callee.builtin Builtin.len, args := #[Operand.tmp 131], argTypes := #[55] }, type := 3, pos := "law.go:73", after := #[{ on := 5, ground := Ground.data }], guard := none }) rfl (fun K hK => ?_) AllReadyH.nil
  go_simp
  refine hK.out _ _ (hHeld) (fun hHeld => ?_)
  clear hK K
  try simp only [Act.put, List.setIfInBounds_toArray, List.set_cons_zero, List.set_cons_succ]
  refine wpAnyH_take (i := 7) (oi := { dst := some 133, op := Op.binOp BinOp.rem 3 (Operand.tmp 130) (Operand.tmp 132) 3, type := 3, pos := "law.go:73", after := #[{ on := 4, ground := Ground.data }, { on := 6, ground := Ground.data }], guard := none }) (v := ?_) rfl (by kernel_rfl) (by kernel_rfl) (by kernel_rfl) (fun _ _ _ h => h) (Or.inl ⟨by rfl, ?_⟩) (by assumption) ?_
  rotate_left
  · intro y hSw
    obtain ⟨q0, q1⟩ := hSw
    go_simp
    try with_reducible rfl
  try simp only [Act.put, List.setIfInBounds_toArray, List.set_cons_zero, List.set_cons_succ]
  refine wpAnyH_take (i := 8) (oi := { dst := some 134, op := Op.indexAddr 55 (Operand.tmp 126) (Operand.tmp 133), type := 0, pos := "law.go:73", after := #[{ on := 0, ground := Ground.data }, { on := 7, ground := Ground.data }], guard := none }) (v := ?_) rfl (by kernel_rfl) (by kernel_rfl) (by kernel_rfl) (fun _ _ _ h => h) (Or.inl ⟨by rfl, ?_⟩) (by assumption) ?_
  rotate_left
  · intro y hSw
    obtain ⟨q0, q1⟩ := hSw
    go_simp
    try with_reducible rfl
  try simp only [Act.put, List.setIfInBounds_toArray, List.set_cons_zero, List.set_cons_succ]
  refine wpAnyH_ready (rs := [9]) (by kernel_rfl) (by simp) ?_
  refine AllReadyH.cons (o := { dst := some 135, op := Op.load 5 (Operand.tmp 134), type := 5, pos := "law.go:73", after := #[{ on := 8, ground := Ground.data }], guard := none }) rfl (fun K hK => ?_) AllReadyH.nil
  go_simp
  refine hK.out _ _ (hHeld) (fun hHeld => ?_)
  clear hK K
  try simp only [Act.put, List.setIfInBounds_toArray, List.set_cons_zero, List.set_cons_succ]
  refine wpAnyH_take (i := 13) (oi := { dst := some 139, op := Op.binOp BinOp.xor 5 (Operand.tmp 135) (Operand.tmp 138) 5, type := 5, pos := "law.go:73", after := #[{ on := 9, ground := Ground.data }, { on := 12, ground := Ground.data }], guard := none }) (v := ?_) rfl (by kernel_rfl) (by kernel_rfl) (by kernel_rfl) (fun _ _ _ h => h) (Or.inl ⟨by rfl, ?_⟩) (by assumption) ?_
  rotate_left
  · intro y hSw
    obtain ⟨q0, q1⟩ := hSw
    go_simp
    try with_reducible rfl
  try simp only [Act.put, List.setIfInBounds_toArray, List.set_cons_zero, List.set_cons_succ]
  refine wpAnyH_take (i := 14) (oi := { dst := some 140, op := Op.indexAddr 55 (Operand.tmp 126) (Operand.tmp 133), type := 0, pos := "law.go:73", after := #[{ on := 0, ground := Ground.data }, { on := 7, ground := Ground.data }, { on := 0, ground := Ground.phase }, { on := 1, ground := Ground.phase }, { on := 2, ground := Ground.phase }, { on := 3, ground := Ground.phase }, { on := 4, ground := Ground.phase }, { on := 5, ground := Ground.phase }, { on := 6, ground := Ground.phase }, { on := 7, ground := Ground.phase }, { on := 8, ground := Ground.phase }, { on := 9, ground := Ground.phase }, { on := 10, ground := Ground.phase }, { on := 11, ground := Ground.phase }, { on := 12, ground := Ground.phase }, { on := 13, ground := Ground.phase }], guard := none }) (v := ?_) rfl (by kernel_rfl) (by kernel_rfl) (by kernel_rfl) (fun _ _ _ h => h) (Or.inl ⟨by rfl, ?_⟩) (by assumption) ?_
  rotate_left
  · intro y hSw
    obtain ⟨q0, q1⟩ := hSw
    go_simp
    try with_reducible rfl
  try simp only [Act.put, List.setIfInBounds_toArray, List.set_cons_zero, List.set_cons_succ]
  refine wpAnyH_ready (rs := [15]) (by kernel_rfl) (by simp) ?_
  refine AllReadyH.cons (o := { dst := none, op := Op.store 5 (Operand.tmp 140) (Operand.tmp 139), type := 0, pos := "law.go:73", after := #[{ on := 14, ground := Ground.data }, { on := 13, ground := Ground.data }, { on := 0, ground := Ground.phase }, { on := 1, ground := Ground.phase }, { on := 2, ground := Ground.phase }, { on := 3, ground := Ground.phase }, { on := 4, ground := Ground.phase }, { on := 5, ground := Ground.phase }, { on := 6, ground := Ground.phase }, { on := 7, ground := Ground.phase }, { on := 8, ground := Ground.phase }, { on := 9, ground := Ground.phase }, { on := 10, ground := Ground.phase }, { on := 11, ground := Ground.phase }, { on := 12, ground := Ground.phase }, { on := 13, ground := Ground.phase }], guard := none }) rfl (fun K hK => ?_) AllReadyH.nil
  go_simp
  refine hK.out _ _ (turn) (fun hHeld => ?_)
  clear hK K
  try simp only [Act.put, List.setIfInBounds_toArray, List.set_cons_zero, List.set_cons_succ]
  refine wpAnyH_done (by kernel_rfl) ?_ _
  have RW : RowIs (y2.setCell ⟨R, j, none⟩ (.int .u8 (r : Int))).drew R N (fun i => if i = j then r else byteAt T i) := hrow.out.drewSet hjN r
  have SW : Hid (Side w (y2.setCell ⟨R, j, none⟩ (.int .u8 (r : Int))).drew b p g c b' p' gb gd n v B D) := hide (S1.out.turned (j := j) hN2.out (r : Int))
  clear S1 hrow CB FB C1 C3 hHeld h1 h2 h3 h3' hxor hNz hNb hjn' hbx hL turn
  generalize (y2.setCell ⟨R, j, none⟩ (.int .u8 (r : Int))).drew = y3 at *
  have hcb := conv_back RW (grownCap y1 N 0 5)
  obtain ⟨T', hT'⟩ : ∃ T', textOf N (fun i => if i = j then r else byteAt T i) = T' := ⟨_, rfl⟩
  have hz' : T'.size = N := by rw [← hT']; exact textOf_size _ _
  rw [hT'] at hcb
  replace RW := hide RW
  replace hT' := hide hT'
  obtain ⟨q', f', hq', -, c1, c2⟩ := sets_same T' (by unfold maxLen; omega) v hv.out
  replace c1 := hide c1
  replace c2 := hide c2
  replace hq' := hide hq'
  clear hz'
  go_wp2_with fail
  refine (c1.out _ _ _ _ _ _ _ _ SW.out.o1.bus).mono ?_
  rintro e y4 ⟨rfl, hB, K⟩
  have RW2 := RW.out.keep (K.block R RW.out.lt (by have := hN2.out.1; simp at this ⊢; omega))
  have hcb2 := conv_back RW2 (grownCap y1 N 0 5)
  rw [hT'.out] at hcb2
  have hM := hide (SW.out.mid (kept1 K))
  have hS := hide (And.intro hB K)
  clear hB K hcb RW RW2 c1
  go_wp2_with fail
  refine (c2.out _ _ _ _ _ _ _ _ hM.out).mono ?_
  rintro e y5 ⟨rfl, hR, K2⟩
  have S2 := hide (SW.out.both hS.out.1 (kept1 hS.out.2) hR (K2.mono (by simp)))
  clear hR K2 hM hS SW hcb2 c2
  go_wp2
  go_ret
  exact ⟨rfl, _, _, _, S2.out⟩

end Go.Proofs.YtdapjpbdplhgbaaGreat
