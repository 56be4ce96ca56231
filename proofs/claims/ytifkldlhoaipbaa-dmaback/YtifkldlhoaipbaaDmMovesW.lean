/- What any move makes of memory and disk, and which pages are dirty then, is as the document says. -/
import Derived.Test.YtifkldlhoaipbaaDmOpen
import Derived.Test.YtifkldlhoaipbaaDmRMove3
import Derived.Deep.RegionHeld3
namespace Go.Proofs.Ytifkldlhoaipbaa
open Go.RowKit
set_option linter.unusedVariables false

/-- A job lies in block b. -/
def Jat (w : World) (b : Nat) (j : Jb) : Prop := isRow w b = true ∧ rowAt w b = cellsJ j ∧ b < w.heap.size

theorem Jat.new (w : World) (j : Jb) (i : TypeId) : Jat (w.alloc (.cells (cellsJ j) i)) w.heap.size j := ⟨isRow_new _ _ _, rowAt_new _ _ _, by simp⟩

theorem Jat.of_heap {w y : World} {b : Nat} {j : Jb} (h : Jat w b j) (e : y.heap[b]? = w.heap[b]?) : Jat y b j := by
  refine ⟨by rw [isRow_of e]; exact h.1, by rw [rowAt_of e]; exact h.2.1, ?_⟩
  have hl := h.2.2
  rw [Array.getElem?_eq_getElem hl] at e
  exact (Array.getElem?_eq_some_iff.1 e).1

theorem Jat.on {w y : World} {b : Nat} {j : Jb} (h : Jat w b j) (hb : Below w.heap.size w y) : Jat y b j := h.of_heap (hb.block b h.2.2)

theorem Jat.below {n : Nat} {w y : World} {b : Nat} {j : Jb} (h : Jat w b j) (hb : Below n w y) (hn : b < n) : Jat y b j := h.of_heap (hb.block b hn)

theorem Jat.far {w y : World} {b g : Nat} {j : Jb} (h : Jat w b j) (hb : w.grownBy y (some g)) (hg : b ≠ g) : Jat y b j := h.of_heap (hb.block b h.2.2 (by simpa using hg))

theorem Jat.cells {w : World} {b : Nat} {j : Jb} (h : Jat w b j) :
    (loadCellsFrom ⟨b, 0, none⟩ 0 N5 #[]).run Try.prog w = .ok (cellsD j.d) w ∧ w.cell? ⟨b, 5, none⟩ = some (.int .u32 j.y) ∧ w.cell? ⟨b, 6, none⟩ = some (.int .i64 j.n) ∧ w.cell? ⟨b, 7, none⟩ = some (.int .u8 (j.c : Int)) ∧ w.cell? ⟨b, 8, none⟩ = some (.string j.s) := by
  have hc : ∀ k, w.cell? ⟨b, k, none⟩ = (cellsJ j)[k]? := fun k => by rw [cell_rowAt w b k h.1, h.2.1]
  refine ⟨?_, hc 5, hc 6, hc 7, hc 8⟩
  have := run_loadCells_list (P := Try.prog) w ⟨b, 0, none⟩ (cellsD j.d).toList (fun k v hv => by
    rw [Addr.add_lit, hc, Nat.zero_add]
    have hk : k < 5 := by simpa [cellsD] using (List.getElem?_eq_some_iff.1 hv).1
    match k, hk with
    | 0, _ => exact hv
    | 1, _ => exact hv
    | 2, _ => exact hv
    | 3, _ => exact hv
    | 4, _ => exact hv)
  simpa [loadCells, size_cellsD] using this

set_option maxRecDepth 100000 in
set_option maxHeartbeats 2000000 in
theorem moves_walk (w : World) (j : Jb) (hj : Wj j) :
    Calls Try.prog 5 #[.agg (cellsJ j)] w fun e w' => e = .returned (.bool true) ∧ Below w.heap.size w w' := by
  obtain ⟨t1, t2, t3, t4, t5, t6, t7, t8, t9⟩ := dmRules
  have J0 := Jat.new w j 38
  have B0 := grow w (.cells (cellsJ j) 38)
  have hsz : w.heap.size < (w.alloc (.cells (cellsJ j) 38)).heap.size := J0.2.2
  obtain ⟨l0, l5, l6, l7, l8⟩ := J0.cells
  go_enter Try.func5, Try.ntmps5
  go_wp2_with fail
  generalize w.alloc (.cells (cellsJ j) 38) = X at *
  refine (filled_any j.n j.c hj.c X).mono ?_
  rintro e w1 ⟨p, g, q, gb, gd, rfl, bo⟩
  replace J0 := J0.on bo.be
  replace l0 := J0.cells.1
  replace l5 := J0.cells.2.1
  replace l8 := J0.cells.2.2.2.2
  generalize pagesN j.n = N at *
  generalize fillF j.c = F at *
  clear l6 l7
  go_wp2_with fail
  refine (move_any bo.m j.d hj.d j.y j.s hj.s).mono ?_
  rintro e w2 ⟨rfl, M2, g2⟩
  have hgL : w.heap.size ≠ g := by have := bo.bg; omega
  replace bo := bo.putM M2 g2
  replace J0 := J0.far g2 hgL
  replace l0 := J0.cells.1
  replace l5 := J0.cells.2.1
  replace l8 := J0.cells.2.2.2.2
  clear M2 g2
  go_wp2_with fail
  refine (rmove_any bo.r j.d hj.d j.y j.s hj.s).mono ?_
  rintro e w3 ⟨rfl, M3, k3⟩
  replace bo := bo.putR M3 k3
  generalize moveT N j.d j.y j.s F = T1 at *
  generalize moveB N j.d j.y j.s F = B1 at *
  generalize moveD N j.d j.y j.s (fun _ => false) = D1 at *
  clear M3 k3 l0 l5 l8 J0
  have hlen := dirts_len D1 N
  have hN := bo.m.n64
  replace bo := hide bo
  go_wp2_with fail
  refine wp_region_held_drew (S := fun x => Both X x p g q gb gd N B1 B1 D1 D1) (by kernel_rfl) (bo.out.on (Below.refl _ _).drew) (fun hHeld => ?_)
  refine wpAnyH_take (i := 0) (oi := { dst := some 33, op := Op.move (Operand.tmp 5), type := 9, pos := "law.go:94", after := #[], guard := none }) (v := ?_) rfl (by kernel_rfl) (by kernel_rfl) (by kernel_rfl) (fun _ _ _ h => h) (Or.inl ⟨by rfl, ?_⟩) (by assumption) ?_
  rotate_left
  · intro y hSw
    obtain ⟨q2, q3⟩ := And.intro hSw.r.hb (rtext hSw.r)
    go_simp
    try with_reducible rfl
  try simp only [Act.put, List.setIfInBounds_toArray, List.set_cons_zero, List.set_cons_succ]
  refine wpAnyH_take (i := 1) (oi := { dst := some 34, op := Op.move (Operand.tmp 6), type := 9, pos := "law.go:94", after := #[], guard := none }) (v := ?_) rfl (by kernel_rfl) (by kernel_rfl) (by kernel_rfl) (fun _ _ _ h => h) (Or.inl ⟨by rfl, ?_⟩) (by assumption) ?_
  rotate_left
  · intro y hSw
    obtain ⟨q2, q3⟩ := And.intro hSw.r.hb (rtext hSw.r)
    go_simp
    try with_reducible rfl
  try simp only [Act.put, List.setIfInBounds_toArray, List.set_cons_zero, List.set_cons_succ]
  refine wpAnyH_take (i := 2) (oi := { dst := some 35, op := Op.binOp BinOp.eql 9 (Operand.tmp 33) (Operand.tmp 34) 9, type := 4, pos := "law.go:94", after := #[{ on := 0, ground := Ground.data }, { on := 1, ground := Ground.data }], guard := none }) (v := ?_) rfl (by kernel_rfl) (by kernel_rfl) (by kernel_rfl) (fun _ _ _ h => h) (Or.inl ⟨by rfl, ?_⟩) (by assumption) ?_
  rotate_left
  · intro y hSw
    obtain ⟨q2, q3⟩ := And.intro hSw.r.hb (rtext hSw.r)
    go_simp
    try with_reducible rfl
  try simp only [Act.put, List.setIfInBounds_toArray, List.set_cons_zero, List.set_cons_succ]
  refine wpAnyH_take (i := 3) (oi := { dst := some 36, op := Op.move (Operand.tmp 35), type := 4, pos := "law.go:94", after := #[{ on := 2, ground := Ground.data }], guard := none }) (v := ?_) rfl (by kernel_rfl) (by kernel_rfl) (by kernel_rfl) (fun _ _ _ h => h) (Or.inl ⟨by rfl, ?_⟩) (by assumption) ?_
  rotate_left
  · intro y hSw
    obtain ⟨q2, q3⟩ := And.intro hSw.r.hb (rtext hSw.r)
    go_simp
    try with_reducible rfl
  try simp only [Act.put, List.setIfInBounds_toArray, List.set_cons_zero, List.set_cons_succ]
  refine wpAnyH_take (i := 4) (oi := { dst := some 37, op := Op.move (Operand.tmp 3), type := 39, pos := "law.go:94", after := #[{ on := 3, ground := Ground.guard }], guard := some (3, true) }) (v := ?_) rfl (by kernel_rfl) (by kernel_rfl) (by kernel_rfl) (fun _ _ _ h => h) (Or.inl ⟨by rfl, ?_⟩) (by assumption) ?_
  rotate_left
  · intro y hSw
    obtain ⟨q2, q3⟩ := And.intro hSw.r.hb (rtext hSw.r)
    go_simp
    try with_reducible rfl
  try simp only [Act.put, List.setIfInBounds_toArray, List.set_cons_zero, List.set_cons_succ]
  refine wpAnyH_take (i := 6) (oi := { dst := some 39, op := Op.move (Operand.tmp 4), type := 40, pos := "law.go:94", after := #[{ on := 3, ground := Ground.guard }], guard := some (3, true) }) (v := ?_) rfl (by kernel_rfl) (by kernel_rfl) (by kernel_rfl) (fun _ _ _ h => h) (Or.inl ⟨by rfl, ?_⟩) (by assumption) ?_
  rotate_left
  · intro y hSw
    obtain ⟨q2, q3⟩ := And.intro hSw.r.hb (rtext hSw.r)
    go_simp
    try with_reducible rfl
  try simp only [Act.put, List.setIfInBounds_toArray, List.set_cons_zero, List.set_cons_succ]
  refine wpAnyH_take (i := 7) (oi := { dst := some 40, op := Op.nilCheck (Operand.tmp 39), type := 0, pos := "law.go:94", after := #[{ on := 6, ground := Ground.data }, { on := 3, ground := Ground.guard }], guard := some (3, true) }) (v := ?_) rfl (by kernel_rfl) (by kernel_rfl) (by kernel_rfl) (fun _ _ _ h => h) (Or.inl ⟨by rfl, ?_⟩) (by assumption) ?_
  rotate_left
  · intro y hSw
    obtain ⟨q2, q3⟩ := And.intro hSw.r.hb (rtext hSw.r)
    go_simp
    try with_reducible rfl
  try simp only [Act.put, List.setIfInBounds_toArray, List.set_cons_zero, List.set_cons_succ]
  refine wpAnyH_take (i := 8) (oi := { dst := some 41, op := Op.fieldAddr 49 (Operand.tmp 40) 0, type := 0, pos := "law.go:94", after := #[{ on := 7, ground := Ground.data }, { on := 3, ground := Ground.guard }], guard := some (3, true) }) (v := ?_) rfl (by kernel_rfl) (by kernel_rfl) (by kernel_rfl) (fun _ _ _ h => h) (Or.inl ⟨by rfl, ?_⟩) (by assumption) ?_
  rotate_left
  · intro y hSw
    obtain ⟨q2, q3⟩ := And.intro hSw.r.hb (rtext hSw.r)
    go_simp
    try with_reducible rfl
  try simp only [Act.put, List.setIfInBounds_toArray, List.set_cons_zero, List.set_cons_succ]
  refine wpAnyH_take (i := 9) (oi := { dst := some 42, op := Op.load 46 (Operand.tmp 41), type := 46, pos := "law.go:94", after := #[{ on := 8, ground := Ground.data }, { on := 3, ground := Ground.guard }], guard := some (3, true) }) (v := ?_) rfl (by kernel_rfl) (by kernel_rfl) (by kernel_rfl) (fun _ _ _ h => h) (Or.inl ⟨by rfl, ?_⟩) (by assumption) ?_
  rotate_left
  · intro y hSw
    obtain ⟨q2, q3⟩ := And.intro hSw.r.hb (rtext hSw.r)
    go_simp
    try with_reducible rfl
  try simp only [Act.put, List.setIfInBounds_toArray, List.set_cons_zero, List.set_cons_succ]
  refine wpAnyH_take (i := 10) (oi := { dst := some 43, op := Op.convert 46 9 (Operand.tmp 42), type := 9, pos := "law.go:94", after := #[{ on := 9, ground := Ground.data }, { on := 3, ground := Ground.guard }], guard := some (3, true) }) (v := ?_) rfl (by kernel_rfl) (by kernel_rfl) (by kernel_rfl) (fun _ _ _ h => h) (Or.inl ⟨by rfl, ?_⟩) (by assumption) ?_
  rotate_left
  · intro y hSw
    obtain ⟨q2, q3⟩ := And.intro hSw.r.hb (rtext hSw.r)
    go_simp
    try with_reducible rfl
  try simp only [Act.put, List.setIfInBounds_toArray, List.set_cons_zero, List.set_cons_succ]
  refine wpAnyH_ready (rs := [5]) (by kernel_rfl) (by simp) ?_
  refine AllReadyH.cons (o := { dst := some 38, op := Op.call { callee := Callee.value (Operand.func 23), args := #[Operand.tmp 37], argTypes := #[39] }, type := 9, pos := "law.go:94", after := #[{ on := 4, ground := Ground.data }, { on := 3, ground := Ground.chain }, { on := 3, ground := Ground.guard }], guard := some (3, true) }) rfl (fun K hK => ?_) AllReadyH.nil
  go_simp
  refine (image_any hHeld.m).mono ?_
  rintro e x5 ⟨rfl, b5⟩
  go_wp2_with fail
  refine hK.out _ _ (hHeld.on b5) (fun hHeld => ?_)
  clear hK K
  try simp only [Act.put, List.setIfInBounds_toArray, List.set_cons_zero, List.set_cons_succ]
  refine wpAnyH_take (i := 11) (oi := { dst := some 44, op := Op.binOp BinOp.eql 9 (Operand.tmp 38) (Operand.tmp 43) 9, type := 4, pos := "law.go:94", after := #[{ on := 5, ground := Ground.data }, { on := 10, ground := Ground.data }, { on := 3, ground := Ground.guard }], guard := some (3, true) }) (v := ?_) rfl (by kernel_rfl) (by kernel_rfl) (by kernel_rfl) (fun _ _ _ h => h) (Or.inl ⟨by rfl, ?_⟩) (by assumption) ?_
  rotate_left
  · intro y hSw
    obtain ⟨q2, q3⟩ := And.intro hSw.r.hb (rtext hSw.r)
    go_simp
    try with_reducible rfl
  try simp only [Act.put, List.setIfInBounds_toArray, List.set_cons_zero, List.set_cons_succ]
  refine wpAnyH_take (i := 12) (oi := { dst := some 45, op := Op.pick (Operand.tmp 36) (Operand.tmp 44) (Operand.const (Value.bool false)), type := 4, pos := "law.go:94", after := #[{ on := 3, ground := Ground.data }, { on := 11, ground := Ground.data }], guard := none }) (v := ?_) rfl (by kernel_rfl) (by kernel_rfl) (by kernel_rfl) (fun _ _ _ h => h) (Or.inl ⟨by rfl, ?_⟩) (by assumption) ?_
  rotate_left
  · intro y hSw
    obtain ⟨q2, q3⟩ := And.intro hSw.r.hb (rtext hSw.r)
    go_simp
    try with_reducible rfl
  try simp only [Act.put, List.setIfInBounds_toArray, List.set_cons_zero, List.set_cons_succ]
  refine wpAnyH_take (i := 13) (oi := { dst := some 46, op := Op.move (Operand.tmp 45), type := 4, pos := "law.go:94", after := #[{ on := 12, ground := Ground.data }, { on := 5, ground := Ground.chain }], guard := none }) (v := ?_) rfl (by kernel_rfl) (by kernel_rfl) (by kernel_rfl) (fun _ _ _ h => h) (Or.inl ⟨by rfl, ?_⟩) (by assumption) ?_
  rotate_left
  · intro y hSw
    obtain ⟨q2, q3⟩ := And.intro hSw.r.hb (rtext hSw.r)
    go_simp
    try with_reducible rfl
  try simp only [Act.put, List.setIfInBounds_toArray, List.set_cons_zero, List.set_cons_succ]
  refine wpAnyH_take (i := 14) (oi := { dst := some 47, op := Op.move (Operand.tmp 3), type := 39, pos := "law.go:94", after := #[{ on := 13, ground := Ground.guard }], guard := some (13, true) }) (v := ?_) rfl (by kernel_rfl) (by kernel_rfl) (by kernel_rfl) (fun _ _ _ h => h) (Or.inl ⟨by rfl, ?_⟩) (by assumption) ?_
  rotate_left
  · intro y hSw
    obtain ⟨q2, q3⟩ := And.intro hSw.r.hb (rtext hSw.r)
    go_simp
    try with_reducible rfl
  try simp only [Act.put, List.setIfInBounds_toArray, List.set_cons_zero, List.set_cons_succ]
  refine wpAnyH_take (i := 16) (oi := { dst := some 49, op := Op.move (Operand.tmp 4), type := 40, pos := "law.go:94", after := #[{ on := 13, ground := Ground.guard }], guard := some (13, true) }) (v := ?_) rfl (by kernel_rfl) (by kernel_rfl) (by kernel_rfl) (fun _ _ _ h => h) (Or.inl ⟨by rfl, ?_⟩) (by assumption) ?_
  rotate_left
  · intro y hSw
    obtain ⟨q2, q3⟩ := And.intro hSw.r.hb (rtext hSw.r)
    go_simp
    try with_reducible rfl
  try simp only [Act.put, List.setIfInBounds_toArray, List.set_cons_zero, List.set_cons_succ]
  refine wpAnyH_ready (rs := [15]) (by kernel_rfl) (by simp) ?_
  refine AllReadyH.cons (o := { dst := some 48, op := Op.call { callee := Callee.value (Operand.func 25), args := #[Operand.tmp 47], argTypes := #[39] }, type := 51, pos := "law.go:94", after := #[{ on := 14, ground := Ground.data }, { on := 13, ground := Ground.chain }, { on := 13, ground := Ground.guard }], guard := some (13, true) }) rfl (fun K hK => ?_) AllReadyH.nil
  go_simp
  refine (dirty_any hHeld.m).mono ?_
  rintro e x15 ⟨⟨v1, rfl, O1⟩, b15⟩
  have r1 := hide (RowAt.of O1)
  clear O1
  go_wp2_with fail
  refine hK.out _ _ (hHeld.on b15) (fun hHeld => ?_)
  clear hK K
  try simp only [Act.put, List.setIfInBounds_toArray, List.set_cons_zero, List.set_cons_succ]
  refine wpAnyH_ready (rs := [17]) (by kernel_rfl) (by simp) ?_
  refine AllReadyH.cons (o := { dst := some 50, op := Op.call { callee := Callee.value (Operand.func 26), args := #[Operand.tmp 49], argTypes := #[40] }, type := 51, pos := "law.go:94", after := #[{ on := 16, ground := Ground.data }, { on := 15, ground := Ground.chain }, { on := 13, ground := Ground.guard }], guard := some (13, true) }) rfl (fun K hK => ?_) AllReadyH.nil
  go_simp
  refine (rdirty_any hHeld.r).mono ?_
  rintro e x17 ⟨⟨v2, rfl, O2⟩, b17⟩
  have r2 := hide (RowAt.of O2)
  replace r1 := hide (r1.out.on b17)
  clear O2
  go_wp2_with fail
  refine hK.out _ _ (hHeld.on b17) (fun hHeld => ?_)
  clear hK K
  try simp only [Act.put, List.setIfInBounds_toArray, List.set_cons_zero, List.set_cons_succ]
  refine wpAnyH_ready (rs := [18]) (by kernel_rfl) (by simp) ?_
  refine AllReadyH.cons (o := { dst := some 51, op := Op.call { callee := Callee.value (Operand.func 24), args := #[Operand.tmp 48, Operand.tmp 50], argTypes := #[51, 51] }, type := 4, pos := "law.go:94", after := #[{ on := 15, ground := Ground.data }, { on := 17, ground := Ground.data }, { on := 17, ground := Ground.chain }, { on := 13, ground := Ground.guard }], guard := some (13, true) }) rfl (fun K hK => ?_) AllReadyH.nil
  go_simp
  refine (same_any _ v1 v2 (dirts D1 N) (dirts D1 N) (by omega) (by omega) r1.out r2.out).mono ?_
  rintro e x18 ⟨rfl, b18⟩
  rw [decide_eq_true (rfl : dirts D1 N = dirts D1 N)]
  go_wp2_with fail
  refine hK.out _ _ (hHeld.on b18) (fun hHeld => ?_)
  clear hK K
  try simp only [Act.put, List.setIfInBounds_toArray, List.set_cons_zero, List.set_cons_succ]
  refine wpAnyH_take (i := 19) (oi := { dst := some 52, op := Op.pick (Operand.tmp 46) (Operand.tmp 51) (Operand.const (Value.bool false)), type := 4, pos := "law.go:94", after := #[{ on := 13, ground := Ground.data }, { on := 18, ground := Ground.data }], guard := none }) (v := ?_) rfl (by kernel_rfl) (by kernel_rfl) (by kernel_rfl) (fun _ _ _ h => h) (Or.inl ⟨by rfl, ?_⟩) (by assumption) ?_
  rotate_left
  · intro y hSw
    obtain ⟨q2, q3⟩ := And.intro hSw.r.hb (rtext hSw.r)
    go_simp
    try with_reducible rfl
  try simp only [Act.put, List.setIfInBounds_toArray, List.set_cons_zero, List.set_cons_succ]
  refine wpAnyH_take (i := 20) (oi := { dst := some 53, op := Op.move (Operand.tmp 52), type := 4, pos := "law.go:94", after := #[{ on := 19, ground := Ground.data }, { on := 18, ground := Ground.chain }], guard := none }) (v := ?_) rfl (by kernel_rfl) (by kernel_rfl) (by kernel_rfl) (fun _ _ _ h => h) (Or.inl ⟨by rfl, ?_⟩) (by assumption) ?_
  rotate_left
  · intro y hSw
    obtain ⟨q2, q3⟩ := And.intro hSw.r.hb (rtext hSw.r)
    go_simp
    try with_reducible rfl
  try simp only [Act.put, List.setIfInBounds_toArray, List.set_cons_zero, List.set_cons_succ]
  refine wpAnyH_ready (rs := [21]) (by kernel_rfl) (by simp) ?_
  refine AllReadyH.cons (o := { dst := some 54, op := Op.call { callee := Callee.value (Operand.func 15), args := #[], argTypes := #[] }, type := 4, pos := "law.go:94", after := #[{ on := 20, ground := Ground.chain }, { on := 20, ground := Ground.guard }], guard := some (20, true) }) rfl (fun K hK => ?_) AllReadyH.nil
  go_simp
  refine (fixed_any _).mono ?_
  rintro e x21 ⟨rfl, b21⟩
  go_wp2_with fail
  refine hK.out _ _ (hHeld.on b21) (fun hHeld => ?_)
  clear hK K
  try simp only [Act.put, List.setIfInBounds_toArray, List.set_cons_zero, List.set_cons_succ]
  refine wpAnyH_take (i := 22) (oi := { dst := some 55, op := Op.pick (Operand.tmp 53) (Operand.tmp 54) (Operand.const (Value.bool false)), type := 4, pos := "law.go:94", after := #[{ on := 20, ground := Ground.data }, { on := 21, ground := Ground.data }], guard := none }) (v := ?_) rfl (by kernel_rfl) (by kernel_rfl) (by kernel_rfl) (fun _ _ _ h => h) (Or.inl ⟨by rfl, ?_⟩) (by assumption) ?_
  rotate_left
  · intro y hSw
    obtain ⟨q2, q3⟩ := And.intro hSw.r.hb (rtext hSw.r)
    go_simp
    try with_reducible rfl
  try simp only [Act.put, List.setIfInBounds_toArray, List.set_cons_zero, List.set_cons_succ]
  refine wpAnyH_take (i := 23) (oi := { dst := some 2, op := Op.assign (Operand.tmp 55), type := 4, pos := "law.go:94", after := #[{ on := 22, ground := Ground.data }, { on := 21, ground := Ground.chain }, { on := 0, ground := Ground.phase }, { on := 1, ground := Ground.phase }, { on := 2, ground := Ground.phase }, { on := 3, ground := Ground.phase }, { on := 4, ground := Ground.phase }, { on := 5, ground := Ground.phase }, { on := 6, ground := Ground.phase }, { on := 7, ground := Ground.phase }, { on := 8, ground := Ground.phase }, { on := 9, ground := Ground.phase }, { on := 10, ground := Ground.phase }, { on := 11, ground := Ground.phase }, { on := 12, ground := Ground.phase }, { on := 13, ground := Ground.phase }, { on := 14, ground := Ground.phase }, { on := 15, ground := Ground.phase }, { on := 16, ground := Ground.phase }, { on := 17, ground := Ground.phase }, { on := 18, ground := Ground.phase }, { on := 19, ground := Ground.phase }, { on := 20, ground := Ground.phase }, { on := 21, ground := Ground.phase }, { on := 22, ground := Ground.phase }], guard := none }) (v := ?_) rfl (by kernel_rfl) (by kernel_rfl) (by kernel_rfl) (fun _ _ _ h => h) (Or.inl ⟨by rfl, ?_⟩) (by assumption) ?_
  rotate_left
  · intro y hSw
    obtain ⟨q2, q3⟩ := And.intro hSw.r.hb (rtext hSw.r)
    go_simp
    try with_reducible rfl
  try simp only [Act.put, List.setIfInBounds_toArray, List.set_cons_zero, List.set_cons_succ]
  refine wpAnyH_done (by kernel_rfl) ?_ _
  go_wp2
  go_ret
  exact ⟨rfl, B0.trans (hHeld.be.mono B0.size)⟩

end Go.Proofs.Ytifkldlhoaipbaa
