/- Layer 14: what walks over operations and registers are told. -/
import Derived.Test.YtmegghgjllbamaaGreatDoorQIrPlain
import Derived.ChangeKeysEq
namespace Go.Proofs.YtmegghgjllbamaaGreatDoor.Ir
open Go.RowKit
set_option linter.unusedVariables false
set_option maxRecDepth 100000
set_option linter.unusedSimpArgs false

/-- A part of a row. -/
def part (c : Array Value) (o n : Nat) : Array Value := (c.toList.drop o |>.take n).toArray

/-- A row with a part put in. -/
def placed (c : Array Value) (o : Nat) (l : Array Value) : Array Value := (c.toList.take o ++ l.toList ++ c.toList.drop (o + l.size)).toArray

def fitsP (c : Array Value) (o n : Nat) : Bool := decide (o + n ≤ c.size)

def ones (c : Array Value) : Bool := c.toList.all (·.oneCell')

theorem load_part (w : World) (b o n : Nat) (h : isRow w b = true) (hn : fitsP (rowAt w b) o n = true) :
    (loadCellsFrom ⟨b, o, none⟩ 0 n #[]).run Tryz.prog w = .ok (part (rowAt w b) o n) w := by
  have hn' : o + n ≤ (rowAt w b).size := by simpa [fitsP] using hn
  have hl : ((rowAt w b).toList.drop o |>.take n).length = n := by simp; omega
  have := run_loadCells_list (P := Tryz.prog) w ⟨b, o, none⟩ ((rowAt w b).toList.drop o |>.take n) (fun j v hv => by
    rw [Addr.add_lit, cell_rowAt w b _ h]
    have hj : j < n := by have := (List.getElem?_eq_some_iff.1 hv).1; omega
    rw [List.getElem?_take_of_lt hj, List.getElem?_drop] at hv
    simpa using hv)
  rw [hl] at this
  exact this

theorem store_part (w : World) (b o : Nat) (c : Array Value) (h : isRow w b = true) (hn : fitsP (rowAt w b) o c.size = true) (h1 : ones c = true) :
    (storeCells ⟨b, o, none⟩ c.toList 0).run Tryz.prog w = .ok () (w.setRow b (placed (rowAt w b) o c)) := by
  have hn' : o + c.size ≤ (rowAt w b).size := by simpa [fitsP] using hn
  obtain ⟨t, e⟩ := isRow_some h
  have := run_storeCells_at (P := Tryz.prog) b o t c.toList 0 (rowAt w b) w e (by simpa using hn') (fun v hv => List.all_eq_true.1 h1 v hv)
  simpa [placed] using this

theorem load_placed (w : World) (b o n : Nat) (c : Array Value) (h : isRow w b = true) (hn : fitsP c o n = true) :
    (loadCellsFrom ⟨b, o, none⟩ 0 n #[]).run Tryz.prog (w.setRow b c) = .ok (part c o n) (w.setRow b c) := by
  have := load_part (w.setRow b c) b o n (by rw [isRow_setRow, h]) (by rw [rowAt_setRow w b _ h]; exact hn)
  rwa [rowAt_setRow w b _ h] at this

/-- What walks over rows are told. -/
theorem rowRules : (∀ (w : World) (b o n : Nat), isRow w b = true → fitsP (rowAt w b) o n = true → (loadCellsFrom ⟨b, o, none⟩ 0 n #[]).run Tryz.prog w = .ok (part (rowAt w b) o n) w) ∧
    (∀ (w : World) (b o : Nat) (c : Array Value), isRow w b = true → fitsP (rowAt w b) o c.size = true → ones c = true → (storeCells ⟨b, o, none⟩ c.toList 0).run Tryz.prog w = .ok () (w.setRow b (placed (rowAt w b) o c))) ∧
    (∀ (w : World) (b o n : Nat) (c : Array Value), isRow w b = true → fitsP c o n = true → (loadCellsFrom ⟨b, o, none⟩ 0 n #[]).run Tryz.prog (w.setRow b c) = .ok (part c o n) (w.setRow b c)) ∧
    (∀ (w : World) (c : Array Value) (t : TypeId) (n : Nat), rowAt (w.alloc (.cells c t)) n = if n = w.heap.size then c else rowAt w n) ∧
    (∀ (w : World) (c : Array Value) (t : TypeId) (n : Nat), isRow (w.alloc (.cells c t)) n = if n = w.heap.size then true else isRow w n) ∧
    (∀ (w : World) (c c' : Array Value) (t : TypeId) (n : Nat), (w.alloc (.cells c t)).setRow n c' = if n = w.heap.size then w.alloc (.cells c' t) else (w.setRow n c').alloc (.cells c t)) ∧
    (∀ (w : World) (b : Nat), rowAt w.drew b = rowAt w b) ∧ (∀ (w : World) (b : Nat), isRow w.drew b = isRow w b) ∧ (∀ (w : World) (n : Nat) (c : Array Value), w.drew.setRow n c = (w.setRow n c).drew) :=
  ⟨load_part, store_part, load_placed, rowAt_alloc, isRow_alloc, setRow_alloc, rowAt_drew, isRow_drew, fun _ _ _ => rfl⟩

theorem rowAt_sets (w : World) (g : Nat) (c : Array Value) (b : Nat) (h : isRow w g = true) : rowAt (w.setRow g c) b = if b = g then c else rowAt w b := by
  by_cases e : b = g
  · subst e; rw [if_pos rfl, rowAt_setRow w b c h]
  · rw [if_neg e, rowAt_of (setRow_other w g b c e)]

/-- Rows behind a store. -/
theorem rowSets : (∀ (w : World) (g : Nat) (c : Array Value) (b : Nat), isRow w g = true → rowAt (w.setRow g c) b = if b = g then c else rowAt w b) ∧ (∀ (w : World) (g : Nat) (c : Array Value) (b : Nat), isRow (w.setRow g c) b = isRow w b) :=
  ⟨rowAt_sets, isRow_setRow⟩

theorem sizeM (w : World) : (sizeOf 66).run Tryz.prog w = .ok N6 w := Tryz.sizeOf66 w
theorem zeroM (w : World) : (zeroValue 66).run Tryz.prog w = .ok (.agg (cellsM M0)) w := Tryz.zeroValue66 w
theorem sizeX (w : World) : (sizeOf 24).run Tryz.prog w = .ok N32 w := Tryz.sizeOf24 w
theorem zeroX (w : World) : (zeroValue 24).run Tryz.prog w = .ok (.agg (cellsX X0)) w := Tryz.zeroValue24 w

/-- Sizes and noughts. -/
theorem irSizes : (∀ w : World, (sizeOf 66).run Tryz.prog w = .ok N6 w) ∧ (∀ w : World, (zeroValue 66).run Tryz.prog w = .ok (.agg (cellsM M0)) w) ∧
    (∀ w : World, (sizeOf 24).run Tryz.prog w = .ok N32 w) ∧ (∀ w : World, (zeroValue 24).run Tryz.prog w = .ok (.agg (cellsX X0)) w) ∧
    (∀ m : Mi, (cellsM m).size = N6) ∧ (∀ R : Nat → Int, (cellsX R).size = N32) ∧ (∀ m : Mi, ones (cellsM m) = true) ∧ (∀ R : Nat → Int, ones (cellsX R) = true) ∧ ¬ N6 = 0 ∧ ¬ N32 = 0 :=
  ⟨sizeM, zeroM, sizeX, zeroX, fun _ => rfl, fun R => by simp [cellsX, N32], fun _ => rfl, fun _ => rfl, by decide, by decide⟩

theorem part_all (c : Array Value) (n : Nat) (h : c.size = n) : part c 0 n = c := by
  subst h
  apply Array.toList_inj.1
  simp only [part, List.drop_zero]
  rw [List.take_of_length_le (by simp)]

theorem placed_all (c d : Array Value) (h : c.size = d.size) : placed c 0 d = d := by
  apply Array.toList_inj.1
  simp only [placed, List.take_zero, List.nil_append, Nat.zero_add]
  rw [List.drop_eq_nil_of_le (by simp [h]), List.append_nil]

theorem sizeCX (R : Nat → Int) : (cellsX R).size = N32 := by simp [cellsX, N32]

/-- Whole rows. -/
theorem irWhole : (∀ m : Mi, fitsP (cellsM m) 0 N6 = true) ∧ (∀ m : Mi, part (cellsM m) 0 N6 = cellsM m) ∧ (∀ m q : Mi, placed (cellsM m) 0 (cellsM q) = cellsM q) ∧
    (∀ R : Nat → Int, fitsP (cellsX R) 0 N32 = true) ∧ (∀ R : Nat → Int, part (cellsX R) 0 N32 = cellsX R) ∧ (∀ R Q : Nat → Int, placed (cellsX R) 0 (cellsX Q) = cellsX Q) :=
  ⟨fun _ => rfl, fun _ => rfl, fun _ _ => rfl, fun R => by simp [fitsP, sizeCX], fun R => part_all _ _ (sizeCX R), fun R Q => placed_all _ _ (by rw [sizeCX, sizeCX])⟩

theorem get_X (R : Nat → Int) (j : Nat) (h : j < 32) : (cellsX R)[j]? = some (.int .u32 (R j)) := by
  simp [cellsX, h]

theorem cellsX_ext {R Q : Nat → Int} (h : ∀ k, k < 32 → R k = Q k) : cellsX R = cellsX Q := by
  unfold cellsX
  congr 1
  apply List.map_congr_left
  intro k hk
  rw [h k (by simpa using hk)]

theorem set_X (R : Nat → Int) (s : Nat) (hs : s < 32) (v : Int) : (cellsX R).setIfInBounds s (.int .u32 v) = cellsX (putR R s v) := by
  apply Array.ext_getElem?
  intro j
  have hsz : (cellsX R).size = 32 := sizeCX R
  rw [Array.getElem?_setIfInBounds, hsz]
  by_cases hj : j < 32
  · rw [get_X _ j hj, get_X _ j hj, putR]
    by_cases e : s = j
    · subst e; rw [if_pos rfl, if_pos hj, if_pos rfl]
    · rw [if_neg e, if_neg (by omega)]
  · have n1 : (cellsX R)[j]? = none := by simp; omega
    have n2 : (cellsX (putR R s v))[j]? = none := by have := sizeCX (putR R s v); simp [N32] at this ⊢; omega
    rw [n1, n2]
    repeat' split
    all_goals first | rfl | omega

/-- The parts of an operation and of the registers, and what a store into one makes of them. -/
theorem irParts : (∀ m : Mi, (cellsM m)[0]? = some (.int .i64 m.k)) ∧ (∀ m : Mi, (cellsM m)[1]? = some (.int .i64 m.d)) ∧ (∀ m : Mi, (cellsM m)[2]? = some (.int .i64 m.a)) ∧
    (∀ m : Mi, (cellsM m)[3]? = some (.int .i64 m.b)) ∧ (∀ m : Mi, (cellsM m)[4]? = some (.int .u32 m.m)) ∧ (∀ m : Mi, (cellsM m)[5]? = some (.int .i64 m.c)) ∧
    (∀ (R : Nat → Int) (j : Nat), j < 32 → (cellsX R)[j]? = some (.int .u32 (R j))) :=
  ⟨fun _ => rfl, fun _ => rfl, fun _ => rfl, fun _ => rfl, fun _ => rfl, fun _ => rfl, get_X⟩

theorem irSets : (∀ (m : Mi) (x : Int), (cellsM m).setIfInBounds 0 (.int .i64 x) = cellsM { m with k := x }) ∧ (∀ (m : Mi) (x : Int), (cellsM m).setIfInBounds 1 (.int .i64 x) = cellsM { m with d := x }) ∧
    (∀ (m : Mi) (x : Int), (cellsM m).setIfInBounds 2 (.int .i64 x) = cellsM { m with a := x }) ∧ (∀ (m : Mi) (x : Int), (cellsM m).setIfInBounds 3 (.int .i64 x) = cellsM { m with b := x }) ∧
    (∀ (m : Mi) (x : Int), (cellsM m).setIfInBounds 4 (.int .u32 x) = cellsM { m with m := x }) ∧ (∀ (m : Mi) (x : Int), (cellsM m).setIfInBounds 5 (.int .i64 x) = cellsM { m with c := x }) ∧
    (∀ (R : Nat → Int) (s : Nat), s < 32 → ∀ v : Int, (cellsX R).setIfInBounds s (.int .u32 v) = cellsX (putR R s v)) :=
  ⟨fun _ _ => rfl, fun _ _ => rfl, fun _ _ => rfl, fun _ _ => rfl, fun _ _ => rfl, fun _ _ => rfl, set_X⟩

theorem eqM (r q : Mi) (w : World) : (Op.equalIn 10000 66 (.agg (cellsM r)) (.agg (cellsM q))).run Tryz.prog w = .ok (decide (r = q)) w := by
  have hu : Tryz.prog.underlying 66 = some (.struct (Tryz.prog.fieldsOf 66)) := by kernel_rfl
  have hp : Tryz.prog.stoodInHeld 66 = false := by kernel_rfl
  rw [run_equalIn_agg w 9999 66 _ _ hu hp]
  obtain ⟨r0, r1, r2, r3, r4, r5⟩ := r
  obtain ⟨q0, q1, q2, q3, q4, q5⟩ := q
  simp only [cellsM, Mi.mk.injEq]
  simp [go_sem]
  repeat' split
  all_goals simp_all

theorem eqlM (r q : Mi) (w : World) : (binOp .eql 66 (.agg (cellsM r)) (.agg (cellsM q))).run Tryz.prog w = .ok (.bool (decide (r = q))) w := by
  rw [run_eql_struct, eqM]; rfl

theorem neqM (r q : Mi) (w : World) : (binOp .neq 66 (.agg (cellsM r)) (.agg (cellsM q))).run Tryz.prog w = .ok (.bool (!decide (r = q))) w := by
  rw [run_neq_struct, eqM]; rfl

theorem grow (w : World) (o : Obj) : Below w.heap.size w (w.alloc o) := (Below.refl _ w).alloc (Nat.le_refl _) o

theorem onto {n : Nat} {w x y : World} (h : Below n w x) (hn : n ≤ w.heap.size) (k : Below x.heap.size x y) : Below n w y := h.trans (k.mono (Nat.le_trans hn h.size))

/-- A row of cells in a block. -/
def Box (w : World) (b : Nat) (c : Array Value) : Prop := isRow w b = true ∧ rowAt w b = c ∧ b < w.heap.size

theorem Box.new (w : World) (c : Array Value) (t : TypeId) : Box (w.alloc (.cells c t)) w.heap.size c := ⟨isRow_new _ _ _, rowAt_new _ _ _, by simp⟩

theorem Box.of_heap {w y : World} {b : Nat} {c : Array Value} (h : Box w b c) (e : y.heap[b]? = w.heap[b]?) : Box y b c := by
  refine ⟨by rw [isRow_of e]; exact h.1, by rw [rowAt_of e]; exact h.2.1, ?_⟩
  obtain ⟨t, ht⟩ := isRow_some h.1
  rw [ht] at e
  exact (Array.getElem?_eq_some_iff.1 e).1

theorem Box.on {w y : World} {b : Nat} {c : Array Value} (h : Box w b c) (hb : Below w.heap.size w y) : Box y b c := h.of_heap (hb.block b h.2.2)

theorem Box.cell {w : World} {b : Nat} {c : Array Value} (h : Box w b c) (j : Nat) : w.cell? ⟨b, j, none⟩ = c[j]? := by rw [cell_rowAt w b j h.1, h.2.1]

theorem Box.free {w : World} {b : Nat} {c : Array Value} (h : Box w b c) (j : Nat) : w.frozen? ⟨b, j, none⟩ = false := frozen_rowAt w b j h.1

/-- A store into one cell of a row, as a row. -/
theorem setCell_row (b : Nat) (w : World) (k : Nat) (v : Value) (h : isRow w b = true) : w.setCell ⟨b, k, none⟩ v = w.setRow b ((rowAt w b).setIfInBounds k v) := by
  obtain ⟨t, e⟩ := isRow_some h
  exact setCell_eq_setRow w b k _ t _ v e

theorem Box.set {w : World} {b : Nat} {c : Array Value} (h : Box w b c) (q : Array Value) : Box (w.setRow b q) b q :=
  ⟨by rw [isRow_setRow]; exact h.1, rowAt_setRow w b q h.1, by rw [setRow_size]; exact h.2.2⟩

theorem Box.far {w : World} {b : Nat} {c : Array Value} (h : Box w b c) (g : Nat) (q : Array Value) (hg : b ≠ g) : Box (w.setRow g q) b c := h.of_heap (setRow_other w g b q hg)

theorem Box.drew {w : World} {b : Nat} {c : Array Value} (h : Box w b c) : Box w.drew b c := h

theorem Box.loads {w : World} {b : Nat} {c d : Array Value} (h : Box w b c) (o n : Nat) (hf : fitsP c o n = true) (hp : part c o n = d) : (loadCellsFrom ⟨b, o, none⟩ 0 n #[]).run Tryz.prog w = .ok d w := by
  have := load_part w b o n h.1 (by rw [h.2.1]; exact hf)
  rw [h.2.1, hp] at this
  exact this

end Go.Proofs.YtmegghgjllbamaaGreatDoor.Ir
