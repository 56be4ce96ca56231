/- Layer 8: the registers as a row of nine words: its parts, and when two are the same. -/
import Derived.Test.YtjpfggffeffapaaWholeAt
import Derived.Test.YtjpfggffeffapaaCpBits
import Derived.ChangeKeysEq
namespace Go.Proofs.Ytjpfggffeffapaa
open Go.RowKit
set_option linter.unusedVariables false

/-- The registers: Index, EntryLo, BadVAddr, Count, EntryHi, Compare, Status, Cause, EPC. -/
structure Regs where
  i : Int
  l : Int
  b : Int
  n : Int
  h : Int
  p : Int
  s : Int
  c : Int
  e : Int
deriving DecidableEq

/-- All are words. -/
structure Wr (r : Regs) : Prop where
  i : W32 r.i
  l : W32 r.l
  b : W32 r.b
  n : W32 r.n
  h : W32 r.h
  p : W32 r.p
  s : W32 r.s
  c : W32 r.c
  e : W32 r.e

def cellsR (r : Regs) : Array Value := #[.int .u32 r.i, .int .u32 r.l, .int .u32 r.b, .int .u32 r.n, .int .u32 r.h, .int .u32 r.p, .int .u32 r.s, .int .u32 r.c, .int .u32 r.e]

/-- Nine, so spelt that no walk opens a row of them. -/
def N9 : Nat := 9

/-- The registers of noughts. -/
def R0 : Regs := ⟨0, 0, 0, 0, 0, 0, 0, 0, 0⟩

theorem R0_w : Wr R0 := ⟨w0, w0, w0, w0, w0, w0, w0, w0, w0⟩

theorem size_cellsR (r : Regs) : (cellsR r).size = N9 := rfl

theorem eqR (r q : Regs) (w : World) : (Op.equalIn 10000 24 (.agg (cellsR r)) (.agg (cellsR q))).run Try.prog w = .ok (decide (r = q)) w := by
  have hu : Try.prog.underlying 24 = some (.struct (Try.prog.fieldsOf 24)) := by kernel_rfl
  have hp : Try.prog.stoodInHeld 24 = false := by kernel_rfl
  rw [run_equalIn_agg w 9999 24 _ _ hu hp]
  obtain ⟨r0, r1, r2, r3, r4, r5, r6, r7, r8⟩ := r
  obtain ⟨q0, q1, q2, q3, q4, q5, q6, q7, q8⟩ := q
  simp only [cellsR, Regs.mk.injEq]
  simp [go_sem]
  repeat' split
  all_goals simp_all

theorem eqlR (r q : Regs) (w : World) : (binOp .eql 24 (.agg (cellsR r)) (.agg (cellsR q))).run Try.prog w = .ok (.bool (decide (r = q))) w := by
  rw [run_eql_struct, eqR]; rfl

theorem neqR (r q : Regs) (w : World) : (binOp .neq 24 (.agg (cellsR r)) (.agg (cellsR q))).run Try.prog w = .ok (.bool (!decide (r = q))) w := by
  rw [run_neq_struct, eqR]; rfl

theorem sizeR (w : World) : (sizeOf 24).run Try.prog w = .ok N9 w := Try.sizeOf24 w

theorem zeroR (w : World) : (zeroValue 24).run Try.prog w = .ok (.agg (cellsR R0)) w := Try.zeroValue24 w

theorem loadR (w : World) (b : Nat) (h : isRow w b = true) (hn : (rowAt w b).size = N9) : (loadCellsFrom ⟨b, 0, none⟩ 0 N9 #[]).run Try.prog w = .ok (rowAt w b) w :=
  load_rowAt Try.prog w b N9 h hn

theorem storeR (r : Regs) (w : World) (b : Nat) (h : isRow w b = true) (hn : (rowAt w b).size = N9) : (storeCells ⟨b, 0, none⟩ (cellsR r).toList 0).run Try.prog w = .ok () (w.setRow b (cellsR r)) := by
  refine store_rowAt Try.prog w b _ h (by rw [hn, size_cellsR]) fun v hv => ?_
  simp only [cellsR, List.mem_cons] at hv
  rcases hv with rfl | rfl | rfl | rfl | rfl | rfl | rfl | rfl | rfl | hv
  all_goals first | rfl | simp at hv

theorem loadSetR (r : Regs) (w : World) (b : Nat) (h : isRow w b = true) : (loadCellsFrom ⟨b, 0, none⟩ 0 N9 #[]).run Try.prog (w.setRow b (cellsR r)) = .ok (cellsR r) (w.setRow b (cellsR r)) := by
  have := loadR (w.setRow b (cellsR r)) b (by rw [isRow_setRow, h]) (by rw [rowAt_setRow w b _ h, size_cellsR])
  rwa [rowAt_setRow w b _ h] at this

/-- What walks over registers are told. -/
theorem cpRules : (∀ w : World, (sizeOf 24).run Try.prog w = .ok N9 w) ∧ (∀ w : World, (zeroValue 24).run Try.prog w = .ok (.agg (cellsR R0)) w) ∧
    (∀ r : Regs, (cellsR r).size = N9) ∧
    (∀ (r : Regs) (w : World) (b : Nat), isRow w b = true → (rowAt w b).size = N9 → (storeCells ⟨b, 0, none⟩ (cellsR r).toList 0).run Try.prog w = .ok () (w.setRow b (cellsR r))) ∧
    (∀ (w : World) (b : Nat), isRow w b = true → (rowAt w b).size = N9 → (loadCellsFrom ⟨b, 0, none⟩ 0 N9 #[]).run Try.prog w = .ok (rowAt w b) w) ∧
    (∀ (w : World) (c : Array Value) (t : TypeId) (n : Nat), rowAt (w.alloc (.cells c t)) n = if n = w.heap.size then c else rowAt w n) ∧
    (∀ (w : World) (c : Array Value) (t : TypeId) (n : Nat), isRow (w.alloc (.cells c t)) n = if n = w.heap.size then true else isRow w n) ∧
    (∀ (w : World) (c c' : Array Value) (t : TypeId) (n : Nat), (w.alloc (.cells c t)).setRow n c' = if n = w.heap.size then w.alloc (.cells c' t) else (w.setRow n c').alloc (.cells c t)) ∧
    (∀ (r : Regs) (w : World) (b : Nat), isRow w b = true → (loadCellsFrom ⟨b, 0, none⟩ 0 N9 #[]).run Try.prog (w.setRow b (cellsR r)) = .ok (cellsR r) (w.setRow b (cellsR r))) :=
  ⟨sizeR, zeroR, size_cellsR, storeR, loadR, rowAt_alloc, isRow_alloc, setRow_alloc, loadSetR⟩

/-- The parts of a row of registers, and what a store into one makes of it. -/
theorem cpParts : (∀ r : Regs, (cellsR r)[0]? = some (.int .u32 r.i)) ∧ (∀ r : Regs, (cellsR r)[1]? = some (.int .u32 r.l)) ∧ (∀ r : Regs, (cellsR r)[2]? = some (.int .u32 r.b)) ∧
    (∀ r : Regs, (cellsR r)[3]? = some (.int .u32 r.n)) ∧ (∀ r : Regs, (cellsR r)[4]? = some (.int .u32 r.h)) ∧ (∀ r : Regs, (cellsR r)[5]? = some (.int .u32 r.p)) ∧
    (∀ r : Regs, (cellsR r)[6]? = some (.int .u32 r.s)) ∧ (∀ r : Regs, (cellsR r)[7]? = some (.int .u32 r.c)) ∧ (∀ r : Regs, (cellsR r)[8]? = some (.int .u32 r.e)) :=
  ⟨fun _ => rfl, fun _ => rfl, fun _ => rfl, fun _ => rfl, fun _ => rfl, fun _ => rfl, fun _ => rfl, fun _ => rfl, fun _ => rfl⟩

theorem cpSets : (∀ (r : Regs) (x : Int), (cellsR r).setIfInBounds 0 (.int .u32 x) = cellsR { r with i := x }) ∧ (∀ (r : Regs) (x : Int), (cellsR r).setIfInBounds 1 (.int .u32 x) = cellsR { r with l := x }) ∧
    (∀ (r : Regs) (x : Int), (cellsR r).setIfInBounds 2 (.int .u32 x) = cellsR { r with b := x }) ∧ (∀ (r : Regs) (x : Int), (cellsR r).setIfInBounds 3 (.int .u32 x) = cellsR { r with n := x }) ∧
    (∀ (r : Regs) (x : Int), (cellsR r).setIfInBounds 4 (.int .u32 x) = cellsR { r with h := x }) ∧ (∀ (r : Regs) (x : Int), (cellsR r).setIfInBounds 5 (.int .u32 x) = cellsR { r with p := x }) ∧
    (∀ (r : Regs) (x : Int), (cellsR r).setIfInBounds 6 (.int .u32 x) = cellsR { r with s := x }) ∧ (∀ (r : Regs) (x : Int), (cellsR r).setIfInBounds 7 (.int .u32 x) = cellsR { r with c := x }) ∧
    (∀ (r : Regs) (x : Int), (cellsR r).setIfInBounds 8 (.int .u32 x) = cellsR { r with e := x }) :=
  ⟨fun _ _ => rfl, fun _ _ => rfl, fun _ _ => rfl, fun _ _ => rfl, fun _ _ => rfl, fun _ _ => rfl, fun _ _ => rfl, fun _ _ => rfl, fun _ _ => rfl⟩

theorem cpDrew : (∀ (w : World) (b : Nat), rowAt w.drew b = rowAt w b) ∧ (∀ (w : World) (b : Nat), isRow w.drew b = isRow w b) ∧ (∀ (w : World) (n : Nat) (c : Array Value), w.drew.setRow n c = (w.setRow n c).drew) :=
  ⟨rowAt_drew, isRow_drew, fun _ _ _ => rfl⟩

theorem grow (w : World) (o : Obj) : Below w.heap.size w (w.alloc o) := (Below.refl _ w).alloc (Nat.le_refl _) o

theorem onto {n : Nat} {w x y : World} (h : Below n w x) (hn : n ≤ w.heap.size) (k : Below x.heap.size x y) : Below n w y := h.trans (k.mono (Nat.le_trans hn h.size))

/-- Registers in block b. -/
def Rat (w : World) (b : Nat) (r : Regs) : Prop := isRow w b = true ∧ rowAt w b = cellsR r ∧ b < w.heap.size

theorem Rat.on {w y : World} {b : Nat} {r : Regs} (h : Rat w b r) (hb : Below w.heap.size w y) : Rat y b r :=
  ⟨by rw [(brow hb).2 _ h.2.2]; exact h.1, by rw [(brow hb).1 _ h.2.2]; exact h.2.1, Nat.lt_of_lt_of_le h.2.2 hb.size⟩

theorem Rat.new (w : World) (r : Regs) (t : TypeId) : Rat (w.alloc (.cells (cellsR r) t)) w.heap.size r := ⟨isRow_new _ _ _, rowAt_new _ _ _, by simp⟩

theorem Rat.load {w : World} {b : Nat} {r : Regs} (h : Rat w b r) : (loadCellsFrom ⟨b, 0, none⟩ 0 N9 #[]).run Try.prog w = .ok (cellsR r) w := by
  have := loadR w b h.1 (by rw [h.2.1, size_cellsR])
  rwa [h.2.1] at this

theorem Rat.cell {w : World} {b : Nat} {r : Regs} (h : Rat w b r) (j : Nat) : w.cell? ⟨b, j, none⟩ = (cellsR r)[j]? := by
  rw [cell_rowAt w b j h.1, h.2.1]

end Go.Proofs.Ytjpfggffeffapaa
