/- Layer 10: a uart as a row of three cells: its parts, and when two are the same; what its calls make of it, over texts. -/
import Derived.Test.YtdapjpbdplhgbaaWholeAt
import Derived.ChangeKeysEq
namespace Go.Proofs.Ytdapjpbdplhgbaa.Ua
open Go.RowKit
set_option linter.unusedVariables false
set_option maxRecDepth 100000

/-- A uart: In, Out, On. -/
structure Ua where
  i : ByteArray
  o : ByteArray
  n : Bool
deriving DecidableEq

def cellsU (t : Ua) : Array Value := #[.string t.i, .string t.o, .bool t.n]

/-- Three, so spelt that no walk opens a row of them. -/
def N3 : Nat := 3

/-- The text of no bytes. -/
def E0 : ByteArray := ⟨#[]⟩

/-- The uart of nothing. -/
def U0 : Ua := ⟨⟨#[]⟩, ⟨#[]⟩, false⟩

theorem size_cellsU (t : Ua) : (cellsU t).size = N3 := rfl

theorem eqU_self (r : Ua) (w : World) : (Op.equalIn 10000 64 (.agg (cellsU r)) (.agg (cellsU r))).run Try.prog w = .ok true w := by
  have hu : Try.prog.underlying 64 = some (.struct (Try.prog.fieldsOf 64)) := by kernel_rfl
  have hp : Try.prog.stoodInHeld 64 = false := by kernel_rfl
  rw [run_equalIn_agg w 9999 64 _ _ hu hp]
  obtain ⟨r0, r1, r2⟩ := r
  simp only [cellsU]
  simp [go_sem]

theorem eq_self (r : Ua) (w : World) : (binOp .eql 64 (.agg (cellsU r)) (.agg (cellsU r))).run Try.prog w = .ok (.bool true) w := by
  rw [run_eql_struct, eqU_self]; rfl

theorem sizeU (w : World) : (sizeOf 64).run Try.prog w = .ok N3 w := Try.sizeOf64 w

theorem zeroU (w : World) : (zeroValue 64).run Try.prog w = .ok (.agg (cellsU U0)) w := Try.zeroValue64 w

theorem loadU (w : World) (b : Nat) (h : isRow w b = true) (hn : (rowAt w b).size = N3) : (loadCellsFrom ⟨b, 0, none⟩ 0 N3 #[]).run Try.prog w = .ok (rowAt w b) w :=
  load_rowAt Try.prog w b N3 h hn

theorem storeU (r : Ua) (w : World) (b : Nat) (h : isRow w b = true) (hn : (rowAt w b).size = N3) : (storeCells ⟨b, 0, none⟩ (cellsU r).toList 0).run Try.prog w = .ok () (w.setRow b (cellsU r)) := by
  refine store_rowAt Try.prog w b _ h (by rw [hn, size_cellsU]) fun v hv => ?_
  simp only [cellsU, List.mem_cons] at hv
  rcases hv with rfl | rfl | rfl | hv
  all_goals first | rfl | simp at hv

theorem loadSetU (r : Ua) (w : World) (b : Nat) (h : isRow w b = true) : (loadCellsFrom ⟨b, 0, none⟩ 0 N3 #[]).run Try.prog (w.setRow b (cellsU r)) = .ok (cellsU r) (w.setRow b (cellsU r)) := by
  have := loadU (w.setRow b (cellsU r)) b (by rw [isRow_setRow, h]) (by rw [rowAt_setRow w b _ h, size_cellsU])
  rwa [rowAt_setRow w b _ h] at this

/-- What walks over uarts are told. -/
theorem uaRules : (∀ w : World, (sizeOf 64).run Try.prog w = .ok N3 w) ∧ (∀ w : World, (zeroValue 64).run Try.prog w = .ok (.agg (cellsU U0)) w) ∧
    (∀ r : Ua, (cellsU r).size = N3) ∧
    (∀ (r : Ua) (w : World) (b : Nat), isRow w b = true → (rowAt w b).size = N3 → (storeCells ⟨b, 0, none⟩ (cellsU r).toList 0).run Try.prog w = .ok () (w.setRow b (cellsU r))) ∧
    (∀ (w : World) (b : Nat), isRow w b = true → (rowAt w b).size = N3 → (loadCellsFrom ⟨b, 0, none⟩ 0 N3 #[]).run Try.prog w = .ok (rowAt w b) w) ∧
    (∀ (w : World) (c : Array Value) (t : TypeId) (n : Nat), rowAt (w.alloc (.cells c t)) n = if n = w.heap.size then c else rowAt w n) ∧
    (∀ (w : World) (c : Array Value) (t : TypeId) (n : Nat), isRow (w.alloc (.cells c t)) n = if n = w.heap.size then true else isRow w n) ∧
    (∀ (w : World) (c c' : Array Value) (t : TypeId) (n : Nat), (w.alloc (.cells c t)).setRow n c' = if n = w.heap.size then w.alloc (.cells c' t) else (w.setRow n c').alloc (.cells c t)) ∧
    (∀ (r : Ua) (w : World) (b : Nat), isRow w b = true → (loadCellsFrom ⟨b, 0, none⟩ 0 N3 #[]).run Try.prog (w.setRow b (cellsU r)) = .ok (cellsU r) (w.setRow b (cellsU r))) :=
  ⟨sizeU, zeroU, size_cellsU, storeU, loadU, rowAt_alloc, isRow_alloc, setRow_alloc, loadSetU⟩

/-- The parts of a uart, and what a store into one makes of it. -/
theorem uaParts : (∀ r : Ua, (cellsU r)[0]? = some (.string r.i)) ∧ (∀ r : Ua, (cellsU r)[1]? = some (.string r.o)) ∧ (∀ r : Ua, (cellsU r)[2]? = some (.bool r.n)) :=
  ⟨fun _ => rfl, fun _ => rfl, fun _ => rfl⟩

theorem uaSets : (∀ (r : Ua) (x : ByteArray), (cellsU r).setIfInBounds 0 (.string x) = cellsU { r with i := x }) ∧ (∀ (r : Ua) (x : ByteArray), (cellsU r).setIfInBounds 1 (.string x) = cellsU { r with o := x }) ∧
    (∀ (r : Ua) (x : Bool), (cellsU r).setIfInBounds 2 (.bool x) = cellsU { r with n := x }) :=
  ⟨fun _ _ => rfl, fun _ _ => rfl, fun _ _ => rfl⟩

theorem uaDrew : (∀ (w : World) (b : Nat), rowAt w.drew b = rowAt w b) ∧ (∀ (w : World) (b : Nat), isRow w.drew b = isRow w b) ∧ (∀ (w : World) (n : Nat) (c : Array Value), w.drew.setRow n c = (w.setRow n c).drew) :=
  ⟨rowAt_drew, isRow_drew, fun _ _ _ => rfl⟩

theorem grow (w : World) (o : Obj) : Below w.heap.size w (w.alloc o) := (Below.refl _ w).alloc (Nat.le_refl _) o

theorem onto {n : Nat} {w x y : World} (h : Below n w x) (hn : n ≤ w.heap.size) (k : Below x.heap.size x y) : Below n w y := h.trans (k.mono (Nat.le_trans hn h.size))

/-- A uart in block b. -/
def Rat (w : World) (b : Nat) (r : Ua) : Prop := isRow w b = true ∧ rowAt w b = cellsU r ∧ b < w.heap.size

theorem Rat.on {w y : World} {b : Nat} {r : Ua} (h : Rat w b r) (hb : Below w.heap.size w y) : Rat y b r :=
  ⟨by rw [(brow hb).2 _ h.2.2]; exact h.1, by rw [(brow hb).1 _ h.2.2]; exact h.2.1, Nat.lt_of_lt_of_le h.2.2 hb.size⟩

theorem Rat.new (w : World) (r : Ua) (t : TypeId) : Rat (w.alloc (.cells (cellsU r) t)) w.heap.size r := ⟨isRow_new _ _ _, rowAt_new _ _ _, by simp⟩

theorem Rat.load {w : World} {b : Nat} {r : Ua} (h : Rat w b r) : (loadCellsFrom ⟨b, 0, none⟩ 0 N3 #[]).run Try.prog w = .ok (cellsU r) w := by
  have := loadU w b h.1 (by rw [h.2.1, size_cellsU])
  rwa [h.2.1] at this

theorem Rat.cell {w : World} {b : Nat} {r : Ua} (h : Rat w b r) (j : Nat) : w.cell? ⟨b, j, none⟩ = (cellsU r)[j]? := by
  rw [cell_rowAt w b j h.1, h.2.1]

theorem Rat.three {w : World} {b : Nat} {r : Ua} (h : Rat w b r) : w.cell? ⟨b, 0, none⟩ = some (.string r.i) ∧ w.cell? ⟨b, 1, none⟩ = some (.string r.o) ∧ w.cell? ⟨b, 2, none⟩ = some (.bool r.n) :=
  ⟨h.cell 0, h.cell 1, h.cell 2⟩

theorem Rat.set {w : World} {b : Nat} {r : Ua} (h : Rat w b r) (q : Ua) : Rat (w.setRow b (cellsU q)) b q :=
  ⟨by rw [isRow_setRow]; exact h.1, rowAt_setRow w b _ h.1, by rw [setRow_size]; exact h.2.2⟩

theorem Rat.setFar {w : World} {b : Nat} {r : Ua} (h : Rat w b r) (g : Nat) (c : Array Value) (hg : b < g) : Rat (w.setRow g c) b r :=
  ⟨by rw [isRow_setRow]; exact h.1, by rw [rowAt_setRow_lt w g c b hg]; exact h.2.1, by rw [setRow_size]; exact h.2.2⟩

theorem Rat.setFar' {w : World} {b : Nat} {r : Ua} (h : Rat w b r) (g : Nat) (c : Array Value) (hg : ¬ b = g) : Rat (w.setRow g c) b r :=
  ⟨by rw [isRow_setRow]; exact h.1, by rw [rowAt_of (setRow_other w g b c hg)]; exact h.2.1, by rw [setRow_size]; exact h.2.2⟩

/-- A byte as a text. -/
def byteT (c : Int) : ByteArray := strOfNums [c]

theorem byteT_size (c : Int) : (byteT c).size = 1 := strOfNums_size _

/-- How many bytes a uart may have. -/
structure Fits (u : Ua) : Prop where
  i : u.i.size ≤ 16
  o : u.o.size ≤ 64

/-- Byte number k of a text (0 behind its end). -/
def byteN (s : ByteArray) (k : Nat) : Nat := (s.data.toList.map UInt8.toNat).getD k 0

theorem byteN_in (s : ByteArray) (k : Nat) (h : k < s.size) : byteN s k = s[k].toNat := by
  unfold byteN
  have h' : k < s.data.toList.length := by simpa using h
  rw [List.getD_eq_getElem?_getD, List.getElem?_map, List.getElem?_eq_getElem h']
  rfl

theorem byteN_out (s : ByteArray) (k : Nat) (h : ¬ k < s.size) : byteN s k = 0 := by
  unfold byteN
  have h' : ¬ k < s.data.toList.length := by simpa using h
  rw [List.getD_eq_getElem?_getD, List.getElem?_map, List.getElem?_eq_none (by omega)]
  rfl

theorem byteN_lt (s : ByteArray) (k : Nat) : byteN s k < 256 := by
  unfold byteN
  rw [List.getD_eq_getElem?_getD, List.getElem?_map]
  cases s.data.toList[k]? with
  | none => decide
  | some b => exact b.toNat_lt

/-- A register, the uart then, and whether there is one. -/
def readV (u : Ua) (g : Int) : Int := if g = 0 then byteN u.i 0 else if g = 4 then u.i.size else if g = 8 then u.o.size % 256 else 0
def leftV (u : Ua) (g : Int) : Ua := if g = 0 then { u with i := u.i.extract 1 u.i.size } else if g = 4 then u else if g = 8 then u else U0
def formV (g : Int) : Int := if g = 0 then 0 else if g = 4 then 0 else if g = 8 then 0 else 100

/-- The last 64 bytes, of at most 65. -/
def lastV (s : ByteArray) : ByteArray := if 64 < s.size then s.extract 1 s.size else s

/-- What a write makes of a uart. -/
def writeV (u : Ua) (g v : Int) : Ua := if g = 0 then { u with o := lastV (u.o ++ byteT (v % 256)) } else if g = 4 then { u with n := v % 2 == 1 } else if g = 8 then { u with o := ⟨#[]⟩ } else U0

/-- What a byte that comes in makes of it. -/
def feedV (u : Ua) (c : Int) : Ua := if u.i.size < 16 then { u with i := u.i ++ byteT c } else u

end Go.Proofs.Ytdapjpbdplhgbaa.Ua
