/- Layer 12: the devices side by side as a row of sixteen cells; a bus is these and its memory. -/
import Derived.Test.YtmegghgjllbamaaGreatDoorQDmTwo
import Derived.Test.YtmegghgjllbamaaGreatDoorQTmAll
import Derived.Test.YtmegghgjllbamaaGreatDoorQUaAll
import Derived.Test.YtmegghgjllbamaaGreatDoorQRngAll
import Derived.Laws.CopyRow
import Derived.RegionTactic
namespace Go.Proofs.YtmegghgjllbamaaGreatDoor
open Go.RowKit
set_option linter.unusedVariables false
set_option maxRecDepth 100000

/-- Where the rng stands. -/
structure Rg where
  a : Int
  b : Int
  c : Int
  d : Int
deriving DecidableEq

/-- Its parts are those that may be. -/
structure Wg (g : Rg) : Prop where
  a : 0 ≤ g.a ∧ g.a ≤ 65520
  b : 0 ≤ g.b ∧ g.b ≤ 65520
  c : 0 ≤ g.c ∧ g.c ≤ 65520
  d : 0 ≤ g.d ∧ g.d ≤ 65520

def cellsG (g : Rg) : Array Value := #[.int .i64 g.a, .int .i64 g.b, .int .i64 g.c, .int .i64 g.d]

/-- Four, so spelt that no walk opens a row of them. -/
def N4 : Nat := 4

def GZ : Rg := ⟨0, 0, 0, 0⟩
def G0 : Rg := ⟨0, 0, 12345, 6789⟩

/-- The devices: timer, uart, dma, rng, disk. -/
structure Dv where
  t : Tm.Tm
  u : Ua.Ua
  d : Dm.Dm
  g : Rg
  k : ByteArray

/-- Their state may be. -/
structure Wv (v : Dv) : Prop where
  t : Tm.Wt v.t
  u : Ua.Fits v.u
  d : Dm.Wd v.d
  g : Wg v.g
  k : v.k.size = 1024

/-- The devices' cells. -/
def cellsV (v : Dv) : Array Value :=
  #[.int .u32 v.t.e, .int .u32 v.t.l, .bool v.t.r, .string v.u.i, .string v.u.o, .bool v.u.n, .int .u32 v.d.a, .int .u32 v.d.n, .int .u32 v.d.b, .int .u32 v.d.y, .bool v.d.r,
    .int .i64 v.g.a, .int .i64 v.g.b, .int .i64 v.g.c, .int .i64 v.g.d, .string v.k]

/-- A bus's cells; p is where its memory lies. -/
def cellsB (v : Dv) (p : Nat) : Array Value :=
  #[.int .u32 v.t.e, .int .u32 v.t.l, .bool v.t.r, .string v.u.i, .string v.u.o, .bool v.u.n, .int .u32 v.d.a, .int .u32 v.d.n, .int .u32 v.d.b, .int .u32 v.d.y, .bool v.d.r,
    .int .i64 v.g.a, .int .i64 v.g.b, .int .i64 v.g.c, .int .i64 v.g.d, .string v.k, .pointer (some ⟨p, 0, none⟩)]

/-- The document's bus: its memory first. -/
def cellsM (v : Dv) (p : Nat) : Array Value :=
  #[.pointer (some ⟨p, 0, none⟩), .int .u32 v.t.e, .int .u32 v.t.l, .bool v.t.r, .string v.u.i, .string v.u.o, .bool v.u.n, .int .u32 v.d.a, .int .u32 v.d.n, .int .u32 v.d.b, .int .u32 v.d.y, .bool v.d.r,
    .int .i64 v.g.a, .int .i64 v.g.b, .int .i64 v.g.c, .int .i64 v.g.d, .string v.k]

def N16 : Nat := 16
def N17 : Nat := 17

/-- No devices at all. -/
def VZ : Dv := ⟨Tm.T0, Ua.U0, Dm.D0, GZ, ⟨#[]⟩⟩

/-- A part of a row. -/
def part (c : Array Value) (o n : Nat) : Array Value := (c.toList.drop o |>.take n).toArray

/-- A row with a part put in. -/
def placed (c : Array Value) (o : Nat) (l : Array Value) : Array Value := (c.toList.take o ++ l.toList ++ c.toList.drop (o + l.size)).toArray

def fitsP (c : Array Value) (o n : Nat) : Bool := decide (o + n ≤ c.size)

def ones (c : Array Value) : Bool := c.toList.all (·.oneCell')

theorem load_part (w : World) (b o n : Nat) (h : isRow w b = true) (hn : fitsP (rowAt w b) o n = true) :
    (loadCellsFrom ⟨b, o, none⟩ 0 n #[]).run Tryz.prog w = .ok (part (rowAt w b) o n) w := by
  have hn' : o + n ≤ (rowAt w b).size := by simpa [fitsP] using hn
  have hl : ((rowAt w b).toList.drop o |>.take n).length = n := by simp; omega
  have := run_loadCells_list (P := Tryz.prog) w ⟨b, o, none⟩ ((rowAt w b).toList.drop o |>.take n) (fun j v hv => by
    rw [Addr.add_lit, cell_rowAt w b _ h]
    have hj : j < n := by have := (List.getElem?_eq_some_iff.1 hv).1; omega
    rw [List.getElem?_take_of_lt hj, List.getElem?_drop] at hv
    simpa using hv)
  rw [hl] at this
  exact this

theorem store_part (w : World) (b o : Nat) (c : Array Value) (h : isRow w b = true) (hn : fitsP (rowAt w b) o c.size = true) (h1 : ones c = true) :
    (storeCells ⟨b, o, none⟩ c.toList 0).run Tryz.prog w = .ok () (w.setRow b (placed (rowAt w b) o c)) := by
  have hn' : o + c.size ≤ (rowAt w b).size := by simpa [fitsP] using hn
  obtain ⟨t, e⟩ := isRow_some h
  have := run_storeCells_at (P := Tryz.prog) b o t c.toList 0 (rowAt w b) w e (by simpa using hn') (fun v hv => List.all_eq_true.1 h1 v hv)
  simpa [placed] using this

theorem load_placed (w : World) (b o n : Nat) (c : Array Value) (h : isRow w b = true) (hn : fitsP c o n = true) :
    (loadCellsFrom ⟨b, o, none⟩ 0 n #[]).run Tryz.prog (w.setRow b c) = .ok (part c o n) (w.setRow b c) := by
  have := load_part (w.setRow b c) b o n (by rw [isRow_setRow, h]) (by rw [rowAt_setRow w b _ h]; exact hn)
  rwa [rowAt_setRow w b _ h] at this

/-- What walks over rows are told. -/
theorem rowRules : (∀ (w : World) (b o n : Nat), isRow w b = true → fitsP (rowAt w b) o n = true → (loadCellsFrom ⟨b, o, none⟩ 0 n #[]).run Tryz.prog w = .ok (part (rowAt w b) o n) w) ∧
    (∀ (w : World) (b o : Nat) (c : Array Value), isRow w b = true → fitsP (rowAt w b) o c.size = true → ones c = true → (storeCells ⟨b, o, none⟩ c.toList 0).run Tryz.prog w = .ok () (w.setRow b (placed (rowAt w b) o c))) ∧
    (∀ (w : World) (b o n : Nat) (c : Array Value), isRow w b = true → fitsP c o n = true → (loadCellsFrom ⟨b, o, none⟩ 0 n #[]).run Tryz.prog (w.setRow b c) = .ok (part c o n) (w.setRow b c)) ∧
    (∀ (w : World) (c : Array Value) (t : TypeId) (n : Nat), rowAt (w.alloc (.cells c t)) n = if n = w.heap.size then c else rowAt w n) ∧
    (∀ (w : World) (c : Array Value) (t : TypeId) (n : Nat), isRow (w.alloc (.cells c t)) n = if n = w.heap.size then true else isRow w n) ∧
    (∀ (w : World) (c c' : Array Value) (t : TypeId) (n : Nat), (w.alloc (.cells c t)).setRow n c' = if n = w.heap.size then w.alloc (.cells c' t) else (w.setRow n c').alloc (.cells c t)) ∧
    (∀ (w : World) (b : Nat), rowAt w.drew b = rowAt w b) ∧ (∀ (w : World) (b : Nat), isRow w.drew b = isRow w b) ∧ (∀ (w : World) (n : Nat) (c : Array Value), w.drew.setRow n c = (w.setRow n c).drew) :=
  ⟨load_part, store_part, load_placed, rowAt_alloc, isRow_alloc, setRow_alloc, rowAt_drew, isRow_drew, fun _ _ _ => rfl⟩

theorem rowAt_sets (w : World) (g : Nat) (c : Array Value) (b : Nat) (h : isRow w g = true) : rowAt (w.setRow g c) b = if b = g then c else rowAt w b := by
  by_cases e : b = g
  · subst e; rw [if_pos rfl, rowAt_setRow w b c h]
  · rw [if_neg e, rowAt_of (setRow_other w g b c e)]

/-- Rows behind a store. -/
theorem rowSets : (∀ (w : World) (g : Nat) (c : Array Value) (b : Nat), isRow w g = true → rowAt (w.setRow g c) b = if b = g then c else rowAt w b) ∧ (∀ (w : World) (g : Nat) (c : Array Value) (b : Nat), isRow (w.setRow g c) b = isRow w b) :=
  ⟨rowAt_sets, isRow_setRow⟩

theorem sizeG (w : World) : (sizeOf 51).run Tryz.prog w = .ok N4 w := Tryz.sizeOf51 w
theorem sizeV (w : World) : (sizeOf 61).run Tryz.prog w = .ok N16 w := Tryz.sizeOf61 w
theorem zeroG (w : World) : (zeroValue 51).run Tryz.prog w = .ok (.agg (cellsG GZ)) w := Tryz.zeroValue51 w
theorem zeroV (w : World) : (zeroValue 61).run Tryz.prog w = .ok (.agg (cellsV VZ)) w := Tryz.zeroValue61 w

/-- The sizes and noughts of what is held. -/
theorem sizeRules : (∀ w : World, (sizeOf 55).run Tryz.prog w = .ok Tm.N3 w) ∧ (∀ w : World, (sizeOf 57).run Tryz.prog w = .ok Ua.N3 w) ∧ (∀ w : World, (sizeOf 59).run Tryz.prog w = .ok Dm.N5 w) ∧
    (∀ w : World, (sizeOf 51).run Tryz.prog w = .ok N4 w) ∧ (∀ w : World, (sizeOf 61).run Tryz.prog w = .ok N16 w) ∧
    (∀ w : World, (zeroValue 55).run Tryz.prog w = .ok (.agg (Tm.cellsT Tm.T0)) w) ∧ (∀ w : World, (zeroValue 57).run Tryz.prog w = .ok (.agg (Ua.cellsU Ua.U0)) w) ∧ (∀ w : World, (zeroValue 59).run Tryz.prog w = .ok (.agg (Dm.cellsD Dm.D0)) w) ∧
    (∀ w : World, (zeroValue 51).run Tryz.prog w = .ok (.agg (cellsG GZ)) w) ∧ (∀ w : World, (zeroValue 61).run Tryz.prog w = .ok (.agg (cellsV VZ)) w) :=
  ⟨Tm.tmRules.1, Ua.sizeU, Dm.sizeD, sizeG, sizeV, Tm.tmRules.2.1, Ua.zeroU, Dm.zeroD, zeroG, zeroV⟩

theorem cellSizes : (∀ r : Tm.Tm, (Tm.cellsT r).size = Tm.N3) ∧ (∀ r : Ua.Ua, (Ua.cellsU r).size = Ua.N3) ∧ (∀ r : Dm.Dm, (Dm.cellsD r).size = Dm.N5) ∧ (∀ r : Rg, (cellsG r).size = N4) ∧ (∀ r : Dv, (cellsV r).size = N16) ∧
    (∀ r : Tm.Tm, ones (Tm.cellsT r) = true) ∧ (∀ r : Ua.Ua, ones (Ua.cellsU r) = true) ∧ (∀ r : Dm.Dm, ones (Dm.cellsD r) = true) ∧ (∀ r : Rg, ones (cellsG r) = true) ∧ (∀ r : Dv, ones (cellsV r) = true) ∧
    ¬ Tm.N3 = 0 ∧ ¬ Ua.N3 = 0 ∧ ¬ Dm.N5 = 0 ∧ ¬ N4 = 0 ∧ ¬ N16 = 0 :=
  ⟨fun _ => rfl, fun _ => rfl, fun _ => rfl, fun _ => rfl, fun _ => rfl, fun _ => rfl, fun _ => rfl, fun _ => rfl, fun _ => rfl, fun _ => rfl, by decide, by decide, by decide, by decide, by decide⟩

/-- A device by itself in a box. -/
theorem boxRules : (∀ r : Tm.Tm, fitsP (Tm.cellsT r) 0 Tm.N3 = true) ∧ (∀ r : Tm.Tm, part (Tm.cellsT r) 0 Tm.N3 = Tm.cellsT r) ∧ (∀ r q : Tm.Tm, placed (Tm.cellsT r) 0 (Tm.cellsT q) = Tm.cellsT q) ∧
    (∀ r : Ua.Ua, fitsP (Ua.cellsU r) 0 Ua.N3 = true) ∧ (∀ r : Ua.Ua, part (Ua.cellsU r) 0 Ua.N3 = Ua.cellsU r) ∧ (∀ r q : Ua.Ua, placed (Ua.cellsU r) 0 (Ua.cellsU q) = Ua.cellsU q) ∧
    (∀ r : Dm.Dm, fitsP (Dm.cellsD r) 0 Dm.N5 = true) ∧ (∀ r : Dm.Dm, part (Dm.cellsD r) 0 Dm.N5 = Dm.cellsD r) ∧ (∀ r q : Dm.Dm, placed (Dm.cellsD r) 0 (Dm.cellsD q) = Dm.cellsD q) ∧
    (∀ r : Rg, fitsP (cellsG r) 0 N4 = true) ∧ (∀ r : Rg, part (cellsG r) 0 N4 = cellsG r) ∧ (∀ r q : Rg, placed (cellsG r) 0 (cellsG q) = cellsG q) ∧
    (∀ r : Dv, fitsP (cellsV r) 0 N16 = true) ∧ (∀ r : Dv, part (cellsV r) 0 N16 = cellsV r) ∧ (∀ r q : Dv, placed (cellsV r) 0 (cellsV q) = cellsV q) :=
  ⟨fun _ => rfl, fun _ => rfl, fun _ _ => rfl, fun _ => rfl, fun _ => rfl, fun _ _ => rfl, fun _ => rfl, fun _ => rfl, fun _ _ => rfl, fun _ => rfl, fun _ => rfl, fun _ _ => rfl, fun _ => rfl, fun _ => rfl, fun _ _ => rfl⟩

/-- The parts of the devices. -/
theorem vParts : (∀ v : Dv, fitsP (cellsV v) 0 Tm.N3 = true) ∧ (∀ v : Dv, fitsP (cellsV v) 3 Ua.N3 = true) ∧ (∀ v : Dv, fitsP (cellsV v) 6 Dm.N5 = true) ∧ (∀ v : Dv, fitsP (cellsV v) 11 N4 = true) ∧
    (∀ v : Dv, part (cellsV v) 0 Tm.N3 = Tm.cellsT v.t) ∧ (∀ v : Dv, part (cellsV v) 3 Ua.N3 = Ua.cellsU v.u) ∧ (∀ v : Dv, part (cellsV v) 6 Dm.N5 = Dm.cellsD v.d) ∧ (∀ v : Dv, part (cellsV v) 11 N4 = cellsG v.g) ∧
    (∀ (v : Dv) (r : Tm.Tm), placed (cellsV v) 0 (Tm.cellsT r) = cellsV { v with t := r }) ∧ (∀ (v : Dv) (r : Ua.Ua), placed (cellsV v) 3 (Ua.cellsU r) = cellsV { v with u := r }) ∧
    (∀ (v : Dv) (r : Dm.Dm), placed (cellsV v) 6 (Dm.cellsD r) = cellsV { v with d := r }) ∧ (∀ (v : Dv) (r : Rg), placed (cellsV v) 11 (cellsG r) = cellsV { v with g := r }) ∧
    (∀ v : Dv, (cellsV v)[2]? = some (.bool v.t.r)) ∧ (∀ v : Dv, (cellsV v)[10]? = some (.bool v.d.r)) ∧ (∀ v : Dv, (cellsV v)[15]? = some (.string v.k)) ∧
    (∀ (v : Dv) (s : ByteArray), (cellsV v).setIfInBounds 15 (.string s) = cellsV { v with k := s }) :=
  ⟨fun _ => rfl, fun _ => rfl, fun _ => rfl, fun _ => rfl, fun _ => rfl, fun _ => rfl, fun _ => rfl, fun _ => rfl, fun _ _ => rfl, fun _ _ => rfl, fun _ _ => rfl, fun _ _ => rfl, fun _ => rfl, fun _ => rfl, fun _ => rfl, fun _ _ => rfl⟩

/-- The parts of a bus. -/
theorem bParts : (∀ (v : Dv) (p : Nat), fitsP (cellsB v p) 0 Tm.N3 = true) ∧ (∀ (v : Dv) (p : Nat), fitsP (cellsB v p) 3 Ua.N3 = true) ∧ (∀ (v : Dv) (p : Nat), fitsP (cellsB v p) 6 Dm.N5 = true) ∧ (∀ (v : Dv) (p : Nat), fitsP (cellsB v p) 11 N4 = true) ∧ (∀ (v : Dv) (p : Nat), fitsP (cellsB v p) 0 N16 = true) ∧
    (∀ (v : Dv) (p : Nat), part (cellsB v p) 0 Tm.N3 = Tm.cellsT v.t) ∧ (∀ (v : Dv) (p : Nat), part (cellsB v p) 3 Ua.N3 = Ua.cellsU v.u) ∧ (∀ (v : Dv) (p : Nat), part (cellsB v p) 6 Dm.N5 = Dm.cellsD v.d) ∧ (∀ (v : Dv) (p : Nat), part (cellsB v p) 11 N4 = cellsG v.g) ∧ (∀ (v : Dv) (p : Nat), part (cellsB v p) 0 N16 = cellsV v) ∧
    (∀ (v : Dv) (p : Nat) (r : Tm.Tm), placed (cellsB v p) 0 (Tm.cellsT r) = cellsB { v with t := r } p) ∧ (∀ (v : Dv) (p : Nat) (r : Ua.Ua), placed (cellsB v p) 3 (Ua.cellsU r) = cellsB { v with u := r } p) ∧
    (∀ (v : Dv) (p : Nat) (r : Dm.Dm), placed (cellsB v p) 6 (Dm.cellsD r) = cellsB { v with d := r } p) ∧ (∀ (v : Dv) (p : Nat) (r : Rg), placed (cellsB v p) 11 (cellsG r) = cellsB { v with g := r } p) ∧
    (∀ (v q : Dv) (p : Nat), placed (cellsB v p) 0 (cellsV q) = cellsB q p) ∧
    (∀ (v : Dv) (p : Nat), (cellsB v p)[15]? = some (.string v.k)) ∧ (∀ (v : Dv) (p : Nat), (cellsB v p)[16]? = some (.pointer (some ⟨p, 0, none⟩))) ∧
    (∀ (v : Dv) (p : Nat) (s : ByteArray), (cellsB v p).setIfInBounds 15 (.string s) = cellsB { v with k := s } p) :=
  ⟨fun _ _ => rfl, fun _ _ => rfl, fun _ _ => rfl, fun _ _ => rfl, fun _ _ => rfl, fun _ _ => rfl, fun _ _ => rfl, fun _ _ => rfl, fun _ _ => rfl, fun _ _ => rfl, fun _ _ _ => rfl, fun _ _ _ => rfl, fun _ _ _ => rfl, fun _ _ _ => rfl, fun _ _ _ => rfl, fun _ _ => rfl, fun _ _ => rfl, fun _ _ _ => rfl⟩

/-- The parts of the document's bus. -/
theorem mParts : (∀ (v : Dv) (p : Nat), fitsP (cellsM v p) 1 Tm.N3 = true) ∧ (∀ (v : Dv) (p : Nat), fitsP (cellsM v p) 4 Ua.N3 = true) ∧ (∀ (v : Dv) (p : Nat), fitsP (cellsM v p) 7 Dm.N5 = true) ∧ (∀ (v : Dv) (p : Nat), fitsP (cellsM v p) 12 N4 = true) ∧
    (∀ (v : Dv) (p : Nat), part (cellsM v p) 1 Tm.N3 = Tm.cellsT v.t) ∧ (∀ (v : Dv) (p : Nat), part (cellsM v p) 4 Ua.N3 = Ua.cellsU v.u) ∧ (∀ (v : Dv) (p : Nat), part (cellsM v p) 7 Dm.N5 = Dm.cellsD v.d) ∧ (∀ (v : Dv) (p : Nat), part (cellsM v p) 12 N4 = cellsG v.g) ∧
    (∀ (v : Dv) (p : Nat) (r : Tm.Tm), placed (cellsM v p) 1 (Tm.cellsT r) = cellsM { v with t := r } p) ∧ (∀ (v : Dv) (p : Nat) (r : Ua.Ua), placed (cellsM v p) 4 (Ua.cellsU r) = cellsM { v with u := r } p) ∧
    (∀ (v : Dv) (p : Nat) (r : Dm.Dm), placed (cellsM v p) 7 (Dm.cellsD r) = cellsM { v with d := r } p) ∧ (∀ (v : Dv) (p : Nat) (r : Rg), placed (cellsM v p) 12 (cellsG r) = cellsM { v with g := r } p) ∧
    (∀ (v : Dv) (p : Nat), (cellsM v p)[0]? = some (.pointer (some ⟨p, 0, none⟩))) ∧ (∀ (v : Dv) (p : Nat), (cellsM v p)[3]? = some (.bool v.t.r)) ∧ (∀ (v : Dv) (p : Nat), (cellsM v p)[4]? = some (.string v.u.i)) ∧ (∀ (v : Dv) (p : Nat), (cellsM v p)[6]? = some (.bool v.u.n)) ∧
    (∀ (v : Dv) (p : Nat), (cellsM v p)[11]? = some (.bool v.d.r)) ∧ (∀ (v : Dv) (p : Nat), (cellsM v p)[12]? = some (.int .i64 v.g.a)) ∧ (∀ (v : Dv) (p : Nat), (cellsM v p)[13]? = some (.int .i64 v.g.b)) ∧ (∀ (v : Dv) (p : Nat), (cellsM v p)[14]? = some (.int .i64 v.g.c)) ∧ (∀ (v : Dv) (p : Nat), (cellsM v p)[15]? = some (.int .i64 v.g.d)) ∧
    (∀ (v : Dv) (p : Nat), (cellsM v p)[16]? = some (.string v.k)) ∧ (∀ (v : Dv) (p : Nat) (s : ByteArray), (cellsM v p).setIfInBounds 16 (.string s) = cellsM { v with k := s } p) :=
  ⟨fun _ _ => rfl, fun _ _ => rfl, fun _ _ => rfl, fun _ _ => rfl, fun _ _ => rfl, fun _ _ => rfl, fun _ _ => rfl, fun _ _ => rfl, fun _ _ _ => rfl, fun _ _ _ => rfl, fun _ _ _ => rfl, fun _ _ _ => rfl, fun _ _ => rfl, fun _ _ => rfl, fun _ _ => rfl, fun _ _ => rfl, fun _ _ => rfl, fun _ _ => rfl, fun _ _ => rfl, fun _ _ => rfl, fun _ _ => rfl, fun _ _ => rfl, fun _ _ _ => rfl⟩

theorem grow (w : World) (o : Obj) : Below w.heap.size w (w.alloc o) := (Below.refl _ w).alloc (Nat.le_refl _) o

theorem onto {n : Nat} {w x y : World} (h : Below n w x) (hn : n ≤ w.heap.size) (k : Below x.heap.size x y) : Below n w y := h.trans (k.mono (Nat.le_trans hn h.size))

/-- A row of cells in block b. -/
def Box (w : World) (b : Nat) (c : Array Value) : Prop := isRow w b = true ∧ rowAt w b = c ∧ b < w.heap.size

theorem Box.new (w : World) (c : Array Value) (t : TypeId) : Box (w.alloc (.cells c t)) w.heap.size c := ⟨isRow_new _ _ _, rowAt_new _ _ _, by simp⟩

theorem Box.of_heap {w y : World} {b : Nat} {c : Array Value} (h : Box w b c) (e : y.heap[b]? = w.heap[b]?) : Box y b c := by
  refine ⟨by rw [isRow_of e]; exact h.1, by rw [rowAt_of e]; exact h.2.1, ?_⟩
  have hl := h.2.2
  rw [Array.getElem?_eq_getElem hl] at e
  exact (Array.getElem?_eq_some_iff.1 e).1

theorem Box.on {w y : World} {b : Nat} {c : Array Value} (h : Box w b c) (hb : Below w.heap.size w y) : Box y b c := h.of_heap (hb.block b h.2.2)

theorem Box.set {w : World} {b : Nat} {c : Array Value} (h : Box w b c) (q : Array Value) : Box (w.setRow b q) b q :=
  ⟨by rw [isRow_setRow]; exact h.1, rowAt_setRow w b _ h.1, by rw [setRow_size]; exact h.2.2⟩

theorem Box.far {w : World} {b : Nat} {c : Array Value} (h : Box w b c) (g : Nat) (q : Array Value) (hg : b ≠ g) : Box (w.setRow g q) b c := h.of_heap (setRow_other w g b q hg)

theorem Box.cell {w : World} {b : Nat} {c : Array Value} (h : Box w b c) (j : Nat) : w.cell? ⟨b, j, none⟩ = c[j]? := by rw [cell_rowAt w b j h.1, h.2.1]

theorem Box.free {w : World} {b : Nat} {c : Array Value} (h : Box w b c) (j : Nat) : w.frozen? ⟨b, j, none⟩ = false := frozen_rowAt w b j h.1

theorem Box.drew {w : World} {b : Nat} {c : Array Value} (h : Box w b c) : Box w.drew b c := h

theorem Box.loads {w : World} {b : Nat} {c d : Array Value} (h : Box w b c) (o n : Nat) (hf : fitsP c o n = true) (hp : part c o n = d) : (loadCellsFrom ⟨b, o, none⟩ 0 n #[]).run Tryz.prog w = .ok d w := by
  have := load_part w b o n h.1 (by rw [h.2.1]; exact hf)
  rwa [h.2.1, hp] at this

theorem Box.loadV {w : World} {b : Nat} {v : Dv} (h : Box w b (cellsV v)) : (loadCellsFrom ⟨b, 0, none⟩ 0 N16 #[]).run Tryz.prog w = .ok (cellsV v) w := h.loads 0 N16 rfl rfl

theorem Box.loadG {w : World} {b : Nat} {v : Rg} (h : Box w b (cellsG v)) : (loadCellsFrom ⟨b, 0, none⟩ 0 N4 #[]).run Tryz.prog w = .ok (cellsG v) w := h.loads 0 N4 rfl rfl

/-- Two boxes that are made one behind the other, and a call. -/
theorem two_boxes {w y : World} {c d : Array Value} {s t : TypeId} (hb : Below ((w.alloc (.cells c s)).alloc (.cells d t)).heap.size ((w.alloc (.cells c s)).alloc (.cells d t)) y) :
    Box y w.heap.size c ∧ Box y (w.heap.size + 1) d ∧ Below w.heap.size w y := by
  refine ⟨((Box.new w c s).on (grow _ _)).on hb, ?_, onto ((grow w _).alloc (by simp) _) (Nat.le_refl _) hb⟩
  have := (Box.new (w.alloc (.cells c s)) d t).on hb
  simpa using this

/-- Only the blocks of l may have changed. -/
structure Kept (l : List Nat) (w w' : World) : Prop where
  os : w'.os = w.os
  tape : w'.tape = w.tape
  output : w'.output = w.output
  size : w.heap.size ≤ w'.heap.size
  block : ∀ k, k < w.heap.size → k ∉ l → w'.heap[k]? = w.heap[k]?

theorem Kept.refl (l : List Nat) (w : World) : Kept l w w := ⟨rfl, rfl, rfl, Nat.le_refl _, fun _ _ _ => rfl⟩

theorem Kept.trans {l : List Nat} {x y z : World} (h : Kept l x y) (k : Kept l y z) : Kept l x z :=
  ⟨k.os.trans h.os, k.tape.trans h.tape, k.output.trans h.output, Nat.le_trans h.size k.size, fun i hi hl => (k.block i (Nat.lt_of_lt_of_le hi h.size) hl).trans (h.block i hi hl)⟩

theorem Kept.of {l : List Nat} {x y : World} (h : Below x.heap.size x y) : Kept l x y := ⟨h.os, h.tape, h.output, h.size, fun k hk _ => h.block k hk⟩

theorem Kept.mono {l m : List Nat} {x y : World} (h : Kept l x y) (hm : ∀ k, k ∈ l → k ∈ m) : Kept m x y := ⟨h.os, h.tape, h.output, h.size, fun k hk hl => h.block k hk (fun e => hl (hm k e))⟩

theorem Kept.grown {l : List Nat} {x y : World} {g : Nat} (h : x.grownBy y (some g)) (hg : g ∈ l) : Kept l x y := ⟨h.os, h.tape, h.output, h.size, fun k hk hl => h.block k hk (by intro e; cases e; exact hl hg)⟩

theorem Kept.rkept {l : List Nat} {x y : World} {a b c : Nat} (h : RKept a b c x y) (ha : a ∈ l) (hb : b ∈ l) (hc : c ∈ l) : Kept l x y :=
  ⟨h.os, h.tape, h.output, h.size, fun k hk hl => h.block k hk (by rintro rfl; exact hl ha) (by rintro rfl; exact hl hb) (by rintro rfl; exact hl hc)⟩

theorem Kept.set {l : List Nat} (x : World) (g : Nat) (c : Array Value) (hg : g ∈ l) : Kept l x (x.setRow g c) :=
  ⟨rfl, rfl, rfl, by rw [setRow_size]; exact Nat.le_refl _, fun k hk hl => setRow_other x g k c (by rintro rfl; exact hl hg)⟩

/-- What was below stays where all that may have changed lies above. -/
theorem Kept.below {l : List Nat} {n : Nat} {w x y : World} (h : Below n w x) (k : Kept l x y) (hn : n ≤ w.heap.size) (hl : ∀ i, i ∈ l → n ≤ i) : Below n w y :=
  ⟨k.os.trans h.os, k.tape.trans h.tape, k.output.trans h.output, Nat.le_trans h.size k.size, fun i hi => (k.block i (by have := h.size; omega) (fun e => by have := hl i e; omega)).trans (h.block i hi)⟩

theorem Mem.kept {x y : World} {l : List Nat} (k : Kept l x y) {p g n c : Nat} {B : Nat → Nat} {D : Nat → Bool} (M : Mem x p g n c B D) (hp : p ∉ l) (hg : g ∉ l) : Mem y p g n c B D :=
  M.keep k.size (k.block p M.zp hp) (k.block g M.zg hg)

theorem Box.kept {x y : World} {l : List Nat} (k : Kept l x y) {b : Nat} {c : Array Value} (h : Box x b c) (hb : b ∉ l) : Box y b c := h.of_heap (k.block b h.2.2 hb)

theorem RMem.kept {x y : World} {l : List Nat} (k : Kept l x y) {p gb gd n : Nat} {B : Nat → Nat} {D : Nat → Bool} (M : RMem x p gb gd n B D) (hp : p ∉ l) (hb : gb ∉ l) (hd : gd ∉ l) : RMem y p gb gd n B D :=
  M.keep k.size (k.block p M.zp hp) (k.block gb M.zb hb) (k.block gd M.zd hd)

/-- In block b lies a bus: the devices v, the memory of n pages in the blocks p and g. -/
structure Bus (w : World) (b p g n c : Nat) (v : Dv) (B : Nat → Nat) (D : Nat → Bool) : Prop where
  row : isRow w b = true
  at' : rowAt w b = cellsB v p
  lt : b < w.heap.size
  m : Mem w p g n c B D
  wv : Wv v
  np : b ≠ p
  ng : b ≠ g

theorem Bus.keep {w y : World} {b p g n c : Nat} {v : Dv} {B : Nat → Nat} {D : Nat → Bool} (h : Bus w b p g n c v B D) {l : List Nat} (k : Kept l w y) (hb : b ∉ l) (hp : p ∉ l) (hg : g ∉ l) : Bus y b p g n c v B D :=
  ⟨by rw [isRow_of (k.block b h.lt hb)]; exact h.row, by rw [rowAt_of (k.block b h.lt hb)]; exact h.at', Nat.lt_of_lt_of_le h.lt k.size, h.m.kept k hp hg, h.wv, h.np, h.ng⟩

theorem Bus.on {w y : World} {b p g n c : Nat} {v : Dv} {B : Nat → Nat} {D : Nat → Bool} (h : Bus w b p g n c v B D) (hb : Below w.heap.size w y) : Bus y b p g n c v B D :=
  h.keep (l := []) (Kept.of hb) (by simp) (by simp) (by simp)

theorem Bus.drew {w : World} {b p g n c : Nat} {v : Dv} {B : Nat → Nat} {D : Nat → Bool} (h : Bus w b p g n c v B D) : Bus w.drew b p g n c v B D := h.on (Below.refl _ _).drew

/-- The devices are others. -/
theorem Bus.set {w : World} {b p g n c : Nat} {v : Dv} {B : Nat → Nat} {D : Nat → Bool} (h : Bus w b p g n c v B D) (q : Dv) (hq : Wv q) : Bus (w.setRow b (cellsB q p)) b p g n c q B D :=
  ⟨by rw [isRow_setRow]; exact h.row, rowAt_setRow w b _ h.row, by rw [setRow_size]; exact h.lt, h.m.kept (Kept.set (l := [b]) w b _ (by simp)) (by simpa using h.np.symm) (by simpa using h.ng.symm), hq, h.np, h.ng⟩

/-- The memory is another one. -/
theorem Bus.mem {w y : World} {b p g n c : Nat} {v : Dv} {B B' : Nat → Nat} {D D' : Nat → Bool} (h : Bus w b p g n c v B D) (k : w.grownBy y (some g)) (m : Mem y p g n c B' D') : Bus y b p g n c v B' D' :=
  ⟨by rw [isRow_of (k.block b h.lt (by simpa using h.ng))]; exact h.row, by rw [rowAt_of (k.block b h.lt (by simpa using h.ng))]; exact h.at', Nat.lt_of_lt_of_le h.lt k.size, m, h.wv, h.np, h.ng⟩

theorem Bus.cell {w : World} {b p g n c : Nat} {v : Dv} {B : Nat → Nat} {D : Nat → Bool} (h : Bus w b p g n c v B D) (j : Nat) : w.cell? ⟨b, j, none⟩ = (cellsB v p)[j]? := by
  rw [cell_rowAt w b j h.row, h.at']

theorem Bus.free {w : World} {b p g n c : Nat} {v : Dv} {B : Nat → Nat} {D : Nat → Bool} (h : Bus w b p g n c v B D) (j : Nat) : w.frozen? ⟨b, j, none⟩ = false := frozen_rowAt w b j h.row

/-- In block b lies the document's bus. -/
structure RBus (w : World) (b p gb gd n : Nat) (v : Dv) (B : Nat → Nat) (D : Nat → Bool) : Prop where
  row : isRow w b = true
  at' : rowAt w b = cellsM v p
  lt : b < w.heap.size
  m : RMem w p gb gd n B D
  wv : Wv v
  np : b ≠ p
  nb : b ≠ gb
  nd : b ≠ gd

theorem RBus.keep {w y : World} {b p gb gd n : Nat} {v : Dv} {B : Nat → Nat} {D : Nat → Bool} (h : RBus w b p gb gd n v B D) {l : List Nat} (k : Kept l w y) (hb : b ∉ l) (hp : p ∉ l) (h1 : gb ∉ l) (h2 : gd ∉ l) : RBus y b p gb gd n v B D :=
  ⟨by rw [isRow_of (k.block b h.lt hb)]; exact h.row, by rw [rowAt_of (k.block b h.lt hb)]; exact h.at', Nat.lt_of_lt_of_le h.lt k.size, h.m.kept k hp h1 h2, h.wv, h.np, h.nb, h.nd⟩

theorem RBus.on {w y : World} {b p gb gd n : Nat} {v : Dv} {B : Nat → Nat} {D : Nat → Bool} (h : RBus w b p gb gd n v B D) (hb : Below w.heap.size w y) : RBus y b p gb gd n v B D :=
  h.keep (l := []) (Kept.of hb) (by simp) (by simp) (by simp) (by simp)

theorem RBus.drew {w : World} {b p gb gd n : Nat} {v : Dv} {B : Nat → Nat} {D : Nat → Bool} (h : RBus w b p gb gd n v B D) : RBus w.drew b p gb gd n v B D := h.on (Below.refl _ _).drew

theorem RBus.set {w : World} {b p gb gd n : Nat} {v : Dv} {B : Nat → Nat} {D : Nat → Bool} (h : RBus w b p gb gd n v B D) (q : Dv) (hq : Wv q) : RBus (w.setRow b (cellsM q p)) b p gb gd n q B D :=
  ⟨by rw [isRow_setRow]; exact h.row, rowAt_setRow w b _ h.row, by rw [setRow_size]; exact h.lt,
    h.m.kept (Kept.set (l := [b]) w b _ (by simp)) (by simpa using h.np.symm) (by simpa using h.nb.symm) (by simpa using h.nd.symm), hq, h.np, h.nb, h.nd⟩

theorem RBus.mem {w y : World} {b p gb gd n : Nat} {v : Dv} {B B' : Nat → Nat} {D D' : Nat → Bool} (h : RBus w b p gb gd n v B D) (k : RKept p gb gd w y) (m : RMem y p gb gd n B' D') : RBus y b p gb gd n v B' D' :=
  ⟨by rw [isRow_of (k.block b h.lt h.np h.nb h.nd)]; exact h.row, by rw [rowAt_of (k.block b h.lt h.np h.nb h.nd)]; exact h.at', Nat.lt_of_lt_of_le h.lt k.size, m, h.wv, h.np, h.nb, h.nd⟩

theorem RBus.cell {w : World} {b p gb gd n : Nat} {v : Dv} {B : Nat → Nat} {D : Nat → Bool} (h : RBus w b p gb gd n v B D) (j : Nat) : w.cell? ⟨b, j, none⟩ = (cellsM v p)[j]? := by
  rw [cell_rowAt w b j h.row, h.at']

theorem RBus.free {w : World} {b p gb gd n : Nat} {v : Dv} {B : Nat → Nat} {D : Nat → Bool} (h : RBus w b p gb gd n v B D) (j : Nat) : w.frozen? ⟨b, j, none⟩ = false := frozen_rowAt w b j h.row

/-- The next word of the rng, where it stands then; a word stirred in. -/
def nextX (g : Rg) : Int := Rng.Rng.nre (g.a % 65521) (g.b % 65521) (g.c % 65521) + 65536 * Rng.Rng.nim (g.a % 65521) (g.b % 65521) (g.d % 65521)
def nextG (g : Rg) : Rg := ⟨Rng.Rng.nre (g.a % 65521) (g.b % 65521) (g.c % 65521), Rng.Rng.nim (g.a % 65521) (g.b % 65521) (g.d % 65521), g.c % 65521, g.d % 65521⟩
def stirG (g : Rg) (n : Int) : Rg := ⟨(g.a % 65521 + n % 65536 % 65521) % 65521, (g.b % 65521 + n / 65536 % 65521) % 65521, g.c % 65521, g.d % 65521⟩

theorem md_in (n : Int) : 0 ≤ n % 65521 ∧ n % 65521 ≤ 65520 := by omega

theorem nextG_w (g : Rg) : Wg (nextG g) := ⟨Rng.Rng.nre_in _ _ _, Rng.Rng.nim_in _ _ _, md_in _, md_in _⟩
theorem stirG_w (g : Rg) (n : Int) : Wg (stirG g n) := ⟨md_in _, md_in _, md_in _, md_in _⟩
theorem G0_w : Wg G0 := ⟨⟨by decide, by decide⟩, ⟨by decide, by decide⟩, ⟨by decide, by decide⟩, ⟨by decide, by decide⟩⟩

theorem seed_0 (w : World) : Calls Tryz.prog 13 #[.int .u32 0] w fun e w' => e = .returned (.agg (cellsG G0)) ∧ Below w.heap.size w w' := Rng.seed_any 0 (by omega) w

theorem next_g (g : Rg) (w : World) : Calls Tryz.prog 136 #[.agg (cellsG g)] w fun e w' => e = .returned (.tuple #[.int .u32 (nextX g), .agg (cellsG (nextG g))]) ∧ Below w.heap.size w w' := Rng.next_any _ _ _ _ w

theorem stir_g (g : Rg) (n : Int) (hn : 0 ≤ n ∧ n ≤ 4294967295) (w : World) : Calls Tryz.prog 69 #[.agg (cellsG g), .int .u32 n] w fun e w' => e = .returned (.agg (cellsG (stirG g n))) ∧ Below w.heap.size w w' := Rng.stir_any _ _ _ _ n hn w

theorem nextX_w (g : Rg) : 0 ≤ nextX g ∧ nextX g < 4294967296 := by
  have h1 := Rng.Rng.nre_in (g.a % 65521) (g.b % 65521) (g.c % 65521)
  have h2 := Rng.Rng.nim_in (g.a % 65521) (g.b % 65521) (g.d % 65521)
  unfold nextX
  omega

end Go.Proofs.YtmegghgjllbamaaGreatDoor

/- Layer 12: contracts of the devices' registers, the program's. -/
namespace Go.Proofs.YtmegghgjllbamaaGreatDoor
open Go.RowKit
set_option linter.unusedVariables false
set_option maxRecDepth 100000

theorem isDev_yes (a : Int) (h0 : 520093696 ≤ a) (h1 : a < 520094720) (w : World) :
    Calls Tryz.prog 14 #[.int .u32 a] w fun e w' => e = .returned (.bool true) ∧ w' = w := by
  have hk : a - a % 256 = 520093696 ∨ a - a % 256 = 520093952 ∨ a - a % 256 = 520094208 ∨ a - a % 256 = 520094464 := by omega
  have hw : IntKind.u32.wrap (a - a % 256) = a - a % 256 := by simp [IntKind.wrap, IntKind.bits, IntKind.signed]; omega
  rcases hk with hk | hk | hk | hk
  all_goals
    rw [hk] at hw
    go_enter Tryz.func14, Tryz.ntmps14
    go_wp2
    go_ret
    exact ⟨rfl, rfl⟩

theorem isDev_no (a : Int) (a0 : 0 ≤ a) (a1 : a < 4294967296) (h : a < 520093696 ∨ 520094720 ≤ a) (w : World) :
    Calls Tryz.prog 14 #[.int .u32 a] w fun e w' => e = .returned (.bool false) ∧ w' = w := by
  have hw : IntKind.u32.wrap (a - a % 256) = a - a % 256 := by simp [IntKind.wrap, IntKind.bits, IntKind.signed]; omega
  have e1 : (a - a % 256 == 520093696) = false := by simp; omega
  have e2 : (a - a % 256 == 520093952) = false := by simp; omega
  have e3 : (a - a % 256 == 520094208) = false := by simp; omega
  have e4 : (a - a % 256 == 520094464) = false := by simp; omega
  clear h
  go_enter Tryz.func14, Tryz.ntmps14
  go_wp2
  go_ret
  exact ⟨rfl, rfl⟩

theorem isWord_yes (a : Int) (a0 : 0 ≤ a) (h : a % 4 = 0) (w : World) :
    Calls Tryz.prog 35 #[.int .u32 a, .int .i64 4] w fun e w' => e = .returned (.bool true) ∧ w' = w := by
  go_enter Tryz.func35, Tryz.ntmps35
  go_wp2
  go_ret
  exact ⟨rfl, rfl⟩

theorem isWord_no (a s : Int) (a0 : 0 ≤ a) (h : ¬ (s = 4 ∧ a % 4 = 0)) (w : World) :
    Calls Tryz.prog 35 #[.int .u32 a, .int .i64 s] w fun e w' => e = .returned (.bool false) ∧ w' = w := by
  by_cases hs : s = 4
  · subst hs
    have h' : (a % 4 == 0) = false := by simp; omega
    clear h
    go_enter Tryz.func35, Tryz.ntmps35
    go_wp2
    go_ret
    exact ⟨rfl, rfl⟩
  · have h' : (s == 4) = false := by simpa using hs
    clear h hs
    go_enter Tryz.func35, Tryz.ntmps35
    go_wp2
    go_ret
    exact ⟨rfl, rfl⟩

/-- The error of the rng's register. -/
def rgE (r : Int) : Int := if r = 0 then 0 else 121

theorem rngError_any (r : Int) (w : World) : Calls Tryz.prog 70 #[.int .u32 r] w fun e w' => e = .returned (.int .i64 (rgE r)) ∧ w' = w := by
  by_cases h : r = 0
  · subst h
    go_enter Tryz.func70, Tryz.ntmps70
    go_wp2
    go_ret
    exact ⟨rfl, rfl⟩
  · have e : rgE r = 121 := by unfold rgE; rw [if_neg h]
    have h' : (r == 0) = false := by simpa using h
    rw [e]
    clear h e
    go_enter Tryz.func70, Tryz.ntmps70
    go_wp2
    go_ret
    exact ⟨rfl, rfl⟩

set_option maxHeartbeats 1000000 in
theorem read_t (v : Dv) (a r : Int) (hr : a % 256 = r) (hb : a - r = 520093696) (r0 : 0 ≤ r) (r1 : r < 256) (w : World) :
    Calls Tryz.prog 130 #[.agg (cellsV v), .int .u32 a] w fun e w' => e = .returned (.tuple #[.int .u32 (Tm.readV v.t r), .agg (cellsV (v)), .int .i64 (Tm.formV r)]) ∧ Below w.heap.size w w' := by
  obtain ⟨t1, t2, t3, t4, t5, t6, t7, t8, t9⟩ := rowRules
  obtain ⟨z1, z2, z3, z4, z5, z6, z7, z8, z9, z10⟩ := sizeRules
  obtain ⟨c1, c2, c3, c4, c5, o1, o2, o3, o4, o5, n1, n2, n3, n4, n5⟩ := cellSizes
  obtain ⟨-, -, -, -, -, -, -, -, -, -, -, -, x1, x2, x3⟩ := boxRules
  obtain ⟨f1, f2, f3, f4, q1, q2, q3, q4, s1, s2, s3, s4, -, -, -, -⟩ := vParts
  have c := hide (Tm.read_any v.t r)
  generalize Tm.readV v.t r = X at *
  generalize Tm.formV r = E at *
  go_enter Tryz.func130, Tryz.ntmps130
  go_wp2_with fail
  refine (c.out _).mono ?_
  rintro e w1 ⟨rfl, b1⟩
  obtain ⟨V, u, bw⟩ := two_boxes b1
  clear b1 c
  obtain ⟨v1, v2, v3⟩ := V
  obtain ⟨u1, u2, u3⟩ := id u
  go_wp2
  go_region
  go_wp2
  have V2 := (u.set (cellsV (v))).drew
  have ld := V2.loadV
  exact bodyPost_ret (v := .tuple #[.int .u32 X, .agg (cellsV (v)), .int .i64 E]) (by simp [results, Tryz.results130, go_sem, z5, ld]) rfl ⟨rfl, (below_setRow bw (by omega) _).drew⟩

set_option maxHeartbeats 1000000 in
theorem read_d (v : Dv) (a r : Int) (hr : a % 256 = r) (hb : a - r = 520094208) (r0 : 0 ≤ r) (r1 : r < 256) (w : World) :
    Calls Tryz.prog 130 #[.agg (cellsV v), .int .u32 a] w fun e w' => e = .returned (.tuple #[.int .u32 (Dm.readV v.d r), .agg (cellsV (v)), .int .i64 (Dm.formV r)]) ∧ Below w.heap.size w w' := by
  obtain ⟨t1, t2, t3, t4, t5, t6, t7, t8, t9⟩ := rowRules
  obtain ⟨z1, z2, z3, z4, z5, z6, z7, z8, z9, z10⟩ := sizeRules
  obtain ⟨c1, c2, c3, c4, c5, o1, o2, o3, o4, o5, n1, n2, n3, n4, n5⟩ := cellSizes
  obtain ⟨-, -, -, -, -, -, -, -, -, -, -, -, x1, x2, x3⟩ := boxRules
  obtain ⟨f1, f2, f3, f4, q1, q2, q3, q4, s1, s2, s3, s4, -, -, -, -⟩ := vParts
  have c := hide (Dm.read_any v.d r)
  generalize Dm.readV v.d r = X at *
  generalize Dm.formV r = E at *
  go_enter Tryz.func130, Tryz.ntmps130
  go_wp2_with fail
  refine (c.out _).mono ?_
  rintro e w1 ⟨rfl, b1⟩
  obtain ⟨V, u, bw⟩ := two_boxes b1
  clear b1 c
  obtain ⟨v1, v2, v3⟩ := V
  obtain ⟨u1, u2, u3⟩ := id u
  go_wp2
  go_region
  go_wp2
  have V2 := (u.set (cellsV (v))).drew
  have ld := V2.loadV
  exact bodyPost_ret (v := .tuple #[.int .u32 X, .agg (cellsV (v)), .int .i64 E]) (by simp [results, Tryz.results130, go_sem, z5, ld]) rfl ⟨rfl, (below_setRow bw (by omega) _).drew⟩

/-- Two boxes: the first one is another one. -/
theorem boxes_set {w x : World} {c d : Array Value} (V : Box x w.heap.size c) (u : Box x (w.heap.size + 1) d) (bw : Below w.heap.size w x) (q : Array Value) :
    Box (x.setRow w.heap.size q) w.heap.size q ∧ Box (x.setRow w.heap.size q) (w.heap.size + 1) d ∧ Below w.heap.size w (x.setRow w.heap.size q) :=
  ⟨V.set q, u.far _ _ (by omega), below_setRow bw (Nat.le_refl _) _⟩

theorem boxes_on {w x y : World} {c d : Array Value} (V : Box x w.heap.size c) (u : Box x (w.heap.size + 1) d) (bw : Below w.heap.size w x) (hb : Below x.heap.size x y) :
    Box y w.heap.size c ∧ Box y (w.heap.size + 1) d ∧ Below w.heap.size w y := ⟨V.on hb, u.on hb, onto bw (Nat.le_refl _) hb⟩

set_option maxHeartbeats 1000000 in
theorem read_u (v : Dv) (hu : Ua.Fits v.u) (a r : Int) (hr : a % 256 = r) (hb : a - r = 520093952) (r0 : 0 ≤ r) (r1 : r < 256) (w : World) :
    Calls Tryz.prog 130 #[.agg (cellsV v), .int .u32 a] w fun e w' => e = .returned (.tuple #[.int .u32 (Ua.readV v.u r), .agg (cellsV { v with u := Ua.leftV v.u r }), .int .i64 (Ua.formV r)]) ∧ Below w.heap.size w w' := by
  obtain ⟨t1, t2, t3, t4, t5, t6, t7, t8, t9⟩ := rowRules
  obtain ⟨z1, z2, z3, z4, z5, z6, z7, z8, z9, z10⟩ := sizeRules
  obtain ⟨c1, c2, c3, c4, c5, o1, o2, o3, o4, o5, n1, n2, n3, n4, n5⟩ := cellSizes
  obtain ⟨-, -, -, -, -, -, -, -, -, -, -, -, x1, x2, x3⟩ := boxRules
  obtain ⟨f1, f2, f3, f4, q1, q2, q3, q4, s1, s2, s3, s4, -, -, -, -⟩ := vParts
  have c := hide (Ua.read_any v.u hu r)
  generalize Ua.readV v.u r = X at *
  generalize Ua.leftV v.u r = Q at *
  generalize Ua.formV r = E at *
  go_enter Tryz.func130, Tryz.ntmps130
  go_wp2_with fail
  refine (c.out _).mono ?_
  rintro e w1 ⟨rfl, b1⟩
  obtain ⟨V, u, bw⟩ := two_boxes b1
  clear b1 c
  obtain ⟨v1, v2, v3⟩ := id V
  go_wp2
  obtain ⟨V, u, bw⟩ := boxes_set V u bw (cellsV { v with u := Q })
  clear v1 v2 v3
  generalize w1.setRow w.heap.size (cellsV { v with u := Q }) = w2 at *
  obtain ⟨v1, v2, v3⟩ := V
  obtain ⟨u1, u2, u3⟩ := id u
  go_region
  go_wp2
  have ld := ((u.set (cellsV { v with u := Q })).drew).loadV
  exact bodyPost_ret (v := .tuple #[.int .u32 X, .agg (cellsV { v with u := Q }), .int .i64 E]) (by simp [results, Tryz.results130, go_sem, z5, ld]) rfl ⟨rfl, (below_setRow bw (by omega) _).drew⟩

set_option maxHeartbeats 1000000 in
theorem read_g (v : Dv) (a r : Int) (hr : a % 256 = r) (hb : a - r = 520094464) (r0 : 0 ≤ r) (r1 : r < 256) (w : World) :
    Calls Tryz.prog 130 #[.agg (cellsV v), .int .u32 a] w fun e w' => e = .returned (.tuple #[.int .u32 (nextX v.g), .agg (cellsV { v with g := nextG v.g }), .int .i64 (rgE r)]) ∧ Below w.heap.size w w' := by
  obtain ⟨t1, t2, t3, t4, t5, t6, t7, t8, t9⟩ := rowRules
  obtain ⟨z1, z2, z3, z4, z5, z6, z7, z8, z9, z10⟩ := sizeRules
  obtain ⟨c1, c2, c3, c4, c5, o1, o2, o3, o4, o5, n1, n2, n3, n4, n5⟩ := cellSizes
  obtain ⟨-, -, -, -, -, -, -, -, -, -, -, -, x1, x2, x3⟩ := boxRules
  obtain ⟨f1, f2, f3, f4, q1, q2, q3, q4, s1, s2, s3, s4, -, -, -, -⟩ := vParts
  have c := hide (next_g v.g)
  generalize nextX v.g = X at *
  generalize nextG v.g = Q at *
  have cE := hide (rngError_any r)
  generalize rgE r = E at *
  go_enter Tryz.func130, Tryz.ntmps130
  go_wp2_with fail
  refine (c.out _).mono ?_
  rintro e w1 ⟨rfl, b1⟩
  obtain ⟨V, u, bw⟩ := two_boxes b1
  clear b1 c
  obtain ⟨v1, v2, v3⟩ := id V
  go_wp2_with fail
  obtain ⟨V, u, bw⟩ := boxes_set V u bw (cellsV { v with g := Q })
  clear v1 v2 v3
  generalize w1.setRow w.heap.size (cellsV { v with g := Q }) = w2 at *
  refine (cE.out _).mono ?_
  rintro e w3 ⟨rfl, rfl⟩
  obtain ⟨v1, v2, v3⟩ := V
  obtain ⟨u1, u2, u3⟩ := id u
  go_wp2
  go_region
  go_wp2
  have ld := ((u.set (cellsV { v with g := Q })).drew).loadV
  exact bodyPost_ret (v := .tuple #[.int .u32 X, .agg (cellsV { v with g := Q }), .int .i64 E]) (by simp [results, Tryz.results130, go_sem, z5, ld]) rfl ⟨rfl, (below_setRow bw (by omega) _).drew⟩

set_option maxHeartbeats 1000000 in
theorem write_t (v : Dv) (a r n : Int) (n0 : 0 ≤ n) (n1' : n < 4294967296) (hr : a % 256 = r) (hb : a - r = 520093696) (r0 : 0 ≤ r) (r1 : r < 256) (w : World) :
    Calls Tryz.prog 36 #[.agg (cellsV v), .int .u32 a, .int .u32 n] w fun e w' => e = .returned (.tuple #[.agg (cellsV { v with t := Tm.writeV v.t r n }), .int .i64 (Tm.formV r)]) ∧ Below w.heap.size w w' := by
  obtain ⟨t1, t2, t3, t4, t5, t6, t7, t8, t9⟩ := rowRules
  obtain ⟨z1, z2, z3, z4, z5, z6, z7, z8, z9, z10⟩ := sizeRules
  obtain ⟨c1, c2, c3, c4, c5, o1, o2, o3, o4, o5, n1, n2, n3, n4, n5⟩ := cellSizes
  obtain ⟨-, -, -, -, -, -, -, -, -, -, -, -, x1, x2, x3⟩ := boxRules
  obtain ⟨f1, f2, f3, f4, q1, q2, q3, q4, s1, s2, s3, s4, -, -, -, -⟩ := vParts
  have c := hide (Tm.write_any v.t r n)
  generalize Tm.writeV v.t r n = Q at *
  generalize Tm.formV r = E at *
  go_enter Tryz.func36, Tryz.ntmps36
  go_wp2_with fail
  refine (c.out _).mono ?_
  rintro e w1 ⟨rfl, b1⟩
  obtain ⟨V, u, bw⟩ := two_boxes b1
  clear b1 c
  obtain ⟨v1, v2, v3⟩ := id V
  obtain ⟨u1, u2, u3⟩ := id u
  obtain ⟨y1, y2⟩ := rowSets
  go_wp2
  obtain ⟨V, u, bw⟩ := boxes_set V u bw (cellsV { v with t := Q })
  have ld := ((u.set (cellsV { v with t := Q }))).loadV
  exact bodyPost_ret (v := .tuple #[.agg (cellsV { v with t := Q }), .int .i64 E]) (by simp [results, Tryz.results36, go_sem, z5, ld]) rfl ⟨rfl, below_setRow bw (by omega) _⟩

set_option maxHeartbeats 1000000 in
theorem write_u (v : Dv) (hu : Ua.Fits v.u) (a r n : Int) (n0 : 0 ≤ n) (n1' : n < 4294967296) (hr : a % 256 = r) (hb : a - r = 520093952) (r0 : 0 ≤ r) (r1 : r < 256) (w : World) :
    Calls Tryz.prog 36 #[.agg (cellsV v), .int .u32 a, .int .u32 n] w fun e w' => e = .returned (.tuple #[.agg (cellsV { v with u := Ua.writeV v.u r n }), .int .i64 (Ua.formV r)]) ∧ Below w.heap.size w w' := by
  obtain ⟨t1, t2, t3, t4, t5, t6, t7, t8, t9⟩ := rowRules
  obtain ⟨z1, z2, z3, z4, z5, z6, z7, z8, z9, z10⟩ := sizeRules
  obtain ⟨c1, c2, c3, c4, c5, o1, o2, o3, o4, o5, n1, n2, n3, n4, n5⟩ := cellSizes
  obtain ⟨-, -, -, -, -, -, -, -, -, -, -, -, x1, x2, x3⟩ := boxRules
  obtain ⟨f1, f2, f3, f4, q1, q2, q3, q4, s1, s2, s3, s4, -, -, -, -⟩ := vParts
  have c := hide (Ua.write_any v.u hu r n n0 n1')
  generalize Ua.writeV v.u r n = Q at *
  generalize Ua.formV r = E at *
  go_enter Tryz.func36, Tryz.ntmps36
  go_wp2_with fail
  refine (c.out _).mono ?_
  rintro e w1 ⟨rfl, b1⟩
  obtain ⟨V, u, bw⟩ := two_boxes b1
  clear b1 c
  obtain ⟨v1, v2, v3⟩ := id V
  obtain ⟨u1, u2, u3⟩ := id u
  obtain ⟨y1, y2⟩ := rowSets
  go_wp2
  obtain ⟨V, u, bw⟩ := boxes_set V u bw (cellsV { v with u := Q })
  have ld := ((u.set (cellsV { v with u := Q }))).loadV
  exact bodyPost_ret (v := .tuple #[.agg (cellsV { v with u := Q }), .int .i64 E]) (by simp [results, Tryz.results36, go_sem, z5, ld]) rfl ⟨rfl, below_setRow bw (by omega) _⟩

set_option maxHeartbeats 1000000 in
theorem write_d (v : Dv) (a r n : Int) (n0 : 0 ≤ n) (n1' : n < 4294967296) (hr : a % 256 = r) (hb : a - r = 520094208) (r0 : 0 ≤ r) (r1 : r < 256) (w : World) :
    Calls Tryz.prog 36 #[.agg (cellsV v), .int .u32 a, .int .u32 n] w fun e w' => e = .returned (.tuple #[.agg (cellsV { v with d := Dm.writeV v.d r n }), .int .i64 (Dm.formV r)]) ∧ Below w.heap.size w w' := by
  obtain ⟨t1, t2, t3, t4, t5, t6, t7, t8, t9⟩ := rowRules
  obtain ⟨z1, z2, z3, z4, z5, z6, z7, z8, z9, z10⟩ := sizeRules
  obtain ⟨c1, c2, c3, c4, c5, o1, o2, o3, o4, o5, n1, n2, n3, n4, n5⟩ := cellSizes
  obtain ⟨-, -, -, -, -, -, -, -, -, -, -, -, x1, x2, x3⟩ := boxRules
  obtain ⟨f1, f2, f3, f4, q1, q2, q3, q4, s1, s2, s3, s4, -, -, -, -⟩ := vParts
  have c := hide (Dm.write_any v.d r n)
  generalize Dm.writeV v.d r n = Q at *
  generalize Dm.formV r = E at *
  go_enter Tryz.func36, Tryz.ntmps36
  go_wp2_with fail
  refine (c.out _).mono ?_
  rintro e w1 ⟨rfl, b1⟩
  obtain ⟨V, u, bw⟩ := two_boxes b1
  clear b1 c
  obtain ⟨v1, v2, v3⟩ := id V
  obtain ⟨u1, u2, u3⟩ := id u
  obtain ⟨y1, y2⟩ := rowSets
  go_wp2
  obtain ⟨V, u, bw⟩ := boxes_set V u bw (cellsV { v with d := Q })
  have ld := ((u.set (cellsV { v with d := Q }))).loadV
  exact bodyPost_ret (v := .tuple #[.agg (cellsV { v with d := Q }), .int .i64 E]) (by simp [results, Tryz.results36, go_sem, z5, ld]) rfl ⟨rfl, below_setRow bw (by omega) _⟩

set_option maxHeartbeats 1000000 in
theorem write_g (v : Dv) (a r n : Int) (n0 : 0 ≤ n) (n1' : n < 4294967296) (hr : a % 256 = r) (hb : a - r = 520094464) (r0 : 0 ≤ r) (r1 : r < 256) (w : World) :
    Calls Tryz.prog 36 #[.agg (cellsV v), .int .u32 a, .int .u32 n] w fun e w' => e = .returned (.tuple #[.agg (cellsV { v with g := stirG v.g n }), .int .i64 (rgE r)]) ∧ Below w.heap.size w w' := by
  obtain ⟨t1, t2, t3, t4, t5, t6, t7, t8, t9⟩ := rowRules
  obtain ⟨z1, z2, z3, z4, z5, z6, z7, z8, z9, z10⟩ := sizeRules
  obtain ⟨c1, c2, c3, c4, c5, o1, o2, o3, o4, o5, n1, n2, n3, n4, n5⟩ := cellSizes
  obtain ⟨-, -, -, -, -, -, -, -, -, -, -, -, x1, x2, x3⟩ := boxRules
  obtain ⟨f1, f2, f3, f4, q1, q2, q3, q4, s1, s2, s3, s4, -, -, -, -⟩ := vParts
  have c := hide (stir_g v.g n ⟨n0, by omega⟩)
  generalize stirG v.g n = Q at *
  have cE := hide (rngError_any r)
  generalize rgE r = E at *
  go_enter Tryz.func36, Tryz.ntmps36
  go_wp2_with fail
  refine (c.out _).mono ?_
  rintro e w1 ⟨rfl, b1⟩
  obtain ⟨V, u, bw⟩ := two_boxes b1
  clear b1 c
  obtain ⟨v1, v2, v3⟩ := id V
  go_wp2_with fail
  obtain ⟨V, u, bw⟩ := boxes_set V u bw (cellsV { v with g := Q })
  clear v1 v2 v3
  generalize w1.setRow w.heap.size (cellsV { v with g := Q }) = w2 at *
  refine (cE.out _).mono ?_
  rintro e w3 ⟨rfl, rfl⟩
  obtain ⟨v1, v2, v3⟩ := V
  obtain ⟨u1, u2, u3⟩ := id u
  go_wp2
  have ld := ((u.set (cellsV { v with g := Q }))).loadV
  exact bodyPost_ret (v := .tuple #[.agg (cellsV { v with g := Q }), .int .i64 E]) (by simp [results, Tryz.results36, go_sem, z5, ld]) rfl ⟨rfl, below_setRow bw (by omega) _⟩

end Go.Proofs.YtmegghgjllbamaaGreatDoor

/- Layer 12: contracts of Load, Store, Peek, the program's. -/
namespace Go.Proofs.YtmegghgjllbamaaGreatDoor
open Go.RowKit
set_option linter.unusedVariables false
set_option maxRecDepth 100000

theorem loadReg_no {w : World} {b : Nat} (a s : Int) (a0 : 0 ≤ a) (h : ¬ (s = 4 ∧ a % 4 = 0)) :
    Calls Tryz.prog 122 #[.pointer (some ⟨b, 0, none⟩), .int .u32 a, .int .i64 s] w fun e w' => e = .returned (.tuple #[.int .u32 0, .int .i64 121]) ∧ w' = w := by
  have c := hide (isWord_no a s a0 h)
  clear h
  go_enter Tryz.func122, Tryz.ntmps122
  go_wp2_with fail
  refine (c.out _).mono ?_
  rintro e w1 ⟨rfl, rfl⟩
  go_wp2
  go_ret2
  exact ⟨rfl, rfl⟩

set_option maxHeartbeats 1000000 in
theorem loadReg_err {w : World} {b p g n c : Nat} {v : Dv} {B : Nat → Nat} {D : Nat → Bool} (hB : Bus w b p g n c v B D) (a : Int) (a0 : 0 ≤ a) (h : a % 4 = 0) (X E : Int) (Q : Dv) (hE : ¬ E = 0)
    (cr : ∀ x, Calls Tryz.prog 130 #[.agg (cellsV v), .int .u32 a] x fun e w' => e = .returned (.tuple #[.int .u32 X, .agg (cellsV Q), .int .i64 E]) ∧ Below x.heap.size x w') :
    Calls Tryz.prog 122 #[.pointer (some ⟨b, 0, none⟩), .int .u32 a, .int .i64 4] w fun e w' => e = .returned (.tuple #[.int .u32 0, .int .i64 121]) ∧ Below w.heap.size w w' := by
  obtain ⟨t1, t2, t3, t4, t5, t6, t7, t8, t9⟩ := rowRules
  obtain ⟨-, -, -, -, z5, -, -, -, -, z10⟩ := sizeRules
  obtain ⟨-, -, -, -, c5, -, -, -, -, o5, -, -, -, -, n5⟩ := cellSizes
  obtain ⟨-, -, -, -, -, -, -, -, -, -, -, -, x1, x2, x3⟩ := boxRules
  obtain ⟨-, -, -, -, f5, -, -, -, -, q5, -, -, -, -, s5, -, -, -⟩ := bParts
  have cw := hide (isWord_yes a a0 h)
  have hE' : (E == 0) = false := by simpa using hE
  replace cr := hide cr
  obtain ⟨r1, r2⟩ := And.intro hB.row hB.at'
  clear hB hE h
  go_enter Tryz.func122, Tryz.ntmps122
  go_wp2_with fail
  refine (cw.out _).mono ?_
  rintro e w1 ⟨rfl, rfl⟩
  go_wp2_with fail
  refine (cr.out _).mono ?_
  rintro e w1 ⟨rfl, b1⟩
  clear cr cw r1 r2
  go_wp2
  go_ret2
  exact ⟨rfl, b1.alloc b1.size _⟩

set_option maxHeartbeats 1000000 in
theorem loadReg_ok {w : World} {b p g n c : Nat} {v : Dv} {B : Nat → Nat} {D : Nat → Bool} (hB : Bus w b p g n c v B D) (a : Int) (a0 : 0 ≤ a) (h : a % 4 = 0) (X : Int) (Q : Dv) (hQ : Wv Q)
    (cr : ∀ x, Calls Tryz.prog 130 #[.agg (cellsV v), .int .u32 a] x fun e w' => e = .returned (.tuple #[.int .u32 X, .agg (cellsV Q), .int .i64 0]) ∧ Below x.heap.size x w') :
    Calls Tryz.prog 122 #[.pointer (some ⟨b, 0, none⟩), .int .u32 a, .int .i64 4] w fun e w' => e = .returned (.tuple #[.int .u32 X, .int .i64 0]) ∧ Bus w' b p g n c Q B D ∧ Kept [b] w w' := by
  obtain ⟨t1, t2, t3, t4, t5, t6, t7, t8, t9⟩ := rowRules
  obtain ⟨-, -, -, -, z5, -, -, -, -, z10⟩ := sizeRules
  obtain ⟨-, -, -, -, c5, -, -, -, -, o5, -, -, -, -, n5⟩ := cellSizes
  obtain ⟨-, -, -, -, -, -, -, -, -, -, -, -, x1, x2, x3⟩ := boxRules
  obtain ⟨-, -, -, -, f5, -, -, -, -, q5, -, -, -, -, s5, -, -, -⟩ := bParts
  have cw := hide (isWord_yes a a0 h)
  replace cr := hide cr
  obtain ⟨r1, r2⟩ := And.intro hB.row hB.at'
  replace hB := hide hB
  clear h
  go_enter Tryz.func122, Tryz.ntmps122
  go_wp2_with fail
  refine (cw.out _).mono ?_
  rintro e w1 ⟨rfl, rfl⟩
  go_wp2_with fail
  refine (cr.out _).mono ?_
  rintro e w1 ⟨rfl, b1⟩
  have B1 := hB.out.on b1
  have K1 := hide (Kept.of (l := [b]) b1)
  clear cr cw r1 r2 hB b1
  obtain ⟨r1, r2, r3⟩ := And.intro B1.row (And.intro B1.at' B1.lt)
  have r4 : ¬ b = w1.heap.size := by omega
  replace B1 := hide B1
  go_wp2
  go_ret2
  refine ⟨rfl, ?_⟩
  exact ⟨(B1.out.set Q hQ).on (grow _ _), (K1.out.trans (Kept.set _ _ _ (by simp))).trans (Kept.of (grow _ _))⟩

theorem load_dev {w : World} {b : Nat} (a s : Int) (h0 : 520093696 ≤ a) (h1 : a < 520094720) {R : Int → Int → World → Prop}
    (c : Calls Tryz.prog 122 #[.pointer (some ⟨b, 0, none⟩), .int .u32 a, .int .i64 s] w fun e w' => ∃ X E, e = .returned (.tuple #[.int .u32 X, .int .i64 E]) ∧ R X E w') :
    Calls Tryz.prog 100 #[.pointer (some ⟨b, 0, none⟩), .int .u32 a, .int .i64 s] w fun e w' => ∃ X E, e = .returned (.tuple #[.int .u32 X, .int .i64 E]) ∧ R X E w' := by
  have cd := hide (isDev_yes a h0 h1)
  replace c := hide c
  clear h0 h1
  go_enter Tryz.func100, Tryz.ntmps100
  go_wp2_with fail
  refine (cd.out _).mono ?_
  rintro e w1 ⟨rfl, rfl⟩
  go_wp2_with fail
  refine c.out.mono ?_
  rintro e w1 ⟨X, E, rfl, hR⟩
  replace hR := hide hR
  go_wp2
  go_ret2
  exact ⟨X, E, rfl, hR.out⟩

theorem load_mem {w : World} {b p g n c : Nat} {v : Dv} {B : Nat → Nat} {D : Nat → Bool} (hB : Bus w b p g n c v B D) (a s : Int) (a0 : 0 ≤ a) (a1 : a < 4294967296) (h : a < 520093696 ∨ 520094720 ≤ a) (X E : Int)
    (cm : Calls Tryz.prog 87 #[.pointer (some ⟨p, 0, none⟩), .int .u32 a, .int .i64 s] w fun e w' => e = .returned (.tuple #[.int .u32 X, .int .i64 E]) ∧ w' = w) :
    Calls Tryz.prog 100 #[.pointer (some ⟨b, 0, none⟩), .int .u32 a, .int .i64 s] w fun e w' => e = .returned (.tuple #[.int .u32 (if E = 0 then X else 0), .int .i64 (if E = 0 then 0 else 121)]) ∧ w' = w := by
  have cd := hide (isDev_no a a0 a1 h)
  have m1 : w.cell? ⟨b, 16, none⟩ = some (.pointer (some ⟨p, 0, none⟩)) := hB.cell 16
  replace cm := hide cm
  clear h
  by_cases hE : E = 0
  · subst hE
    simp only [if_pos]
    go_enter Tryz.func100, Tryz.ntmps100
    go_wp2_with fail
    refine (cd.out _).mono ?_
    rintro e w1 ⟨rfl, rfl⟩
    go_wp2_with fail
    refine cm.out.mono ?_
    rintro e w1 ⟨rfl, rfl⟩
    go_wp2
    go_ret2
    exact ⟨rfl, rfl⟩
  · have hE' : (E == 0) = false := by simpa using hE
    simp only [if_neg hE]
    clear hE
    go_enter Tryz.func100, Tryz.ntmps100
    go_wp2_with fail
    refine (cd.out _).mono ?_
    rintro e w1 ⟨rfl, rfl⟩
    go_wp2_with fail
    refine cm.out.mono ?_
    rintro e w1 ⟨rfl, rfl⟩
    go_wp2
    go_ret2
    exact ⟨rfl, rfl⟩

theorem peek_any {w : World} {b p g n c : Nat} {v : Dv} {B : Nat → Nat} {D : Nat → Bool} (hB : Bus w b p g n c v B D) (a X E : Int)
    (cm : Calls Tryz.prog 87 #[.pointer (some ⟨p, 0, none⟩), .int .u32 a, .int .i64 4] w fun e w' => e = .returned (.tuple #[.int .u32 X, .int .i64 E]) ∧ w' = w) :
    Calls Tryz.prog 52 #[.pointer (some ⟨b, 0, none⟩), .int .u32 a] w fun e w' => e = .returned (.tuple #[.int .u32 (if E = 0 then X else 0), .bool (decide (E = 0))]) ∧ w' = w := by
  have m1 : w.cell? ⟨b, 16, none⟩ = some (.pointer (some ⟨p, 0, none⟩)) := hB.cell 16
  replace cm := hide cm
  by_cases hE : E = 0
  · subst hE
    simp only [if_pos, decide_true]
    go_enter Tryz.func52, Tryz.ntmps52
    go_wp2_with fail
    refine cm.out.mono ?_
    rintro e w1 ⟨rfl, rfl⟩
    go_wp2
    go_ret2
    exact ⟨rfl, rfl⟩
  · have hE' : (E == 0) = false := by simpa using hE
    simp only [if_neg hE, decide_eq_false hE]
    clear hE
    go_enter Tryz.func52, Tryz.ntmps52
    go_wp2_with fail
    refine cm.out.mono ?_
    rintro e w1 ⟨rfl, rfl⟩
    go_wp2
    go_ret2
    exact ⟨rfl, rfl⟩

end Go.Proofs.YtmegghgjllbamaaGreatDoor
