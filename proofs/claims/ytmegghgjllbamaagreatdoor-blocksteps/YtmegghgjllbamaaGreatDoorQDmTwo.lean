/- Layer 11: a dma's state as a row of five cells: its parts, and when two are the same; registers and steps as functions. -/
import Derived.Test.YtmegghgjllbamaaGreatDoorQMemAll
import Derived.ChangeKeysEq
namespace Go.Proofs.YtmegghgjllbamaaGreatDoor.Dm
open Go.RowKit
set_option linter.unusedVariables false
set_option maxRecDepth 100000

/-- A word. -/
def W32 (a : Int) : Prop := 0 ≤ a ∧ a < 4294967296

theorem w_0 : W32 0 := ⟨by decide, by decide⟩

theorem w_10 : W32 10 := ⟨by decide, by decide⟩

/-- A state: Addr, Num, Busy, Way, does it ring? -/
structure Dm where
  a : Int
  n : Int
  b : Int
  y : Int
  r : Bool
deriving DecidableEq

/-- All numbers are words. -/
structure Wd (d : Dm) : Prop where
  a : W32 d.a
  n : W32 d.n
  b : W32 d.b
  y : W32 d.y

def cellsD (d : Dm) : Array Value := #[.int .u32 d.a, .int .u32 d.n, .int .u32 d.b, .int .u32 d.y, .bool d.r]

/-- Five, so spelt that no walk opens a row of them. -/
def N5 : Nat := 5

/-- The state of noughts. -/
def D0 : Dm := ⟨0, 0, 0, 0, false⟩

theorem D0_w : Wd D0 := ⟨⟨by decide, by decide⟩, ⟨by decide, by decide⟩, ⟨by decide, by decide⟩, ⟨by decide, by decide⟩⟩

theorem size_cellsD (d : Dm) : (cellsD d).size = N5 := rfl

theorem eqD (r q : Dm) (w : World) : (Op.equalIn 10000 59 (.agg (cellsD r)) (.agg (cellsD q))).run Tryz.prog w = .ok (decide (r = q)) w := by
  have hu : Tryz.prog.underlying 59 = some (.struct (Tryz.prog.fieldsOf 59)) := by kernel_rfl
  have hp : Tryz.prog.stoodInHeld 59 = false := by kernel_rfl
  rw [run_equalIn_agg w 9999 59 _ _ hu hp]
  obtain ⟨r0, r1, r2, r3, r4⟩ := r
  obtain ⟨q0, q1, q2, q3, q4⟩ := q
  simp only [cellsD, Dm.mk.injEq]
  simp [go_sem]
  repeat' split
  all_goals simp_all

theorem eqlD (r q : Dm) (w : World) : (binOp .eql 59 (.agg (cellsD r)) (.agg (cellsD q))).run Tryz.prog w = .ok (.bool (decide (r = q))) w := by
  rw [run_eql_struct, eqD]; rfl

theorem neqD (r q : Dm) (w : World) : (binOp .neq 59 (.agg (cellsD r)) (.agg (cellsD q))).run Tryz.prog w = .ok (.bool (!decide (r = q))) w := by
  rw [run_neq_struct, eqD]; rfl

theorem eq_self (r : Dm) (w : World) : (binOp .eql 59 (.agg (cellsD r)) (.agg (cellsD r))).run Tryz.prog w = .ok (.bool true) w := by
  rw [eqlD]; simp

theorem neq_self (r : Dm) (w : World) : (binOp .neq 59 (.agg (cellsD r)) (.agg (cellsD r))).run Tryz.prog w = .ok (.bool false) w := by
  rw [neqD]; simp

theorem sizeD (w : World) : (sizeOf 59).run Tryz.prog w = .ok N5 w := Tryz.sizeOf59 w

theorem zeroD (w : World) : (zeroValue 59).run Tryz.prog w = .ok (.agg (cellsD D0)) w := Tryz.zeroValue59 w

theorem loadD (w : World) (b : Nat) (h : isRow w b = true) (hn : (rowAt w b).size = N5) : (loadCellsFrom ⟨b, 0, none⟩ 0 N5 #[]).run Tryz.prog w = .ok (rowAt w b) w :=
  load_rowAt Tryz.prog w b N5 h hn

theorem storeD (r : Dm) (w : World) (b : Nat) (h : isRow w b = true) (hn : (rowAt w b).size = N5) : (storeCells ⟨b, 0, none⟩ (cellsD r).toList 0).run Tryz.prog w = .ok () (w.setRow b (cellsD r)) := by
  refine store_rowAt Tryz.prog w b _ h (by rw [hn, size_cellsD]) fun v hv => ?_
  simp only [cellsD, List.mem_cons] at hv
  rcases hv with rfl | rfl | rfl | rfl | rfl | hv
  all_goals first | rfl | simp at hv

theorem loadSetD (r : Dm) (w : World) (b : Nat) (h : isRow w b = true) : (loadCellsFrom ⟨b, 0, none⟩ 0 N5 #[]).run Tryz.prog (w.setRow b (cellsD r)) = .ok (cellsD r) (w.setRow b (cellsD r)) := by
  have := loadD (w.setRow b (cellsD r)) b (by rw [isRow_setRow, h]) (by rw [rowAt_setRow w b _ h, size_cellsD])
  rwa [rowAt_setRow w b _ h] at this

/-- What walks over states are told. -/
theorem dmRules : (∀ w : World, (sizeOf 59).run Tryz.prog w = .ok N5 w) ∧ (∀ w : World, (zeroValue 59).run Tryz.prog w = .ok (.agg (cellsD D0)) w) ∧
    (∀ r : Dm, (cellsD r).size = N5) ∧
    (∀ (r : Dm) (w : World) (b : Nat), isRow w b = true → (rowAt w b).size = N5 → (storeCells ⟨b, 0, none⟩ (cellsD r).toList 0).run Tryz.prog w = .ok () (w.setRow b (cellsD r))) ∧
    (∀ (w : World) (b : Nat), isRow w b = true → (rowAt w b).size = N5 → (loadCellsFrom ⟨b, 0, none⟩ 0 N5 #[]).run Tryz.prog w = .ok (rowAt w b) w) ∧
    (∀ (w : World) (c : Array Value) (t : TypeId) (n : Nat), rowAt (w.alloc (.cells c t)) n = if n = w.heap.size then c else rowAt w n) ∧
    (∀ (w : World) (c : Array Value) (t : TypeId) (n : Nat), isRow (w.alloc (.cells c t)) n = if n = w.heap.size then true else isRow w n) ∧
    (∀ (w : World) (c c' : Array Value) (t : TypeId) (n : Nat), (w.alloc (.cells c t)).setRow n c' = if n = w.heap.size then w.alloc (.cells c' t) else (w.setRow n c').alloc (.cells c t)) ∧
    (∀ (r : Dm) (w : World) (b : Nat), isRow w b = true → (loadCellsFrom ⟨b, 0, none⟩ 0 N5 #[]).run Tryz.prog (w.setRow b (cellsD r)) = .ok (cellsD r) (w.setRow b (cellsD r))) :=
  ⟨sizeD, zeroD, size_cellsD, storeD, loadD, rowAt_alloc, isRow_alloc, setRow_alloc, loadSetD⟩

/-- The parts of a state, and what a store into one makes of it. -/
theorem dmParts : (∀ r : Dm, (cellsD r)[0]? = some (.int .u32 r.a)) ∧ (∀ r : Dm, (cellsD r)[1]? = some (.int .u32 r.n)) ∧ (∀ r : Dm, (cellsD r)[2]? = some (.int .u32 r.b)) ∧ (∀ r : Dm, (cellsD r)[3]? = some (.int .u32 r.y)) ∧ (∀ r : Dm, (cellsD r)[4]? = some (.bool r.r)) :=
  ⟨fun _ => rfl, fun _ => rfl, fun _ => rfl, fun _ => rfl, fun _ => rfl⟩

theorem dmSets : (∀ (r : Dm) (x : Int), (cellsD r).setIfInBounds 0 (.int .u32 x) = cellsD { r with a := x }) ∧ (∀ (r : Dm) (x : Int), (cellsD r).setIfInBounds 1 (.int .u32 x) = cellsD { r with n := x }) ∧
    (∀ (r : Dm) (x : Int), (cellsD r).setIfInBounds 2 (.int .u32 x) = cellsD { r with b := x }) ∧ (∀ (r : Dm) (x : Int), (cellsD r).setIfInBounds 3 (.int .u32 x) = cellsD { r with y := x }) ∧
    (∀ (r : Dm) (x : Bool), (cellsD r).setIfInBounds 4 (.bool x) = cellsD { r with r := x }) :=
  ⟨fun _ _ => rfl, fun _ _ => rfl, fun _ _ => rfl, fun _ _ => rfl, fun _ _ => rfl⟩

theorem dmDrew : (∀ (w : World) (b : Nat), rowAt w.drew b = rowAt w b) ∧ (∀ (w : World) (b : Nat), isRow w.drew b = isRow w b) ∧ (∀ (w : World) (n : Nat) (c : Array Value), w.drew.setRow n c = (w.setRow n c).drew) :=
  ⟨rowAt_drew, isRow_drew, fun _ _ _ => rfl⟩

theorem grow (w : World) (o : Obj) : Below w.heap.size w (w.alloc o) := (Below.refl _ w).alloc (Nat.le_refl _) o

theorem onto {n : Nat} {w x y : World} (h : Below n w x) (hn : n ≤ w.heap.size) (k : Below x.heap.size x y) : Below n w y := h.trans (k.mono (Nat.le_trans hn h.size))

/-- A state in block b. -/
def Rat (w : World) (b : Nat) (r : Dm) : Prop := isRow w b = true ∧ rowAt w b = cellsD r ∧ b < w.heap.size

theorem Rat.of_heap {w y : World} {b : Nat} {r : Dm} (h : Rat w b r) (e : y.heap[b]? = w.heap[b]?) : Rat y b r := by
  refine ⟨by rw [isRow_of e]; exact h.1, by rw [rowAt_of e]; exact h.2.1, ?_⟩
  have hl := h.2.2
  rw [Array.getElem?_eq_getElem hl] at e
  exact (Array.getElem?_eq_some_iff.1 e).1

theorem Rat.on {w y : World} {b : Nat} {r : Dm} (h : Rat w b r) (hb : Below w.heap.size w y) : Rat y b r := h.of_heap (hb.block b h.2.2)

/-- Behind a call that changes another block. -/
theorem Rat.far {w y : World} {b g : Nat} {r : Dm} (h : Rat w b r) (hb : w.grownBy y (some g)) (hg : b ≠ g) : Rat y b r := h.of_heap (hb.block b h.2.2 (by simpa using hg))

theorem Rat.kept {w y : World} {b i j k : Nat} {r : Dm} (h : Rat w b r) (hb : RKept i j k w y) (h1 : b ≠ i) (h2 : b ≠ j) (h3 : b ≠ k) : Rat y b r := h.of_heap (hb.block b h.2.2 h1 h2 h3)

theorem Rat.new (w : World) (r : Dm) (t : TypeId) : Rat (w.alloc (.cells (cellsD r) t)) w.heap.size r := ⟨isRow_new _ _ _, rowAt_new _ _ _, by simp⟩

theorem Rat.load {w : World} {b : Nat} {r : Dm} (h : Rat w b r) : (loadCellsFrom ⟨b, 0, none⟩ 0 N5 #[]).run Tryz.prog w = .ok (cellsD r) w := by
  have := loadD w b h.1 (by rw [h.2.1, size_cellsD])
  rwa [h.2.1] at this

theorem Rat.cell {w : World} {b : Nat} {r : Dm} (h : Rat w b r) (j : Nat) : w.cell? ⟨b, j, none⟩ = (cellsD r)[j]? := by
  rw [cell_rowAt w b j h.1, h.2.1]

theorem Rat.five {w : World} {b : Nat} {r : Dm} (h : Rat w b r) : w.cell? ⟨b, 0, none⟩ = some (.int .u32 r.a) ∧ w.cell? ⟨b, 1, none⟩ = some (.int .u32 r.n) ∧ w.cell? ⟨b, 2, none⟩ = some (.int .u32 r.b) ∧ w.cell? ⟨b, 3, none⟩ = some (.int .u32 r.y) ∧ w.cell? ⟨b, 4, none⟩ = some (.bool r.r) :=
  ⟨h.cell 0, h.cell 1, h.cell 2, h.cell 3, h.cell 4⟩

theorem Rat.set {w : World} {b : Nat} {r : Dm} (h : Rat w b r) (q : Dm) : Rat (w.setRow b (cellsD q)) b q :=
  ⟨by rw [isRow_setRow]; exact h.1, rowAt_setRow w b _ h.1, by rw [setRow_size]; exact h.2.2⟩

theorem Rat.setFar {w : World} {b : Nat} {r : Dm} (h : Rat w b r) (g : Nat) (c : Array Value) (hg : b ≠ g) : Rat (w.setRow g c) b r := h.of_heap (setRow_other w g b c hg)

theorem Rat.put {w : World} {b : Nat} {r q : Dm} (h : Rat w b r) (j : Nat) (v : Value) (hq : (cellsD r).setIfInBounds j v = cellsD q) : Rat (w.setCell ⟨b, j, none⟩ v) b q :=
  ⟨by rw [isRow_setCell]; exact h.1, by rw [rowAt_setCell, h.2.1, hq], by rw [World.size_setCell]; exact h.2.2⟩

/-- A register, and whether there is one. -/
def readV (d : Dm) (g : Int) : Int := if g = 0 then d.a else if g = 4 then d.n else if g = 8 then d.y else if g = 12 then d.b else 0
def formV (g : Int) : Int := if g = 0 then 0 else if g = 4 then 0 else if g = 8 then 0 else if g = 12 then 0 else 110

/-- What a write makes of a state. -/
def writeV (d : Dm) (g v : Int) : Dm :=
  if g = 0 then { d with a := v } else if g = 4 then { d with n := v } else if g = 8 then (if d.b = 0 ∧ (v = 1 ∨ v = 2) then { d with b := 10, y := v } else d) else if g = 12 then { d with r := false } else D0

theorem write_w {d : Dm} (hd : Wd d) (g : Int) {v : Int} (hv : W32 v) : Wd (writeV d g v) := by
  unfold writeV
  repeat' split
  · exact ⟨hv, hd.n, hd.b, hd.y⟩
  · exact ⟨hd.a, hv, hd.b, hd.y⟩
  · exact ⟨hd.a, hd.n, w_10, hv⟩
  · exact hd
  · exact ⟨hd.a, hd.n, hd.b, hd.y⟩
  · exact D0_w

/-- A step, and what is to be moved then. -/
def tickV (d : Dm) : Dm := if d.b = 0 then d else if 1 < d.b then { d with b := d.b - 1 } else ⟨d.a, d.n, 0, 0, true⟩
def wayV (d : Dm) : Int := if d.b = 0 then 0 else if 1 < d.b then 0 else d.y

theorem tick_w {d : Dm} (hd : Wd d) : Wd (tickV d) := by
  have h := hd.b
  unfold tickV
  repeat' split
  · exact hd
  · exact ⟨hd.a, hd.n, ⟨by have := h.1; show 0 ≤ d.b - 1; omega, by have := h.2; show d.b - 1 < 4294967296; omega⟩, hd.y⟩
  · exact ⟨hd.a, hd.n, w_0, w_0⟩

end Go.Proofs.YtmegghgjllbamaaGreatDoor.Dm

/- Layer 11: contracts of the registers and of the steps, the program's and the document's. -/
namespace Go.Proofs.YtmegghgjllbamaaGreatDoor.Dm
open Go.RowKit
set_option linter.unusedVariables false
set_option maxRecDepth 100000

/-- None of the four. -/
def Nor (g : Int) : Prop := ¬ g = 0 ∧ ¬ g = 4 ∧ ¬ g = 8 ∧ ¬ g = 12

theorem reg_is (g : Int) : g = 0 ∨ g = 4 ∨ g = 8 ∨ g = 12 ∨ Nor g := by
  unfold Nor
  omega

theorem Nor.tests {g : Int} (h : Nor g) : (g == 0) = false ∧ (g == 4) = false ∧ (g == 8) = false ∧ (g == 12) = false := by
  unfold Nor at h
  simp [h]

theorem Nor.read {g : Int} (h : Nor g) (t : Dm) : readV t g = 0 := by simp [readV, h.1, h.2.1, h.2.2.1, h.2.2.2]
theorem Nor.form {g : Int} (h : Nor g) : formV g = 110 := by simp [formV, h.1, h.2.1, h.2.2.1, h.2.2.2]
theorem Nor.write {g : Int} (h : Nor g) (t : Dm) (v : Int) : writeV t g v = D0 := by simp [writeV, h.1, h.2.1, h.2.2.1, h.2.2.2]

theorem read_any (t : Dm) (g : Int) (w : World) :
    Calls Tryz.prog 135 #[.agg (cellsD t), .int .u32 g] w fun e w' => e = .returned (.tuple #[.int .u32 (readV t g), .int .i64 (formV g)]) ∧ Below w.heap.size w w' := by
  obtain ⟨t1, t2, t3, t4, t5, t6, t7, t8, t9⟩ := dmRules
  obtain ⟨p0, p1, p2, p3, p4⟩ := dmParts
  rcases reg_is g with rfl | rfl | rfl | rfl | h
  rotate_left 4
  · rw [h.read, h.form]
    obtain ⟨h0, h1, h2, h3⟩ := h.tests
    clear h
    go_enter Tryz.func135, Tryz.ntmps135
    go_wp2
    go_ret2
    exact ⟨rfl, grow _ _⟩
  all_goals
    go_enter Tryz.func135, Tryz.ntmps135
    go_wp2
    go_ret2
    exact ⟨rfl, grow _ _⟩

/-- Is it a way? -/
def isW (v : Int) : Bool := (v == 1) || (v == 2)

theorem isWay_any (v : Int) (w : World) : Calls Tryz.prog 105 #[.int .u32 v] w fun e w' => e = .returned (.bool (isW v)) ∧ w' = w := by
  by_cases h1 : v = 1
  · subst h1
    go_enter Tryz.func105, Tryz.ntmps105
    go_wp2
    go_ret
    exact ⟨rfl, rfl⟩
  · have b1 : (v == 1) = false := by simpa using h1
    have e : isW v = (v == 2) := by simp [isW, b1]
    rw [e]
    clear h1 e
    go_enter Tryz.func105, Tryz.ntmps105
    go_wp2
    go_ret
    exact ⟨rfl, rfl⟩

set_option maxHeartbeats 1000000 in
theorem write_any (t : Dm) (g v : Int) (w : World) :
    Calls Tryz.prog 68 #[.agg (cellsD t), .int .u32 g, .int .u32 v] w fun e w' => e = .returned (.tuple #[.agg (cellsD (writeV t g v)), .int .i64 (formV g)]) ∧ Below w.heap.size w w' := by
  obtain ⟨t1, t2, t3, t4, t5, t6, t7, t8, t9⟩ := dmRules
  obtain ⟨p0, p1, p2, p3, p4⟩ := dmParts
  obtain ⟨s0, s1, s2, s3, s4⟩ := dmSets
  have fin : ∀ c d : Array Value, Below w.heap.size w ((w.alloc (.cells c 59)).alloc (.cells d 59)) := fun c d => (grow _ _).alloc (by simp) _
  replace fin := hide fin
  rcases reg_is g with rfl | rfl | rfl | rfl | h
  · go_enter Tryz.func68, Tryz.ntmps68
    go_wp2
    exact bodyPost_ret (v := .tuple #[.agg (cellsD (writeV t 0 v)), .int .i64 0]) (by simp [results, Tryz.results68, go_sem, t1, t3, t5, t6, t7, writeV]) rfl ⟨rfl, fin.out _ _⟩
  · go_enter Tryz.func68, Tryz.ntmps68
    go_wp2
    exact bodyPost_ret (v := .tuple #[.agg (cellsD (writeV t 4 v)), .int .i64 0]) (by simp [results, Tryz.results68, go_sem, t1, t3, t5, t6, t7, writeV]) rfl ⟨rfl, fin.out _ _⟩
  · have c := hide fun W => isWay_any v W
    by_cases hb : t.b = 0
    · have hd : (t.b == 0) = true := by simpa using hb
      cases hw : isW v
      · rw [hw] at c
        have hv : writeV t 8 v = t := by
          simp [isW] at hw
          unfold writeV
          simp [hb, hw]
        rw [hv]
        replace hb := hide hb
        clear hw hv
        go_enter Tryz.func68, Tryz.ntmps68
        go_wp2_with fail
        refine (c.out _).mono ?_
        rintro e w' ⟨rfl, rfl⟩
        go_wp2
        exact bodyPost_ret (v := .tuple #[.agg (cellsD t), .int .i64 0]) (by simp [results, Tryz.results68, go_sem, t1, t3, t5, t6, t7]) rfl ⟨rfl, fin.out _ _⟩
      · rw [hw] at c
        have hv : writeV t 8 v = { t with b := 10, y := v } := by
          simp [isW] at hw
          unfold writeV
          simp [hb, hw]
        rw [hv]
        replace hb := hide hb
        clear hw hv
        go_enter Tryz.func68, Tryz.ntmps68
        go_wp2_with fail
        refine (c.out _).mono ?_
        rintro e w' ⟨rfl, rfl⟩
        go_wp2
        exact bodyPost_ret (v := .tuple #[.agg (cellsD { t with b := 10, y := v }), .int .i64 0]) (by simp [results, Tryz.results68, go_sem, t1, t3, t5, t6, t7]) rfl ⟨rfl, fin.out _ _⟩
    · have hd : (t.b == 0) = false := by simpa using hb
      have hv : writeV t 8 v = t := by unfold writeV; simp [hb]
      rw [hv]
      replace hb := hide hb
      clear c hv
      go_enter Tryz.func68, Tryz.ntmps68
      go_wp2
      exact bodyPost_ret (v := .tuple #[.agg (cellsD t), .int .i64 0]) (by simp [results, Tryz.results68, go_sem, t1, t3, t5, t6, t7]) rfl ⟨rfl, fin.out _ _⟩
  · go_enter Tryz.func68, Tryz.ntmps68
    go_wp2
    exact bodyPost_ret (v := .tuple #[.agg (cellsD (writeV t 12 v)), .int .i64 0]) (by simp [results, Tryz.results68, go_sem, t1, t3, t5, t6, t7, writeV]) rfl ⟨rfl, fin.out _ _⟩
  · rw [h.write, h.form]
    obtain ⟨h0, h1, h2, h3⟩ := h.tests
    clear h
    go_enter Tryz.func68, Tryz.ntmps68
    go_wp2
    exact bodyPost_ret (v := .tuple #[.agg (cellsD D0), .int .i64 110]) (by simp [results, Tryz.results68, go_sem, t1, t3, t5, t6, t7]) rfl ⟨rfl, fin.out _ _⟩

end Go.Proofs.YtmegghgjllbamaaGreatDoor.Dm

/- Layer 11: contracts of the document's Write and Tick, and of the program's Tick. -/
namespace Go.Proofs.YtmegghgjllbamaaGreatDoor.Dm
open Go.RowKit
set_option linter.unusedVariables false
set_option maxRecDepth 100000

/-- Five is above each place. -/
theorem five_more : ¬ N5 < 2 ∧ ¬ N5 < 3 ∧ ¬ N5 < 4 ∧ ¬ N5 < 5 ∧ ¬ cellsD D0 = #[] ∧ ¬ N5 = 0 :=
  ⟨by decide, by decide, by decide, by decide, by unfold cellsD; simp, by decide⟩

theorem tick_any {t : Dm} (ht : Wd t) (w : World) :
    Calls Tryz.prog 48 #[.agg (cellsD t)] w fun e w' => e = .returned (.tuple #[.agg (cellsD (tickV t)), .int .u32 (wayV t)]) ∧ Below w.heap.size w w' := by
  obtain ⟨t1, t2, t3, t4, t5, t6, t7, t8, t9⟩ := dmRules
  obtain ⟨p0, p1, p2, p3, p4⟩ := dmParts
  obtain ⟨s0, s1, s2, s3, s4⟩ := dmSets
  have fin : ∀ c d : Array Value, Below w.heap.size w ((w.alloc (.cells c 59)).alloc (.cells d 59)) := fun c d => (grow _ _).alloc (by simp) _
  replace fin := hide fin
  obtain ⟨b0, b1⟩ := ht.b
  clear ht
  by_cases hb : t.b = 0
  · have hd : (t.b == 0) = true := by simpa using hb
    have hv : tickV t = t := by simp [tickV, hb]
    have hy : wayV t = 0 := by simp [wayV, hb]
    rw [hv, hy]
    replace hb := hide hb
    go_enter Tryz.func48, Tryz.ntmps48
    go_wp2
    exact bodyPost_ret (v := .tuple #[.agg (cellsD t), .int .u32 0]) (by simp [results, Tryz.results48, go_sem, t1, t3, t5, t6, t7]) rfl ⟨rfl, fin.out _ _⟩
  · have hd : (t.b == 0) = false := by simpa using hb
    by_cases hl : 1 < t.b
    · have hv : tickV t = { t with b := t.b - 1 } := by simp [tickV, hb, hl]
      have hy : wayV t = 0 := by simp [wayV, hl]
      rw [hv, hy]
      replace hb := hide hb
      clear hv hy
      go_enter Tryz.func48, Tryz.ntmps48
      go_wp2
      exact bodyPost_ret (v := .tuple #[.agg (cellsD { t with b := t.b - 1 }), .int .u32 0]) (by simp [results, Tryz.results48, go_sem, t1, t3, t5, t6, t7]) rfl ⟨rfl, fin.out _ _⟩
    · have hv : tickV t = ⟨t.a, t.n, 0, 0, true⟩ := by simp [tickV, hb, hl]
      have hy : wayV t = t.y := by simp [wayV, hb, hl]
      rw [hv, hy]
      replace hb := hide hb
      clear hv hy
      go_enter Tryz.func48, Tryz.ntmps48
      go_wp2
      exact bodyPost_ret (v := .tuple #[.agg (cellsD ⟨t.a, t.n, 0, 0, true⟩), .int .u32 t.y]) (by simp [results, Tryz.results48, go_sem, t1, t3, t5, t6, t7]) rfl ⟨rfl, fin.out _ _⟩

end Go.Proofs.YtmegghgjllbamaaGreatDoor.Dm
