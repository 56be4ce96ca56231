/- Layer 13: the processor's state as a row of sixty-three cells; its parts, and what a store into one makes of it. -/
import Derived.Test.YtmegghgjllbamaaGreatDoorQBuAll
import Derived.Test.YtmegghgjllbamaaGreatDoorQCpAll
import Derived.Test.YtmegghgjllbamaaGreatDoorQTlAll
import Derived.Test.YtmegghgjllbamaaGreatDoorQDeAll
import Derived.Test.YtmegghgjllbamaaGreatDoorQWoAll
import Derived.Deep.RegionHeld3
namespace Go.Proofs.YtmegghgjllbamaaGreatDoor
open Go.RowKit
set_option linter.unusedVariables false
set_option maxRecDepth 100000

/-- The processor's state. -/
structure Cs where
  pc : Int
  nx : Int
  dl : Bool
  R : Nat → Int
  hi : Int
  lo : Int
  lk : Bool
  C : Cp.Regs
  T : Nat → Int

/-- All are words. -/
structure Wc (c : Cs) : Prop where
  pc : Cp.W32 c.pc
  nx : Cp.W32 c.nx
  R : ∀ k, Cp.W32 (c.R k)
  hi : Cp.W32 c.hi
  lo : Cp.W32 c.lo
  C : Cp.Wr c.C
  T : Tl.Wd c.T

def cellsC (c : Cs) : Array Value :=
  #[
    .int .u32 c.pc, .int .u32 c.nx, .bool c.dl, .int .u32 (c.R 0), .int .u32 (c.R 1), .int .u32 (c.R 2), .int .u32 (c.R 3), .int .u32 (c.R 4),
    .int .u32 (c.R 5), .int .u32 (c.R 6), .int .u32 (c.R 7), .int .u32 (c.R 8), .int .u32 (c.R 9), .int .u32 (c.R 10), .int .u32 (c.R 11), .int .u32 (c.R 12),
    .int .u32 (c.R 13), .int .u32 (c.R 14), .int .u32 (c.R 15), .int .u32 (c.R 16), .int .u32 (c.R 17), .int .u32 (c.R 18), .int .u32 (c.R 19), .int .u32 (c.R 20),
    .int .u32 (c.R 21), .int .u32 (c.R 22), .int .u32 (c.R 23), .int .u32 (c.R 24), .int .u32 (c.R 25), .int .u32 (c.R 26), .int .u32 (c.R 27), .int .u32 (c.R 28),
    .int .u32 (c.R 29), .int .u32 (c.R 30), .int .u32 (c.R 31), .int .u32 c.hi, .int .u32 c.lo, .bool c.lk, .int .u32 c.C.i, .int .u32 c.C.l,
    .int .u32 c.C.b, .int .u32 c.C.n, .int .u32 c.C.h, .int .u32 c.C.p, .int .u32 c.C.s, .int .u32 c.C.c, .int .u32 c.C.e, .int .u32 (c.T 0),
    .int .u32 (c.T 1), .int .u32 (c.T 2), .int .u32 (c.T 3), .int .u32 (c.T 4), .int .u32 (c.T 5), .int .u32 (c.T 6), .int .u32 (c.T 7), .int .u32 (c.T 8),
    .int .u32 (c.T 9), .int .u32 (c.T 10), .int .u32 (c.T 11), .int .u32 (c.T 12), .int .u32 (c.T 13), .int .u32 (c.T 14), .int .u32 (c.T 15)]

/-- Sixty-three and thirty-two, so spelt that no walk opens a row of them. -/
def N63 : Nat := 63
def N32 : Nat := 32

/-- The registers as a row. -/
def cellsX (R : Nat → Int) : Array Value := ((List.range 32).map fun k => Value.int .u32 (R k)).toArray

/-- The state of noughts. -/
def CZ : Cs := ⟨0, 0, false, fun _ => 0, 0, 0, false, Cp.R0, Tl.T0⟩

theorem size_cellsC (c : Cs) : (cellsC c).size = N63 := rfl

theorem ones_cellsC (c : Cs) : ones (cellsC c) = true := rfl

/-- A register. -/
theorem get_R (c : Cs) (k : Nat) (h : k < 32) : (cellsC c)[3 + k]? = some (.int .u32 (c.R k)) := by
  match k, h with
  | 0, _ => rfl
  | 1, _ => rfl
  | 2, _ => rfl
  | 3, _ => rfl
  | 4, _ => rfl
  | 5, _ => rfl
  | 6, _ => rfl
  | 7, _ => rfl
  | 8, _ => rfl
  | 9, _ => rfl
  | 10, _ => rfl
  | 11, _ => rfl
  | 12, _ => rfl
  | 13, _ => rfl
  | 14, _ => rfl
  | 15, _ => rfl
  | 16, _ => rfl
  | 17, _ => rfl
  | 18, _ => rfl
  | 19, _ => rfl
  | 20, _ => rfl
  | 21, _ => rfl
  | 22, _ => rfl
  | 23, _ => rfl
  | 24, _ => rfl
  | 25, _ => rfl
  | 26, _ => rfl
  | 27, _ => rfl
  | 28, _ => rfl
  | 29, _ => rfl
  | 30, _ => rfl
  | 31, _ => rfl
  | n + 32, h => omega

/-- A register is another one. -/
def putR (R : Nat → Int) (k : Nat) (v : Int) : Nat → Int := fun j => if j = k then v else R j

theorem set_R (c : Cs) (k : Nat) (h : k < 32) (v : Int) : (cellsC c).setIfInBounds (3 + k) (.int .u32 v) = cellsC { c with R := putR c.R k v } := by
  match k, h with
  | 0, _ => rfl
  | 1, _ => rfl
  | 2, _ => rfl
  | 3, _ => rfl
  | 4, _ => rfl
  | 5, _ => rfl
  | 6, _ => rfl
  | 7, _ => rfl
  | 8, _ => rfl
  | 9, _ => rfl
  | 10, _ => rfl
  | 11, _ => rfl
  | 12, _ => rfl
  | 13, _ => rfl
  | 14, _ => rfl
  | 15, _ => rfl
  | 16, _ => rfl
  | 17, _ => rfl
  | 18, _ => rfl
  | 19, _ => rfl
  | 20, _ => rfl
  | 21, _ => rfl
  | 22, _ => rfl
  | 23, _ => rfl
  | 24, _ => rfl
  | 25, _ => rfl
  | 26, _ => rfl
  | 27, _ => rfl
  | 28, _ => rfl
  | 29, _ => rfl
  | 30, _ => rfl
  | 31, _ => rfl
  | n + 32, h => omega

/-- What walks over a state are told. -/
theorem cParts : (∀ c : Cs, (cellsC c)[0]? = some (.int .u32 c.pc)) ∧ (∀ c : Cs, (cellsC c)[1]? = some (.int .u32 c.nx)) ∧ (∀ c : Cs, (cellsC c)[2]? = some (.bool c.dl)) ∧
    (∀ c : Cs, (cellsC c)[35]? = some (.int .u32 c.hi)) ∧ (∀ c : Cs, (cellsC c)[36]? = some (.int .u32 c.lo)) ∧ (∀ c : Cs, (cellsC c)[37]? = some (.bool c.lk)) ∧
    (∀ c : Cs, (cellsC c)[38]? = some (.int .u32 c.C.i)) ∧ (∀ c : Cs, (cellsC c)[39]? = some (.int .u32 c.C.l)) ∧ (∀ c : Cs, (cellsC c)[42]? = some (.int .u32 c.C.h)) ∧
    (∀ (c : Cs) (k : Nat), k < 32 → (cellsC c)[3 + k]? = some (.int .u32 (c.R k))) :=
  ⟨fun _ => rfl, fun _ => rfl, fun _ => rfl, fun _ => rfl, fun _ => rfl, fun _ => rfl, fun _ => rfl, fun _ => rfl, fun _ => rfl, get_R⟩

theorem cSets : (∀ (c : Cs) (x : Int), (cellsC c).setIfInBounds 0 (.int .u32 x) = cellsC { c with pc := x }) ∧ (∀ (c : Cs) (x : Int), (cellsC c).setIfInBounds 1 (.int .u32 x) = cellsC { c with nx := x }) ∧
    (∀ (c : Cs) (x : Bool), (cellsC c).setIfInBounds 2 (.bool x) = cellsC { c with dl := x }) ∧ (∀ (c : Cs) (x : Int), (cellsC c).setIfInBounds 35 (.int .u32 x) = cellsC { c with hi := x }) ∧
    (∀ (c : Cs) (x : Int), (cellsC c).setIfInBounds 36 (.int .u32 x) = cellsC { c with lo := x }) ∧ (∀ (c : Cs) (x : Bool), (cellsC c).setIfInBounds 37 (.bool x) = cellsC { c with lk := x }) ∧
    (∀ (c : Cs) (x : Int), (cellsC c).setIfInBounds 38 (.int .u32 x) = cellsC { c with C := { c.C with i := x } }) ∧ (∀ (c : Cs) (x : Int), (cellsC c).setIfInBounds 39 (.int .u32 x) = cellsC { c with C := { c.C with l := x } }) ∧
    (∀ (c : Cs) (x : Int), (cellsC c).setIfInBounds 42 (.int .u32 x) = cellsC { c with C := { c.C with h := x } }) ∧
    (∀ (c : Cs) (k : Nat), k < 32 → ∀ v : Int, (cellsC c).setIfInBounds (3 + k) (.int .u32 v) = cellsC { c with R := putR c.R k v }) :=
  ⟨fun _ _ => rfl, fun _ _ => rfl, fun _ _ => rfl, fun _ _ => rfl, fun _ _ => rfl, fun _ _ => rfl, fun _ _ => rfl, fun _ _ => rfl, fun _ _ => rfl, set_R⟩

/-- The structs within it. -/
theorem cWhole : (∀ c : Cs, fitsP (cellsC c) 38 Cp.N9 = true) ∧ (∀ c : Cs, fitsP (cellsC c) 47 Tl.N16 = true) ∧ (∀ c : Cs, fitsP (cellsC c) 0 N63 = true) ∧
    (∀ c : Cs, part (cellsC c) 38 Cp.N9 = Cp.cellsR c.C) ∧ (∀ c : Cs, part (cellsC c) 47 Tl.N16 = Tl.cellsT c.T) ∧ (∀ c : Cs, part (cellsC c) 0 N63 = cellsC c) ∧
    (∀ (c : Cs) (r : Cp.Regs), placed (cellsC c) 38 (Cp.cellsR r) = cellsC { c with C := r }) ∧ (∀ (c : Cs) (t : Nat → Int), placed (cellsC c) 47 (Tl.cellsT t) = cellsC { c with T := t }) ∧ (∀ c d : Cs, placed (cellsC c) 0 (cellsC d) = cellsC d) :=
  ⟨fun _ => rfl, fun _ => rfl, fun _ => rfl, fun _ => rfl, fun _ => rfl, fun _ => rfl, fun _ _ => rfl, fun _ _ => rfl, fun _ _ => rfl⟩

theorem sizeCpu (w : World) : (sizeOf 40).run Tryz.prog w = .ok N63 w := Tryz.sizeOf40 w
theorem zeroCpu (w : World) : (zeroValue 40).run Tryz.prog w = .ok (.agg (cellsC CZ)) w := Tryz.zeroValue40 w

/-- The sizes and noughts of what is held. -/
theorem cSizes : (∀ w : World, (sizeOf 40).run Tryz.prog w = .ok N63 w) ∧ (∀ w : World, (sizeOf 34).run Tryz.prog w = .ok Cp.N9 w) ∧ (∀ w : World, (sizeOf 38).run Tryz.prog w = .ok Tl.N16 w) ∧
    (∀ w : World, (zeroValue 40).run Tryz.prog w = .ok (.agg (cellsC CZ)) w) ∧ (∀ w : World, (zeroValue 34).run Tryz.prog w = .ok (.agg (Cp.cellsR Cp.R0)) w) ∧ (∀ w : World, (zeroValue 38).run Tryz.prog w = .ok (.agg (Tl.cellsT Tl.T0)) w) ∧
    (∀ c : Cs, (cellsC c).size = N63) ∧ (∀ r : Cp.Regs, (Cp.cellsR r).size = Cp.N9) ∧ (∀ t : Nat → Int, (Tl.cellsT t).size = Tl.N16) ∧
    (∀ c : Cs, ones (cellsC c) = true) ∧ (∀ r : Cp.Regs, ones (Cp.cellsR r) = true) ∧ (∀ t : Nat → Int, ones (Tl.cellsT t) = true) ∧ ¬ N63 = 0 ∧ ¬ Cp.N9 = 0 ∧ ¬ Tl.N16 = 0 :=
  ⟨sizeCpu, Cp.sizeR, Tl.sizeTlb, zeroCpu, Cp.zeroR, Tl.zeroTlb, fun _ => rfl, fun _ => rfl, fun _ => rfl, fun _ => rfl, fun _ => rfl, fun _ => rfl, by decide, by decide, by decide⟩

/-- A store into one cell of a row, as a row. -/
theorem setCell_row (b : Nat) (w : World) (k : Nat) (v : Value) (h : isRow w b = true) : w.setCell ⟨b, k, none⟩ v = w.setRow b ((rowAt w b).setIfInBounds k v) := by
  obtain ⟨t, e⟩ := isRow_some h
  exact setCell_eq_setRow w b k _ t _ v e

theorem cell_row (b : Nat) (w : World) (c : Array Value) (j : Nat) (h : isRow w b = true) : (w.setRow b c).cell? ⟨b, j, none⟩ = c[j]? := by
  obtain ⟨t, e⟩ := isRow_some h
  exact cell_setRow_same w b j _ c t _ e

theorem free_row (b : Nat) (w : World) (c : Array Value) (j : Nat) (h : isRow w b = true) : (w.setRow b c).frozen? ⟨b, j, none⟩ = false :=
  frozen_rowAt (w.setRow b c) b j (by rw [isRow_setRow]; exact h)

/-- What walks that store into the state in block b are told. -/
theorem stRules (b : Nat) : (∀ (w : World) (k : Nat) (v : Value), isRow w b = true → w.setCell ⟨b, k, none⟩ v = w.setRow b ((rowAt w b).setIfInBounds k v)) ∧
    (∀ (w : World) (c : Array Value) (j : Nat), isRow w b = true → (w.setRow b c).cell? ⟨b, j, none⟩ = c[j]?) ∧ (∀ (w : World) (c : Array Value) (j : Nat), isRow w b = true → (w.setRow b c).frozen? ⟨b, j, none⟩ = false) ∧
    (∀ (w : World) (c d : Array Value), (w.setRow b c).setRow b d = w.setRow b d) ∧ (∀ (w : World) (c : Array Value), isRow (w.setRow b c) b = isRow w b) ∧ (∀ (w : World) (c : Array Value), isRow w b = true → rowAt (w.setRow b c) b = c) :=
  ⟨setCell_row b, cell_row b, free_row b, fun w c d => setRow_setRow w b c d, fun w c => isRow_setRow w b c b, fun w c h => rowAt_setRow w b c h⟩

/-- The state c in block b. -/
theorem Box.cells {w : World} {b : Nat} {c : Array Value} (h : Box w b c) : isRow w b = true ∧ rowAt w b = c ∧ b < w.heap.size ∧ (∀ j, w.cell? ⟨b, j, none⟩ = c[j]?) ∧ (∀ j, w.frozen? ⟨b, j, none⟩ = false) :=
  ⟨h.1, h.2.1, h.2.2, fun j => h.cell j, fun j => h.free j⟩

theorem Tabs.kept {x y : World} (t : De.Tabs x) {l : List Nat} (k : Kept l x y) (hl : ∀ i, i ∈ l → 2 ≤ i) : De.Tabs y := by
  have h0 : ∀ b o, b < 2 → y.cell? ⟨b, o, none⟩ = x.cell? ⟨b, o, none⟩ := fun b o hb => by
    have e := k.block b (by have := t.n; omega) (fun h => by have := hl b h; omega)
    unfold World.cell?
    simp only [e]
  refine ⟨fun i hi => ?_, fun i hi => ?_, Nat.le_trans t.n k.size⟩
  · rw [h0 0 _ (by omega), h0 0 _ (by omega), h0 0 _ (by omega), h0 0 _ (by omega)]; exact t.z i hi
  · rw [h0 1 _ (by omega), h0 1 _ (by omega), h0 1 _ (by omega), h0 1 _ (by omega)]; exact t.o i hi

end Go.Proofs.YtmegghgjllbamaaGreatDoor

/- Layer 13: contracts of the program's small functions, and of Where. -/
namespace Go.Proofs.YtmegghgjllbamaaGreatDoor
open Go.RowKit
set_option linter.unusedVariables false
set_option maxRecDepth 100000

theorem find_ex (T : Nat → Int) (a s : Int) : ∃ k, Tl.FindIs T a s k := by
  have key : ∀ n, n ≤ 8 → (∀ i, i < n → ¬ Tl.fit T a s i) ∨ ∃ i : Nat, i < n ∧ Tl.fit T a s i ∧ ∀ j, j < i → ¬ Tl.fit T a s j := by
    intro n
    induction n with
    | zero => intro _; exact Or.inl fun i h => by omega
    | succ n ih =>
      intro hn
      rcases ih (by omega) with h | ⟨i, hi, hf, hj⟩
      · by_cases hx : Tl.fit T a s n
        · exact Or.inr ⟨n, by omega, hx, h⟩
        · refine Or.inl fun i hi => ?_
          by_cases e : i = n
          · rw [e]; exact hx
          · exact h i (by omega)
      · exact Or.inr ⟨i, by omega, hf, hj⟩
  rcases key 8 (by omega) with h | ⟨i, hi, hf, hj⟩
  · exact ⟨-1, Or.inl ⟨rfl, h⟩⟩
  · exact ⟨i, Or.inr ⟨i, hi, rfl, hf, hj⟩⟩

/-- The slot that fits. -/
noncomputable def findV (T : Nat → Int) (a s : Int) : Int := Classical.choose (find_ex T a s)

theorem findV_is (T : Nat → Int) (a s : Int) : Tl.FindIs T a s (findV T a s) := Classical.choose_spec (find_ex T a s)

theorem find_fn (T : Nat → Int) (a s : Int) (hT : Tl.Wd T) (ha : Cp.W32 a) (hs : Cp.W32 s) (w : World) :
    Calls Tryz.prog 121 #[.agg (Tl.cellsT T), .int .u32 a, .int .u32 s] w fun e w' => e = .returned (.int .i64 (findV T a s)) ∧ Below w.heap.size w w' := by
  refine (Tl.find_any T a s hT ha.1 ha.2 hs.1 hs.2 w).mono ?_
  rintro e w1 ⟨k, hk, rfl, hb⟩
  rw [hk.one (findV_is T a s)]
  exact ⟨rfl, hb⟩

theorem map_fn (T : Nat → Int) (a s : Int) (wr : Bool) (hT : Tl.Wd T) (ha : Cp.W32 a) (hs : Cp.W32 s) (w : World) :
    Calls Tryz.prog 117 #[.agg (Tl.cellsT T), .int .u32 a, .int .u32 s, .bool wr] w fun e w' => e = .returned (.tuple #[.int .u32 (Tl.mapV T a wr (findV T a s)).1, .int .i64 (Tl.mapV T a wr (findV T a s)).2]) ∧ Below w.heap.size w w' := by
  refine (Tl.map_any T a s wr hT ha.1 ha.2 hs.1 hs.2 w).mono ?_
  rintro e w1 ⟨k, hk, rfl, hb⟩
  rw [hk.one (findV_is T a s)]
  exact ⟨rfl, hb⟩

/-- The state behind a jump to a place. -/
def gone (c : Cs) (p : Int) : Cs := { c with pc := p, nx := (p + 4) % 4294967296, dl := false }

theorem goTo_any {w : World} {b : Nat} {c : Cs} (h : Box w b (cellsC c)) (p : Int) (hp : Cp.W32 p) :
    Calls Tryz.prog 19 #[.pointer (some ⟨b, 0, none⟩), .int .u32 p] w fun e w' => e = .returned (.tuple #[]) ∧ w' = w.setRow b (cellsC (gone c p)) := by
  obtain ⟨p0, p1, p2, p3, p4, p5, p6, p7, p8, p9⟩ := cParts
  obtain ⟨s0, s1, s2, s3, s4, s5, s6, s7, s8, s9⟩ := cSets
  obtain ⟨k1, k2, k3, k4, k5, k6⟩ := stRules b
  obtain ⟨r1, r2, r3, r4, r5⟩ := h.cells
  obtain ⟨h0, h1⟩ := hp
  go_enter Tryz.func19, Tryz.ntmps19
  go_wp2
  go_end0
  exact ⟨rfl, rfl⟩

/-- The codes of an address that may not be, and of one that is not mapped. -/
def wcV (wr : Bool) : Int := if wr then 5 else 4
def mcV (wr : Bool) : Int := if wr then 3 else 2
def oneN (b : Bool) : Int := if b then 1 else 0

theorem wrongCode_any (wr : Bool) (w : World) :
    Calls Tryz.prog 85 #[.bool wr] w fun e w' => e = .returned (.int .i64 (wcV wr)) ∧ w' = w := by
  go_enter Tryz.func85, Tryz.ntmps85
  cases wr
  · go_wp2
    go_ret
    exact ⟨rfl, rfl⟩
  · go_wp2
    go_ret
    exact ⟨rfl, rfl⟩

theorem missCode_any (wr : Bool) (w : World) :
    Calls Tryz.prog 118 #[.bool wr] w fun e w' => e = .returned (.int .i64 (mcV wr)) ∧ w' = w := by
  go_enter Tryz.func118, Tryz.ntmps118
  cases wr
  · go_wp2
    go_ret
    exact ⟨rfl, rfl⟩
  · go_wp2
    go_ret
    exact ⟨rfl, rfl⟩

theorem oneIf_any (y : Bool) (w : World) :
    Calls Tryz.prog 125 #[.bool y] w fun e w' => e = .returned (.int .u32 (oneN y)) ∧ w' = w := by
  go_enter Tryz.func125, Tryz.ntmps125
  cases y
  · go_wp2
    go_ret
    exact ⟨rfl, rfl⟩
  · go_wp2
    go_ret
    exact ⟨rfl, rfl⟩

/-- Where an address is: its place, a code, is it a refill? -/
noncomputable def whereV (c : Cs) (a : Int) (wr : Bool) : Int × Int × Bool :=
  if 2147483648 ≤ a ∧ Cp.userV c.C = true then (0, wcV wr, false)
  else if 2147483648 ≤ a ∧ a < 3221225472 then (a % 536870912, -1, false)
  else if (Tl.mapV c.T a wr (findV c.T a (c.C.h % 256))).2 = 0 then ((Tl.mapV c.T a wr (findV c.T a (c.C.h % 256))).1, -1, false)
  else if (Tl.mapV c.T a wr (findV c.T a (c.C.h % 256))).2 = 3 then (0, 1, false)
  else (0, mcV wr, decide ((Tl.mapV c.T a wr (findV c.T a (c.C.h % 256))).2 = 1))

/-- Where, its map as letters. -/
theorem whereV_map {c : Cs} {a : Int} {wr : Bool} (h : ¬ (2147483648 ≤ a ∧ Cp.userV c.C = true)) (h' : ¬ (2147483648 ≤ a ∧ a < 3221225472)) {M N : Int}
    (hM : (Tl.mapV c.T a wr (findV c.T a (c.C.h % 256))).1 = M) (hN : (Tl.mapV c.T a wr (findV c.T a (c.C.h % 256))).2 = N) :
    whereV c a wr = if N = 0 then (M, -1, false) else if N = 3 then (0, 1, false) else (0, mcV wr, decide (N = 1)) := by
  unfold whereV
  rw [if_neg h, if_neg h', hM, hN]

theorem sees {W x y : World} {b : Nat} {c : Cs} (h : Box x b (cellsC c) ∧ Below W.heap.size W x) (hb : Below x.heap.size x y) :
    (loadCellsFrom ⟨b, 47, none⟩ 0 Tl.N16 #[]).run Tryz.prog y = .ok (Tl.cellsT c.T) y ∧ y.cell? ⟨b, 42, none⟩ = some (.int .u32 c.C.h) ∧ (Box y b (cellsC c) ∧ Below W.heap.size W y) :=
  ⟨(h.1.on hb).loads 47 Tl.N16 rfl rfl, (h.1.on hb).cell 42, h.1.on hb, h.2.trans (hb.mono h.2.size)⟩

set_option maxHeartbeats 2000000 in
theorem where_mapped {w : World} {b : Nat} {c : Cs} (h : Box w b (cellsC c)) (hc : Wc c) (a : Int) (ha : Cp.W32 a) (wr : Bool) (M N A K : Int) (F : Bool)
    (cm : ∀ w, Calls Tryz.prog 117 #[.agg (Tl.cellsT c.T), .int .u32 a, .int .u32 (c.C.h % 256), .bool wr] w fun e w' => e = .returned (.tuple #[.int .u32 M, .int .i64 N]) ∧ Below w.heap.size w w')
    (hk : (decide (2147483648 ≤ a) = true ∧ decide (a < 3221225472) = false ∧ Cp.userV c.C = false) ∨ decide (2147483648 ≤ a) = false)
    (hN : (N = 0 ∧ A = M ∧ K = -1 ∧ F = false) ∨ (N = 3 ∧ A = 0 ∧ K = 1 ∧ F = false) ∨ ((N == 0) = false ∧ (N == 3) = false ∧ A = 0 ∧ K = (mcV wr) ∧ F = (N == 1))) :
    Calls Tryz.prog 86 #[.pointer (some ⟨b, 0, none⟩), .int .u32 a, .bool wr] w fun e w' => e = .returned (.tuple #[.int .u32 A, .int .i64 K, .bool F]) ∧ Below w.heap.size w w' := by
  obtain ⟨t1, t2, t3, t4, t5, t6, t7, t8, t9⟩ := rowRules
  obtain ⟨z1, z2, z3, z4, z5, z6, z7, z8, z9, z10, z11, z12, z13, z14, z15⟩ := cSizes
  obtain ⟨f1, f2, f3, f4, f5, f6, f7, f8, f9⟩ := cWhole
  obtain ⟨p0, p1, p2, p3, p4, p5, p6, p7, p8, p9⟩ := cParts
  have cu := hide (Cp.user_any hc.C)
  have hH := hc.C.h
  have a255 : bits .and .u32 c.C.h 255 = c.C.h % 256 := Tl.and255 c.C.h hH.1 hH.2
  replace cm := hide cm
  replace hc := hide hc
  replace hN := hide hN
  obtain ⟨a0, a1⟩ := ha
  clear hH
  rcases hk with ⟨k1, k2, hu⟩ | k1
  · rw [hu] at cu
    clear hu
    obtain ⟨r1, r2, r3, r4, r5⟩ := h.cells
    go_enter Tryz.func86, Tryz.ntmps86
    go_wp2_with fail
    refine (cu.out _).mono ?_
    rintro e w1 ⟨rfl, b1⟩
    have h1 := h.on b1
    have S0 := sees ⟨h1, b1⟩ (Below.refl _ _).drew
    clear r1 r2 r3 r4 r5 h1 cu
    go_wp2_with fail
    go_region_held3 (fun x => (loadCellsFrom ⟨b, 47, none⟩ 0 Tl.N16 #[]).run Tryz.prog x = .ok (Tl.cellsT c.T) x ∧ x.cell? ⟨b, 42, none⟩ = some (.int .u32 c.C.h) ∧ (Box x b (cellsC c) ∧ Below w.heap.size w x))
      (first | exact S0 | assumption | exact sees (And.right (And.right (by assumption))) (by assumption))
      (first | (go_at_call 117; refine (cm.out _).mono ?_; rintro e w2 ⟨rfl, b2⟩; go_wp2_with fail))
    have b3 : Hid (Below w.heap.size w w2) := by
      have h : (loadCellsFrom ⟨b, 47, none⟩ 0 Tl.N16 #[]).run Tryz.prog w2 = .ok (Tl.cellsT c.T) w2 ∧ w2.cell? ⟨b, 42, none⟩ = some (.int .u32 c.C.h) ∧ (Box w2 b (cellsC c) ∧ Below w.heap.size w w2) := by assumption
      exact hide h.2.2.2
    clear cm h a255 S0
    rcases hN.out with ⟨rfl, rfl, rfl, rfl⟩ | ⟨rfl, rfl, rfl, rfl⟩ | ⟨e0, e3, rfl, rfl, rfl⟩
    · go_wp2
      go_ret3
      exact ⟨rfl, b3.out⟩
    · go_wp2
      go_ret3
      exact ⟨rfl, b3.out⟩
    · go_wp2_with fail
      refine (missCode_any wr _).mono ?_
      rintro e w4 ⟨rfl, rfl⟩
      go_wp2
      go_ret3
      exact ⟨rfl, b3.out⟩
  · clear cu
    have S0 := sees ⟨h, Below.refl _ _⟩ (Below.refl _ _).drew
    go_enter Tryz.func86, Tryz.ntmps86
    go_wp2_with fail
    go_region_held3 (fun x => (loadCellsFrom ⟨b, 47, none⟩ 0 Tl.N16 #[]).run Tryz.prog x = .ok (Tl.cellsT c.T) x ∧ x.cell? ⟨b, 42, none⟩ = some (.int .u32 c.C.h) ∧ (Box x b (cellsC c) ∧ Below w.heap.size w x))
      (first | exact S0 | assumption | exact sees (And.right (And.right (by assumption))) (by assumption))
      (first | (go_at_call 117; refine (cm.out _).mono ?_; rintro e w2 ⟨rfl, b2⟩; go_wp2_with fail))
    have b3 : Hid (Below w.heap.size w w2) := by
      have h : (loadCellsFrom ⟨b, 47, none⟩ 0 Tl.N16 #[]).run Tryz.prog w2 = .ok (Tl.cellsT c.T) w2 ∧ w2.cell? ⟨b, 42, none⟩ = some (.int .u32 c.C.h) ∧ (Box w2 b (cellsC c) ∧ Below w.heap.size w w2) := by assumption
      exact hide h.2.2.2
    clear cm h a255 S0
    rcases hN.out with ⟨rfl, rfl, rfl, rfl⟩ | ⟨rfl, rfl, rfl, rfl⟩ | ⟨e0, e3, rfl, rfl, rfl⟩
    · go_wp2
      go_ret3
      exact ⟨rfl, b3.out⟩
    · go_wp2
      go_ret3
      exact ⟨rfl, b3.out⟩
    · go_wp2_with fail
      refine (missCode_any wr _).mono ?_
      rintro e w4 ⟨rfl, rfl⟩
      go_wp2
      go_ret3
      exact ⟨rfl, b3.out⟩

set_option maxHeartbeats 2000000 in
theorem where_any {w : World} {b : Nat} {c : Cs} (h : Box w b (cellsC c)) (hc : Wc c) (a : Int) (ha : Cp.W32 a) (wr : Bool) :
    Calls Tryz.prog 86 #[.pointer (some ⟨b, 0, none⟩), .int .u32 a, .bool wr] w fun e w' =>
      e = .returned (.tuple #[.int .u32 (whereV c a wr).1, .int .i64 (whereV c a wr).2.1, .bool (whereV c a wr).2.2]) ∧ Below w.heap.size w w' := by
  have hH := hc.C.h
  have cm := map_fn c.T a (c.C.h % 256) wr hc.T ha (by constructor <;> omega)
  by_cases hd : 2147483648 ≤ a ∧ (Cp.userV c.C = true ∨ a < 3221225472)
  · obtain ⟨hk, hd⟩ := hd
    obtain ⟨t1, t2, t3, t4, t5, t6, t7, t8, t9⟩ := rowRules
    obtain ⟨z1, z2, z3, z4, z5, z6, z7, z8, z9, z10, z11, z12, z13, z14, z15⟩ := cSizes
    obtain ⟨f1, f2, f3, f4, f5, f6, f7, f8, f9⟩ := cWhole
    obtain ⟨r1, r2, r3, r4, r5⟩ := h.cells
    have cu := hide (Cp.user_any hc.C)
    replace hc := hide hc
    replace h := hide h
    obtain ⟨a0, a1⟩ := ha
    clear cm hH
    have k1 : decide (2147483648 ≤ a) = true := by simpa using hk
    cases hu : Cp.userV c.C with
    | true =>
      have hV : whereV c a wr = (0, wcV wr, false) := by unfold whereV; rw [if_pos ⟨hk, hu⟩]
      rw [hV]
      rw [hu] at cu
      clear hV hd
      go_enter Tryz.func86, Tryz.ntmps86
      go_wp2_with fail
      refine (cu.out _).mono ?_
      rintro e w1 ⟨rfl, b1⟩
      go_wp2_with fail
      refine (wrongCode_any wr _).mono ?_
      rintro e w2 ⟨rfl, rfl⟩
      go_wp2
      go_ret3
      exact ⟨rfl, b1⟩
    | false =>
      rw [hu] at cu
      have hd : a < 3221225472 := by rcases hd with e | e <;> simp_all
      have k2 : decide (a < 3221225472) = true := by simpa using hd
      have hV : whereV c a wr = (a % 536870912, -1, false) := by unfold whereV; rw [if_neg (by rw [hu]; simp), if_pos ⟨hk, hd⟩]
      rw [hV]
      have am : bits .and .u32 a 536870911 = a % 536870912 := Wo.and_mask a 29 a0 a1 (by omega)
      clear hV
      go_enter Tryz.func86, Tryz.ntmps86
      go_wp2_with fail
      refine (cu.out _).mono ?_
      rintro e w1 ⟨rfl, b1⟩
      go_wp2
      go_ret3
      exact ⟨rfl, b1⟩
  · have n1 : ¬ (2147483648 ≤ a ∧ Cp.userV c.C = true) := fun ⟨x, y⟩ => hd ⟨x, Or.inl y⟩
    have n2 : ¬ (2147483648 ≤ a ∧ a < 3221225472) := fun ⟨x, y⟩ => hd ⟨x, Or.inr y⟩
    rw [whereV_map n1 n2 rfl rfl]
    generalize (Tl.mapV c.T a wr (findV c.T a (c.C.h % 256))).1 = M at cm ⊢
    generalize (Tl.mapV c.T a wr (findV c.T a (c.C.h % 256))).2 = N at cm ⊢
    refine where_mapped h hc a ha wr M N _ _ _ cm ?_ ?_
    · by_cases hk : 2147483648 ≤ a
      · refine Or.inl ⟨by simpa using hk, ?_, ?_⟩
        · simp only [decide_eq_false_iff_not]; exact fun x => n2 ⟨hk, x⟩
        · cases hu : Cp.userV c.C with
          | true => exact absurd ⟨hk, hu⟩ n1
          | false => rfl
      · exact Or.inr (by simpa using hk)
    · by_cases n0 : N = 0
      · rw [if_pos n0]; exact Or.inl ⟨n0, rfl, rfl, rfl⟩
      by_cases n3 : N = 3
      · rw [if_neg n0, if_pos n3]; exact Or.inr (Or.inl ⟨n3, rfl, rfl, rfl⟩)
      · rw [if_neg n0, if_neg n3]
        exact Or.inr (Or.inr ⟨by simpa using n0, by simpa using n3, rfl, rfl, by rw [Bool.eq_iff_iff]; simp⟩)

end Go.Proofs.YtmegghgjllbamaaGreatDoor

/- Layer 13: contracts of the program's place and fetch. -/
namespace Go.Proofs.YtmegghgjllbamaaGreatDoor
open Go.RowKit
set_option linter.unusedVariables false
set_option maxRecDepth 100000

/-- Why something can't be done. -/
structure Ft where
  code : Int
  rf : Bool
  bd : Bool
  ad : Int
  pg : Bool

def cellsF (f : Ft) : Array Value := #[.int .i64 f.code, .bool f.rf, .bool f.bd, .int .u32 f.ad, .bool f.pg]

def F0 : Ft := ⟨0, false, false, 0, false⟩

/-- A fault without an address. -/
def ftC (k : Int) : Ft := ⟨k, false, false, 0, false⟩

/-- An instruction, and an error. -/
structure Ins where
  o : Int
  s : Int
  t : Int
  d : Int
  a : Int
  i : Int
  e : Int

def cellsI (I : Ins) : Array Value := #[.int .i64 I.o, .int .i64 I.s, .int .i64 I.t, .int .i64 I.d, .int .i64 I.a, .int .i64 I.i]

def I0 : Ins := ⟨0, 0, 0, 0, 0, 0, 0⟩

theorem dec_ex (x : Int) (hx : Cp.W32 x) : ∃ I : Ins, De.Told x.toNat I.o I.s I.t I.d I.a I.i I.e ∧ ∀ w, De.Tabs w →
    Calls Tryz.prog 39 #[.int .u32 x] w fun e' w' => e' = .returned (.tuple #[.agg (cellsI I), .int .i64 I.e]) ∧ Below w.heap.size w w' := by
  obtain ⟨o, s, t, d, a, i, e, h, k⟩ := De.decode_any x.toNat (by have := hx.1; have := hx.2; omega)
  rw [show ((x.toNat : Nat) : Int) = x from Int.toNat_of_nonneg hx.1] at k
  exact ⟨⟨o, s, t, d, a, i, e⟩, h, k⟩

instance (x : Int) : Decidable (Cp.W32 x) := by unfold Cp.W32; infer_instance

noncomputable def decV (x : Int) : Ins := if h : Cp.W32 x then Classical.choose (dec_ex x h) else I0

theorem decV_told (x : Int) (h : Cp.W32 x) : De.Told x.toNat (decV x).o (decV x).s (decV x).t (decV x).d (decV x).a (decV x).i (decV x).e := by
  unfold decV
  rw [dif_pos h]
  exact (Classical.choose_spec (dec_ex x h)).1

theorem decode_fn (x : Int) (h : Cp.W32 x) (w : World) (tb : De.Tabs w) :
    Calls Tryz.prog 39 #[.int .u32 x] w fun e' w' => e' = .returned (.tuple #[.agg (cellsI (decV x)), .int .i64 (decV x).e]) ∧ Below w.heap.size w w' := by
  unfold decV
  rw [dif_pos h]
  exact (Classical.choose_spec (dec_ex x h)).2 w tb

/-- Where a number lies: its place, why it does not, does it? -/
noncomputable def plV (c : Cs) (a z : Int) (wr : Bool) : Int × Ft × Bool :=
  if ¬ a % z = 0 then (0, ⟨wcV wr, false, true, a, false⟩, false)
  else if (whereV c a wr).2.1 = -1 then ((whereV c a wr).1, F0, true)
  else (0, ⟨(whereV c a wr).2.1, (whereV c a wr).2.2, true, a, decide (¬ (whereV c a wr).2.1 = wcV wr)⟩, false)

theorem place_odd {w : World} {b : Nat} (a z : Int) (ha : Cp.W32 a) (hz : z = 1 ∨ z = 2 ∨ z = 4) (wr : Bool) (h : ¬ a % z = 0) :
    Calls Tryz.prog 51 #[.pointer (some ⟨b, 0, none⟩), .int .u32 a, .int .i64 z, .bool wr] w fun e w' =>
      e = .returned (.tuple #[.int .u32 0, .agg #[.int .i64 (wcV wr), .bool false, .bool true, .int .u32 a, .bool false], .bool false]) ∧ Below w.heap.size w w' := by
  obtain ⟨a0, a1⟩ := ha
  have hz : z = 2 ∨ z = 4 := by
    rcases hz with rfl | hz
    · omega
    · exact hz
  have e1 : (a % z == 0) = false := by simpa using h
  have e2 : (a % z != 0) = true := by simpa using h
  have bb := hide fun (d : Array Value) => grow w (.cells d 75)
  rcases hz with rfl | rfl
  all_goals
    go_enter Tryz.func51, Tryz.ntmps51
    go_wp2_with fail
    refine (wrongCode_any wr _).mono ?_
    rintro e w1 ⟨rfl, rfl⟩
    go_wp2
    exact bodyPost_ret (v := .tuple #[.int .u32 0, .agg #[.int .i64 (wcV wr), .bool false, .bool true, .int .u32 a, .bool false], .bool false]) (by simp [results, Tryz.results51, go_sem]) rfl ⟨rfl, bb.out _⟩

set_option maxHeartbeats 2000000 in
theorem place_even {w : World} {b : Nat} (a z : Int) (ha : Cp.W32 a) (hz : z = 1 ∨ z = 2 ∨ z = 4) (wr : Bool) (h : a % z = 0) (A K : Int) (F : Bool) {C : Array Value} (hB : Box w b C)
    (cw : ∀ x, Box x b C → Calls Tryz.prog 86 #[.pointer (some ⟨b, 0, none⟩), .int .u32 a, .bool wr] x fun e w' => e = .returned (.tuple #[.int .u32 A, .int .i64 K, .bool F]) ∧ Below x.heap.size x w') (X : Int) (Y : Ft) (Z : Bool)
    (hV : (K = -1 ∧ X = A ∧ Y = F0 ∧ Z = true) ∨ ((K == -1) = false ∧ X = 0 ∧ Y = ⟨K, F, true, a, (K != wcV wr)⟩ ∧ Z = false)) :
    Calls Tryz.prog 51 #[.pointer (some ⟨b, 0, none⟩), .int .u32 a, .int .i64 z, .bool wr] w fun e w' =>
      e = .returned (.tuple #[.int .u32 X, .agg (cellsF Y), .bool Z]) ∧ Below w.heap.size w w' := by
  obtain ⟨a0, a1⟩ := ha
  have e1 : (a % z == 0) = true := by simpa using h
  have e2 : (a % z != 0) = false := by simpa using h
  have cw' := hide (cw _ (hB.on (grow w (.cells #[.int .i64 0, .bool false, .bool false, .int .u32 0, .bool false] 75))))
  have b0 := hide (grow w (.cells #[.int .i64 0, .bool false, .bool false, .int .u32 0, .bool false] 75))
  clear cw hB
  replace hV := hide hV
  rcases hz with rfl | rfl | rfl
  all_goals
    go_enter Tryz.func51, Tryz.ntmps51
    go_wp2_with fail
    refine cw'.out.mono ?_
    rintro e w1 ⟨rfl, b1⟩
    have bx := (Box.new w #[.int .i64 0, .bool false, .bool false, .int .u32 0, .bool false] 75).on b1
    have bb := hide (onto b0.out (Nat.le_refl _) b1)
    clear cw' b1 b0
    obtain ⟨r1, r2, r3, r4, r5⟩ := bx.cells
    obtain ⟨q1, q2, q3, q4, q5, q6⟩ := stRules w.heap.size
    have bs := hide fun (d : Array Value) => Kept.below (l := [w.heap.size]) bb.out (Kept.set w1 w.heap.size d (by simp)) (Nat.le_refl _) (by simp)
    clear bb bx
    rcases hV.out with ⟨rfl, rfl, rfl, rfl⟩ | ⟨k1, rfl, rfl, rfl⟩
    · go_wp2
      exact bodyPost_ret (v := .tuple #[.int .u32 X, .agg (cellsF F0), .bool true]) (by simp [results, Tryz.results51, go_sem, q2, r1]; rfl) rfl ⟨rfl, bs.out _⟩
    · go_wp2_with fail
      refine (wrongCode_any wr _).mono ?_
      rintro e w2 ⟨rfl, rfl⟩
      go_wp2
      exact bodyPost_ret (v := .tuple #[.int .u32 0, .agg (cellsF ⟨K, F, true, a, K != wcV wr⟩), .bool false]) (by simp [results, Tryz.results51, go_sem, q2, r1]; rfl) rfl ⟨rfl, bs.out _⟩

theorem place_any {w : World} {b : Nat} {c : Cs} (h : Box w b (cellsC c)) (hc : Wc c) (a z : Int) (ha : Cp.W32 a) (hz : z = 1 ∨ z = 2 ∨ z = 4) (wr : Bool) :
    Calls Tryz.prog 51 #[.pointer (some ⟨b, 0, none⟩), .int .u32 a, .int .i64 z, .bool wr] w fun e w' =>
      e = .returned (.tuple #[.int .u32 (plV c a z wr).1, .agg (cellsF (plV c a z wr).2.1), .bool (plV c a z wr).2.2]) ∧ Below w.heap.size w w' := by
  by_cases hm : a % z = 0
  · refine place_even a z ha hz wr hm _ _ _ h (fun x hx => where_any hx hc a ha wr) _ _ _ ?_
    unfold plV
    rw [if_neg (by simpa using hm)]
    by_cases hk : (whereV c a wr).2.1 = -1
    · rw [if_pos hk]; exact Or.inl ⟨hk, rfl, rfl, rfl⟩
    · rw [if_neg hk]
      refine Or.inr ⟨by simpa using hk, rfl, ?_, rfl⟩
      show Ft.mk _ _ _ _ _ = Ft.mk _ _ _ _ _
      congr 1
      rw [Bool.eq_iff_iff]; simp
  · have hV : plV c a z wr = (0, ⟨wcV wr, false, true, a, false⟩, false) := if_pos hm
    rw [hV]
    exact place_odd a z ha hz wr hm

/-- Is an op the system's? -/
def sysOp (o : Int) : Bool := decide (De.Dec.fm (De.idx o) = 17 ∨ De.Dec.fm (De.idx o) = 18)

set_option maxHeartbeats 1000000 in
theorem isSystems_any (o : Int) (w : World) (tb : De.Tabs w) :
    Calls Tryz.prog 53 #[.int .i64 o] w fun e w' => e = .returned (.bool (sysOp o)) ∧ Below w.heap.size w w' := by
  have cf := hide (De.form_any o w tb)
  unfold sysOp
  have hf : De.Dec.fm (De.idx o) < 20 := De.idx_lt o
  generalize De.Dec.fm (De.idx o) = f at *
  replace tb := hide tb
  have key : ((De.Dec.lname f).toList = [67, 48] ∧ decide (f = 17 ∨ f = 18) = true) ∨ (((De.Dec.lname f).toList == [67, 48]) = false ∧ (De.Dec.lname f).toList = [67, 79] ∧ decide (f = 17 ∨ f = 18) = true) ∨
      (((De.Dec.lname f).toList == [67, 48]) = false ∧ ((De.Dec.lname f).toList == [67, 79]) = false ∧ decide (f = 17 ∨ f = 18) = false) := by
    have : ∀ g < 20, ((De.Dec.lname g).toList = [67, 48] ∧ decide (g = 17 ∨ g = 18) = true) ∨ (((De.Dec.lname g).toList == [67, 48]) = false ∧ (De.Dec.lname g).toList = [67, 79] ∧ decide (g = 17 ∨ g = 18) = true) ∨
      (((De.Dec.lname g).toList == [67, 48]) = false ∧ ((De.Dec.lname g).toList == [67, 79]) = false ∧ decide (g = 17 ∨ g = 18) = false) := by
      simp only [ByteArray.toList_eq]
      decide +kernel
    exact this f hf
  generalize De.Dec.lname f = N at *
  rcases key with ⟨n1, n2⟩ | ⟨n1, n3, n2⟩ | ⟨n1, n3, n2⟩
  all_goals
    rw [n2]
    clear n2
    go_enter Tryz.func53, Tryz.ntmps53
    go_wp2_with fail
    refine cf.out.mono ?_
    rintro e w1 ⟨rfl, b1⟩
    have bb := hide b1
    clear cf b1
    go_wp2
    go_ret
    exact ⟨rfl, bb.out⟩

end Go.Proofs.YtmegghgjllbamaaGreatDoor
