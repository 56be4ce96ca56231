/- Layer 9: a timer as a row of three cells: its parts, and when two are the same; many steps as one sum. -/
import Derived.Test.YthjcijlabpinkaaGreatDoorRWholeAt
import Derived.ChangeKeysEq
import Derived.Laws.AppendOwn
import Derived.OwnWalk
import Derived.Laws.BytesArg
import Derived.RegionTactic
import Derived.Deep.RegionLaw
namespace Go.Proofs.YthjcijlabpinkaaGreatDoor.Tm
open Go.RowKit
set_option linter.unusedVariables false
set_option maxRecDepth 100000

def W32 (a : Int) : Prop := 0 ≤ a ∧ a < 4294967296

theorem w_of (a : Int) (h0 : 0 ≤ a) (h1 : a < 4294967296) : W32 a := ⟨h0, h1⟩

structure Tm where
  e : Int
  l : Int
  r : Bool
deriving DecidableEq

structure Wt (t : Tm) : Prop where
  e : W32 t.e
  l : W32 t.l

def cellsT (t : Tm) : Array Value := #[.int .u32 t.e, .int .u32 t.l, .bool t.r]

def N3 : Nat := 3

def T0 : Tm := ⟨0, 0, false⟩

theorem T0_w : Wt T0 := ⟨⟨by decide, by decide⟩, ⟨by decide, by decide⟩⟩

theorem size_cellsT (t : Tm) : (cellsT t).size = N3 := rfl

theorem sizeT (w : World) : (sizeOf 62).run Tryz.prog w = .ok N3 w := Tryz.sizeOf62 w

theorem zeroT (w : World) : (zeroValue 62).run Tryz.prog w = .ok (.agg (cellsT T0)) w := Tryz.zeroValue62 w

theorem loadT (w : World) (b : Nat) (h : isRow w b = true) (hn : (rowAt w b).size = N3) : (loadCellsFrom ⟨b, 0, none⟩ 0 N3 #[]).run Tryz.prog w = .ok (rowAt w b) w :=
  load_rowAt Tryz.prog w b N3 h hn

theorem storeT (r : Tm) (w : World) (b : Nat) (h : isRow w b = true) (hn : (rowAt w b).size = N3) : (storeCells ⟨b, 0, none⟩ (cellsT r).toList 0).run Tryz.prog w = .ok () (w.setRow b (cellsT r)) := by
  refine store_rowAt Tryz.prog w b _ h (by rw [hn, size_cellsT]) fun v hv => ?_
  simp only [cellsT, List.mem_cons] at hv
  rcases hv with rfl | rfl | rfl | hv
  all_goals first | rfl | simp at hv

theorem loadSetT (r : Tm) (w : World) (b : Nat) (h : isRow w b = true) : (loadCellsFrom ⟨b, 0, none⟩ 0 N3 #[]).run Tryz.prog (w.setRow b (cellsT r)) = .ok (cellsT r) (w.setRow b (cellsT r)) := by
  have := loadT (w.setRow b (cellsT r)) b (by rw [isRow_setRow, h]) (by rw [rowAt_setRow w b _ h, size_cellsT])
  rwa [rowAt_setRow w b _ h] at this

theorem tmRules : (∀ w : World, (sizeOf 62).run Tryz.prog w = .ok N3 w) ∧ (∀ w : World, (zeroValue 62).run Tryz.prog w = .ok (.agg (cellsT T0)) w) ∧
    (∀ r : Tm, (cellsT r).size = N3) ∧
    (∀ (r : Tm) (w : World) (b : Nat), isRow w b = true → (rowAt w b).size = N3 → (storeCells ⟨b, 0, none⟩ (cellsT r).toList 0).run Tryz.prog w = .ok () (w.setRow b (cellsT r))) ∧
    (∀ (w : World) (b : Nat), isRow w b = true → (rowAt w b).size = N3 → (loadCellsFrom ⟨b, 0, none⟩ 0 N3 #[]).run Tryz.prog w = .ok (rowAt w b) w) ∧
    (∀ (w : World) (c : Array Value) (t : TypeId) (n : Nat), rowAt (w.alloc (.cells c t)) n = if n = w.heap.size then c else rowAt w n) ∧
    (∀ (w : World) (c : Array Value) (t : TypeId) (n : Nat), isRow (w.alloc (.cells c t)) n = if n = w.heap.size then true else isRow w n) ∧
    (∀ (w : World) (c c' : Array Value) (t : TypeId) (n : Nat), (w.alloc (.cells c t)).setRow n c' = if n = w.heap.size then w.alloc (.cells c' t) else (w.setRow n c').alloc (.cells c t)) ∧
    (∀ (r : Tm) (w : World) (b : Nat), isRow w b = true → (loadCellsFrom ⟨b, 0, none⟩ 0 N3 #[]).run Tryz.prog (w.setRow b (cellsT r)) = .ok (cellsT r) (w.setRow b (cellsT r))) :=
  ⟨sizeT, zeroT, size_cellsT, storeT, loadT, rowAt_alloc, isRow_alloc, setRow_alloc, loadSetT⟩

theorem tmParts : (∀ r : Tm, (cellsT r)[0]? = some (.int .u32 r.e)) ∧ (∀ r : Tm, (cellsT r)[1]? = some (.int .u32 r.l)) ∧ (∀ r : Tm, (cellsT r)[2]? = some (.bool r.r)) :=
  ⟨fun _ => rfl, fun _ => rfl, fun _ => rfl⟩

theorem tmSets : (∀ (r : Tm) (x : Int), (cellsT r).setIfInBounds 0 (.int .u32 x) = cellsT { r with e := x }) ∧ (∀ (r : Tm) (x : Int), (cellsT r).setIfInBounds 1 (.int .u32 x) = cellsT { r with l := x }) ∧
    (∀ (r : Tm) (x : Bool), (cellsT r).setIfInBounds 2 (.bool x) = cellsT { r with r := x }) :=
  ⟨fun _ _ => rfl, fun _ _ => rfl, fun _ _ => rfl⟩

theorem tmDrew : (∀ (w : World) (b : Nat), rowAt w.drew b = rowAt w b) ∧ (∀ (w : World) (b : Nat), isRow w.drew b = isRow w b) ∧ (∀ (w : World) (n : Nat) (c : Array Value), w.drew.setRow n c = (w.setRow n c).drew) :=
  ⟨rowAt_drew, isRow_drew, fun _ _ _ => rfl⟩

theorem grow (w : World) (o : Obj) : Below w.heap.size w (w.alloc o) := (Below.refl _ w).alloc (Nat.le_refl _) o

theorem onto {n : Nat} {w x y : World} (h : Below n w x) (hn : n ≤ w.heap.size) (k : Below x.heap.size x y) : Below n w y := h.trans (k.mono (Nat.le_trans hn h.size))

def Rat (w : World) (b : Nat) (r : Tm) : Prop := isRow w b = true ∧ rowAt w b = cellsT r ∧ b < w.heap.size

theorem Rat.on {w y : World} {b : Nat} {r : Tm} (h : Rat w b r) (hb : Below w.heap.size w y) : Rat y b r :=
  ⟨by rw [(brow hb).2 _ h.2.2]; exact h.1, by rw [(brow hb).1 _ h.2.2]; exact h.2.1, Nat.lt_of_lt_of_le h.2.2 hb.size⟩

theorem Rat.new (w : World) (r : Tm) (t : TypeId) : Rat (w.alloc (.cells (cellsT r) t)) w.heap.size r := ⟨isRow_new _ _ _, rowAt_new _ _ _, by simp⟩

theorem Rat.load {w : World} {b : Nat} {r : Tm} (h : Rat w b r) : (loadCellsFrom ⟨b, 0, none⟩ 0 N3 #[]).run Tryz.prog w = .ok (cellsT r) w := by
  have := loadT w b h.1 (by rw [h.2.1, size_cellsT])
  rwa [h.2.1] at this

theorem Rat.cell {w : World} {b : Nat} {r : Tm} (h : Rat w b r) (j : Nat) : w.cell? ⟨b, j, none⟩ = (cellsT r)[j]? := by
  rw [cell_rowAt w b j h.1, h.2.1]

theorem Rat.set {w : World} {b : Nat} {r : Tm} (h : Rat w b r) (q : Tm) : Rat (w.setRow b (cellsT q)) b q :=
  ⟨by rw [isRow_setRow]; exact h.1, rowAt_setRow w b _ h.1, by rw [setRow_size]; exact h.2.2⟩

def one (b : Bool) : Int := if b then 1 else 0

def readV (t : Tm) (g : Int) : Int := if g = 0 then t.e else if g = 4 then t.l else if g = 8 then one t.r else 0
def formV (g : Int) : Int := if g = 0 then 0 else if g = 4 then 0 else if g = 8 then 0 else 90

def writeV (t : Tm) (g v : Int) : Tm := if g = 0 then ⟨v, v, t.r⟩ else if g = 4 then ⟨t.e, v, t.r⟩ else if g = 8 then ⟨t.e, t.l, false⟩ else T0

theorem write_w {t : Tm} (ht : Wt t) (g : Int) {v : Int} (hv : W32 v) : Wt (writeV t g v) := by
  unfold writeV
  repeat' split
  · exact ⟨hv, hv⟩
  · exact ⟨ht.e, hv⟩
  · exact ⟨ht.e, ht.l⟩
  · exact T0_w

def tickV (t : Tm) : Tm := if t.e = 0 then t else if 1 < t.l then ⟨t.e, t.l - 1, t.r⟩ else ⟨t.e, t.e, true⟩

def firstV (t : Tm) : Int := if 1 ≤ t.l then t.l else 1

def goV (t : Tm) (n : Int) : Tm := if n < firstV t then ⟨t.e, t.l - n, t.r⟩ else ⟨t.e, t.e - (n - firstV t) % t.e, true⟩

def stepsV (t : Tm) (n : Int) : Tm := if t.e = 0 ∨ n ≤ 0 then t else goV t n

def cutV (n : Int) : Int := if n ≤ 1099511627776 then n else 1099511627776

def ticksV (t : Tm) (n : Int) : Tm := stepsV t (cutV n)

theorem first_pos (t : Tm) : 1 ≤ firstV t := by unfold firstV; split <;> omega

theorem tick_is {t : Tm} (ht : Wt t) : stepsV t 1 = tickV t := by
  obtain ⟨e, l, r⟩ := t
  obtain ⟨⟨e0, e1⟩, ⟨l0, l1⟩⟩ := ht
  simp only at e0 e1 l0 l1
  unfold stepsV tickV goV firstV
  simp only
  by_cases he : e = 0
  · simp [he]
  · rw [if_neg (by omega), if_neg he]
    by_cases hl : 1 < l
    · rw [if_pos (show 1 ≤ l by omega), if_pos hl, if_pos hl]
    · rw [if_neg hl]
      by_cases h1 : 1 ≤ l
      · rw [if_pos h1, if_neg hl, show l = 1 by omega]
        simp
      · rw [if_neg h1, if_neg (by omega)]
        simp

theorem ticks_one {t : Tm} (ht : Wt t) : ticksV t 1 = tickV t := tick_is ht

end Go.Proofs.YthjcijlabpinkaaGreatDoor.Tm

/- Layer 9: contracts of the registers and of the steps, the program's and the document's. -/
namespace Go.Proofs.YthjcijlabpinkaaGreatDoor.Tm
open Go.RowKit
set_option linter.unusedVariables false
set_option maxRecDepth 100000

theorem ring_any (t : Tm) (w : World) :
    Calls Tryz.prog 167 #[.agg (cellsT t)] w fun e w' => e = .returned (.int .u8 (one t.r)) ∧ w' = w.alloc (.cells (cellsT t) 62) := by
  obtain ⟨t1, t2, t3, t4, t5, t6, t7, t8, t9⟩ := tmRules
  obtain ⟨p0, p1, p2⟩ := tmParts
  obtain ⟨e, l, r⟩ := t
  cases r
  all_goals
    go_enter Tryz.func167, Tryz.ntmps167
    go_wp2
    go_ret
    exact ⟨rfl, rfl⟩

theorem rbit_any (b : Bool) (w : World) : Calls Tryz.prog 103 #[.bool b] w fun e w' => e = .returned (.int .u32 (one b)) ∧ w' = w := by
  cases b
  all_goals
    go_enter Tryz.func103, Tryz.ntmps103
    go_wp2
    go_ret
    exact ⟨rfl, rfl⟩

def Nor (g : Int) : Prop := ¬ g = 0 ∧ ¬ g = 4 ∧ ¬ g = 8

theorem reg_is (g : Int) : g = 0 ∨ g = 4 ∨ g = 8 ∨ Nor g := by
  unfold Nor
  omega

theorem Nor.tests {g : Int} (h : Nor g) : (g == 0) = false ∧ (g == 4) = false ∧ (g == 8) = false := by
  unfold Nor at h
  simp [h]

theorem Nor.read {g : Int} (h : Nor g) (t : Tm) : readV t g = 0 := by simp [readV, h.1, h.2.1, h.2.2]
theorem Nor.form {g : Int} (h : Nor g) : formV g = 90 := by simp [formV, h.1, h.2.1, h.2.2]
theorem Nor.write {g : Int} (h : Nor g) (t : Tm) (v : Int) : writeV t g v = T0 := by simp [writeV, h.1, h.2.1, h.2.2]

theorem one_w (b : Bool) : 0 ≤ one b ∧ one b < 2 := by cases b <;> decide

theorem read_any (t : Tm) (g : Int) (w : World) :
    Calls Tryz.prog 256 #[.agg (cellsT t), .int .u32 g] w fun e w' => e = .returned (.tuple #[.int .u32 (readV t g), .int .i64 (formV g)]) ∧ Below w.heap.size w w' := by
  obtain ⟨t1, t2, t3, t4, t5, t6, t7, t8, t9⟩ := tmRules
  obtain ⟨p0, p1, p2⟩ := tmParts
  rcases reg_is g with rfl | rfl | rfl | h
  · go_enter Tryz.func256, Tryz.ntmps256
    go_wp2
    go_ret2
    exact ⟨rfl, grow _ _⟩
  · go_enter Tryz.func256, Tryz.ntmps256
    go_wp2
    go_ret2
    exact ⟨rfl, grow _ _⟩
  · obtain ⟨o0, o1⟩ := one_w t.r
    have c := hide fun W => ring_any t W
    obtain ⟨x, hx⟩ : ∃ x, one t.r = x := ⟨_, rfl⟩
    have hv : readV t 8 = x := hx
    rw [hv]
    rw [hx] at c o0 o1
    clear hx hv
    go_enter Tryz.func256, Tryz.ntmps256
    go_wp2_with fail
    refine (c.out _).mono ?_
    rintro e w' ⟨rfl, rfl⟩
    go_wp2
    go_ret2
    exact ⟨rfl, (grow _ _).alloc (by simp) _⟩
  · rw [h.read, h.form]
    obtain ⟨h0, h1, h2⟩ := h.tests
    clear h
    go_enter Tryz.func256, Tryz.ntmps256
    go_wp2
    go_ret2
    exact ⟨rfl, grow _ _⟩

theorem write_any (t : Tm) (g v : Int) (w : World) :
    Calls Tryz.prog 229 #[.agg (cellsT t), .int .u32 g, .int .u32 v] w fun e w' => e = .returned (.tuple #[.agg (cellsT (writeV t g v)), .int .i64 (formV g)]) ∧ Below w.heap.size w w' := by
  obtain ⟨t1, t2, t3, t4, t5, t6, t7, t8, t9⟩ := tmRules
  obtain ⟨p0, p1, p2⟩ := tmParts
  obtain ⟨s0, s1, s2⟩ := tmSets
  have fin : ∀ c d : Array Value, Below w.heap.size w ((w.alloc (.cells c 62)).alloc (.cells d 62)) := fun c d => (grow _ _).alloc (by simp) _
  replace fin := hide fin
  rcases reg_is g with rfl | rfl | rfl | h
  · go_enter Tryz.func229, Tryz.ntmps229
    go_wp2
    exact bodyPost_ret (v := .tuple #[.agg (cellsT (writeV t 0 v)), .int .i64 0]) (by simp [results, Tryz.results229, go_sem, t1, t3, t5, t6, t7, writeV]) rfl ⟨rfl, fin.out _ _⟩
  · go_enter Tryz.func229, Tryz.ntmps229
    go_wp2
    exact bodyPost_ret (v := .tuple #[.agg (cellsT (writeV t 4 v)), .int .i64 0]) (by simp [results, Tryz.results229, go_sem, t1, t3, t5, t6, t7, writeV]) rfl ⟨rfl, fin.out _ _⟩
  · go_enter Tryz.func229, Tryz.ntmps229
    go_wp2
    exact bodyPost_ret (v := .tuple #[.agg (cellsT (writeV t 8 v)), .int .i64 0]) (by simp [results, Tryz.results229, go_sem, t1, t3, t5, t6, t7, writeV]) rfl ⟨rfl, fin.out _ _⟩
  · rw [h.write, h.form]
    obtain ⟨h0, h1, h2⟩ := h.tests
    clear h
    go_enter Tryz.func229, Tryz.ntmps229
    go_wp2
    exact bodyPost_ret (v := .tuple #[.agg (cellsT T0), .int .i64 90]) (by simp [results, Tryz.results229, go_sem, t1, t3, t5, t6, t7]) rfl ⟨rfl, fin.out _ _⟩

end Go.Proofs.YthjcijlabpinkaaGreatDoor.Tm

/- Layer 9: contracts of the document's Write and Tick, and of the program's Ticks and Tick. -/
namespace Go.Proofs.YthjcijlabpinkaaGreatDoor.Tm
open Go.RowKit
set_option linter.unusedVariables false
set_option maxRecDepth 100000

theorem rwrite_any (t : Tm) (g v : Int) (w : World) :
    Calls Tryz.prog 93 #[.agg (cellsT t), .int .u32 g, .int .u32 v] w fun e w' => e = .returned (.tuple #[.agg (cellsT (writeV t g v)), .int .i64 (formV g)]) ∧ Below w.heap.size w w' := by
  obtain ⟨t1, t2, t3, t4, t5, t6, t7, t8, t9⟩ := tmRules
  obtain ⟨p0, p1, p2⟩ := tmParts
  obtain ⟨s0, s1, s2⟩ := tmSets
  have fin : ∀ c d : Array Value, Below w.heap.size w ((w.alloc (.cells c 62)).alloc (.cells d 62)) := fun c d => (grow _ _).alloc (by simp) _
  replace fin := hide fin
  rcases reg_is g with rfl | rfl | rfl | h
  · go_enter Tryz.func93, Tryz.ntmps93
    go_wp2
    exact bodyPost_ret (v := .tuple #[.agg (cellsT (writeV t 0 v)), .int .i64 0]) (by simp [results, Tryz.results93, go_sem, t1, t3, t5, t6, t7, writeV]) rfl ⟨rfl, fin.out _ _⟩
  · go_enter Tryz.func93, Tryz.ntmps93
    go_wp2
    exact bodyPost_ret (v := .tuple #[.agg (cellsT (writeV t 4 v)), .int .i64 0]) (by simp [results, Tryz.results93, go_sem, t1, t3, t5, t6, t7, writeV]) rfl ⟨rfl, fin.out _ _⟩
  · go_enter Tryz.func93, Tryz.ntmps93
    go_wp2
    exact bodyPost_ret (v := .tuple #[.agg (cellsT (writeV t 8 v)), .int .i64 0]) (by simp [results, Tryz.results93, go_sem, t1, t3, t5, t6, t7, writeV, T0]) rfl ⟨rfl, fin.out _ _⟩
  · rw [h.write, h.form]
    obtain ⟨h0, h1, h2⟩ := h.tests
    clear h
    go_enter Tryz.func93, Tryz.ntmps93
    go_wp2
    exact bodyPost_ret (v := .tuple #[.agg (cellsT T0), .int .i64 90]) (by simp [results, Tryz.results93, go_sem, t1, t3, t5, t6, t7]) rfl ⟨rfl, fin.out _ _⟩

theorem run_min (n : Int) (w : World) : (Builtin.min_ #[3, 3] 3 #[.int .i64 n, .int .i64 1099511627776]).run Tryz.prog w = .ok (.int .i64 (cutV n)) w := by
  rw [run_min_int2]
  unfold cutV
  congr 2
  split <;> split <;> omega

theorem run_max (n : Int) (w : World) : (Builtin.max_ #[3, 3] 3 #[.int .i64 n, .int .i64 1]).run Tryz.prog w = .ok (.int .i64 (if 1 ≤ n then n else 1)) w := by
  rw [run_max_int2]
  congr 2
  split <;> split <;> omega

theorem cut_le (n : Int) : cutV n ≤ 1099511627776 := by unfold cutV; split <;> omega

theorem ticks_any {t : Tm} (ht : Wt t) (n : Int) (w : World) :
    Calls Tryz.prog 192 #[.agg (cellsT t), .int .i64 n] w fun e w' => e = .returned (.agg (cellsT (ticksV t n))) ∧ Below w.heap.size w w' := by
  obtain ⟨t1, t2, t3, t4, t5, t6, t7, t8, t9⟩ := tmRules
  obtain ⟨p0, p1, p2⟩ := tmParts
  obtain ⟨s0, s1, s2⟩ := tmSets
  have fin : ∀ c d : Array Value, Below w.heap.size w ((w.alloc (.cells c 62)).alloc (.cells d 62)) := fun c d => (grow _ _).alloc (by simp) _
  replace fin := hide fin
  obtain ⟨⟨e0, e1⟩, ⟨l0, l1⟩⟩ := ht
  have hm := fun w => run_min n w
  have hx := fun w => run_max t.l w
  have hc := cut_le n
  unfold ticksV
  generalize cutV n = c at *
  obtain ⟨f, hf⟩ : ∃ f, firstV t = f := ⟨_, rfl⟩
  have hx' : ∀ w, (Builtin.max_ #[3, 3] 3 #[.int .i64 t.l, .int .i64 1]).run Tryz.prog w = .ok (.int .i64 f) w := by
    intro w
    rw [hx w, ← hf]
    rfl
  clear hx
  by_cases he : t.e = 0
  · have hd : (t.e == 0) = true := by simpa using he
    have hv : stepsV t c = t := by unfold stepsV; rw [if_pos (Or.inl he)]
    rw [hv]
    replace he := hide he
    clear hf
    go_enter Tryz.func192, Tryz.ntmps192
    go_wp2
    exact bodyPost_ret (v := .agg (cellsT t)) (by simp [results, Tryz.results192, go_sem, t1, t3, t5, t6, t7]) rfl ⟨rfl, fin.out _ _⟩
  · have hd : (t.e == 0) = false := by simpa using he
    by_cases h0 : c ≤ 0
    · have hv : stepsV t c = t := by unfold stepsV; rw [if_pos (Or.inr h0)]
      rw [hv]
      have hd2 : decide (c ≤ 0) = true := by simpa using h0
      replace he := hide he
      clear hf
      go_enter Tryz.func192, Tryz.ntmps192
      go_wp2
      exact bodyPost_ret (v := .agg (cellsT t)) (by simp [results, Tryz.results192, go_sem, t1, t3, t5, t6, t7]) rfl ⟨rfl, fin.out _ _⟩
    · have hd2 : decide (c ≤ 0) = false := by simpa using h0
      have hv : stepsV t c = goV t c := by unfold stepsV; rw [if_neg (by omega)]
      rw [hv]
      unfold goV
      rw [hf]
      have f1 : f = t.l ∨ f = 1 := by rw [← hf]; unfold firstV; split <;> simp
      have f2 := first_pos t
      rw [hf] at f2
      by_cases h1 : c < f
      · have hl : f = t.l := by omega
        subst hl
        rw [if_pos h1]
        clear hf f1 f2 he
        go_enter Tryz.func192, Tryz.ntmps192
        go_wp2
        exact bodyPost_ret (v := .agg (cellsT { t with l := t.l - c })) (by simp [results, Tryz.results192, go_sem, t1, t3, t5, t6, t7]) rfl ⟨rfl, fin.out _ _⟩
      · rw [if_neg h1]
        have r0 := Int.emod_nonneg (c - f) he
        have r1 := Int.emod_lt_of_pos (c - f) (show 0 < t.e by omega)
        have hr : (c - f).tmod t.e = (c - f) % t.e := Int.tmod_eq_emod_of_nonneg (by omega)
        generalize (c - f) % t.e = R at *
        clear hf hv
        obtain ⟨d1, d2, d3⟩ := tmDrew
        go_enter Tryz.func192, Tryz.ntmps192
        go_wp2
        go_region
        go_wp2
        exact bodyPost_ret (v := .agg (cellsT { t with l := t.e - R, r := true })) (by simp [results, Tryz.results192, go_sem, t1, t3, t5, t6, t7, d1, d2]) rfl ⟨rfl, (fin.out _ _).drew⟩

theorem tick_any {t : Tm} (ht : Wt t) (w : World) :
    Calls Tryz.prog 128 #[.agg (cellsT t)] w fun e w' => e = .returned (.agg (cellsT (tickV t))) ∧ Below w.heap.size w w' := by
  obtain ⟨t1, t2, t3, t4, t5, t6, t7, t8, t9⟩ := tmRules
  have c := hide fun W => ticks_any ht 1 W
  rw [ticks_one ht] at c
  go_enter Tryz.func128, Tryz.ntmps128
  go_wp2_with fail
  have R := Rat.new (w.alloc (.cells (cellsT t) 62)) T0 62
  have B := (grow w (.cells (cellsT t) 62)).alloc (by simp) (.cells (cellsT T0) 62)
  rw [show (w.alloc (.cells (cellsT t) 62)).heap.size = w.heap.size + 1 by simp] at R
  refine (c.out _).mono ?_
  rintro e w1 ⟨rfl, e1⟩
  replace R := R.on e1
  replace B := onto B (Nat.le_refl _) e1
  have x1 := R.1
  have x2 := R.2.1
  replace R := hide R
  replace B := hide B
  clear e1 c ht
  go_wp2
  exact bodyPost_ret (v := .agg (cellsT (tickV t))) (by simp [results, Tryz.results128, go_sem, t1, t9, x1]) rfl ⟨rfl, below_setRow B.out (by omega) _⟩

end Go.Proofs.YthjcijlabpinkaaGreatDoor.Tm

/- Layer 9: contracts of a timer's bytes, the program's. -/
namespace Go.Proofs.YthjcijlabpinkaaGreatDoor.Tm
open Go.RowKit
set_option linter.unusedVariables false
set_option maxRecDepth 100000

structure Buf (x : World) (b g n : Nat) (c : Array Value) : Prop where
  box : x.cell? ⟨b, 0, none⟩ = some (.slice (some ⟨g, 0, none⟩) n 9)
  free : x.frozen? ⟨b, 0, none⟩ = false
  row : x.heap[g]? = some (.cells c 5 (0, 0))
  ne : g < b
  lt : b < x.heap.size

def quad (v : Int) : List Value := [.int .u8 (v / 16777216), .int .u8 (v / 65536 % 256), .int .u8 (v / 256 % 256), .int .u8 (v % 256)]

def spliced (c : Array Value) (n : Nat) (l : List Value) : Array Value := (c.toList.take n ++ l ++ c.toList.drop (n + l.length)).toArray

theorem append_room {x : World} {g n : Nat} {c : Array Value} (hr : x.heap[g]? = some (.cells c 5 (0, 0))) (l : List Value) (h1 : ∀ u ∈ l, u.oneCell' = true) (hg : g < x.heap.size) (hn : n + l.length ≤ 9) (hc : c.size = 9) :
    (Builtin.append_ #[56, 56] 56 #[.slice (some ⟨g, 0, none⟩) n 9, .slice (some ⟨x.heap.size, 0, none⟩) l.length l.length]).run Tryz.prog (x.alloc (.cells l.toArray 5)) =
      .ok (.slice (some ⟨g, 0, none⟩) (n + l.length) 9) ((x.alloc (.cells l.toArray 5)).setRow g (spliced c n l)) := by
  obtain ⟨i, hi, -, hsz, -⟩ := info_parts (show (Tryz.prog.info? 5).map (fun i => (i.zero, i.size, i.bytes)) = some (some (.int .u8 0), 1, 1) by kernel_rfl)
  have h := run_append_room (P := Tryz.prog) (x.alloc (.cells l.toArray 5)) 56 56 5 i Tryz.underlying56 hi g n 9 c (by rw [heap_alloc_old x _ hg]; exact hr) ⟨x.heap.size, 0, none⟩ l.length l.length l (by rw [hsz]; omega) (fun j u hu => by
    rw [Addr.add_lit, World.cell?_alloc_new]
    simpa using hu) h1 hn (by rw [hsz]; omega)
  rw [hsz] at h
  simpa [spliced] using h

theorem wpList_append_told {P : Program} {w w' : World} {ops : Array Oper} {rest : List Oper} {o : Oper} {a : Act} {Q : Exit → Act → World → Prop}
    (hg : o.guard = none) (s x : Operand) (t : TypeId) (hop : o.op = Op.call { callee := Callee.builtin Builtin.append, args := #[s, x], argTypes := #[t, t] })
    (u y v : Value) (hs : a.eval s = u) (hx : a.eval x = y) (hrun : (Builtin.append_ #[t, t] o.type #[u, y]).run P w = .ok v w')
    (hK : wpList P ops Q rest (a.put o.dst v) w') : wpList P ops Q (o :: rest) a w := by
  refine wpList_plain hg fun K hK' => ?_
  unfold Oper.wp
  simp [execOp, hop, resolve, invoke, builtin, hs, hx, hrun, Result.andThen]
  exact hK' _ _ hK

theorem Buf.put {x : World} {b g n : Nat} {c : Array Value} (h : Buf x b g n c) (l : List Value) (n' : Nat) :
    Buf (((x.alloc (.cells l.toArray 5)).setRow g (spliced c n l)).setCell ⟨b, 0, none⟩ (.slice (some ⟨g, 0, none⟩) n' 9)) b g n' (spliced c n l) := by
  have hg : g < x.heap.size := Nat.lt_trans h.ne h.lt
  have h4 : ((x.alloc (.cells l.toArray 5)).setRow g (spliced c n l)).cell? ⟨b, 0, none⟩ = some (.slice (some ⟨g, 0, none⟩) n 9) := by
    rw [cell_setRow_gt _ _ _ _ _ h.ne, World.cell?_alloc_past _ _ _ h.lt, h.box]
  have h5 : ((x.alloc (.cells l.toArray 5)).setRow g (spliced c n l)).frozen? ⟨b, 0, none⟩ = false := by
    rw [frozen_setRow, World.frozen?_alloc_past _ _ _ h.lt, h.free]
  refine ⟨World.cell?_setCell_same _ _ _ h4, by rw [World.frozen?_setCell, h5], ?_, h.ne, ?_⟩
  · rw [Below.heap_setCell _ _ _ g (by show g ≠ b; have := h.ne; omega)]
    exact setRow_heap _ g c (spliced c n l) 5 (0, 0) (by rw [heap_alloc_old x _ hg, h.row])
  · rw [World.size_setCell, setRow_size]
    have := h.lt
    simp
    omega

theorem Buf.other {x : World} {b g n : Nat} {c : Array Value} (h : Buf x b g n c) (l : List Value) (n' : Nat) (k : Nat) (hk : k < x.heap.size) (hb : k ≠ b) (hg : k ≠ g) :
    (((x.alloc (.cells l.toArray 5)).setRow g (spliced c n l)).setCell ⟨b, 0, none⟩ (.slice (some ⟨g, 0, none⟩) n' 9)).heap[k]? = x.heap[k]? := by
  rw [Below.heap_setCell _ _ _ k (by show k ≠ b; exact hb), setRow_other _ g k _ hg, heap_alloc_old x _ hk]

theorem Buf.below {x : World} {b g n : Nat} {c : Array Value} (h : Buf x b g n c) (l : List Value) (n' : Nat) {N : Nat} {W : World} (hB : Below N W x) (hN : N ≤ g) :
    Below N W (((x.alloc (.cells l.toArray 5)).setRow g (spliced c n l)).setCell ⟨b, 0, none⟩ (.slice (some ⟨g, 0, none⟩) n' 9)) := by
  have := h.ne
  have := h.lt
  exact (below_setRow (hB.alloc (by omega) _) hN _).setCell (by show N ≤ b; omega) _

theorem put_any {v : Int} (hv : W32 v) {x : World} {b g n : Nat} {c : Array Value} (h : Buf x b g n c) (hn : n + 4 ≤ 9) (hc : c.size = 9) :
    Calls Tryz.prog 166 #[.int .u32 v, .pointer (some ⟨b, 0, none⟩)] x fun e w' => e = .returned (.tuple #[]) ∧ Buf w' b g (n + 4) (spliced c n (quad v)) ∧
      (∀ k, k < x.heap.size → k ≠ b → k ≠ g → w'.heap[k]? = x.heap[k]?) ∧ (∀ N W, Below N W x → N ≤ g → Below N W w') := by
  obtain ⟨v0, v1⟩ := hv
  have h1 := h.box
  have h2 := h.free
  have h3 := append_room h.row (quad v) (by intro u hu; simp [quad] at hu; rcases hu with rfl | rfl | rfl | rfl <;> rfl) (Nat.lt_trans h.ne h.lt) (by simpa [quad] using hn) hc
  have h4 : ((x.alloc (.cells (quad v).toArray 5)).setRow g (spliced c n (quad v))).cell? ⟨b, 0, none⟩ = some (.slice (some ⟨g, 0, none⟩) n 9) := by
    rw [cell_setRow_gt _ _ _ _ _ h.ne, World.cell?_alloc_past _ _ _ h.lt, h.box]
  have h5 : ((x.alloc (.cells (quad v).toArray 5)).setRow g (spliced c n (quad v))).frozen? ⟨b, 0, none⟩ = false := by
    rw [frozen_setRow, World.frozen?_alloc_past _ _ _ h.lt, h.free]
  have fin := hide (And.intro (h.put (quad v) (n + 4)) (And.intro (fun k => h.other (quad v) (n + 4) k) (fun N W => h.below (quad v) (n + 4) (N := N) (W := W))))
  unfold quad at h3 h4 h5
  simp only [List.length_cons, List.length_nil, Nat.zero_add, Nat.reduceAdd] at h3
  clear h
  go_enter Tryz.func166, Tryz.ntmps166
  go_wp2_with (at_builtin; refine wpList_append_told rfl _ _ 56 rfl _ _ _ rfl rfl h3 ?_)
  go_end0
  exact ⟨rfl, fin.out.1, fin.out.2.1, fin.out.2.2⟩

def nine : Array Value := #[.int .u8 0, .int .u8 0, .int .u8 0, .int .u8 0, .int .u8 0, .int .u8 0, .int .u8 0, .int .u8 0, .int .u8 0]

theorem Buf.start (w : World) (c : Array Value) (t : TypeId) :
    Buf (((w.alloc (.cells c t)).alloc (.cells nine 5)).alloc (.cells #[.slice (some ⟨w.heap.size + 1, 0, none⟩) 0 9] 56)) (w.heap.size + 1 + 1) (w.heap.size + 1) 0 nine := by
  have e2 : ((w.alloc (.cells c t)).alloc (.cells nine 5)).heap.size = w.heap.size + 1 + 1 := by simp
  have e1 : (w.alloc (.cells c t)).heap.size = w.heap.size + 1 := by simp
  refine ⟨?_, ?_, ?_, by omega, by simp⟩
  · rw [← e2, World.cell?_alloc_new]
    rfl
  · rw [← e2, World.frozen?_alloc_new]
  · rw [heap_alloc_old _ _ (by simp), ← e1, heap_alloc_new]

theorem Rat.of_heap {w y : World} {b : Nat} {r : Tm} (h : Rat w b r) (e : y.heap[b]? = w.heap[b]?) : Rat y b r := by
  refine ⟨by rw [isRow_of e]; exact h.1, by rw [rowAt_of e]; exact h.2.1, ?_⟩
  have hl := h.2.2
  rw [Array.getElem?_eq_getElem hl] at e
  exact (Array.getElem?_eq_some_iff.1 e).1

def textV (t : Tm) : ByteArray := strOfNums [t.e / 16777216, t.e / 65536 % 256, t.e / 256 % 256, t.e % 256, t.l / 16777216, t.l / 65536 % 256, t.l / 256 % 256, t.l % 256, one t.r]

theorem step_append_told {P : Program} {w w' : World} {ops : Array Oper} {o : Oper} {a : Act} {K : Act → World → Prop} {Q : Exit → Act → World → Prop} {E : Prop}
    (hg : o.guard = none) (s x : Operand) (t : TypeId) (hop : o.op = Op.call { callee := Callee.builtin Builtin.append, args := #[s, x], argTypes := #[t, t] })
    (u y v : Value) (hs : a.eval s = u) (hx : a.eval x = y) (hrun : (Builtin.append_ #[t, t] o.type #[u, y]).run P w = .ok v w')
    (hK : K (a.put o.dst v) w') : if Region.wanted o (yielded ops a.tmps) = true then Oper.wp P o a w K Q else E := by
  have hw : Region.wanted o (yielded ops a.tmps) = true := by simp [Region.wanted, hg]
  rw [if_pos hw]
  unfold Oper.wp
  simp [execOp, hop, resolve, invoke, builtin, hs, hx, hrun, Result.andThen]
  exact hK

theorem at_append {P : Program} {w : World} {ops : Array Oper} {o : Oper} {a : Act} {K : Act → World → Prop} {Q : Exit → Act → World → Prop} {E : Prop} (s x : Operand) (t : TypeId)
    (hop : o.op = Op.call { callee := Callee.builtin Builtin.append, args := #[s, x], argTypes := #[t, t] })
    (h : if Region.wanted o (yielded ops a.tmps) = true then Oper.wp P o a w K Q else E) : if Region.wanted o (yielded ops a.tmps) = true then Oper.wp P o a w K Q else E := h

theorem at_func {P : Program} {w : World} {ops : Array Oper} {o : Oper} {a : Act} {K : Act → World → Prop} {Q : Exit → Act → World → Prop} {E : Prop} (f : FuncId) (x : Operand) (t : TypeId)
    (hop : o.op = Op.call { callee := Callee.value (Operand.func f), args := #[x], argTypes := #[t] })
    (h : if Region.wanted o (yielded ops a.tmps) = true then Oper.wp P o a w K Q else E) : if Region.wanted o (yielded ops a.tmps) = true then Oper.wp P o a w K Q else E := h

theorem drew_alloc (x : World) (o : Obj) : x.drew.alloc o = (x.alloc o).drew := rfl

def Fit (w : World) (t : Tm) (l : List Value) (x : World) : Prop :=
  x.cell? ⟨w.heap.size + 1 + 1, 0, none⟩ = some (.slice (some ⟨w.heap.size + 1, 0, none⟩) 8 9) ∧ (loadCellsFrom ⟨w.heap.size, 0, none⟩ 0 N3 #[]).run Tryz.prog x = .ok (cellsT t) x ∧
    Rat x w.heap.size t ∧ w.heap.size + 1 + 1 < x.heap.size ∧ (∃ v, x.heap[w.heap.size + 1]? = some (.cells (l ++ [v]).toArray 5 (0, 0))) ∧ Below w.heap.size w x

theorem Fit.alloc {w x : World} {t : Tm} {l : List Value} (h : Fit w t l x) (o : Obj) : Fit w t l (x.alloc o) := by
  obtain ⟨h1, h2, h3, h4, ⟨v, h5⟩, h6⟩ := h
  refine ⟨by rw [World.cell?_alloc_past _ _ _ h4]; exact h1, (h3.on (grow _ _)).load, h3.on (grow _ _), by simp; omega, ⟨v, by rw [heap_alloc_old x _ (by omega)]; exact h5⟩, h6.alloc (by omega) _⟩

theorem Fit.drew {w x : World} {t : Tm} {l : List Value} (h : Fit w t l x) : Fit w t l x.drew := by
  obtain ⟨h1, h2, h3, h4, h5, h6⟩ := h
  have h3' : Rat x.drew w.heap.size t := h3
  exact ⟨h1, h3'.load, h3', h4, h5, h6.drew⟩

theorem Fit.app {w x : World} {t : Tm} {l : List Value} (h : Fit w t l x) (hl : l.length = 8) (v : Int) :
    (Builtin.append_ #[56, 56] 56 #[.slice (some ⟨w.heap.size + 1, 0, none⟩) 8 9, .slice (some ⟨x.heap.size, 0, none⟩) 1 1]).run Tryz.prog (x.alloc (.cells #[.int .u8 v] 5)) =
      .ok (.slice (some ⟨w.heap.size + 1, 0, none⟩) 9 9) ((x.alloc (.cells #[.int .u8 v] 5)).setRow (w.heap.size + 1) (l ++ [Value.int .u8 v]).toArray) ∧
    Fit w t l ((x.alloc (.cells #[.int .u8 v] 5)).setRow (w.heap.size + 1) (l ++ [Value.int .u8 v]).toArray) ∧
    ((x.alloc (.cells #[.int .u8 v] 5)).setRow (w.heap.size + 1) (l ++ [Value.int .u8 v]).toArray).heap[w.heap.size + 1]? = some (.cells (l ++ [Value.int .u8 v]).toArray 5 (0, 0)) := by
  have hA := h.alloc (.cells #[.int .u8 v] 5)
  obtain ⟨h1, h2, h3, h4, ⟨u, h5⟩, h6⟩ := hA
  obtain ⟨-, -, -, k4, ⟨u', k5⟩, k6⟩ := h
  have hr := append_room k5 (n := 8) [.int .u8 v] (by intro z hz; simp at hz; subst hz; rfl) (by omega) (by simp) (by simp [hl])
  have e : spliced (l ++ [u']).toArray 8 [.int .u8 v] = (l ++ [Value.int .u8 v]).toArray := by
    unfold spliced
    simp [← hl]
  rw [e] at hr
  have hrow := setRow_heap (x.alloc (.cells #[.int .u8 v] 5)) (w.heap.size + 1) _ (l ++ [Value.int .u8 v]).toArray 5 (0, 0) h5
  have hR := h3.of_heap (setRow_other (x.alloc (.cells #[.int .u8 v] 5)) (w.heap.size + 1) w.heap.size (l ++ [Value.int .u8 v]).toArray (by omega))
  refine ⟨hr, ⟨by rw [cell_setRow_gt _ _ _ _ _ (by omega)]; exact h1, hR.load, hR, by rw [setRow_size]; exact h4, ⟨_, hrow⟩, below_setRow h6 (by omega) _⟩, hrow⟩

theorem conv_list {g : Nat} {w : World} {ns : List Int} (hn : ns.length = 9) (h : w.heap[g]? = some (.cells (ns.map (Value.int .u8)).toArray 5 (0, 0))) :
    (convert 56 9 (.slice (some ⟨g, 0, none⟩) 9 9)).run Tryz.prog w = .ok (.string (strOfNums ns)) w := by
  refine run_convert_bytes_arg w 56 5 Tryz.underlying56 Tryz.underlying5 g 0 9 9 ns hn ?_ 9 Tryz.underlying9
  intro i hi
  rw [Nat.zero_add, cell_of_row w g i _ _ _ h]
  simp [List.getD, show i < ns.length by omega]

theorem text_any {t : Tm} (ht : Wt t) (w : World) :
    Calls Tryz.prog 74 #[.agg (cellsT t)] w fun e w' => e = .returned (.string (textV t)) ∧ Below w.heap.size w w' := by
  obtain ⟨s, hs⟩ : ∃ s, textV t = s := ⟨_, rfl⟩
  rw [hs]
  unfold textV at hs
  replace hs := hide hs
  obtain ⟨t1, t2, t3, t4, t5, t6, t7, t8, t9⟩ := tmRules
  obtain ⟨p0, p1, p2⟩ := tmParts
  have hmk : ∀ w : World, (Instr.makeSlice 56 (.int .i64 0) (.int .i64 9)).run Tryz.prog w = .ok (.slice (some ⟨w.heap.size, 0, none⟩) 0 9) (w.alloc (.cells nine 5)) := fun _ => by kernel_rfl
  go_enter Tryz.func74, Tryz.ntmps74
  go_wp2_with fail
  have F := Buf.start w (cellsT t) 62
  have B := ((grow w (.cells (cellsT t) 62)).alloc (by simp) (.cells nine 5)).alloc (by simp; omega) (.cells #[.slice (some ⟨w.heap.size + 1, 0, none⟩) 0 9] 56)
  have R := ((Rat.new w t 62).on (grow _ (.cells nine 5))).on (grow _ (.cells #[.slice (some ⟨w.heap.size + 1, 0, none⟩) 0 9] 56))
  generalize ((w.alloc (.cells (cellsT t) 62)).alloc (.cells nine 5)).alloc (.cells #[.slice (some ⟨w.heap.size + 1, 0, none⟩) 0 9] 56) = x0 at *
  refine (put_any ht.e F (by omega) rfl).mono ?_
  rintro e w1 ⟨rfl, F1, o1, b1⟩
  replace B := b1 _ _ B (by omega)
  replace R := R.of_heap (o1 _ R.2.2 (by omega) (by omega))
  clear F o1 b1 hmk
  have l1 := R.cell 1
  rw [p1] at l1
  go_wp2_with fail
  refine (put_any ht.l F1 (by omega) rfl).mono ?_
  rintro e w2 ⟨rfl, F2, o2, b2⟩
  replace B := b2 _ _ B (by omega)
  replace R := R.of_heap (o2 _ R.2.2 (by omega) (by omega))
  clear F1 o2 b2 l1
  have hS : Fit w t (quad t.e ++ quad t.l) w2 := ⟨F2.box, R.load, R, F2.lt, ⟨_, F2.row⟩, B⟩
  replace hS := hS.drew
  clear F2 R ht B
  have c := hide fun W => ring_any t W
  have hl : (quad t.e ++ quad t.l).length = 8 := rfl
  have hk : ∀ y : World, y.heap[w.heap.size + 1]? = some (.cells (quad t.e ++ quad t.l ++ [Value.int .u8 (one t.r)]).toArray 5 (0, 0)) → (convert 56 9 (.slice (some ⟨w.heap.size + 1, 0, none⟩) 9 9)).run Tryz.prog y = .ok (.string s) y := by
    intro y hy
    rw [← hs.out]
    exact conv_list rfl hy
  generalize quad t.e ++ quad t.l = l at *
  generalize one t.r = a8 at *
  clear hs
  have h1 := Fit.alloc hS (.cells (cellsT t) 62)
  have h2 := h1.alloc (.cells #[.int .u8 a8] 5)
  obtain ⟨hA, h3, h4⟩ := h1.app hl a8
  have hcv := hk _ h4
  clear h4 hk hl
  rw [show (w2.drew.alloc (.cells (cellsT t) 62)).heap.size = w2.heap.size + 1 by simp] at hA
  simp only [drew_alloc] at hA h1 h2 h3 hcv
  have hB := hide h3.2.2.2.2.2
  replace hA := hide hA
  unfold Fit at hS h1 h2 h3
  go_wp2_with fail
  go_region_law
    (first
      | (refine at_func 167 (.tmp 16) 62 (by with_reducible rfl) ?_; go_simp; refine (c.out _).mono ?_; rintro e w' ⟨rfl, rfl⟩; go_wp2_with fail)
      | (refine at_append (.tmp 15) (.tmp 18) 56 (by with_reducible rfl) ?_
         refine step_append_told (by with_reducible rfl) (.tmp 15) (.tmp 18) 56 (by with_reducible rfl) (.slice (some ⟨w.heap.size + 1, 0, none⟩) 8 9) (.slice (some ⟨w2.heap.size + 1, 0, none⟩) 1 1) _ (by rfl) (by rfl) hA.out ?_))
  all_goals
    go_wp2
    go_ret
    exact ⟨rfl, hB.out⟩

end Go.Proofs.YthjcijlabpinkaaGreatDoor.Tm

/- Layer 9: contracts of the timer of bytes, the program's. -/
namespace Go.Proofs.YthjcijlabpinkaaGreatDoor.Tm
open Go.RowKit
set_option linter.unusedVariables false
set_option maxRecDepth 100000

def byteN (s : ByteArray) (k : Nat) : Nat := (s.data.toList.map UInt8.toNat).getD k 0

theorem byteN_in (s : ByteArray) (k : Nat) (h : k < s.size) : byteN s k = s[k].toNat := by
  unfold byteN
  have h' : k < s.data.toList.length := by simpa using h
  rw [List.getD_eq_getElem?_getD, List.getElem?_map, List.getElem?_eq_getElem h']
  rfl

theorem byteN_lt (s : ByteArray) (k : Nat) : byteN s k < 256 := by
  unfold byteN
  rw [List.getD_eq_getElem?_getD, List.getElem?_map]
  cases s.data.toList[k]? with
  | none => decide
  | some b => exact b.toNat_lt

def valN (s : ByteArray) (k : Nat) : Nat → Nat
  | 0 => 0
  | n + 1 => valN s k n * 256 + byteN s (k + n)

theorem valN_lt (s : ByteArray) (k : Nat) : ∀ n, valN s k n < 256 ^ n
  | 0 => by simp [valN]
  | n + 1 => by
    have h1 := valN_lt s k n
    have h2 := byteN_lt s (k + n)
    simp only [valN, Nat.pow_succ]
    omega

theorem or_byte {a b : Nat} (ha : a < 16777216) (hb : b < 256) : bits .or .u32 ((a : Int) * 256) (b : Int) = (a : Int) * 256 + b := by
  rw [u32_or ((a : Int) * 256) (b : Int) (by omega) (by omega) (by omega) (by omega)]
  rw [show ((a : Int) * 256).toNat = a * 256 by omega, Int.toNat_natCast]
  have := Nat.shiftLeft_add_eq_or_of_lt (i := 8) (show b < 2 ^ 8 by omega) a
  rw [Nat.shiftLeft_eq] at this
  simp only [show (2 : Nat) ^ 8 = 256 from rfl] at this
  rw [← this]
  omega

structure Took (x : World) (b a : Nat) (s : ByteArray) (k : Nat) (y : World) : Prop where
  box : y.cell? ⟨b, 0, none⟩ = some (.string s)
  at_ : y.cell? ⟨a, 0, none⟩ = some (.int .i64 k)
  free : y.frozen? ⟨a, 0, none⟩ = false
  ne : b ≠ a
  other : ∀ g, g ≠ a → y.heap[g]? = x.heap[g]?
  size : y.heap.size = x.heap.size
  below : ∀ N W, Below N W x → N ≤ a → Below N W y

theorem Took.next {x y : World} {b a : Nat} {s : ByteArray} {k : Nat} (h : Took x b a s k y) (k' : Nat) : Took x b a s k' (y.setCell ⟨a, 0, none⟩ (.int .i64 k')) := by
  refine ⟨?_, World.cell?_setCell_same _ _ _ h.at_, by rw [World.frozen?_setCell]; exact h.free, h.ne, fun g hg => ?_, by rw [World.size_setCell]; exact h.size, fun N W hB hN => (h.below N W hB hN).setCell hN _⟩
  · rw [World.cell?_setCell_other y _ _ _ (by intro c; injection c with c1; exact h.ne c1.symm)]
    exact h.box
  · rw [Below.heap_setCell _ _ _ g (by show g ≠ a; exact hg)]
    exact h.other g hg

set_option maxRecDepth 100000 in
theorem take_any {x y : World} {b a : Nat} {s : ByteArray} {k : Nat} (h : Took x b a s k y) (n : Nat) (hn : n ≤ 4) (hk : k + n ≤ s.size) (hs : s.size ≤ 1000) :
    Calls Tryz.prog 235 #[.int .i64 n, .pointer (some ⟨b, 0, none⟩), .pointer (some ⟨a, 0, none⟩)] y fun e w' => e = .returned (.int .u32 (valN s k n)) ∧ Took x b a s (k + n) w' := by
  replace h := hide h
  go_enter Tryz.func235, Tryz.ntmps235
  go_wp2
  go_loopw [5, 7] (fun v i wr => ∃ j p : Nat, j ≤ n ∧ Hid (p = k + j) ∧ i = .int .i64 j ∧ Hid (v = .int .u32 (valN s k j)) ∧ Hid (Took x b a s p wr)) (fun _ i _ => n - (intOf i).toNat)
  case atStart => exact ⟨0, k, by omega, hide rfl, rfl, hide rfl, h⟩
  case round =>
    obtain ⟨j, p, hj, hp, rfl, hv, hT⟩ := hrel
    by_cases hlt : j < n
    · have q1 := valN_lt s k j
      have q2 : (256 : Nat) ^ j ≤ 256 ^ 3 := Nat.pow_le_pow_right (by omega) (by omega)
      have hp' : p < s.size := by have := hp.out; omega
      have e1 : valN s k (j + 1) = valN s k j * 256 + s[p].toNat := by
        rw [← byteN_in s p hp', hp.out]; rfl
      have hv' := hv.out
      subst hv'
      generalize valN s k j = V at *
      have hb : s[p].toNat < 256 := s[p].toNat_lt
      have o1 := or_byte (a := V) (b := s[p].toNat) (by omega) hb
      have c1 := hT.out.box
      have c2 := hT.out.at_
      have c3 := hT.out.free
      replace hT := hide (hT.out.next (p + 1))
      replace e1 := hide e1
      have hV : V < 16777216 := by omega
      clear hv q1 q2 h
      go_wp2
      go_roundw
      case rel => exact ⟨j + 1, p + 1, by omega, hide (by rw [hp.out]; omega), by go_num, hide (by rw [e1.out]; exact congrArg _ (by omega)), hT⟩
      case measure => simp [intOf]; omega
    · have hx : j = n := by omega
      subst hx
      have hv' := hv.out
      subst hv'
      have hp' := hp.out
      subst hp'
      clear hv hp h
      go_wp2
      go_ret
      exact ⟨rfl, hT.out⟩

end Go.Proofs.YthjcijlabpinkaaGreatDoor.Tm

/- Layer 9: contract of the program's Parse. -/
namespace Go.Proofs.YthjcijlabpinkaaGreatDoor.Tm
open Go.RowKit
set_option linter.unusedVariables false
set_option maxRecDepth 100000

structure Way (w : World) (s : ByteArray) (k : Nat) (t : Tm) (x : World) : Prop where
  box : x.cell? ⟨w.heap.size, 0, none⟩ = some (.string s)
  at_ : x.cell? ⟨w.heap.size + 1 + 1, 0, none⟩ = some (.int .i64 k)
  free : x.frozen? ⟨w.heap.size + 1 + 1, 0, none⟩ = false
  out : Rat x (w.heap.size + 1) T0
  tm : Rat x (w.heap.size + 1 + 1 + 1) t
  below : Below w.heap.size w x

theorem Way.took {w x : World} {s : ByteArray} {k : Nat} {t : Tm} (h : Way w s k t x) : Took x w.heap.size (w.heap.size + 1 + 1) s k x :=
  ⟨h.box, h.at_, h.free, by omega, fun _ _ => rfl, rfl, fun _ _ hB _ => hB⟩

theorem Way.on {w x y : World} {s : ByteArray} {k k' : Nat} {t : Tm} (h : Way w s k t x) (hT : Took x w.heap.size (w.heap.size + 1 + 1) s k' y) : Way w s k' t y :=
  ⟨hT.box, hT.at_, hT.free, h.out.of_heap (hT.other _ (by omega)), h.tm.of_heap (hT.other _ (by omega)), hT.below _ _ h.below (by omega)⟩

theorem Rat.put {w : World} {b : Nat} {r q : Tm} (h : Rat w b r) (j : Nat) (v : Value) (hq : (cellsT r).setIfInBounds j v = cellsT q) : Rat (w.setCell ⟨b, j, none⟩ v) b q :=
  ⟨by rw [isRow_setCell]; exact h.1, by rw [rowAt_setCell, h.2.1, hq], by rw [World.size_setCell]; exact h.2.2⟩

theorem Way.put {w x : World} {s : ByteArray} {k : Nat} {t q : Tm} (h : Way w s k t x) (j : Nat) (v : Value) (hq : (cellsT t).setIfInBounds j v = cellsT q) : Way w s k q (x.setCell ⟨w.heap.size + 1 + 1 + 1, j, none⟩ v) := by
  have ho : ∀ g, g ≠ w.heap.size + 1 + 1 + 1 → (x.setCell ⟨w.heap.size + 1 + 1 + 1, j, none⟩ v).heap[g]? = x.heap[g]? := fun g hg => Below.heap_setCell _ _ _ g (by show g ≠ w.heap.size + 1 + 1 + 1; exact hg)
  refine ⟨?_, ?_, by rw [World.frozen?_setCell]; exact h.free, h.out.of_heap (ho _ (by omega)), h.tm.put j v hq, h.below.setCell (by show w.heap.size ≤ w.heap.size + 1 + 1 + 1; omega) _⟩
  · rw [World.cell?_setCell_other x _ _ _ (by intro c; injection c with c1; omega)]
    exact h.box
  · rw [World.cell?_setCell_other x _ _ _ (by intro c; injection c with c1; omega)]
    exact h.at_

theorem Way.start (w : World) (s : ByteArray) : Way w s 0 T0 ((((w.alloc (.cells #[.string s] 9)).alloc (.cells (cellsT T0) 62)).alloc (.cells #[.int .i64 0] 3)).alloc (.cells (cellsT T0) 62)) := by
  have e1 : (w.alloc (.cells #[.string s] 9)).heap.size = w.heap.size + 1 := by simp
  have e2 : ((w.alloc (.cells #[.string s] 9)).alloc (.cells (cellsT T0) 62)).heap.size = w.heap.size + 1 + 1 := by simp
  have e3 : (((w.alloc (.cells #[.string s] 9)).alloc (.cells (cellsT T0) 62)).alloc (.cells #[.int .i64 0] 3)).heap.size = w.heap.size + 1 + 1 + 1 := by simp
  have r1 := Rat.new (w.alloc (.cells #[.string s] 9)) T0 62
  have r3 := Rat.new (((w.alloc (.cells #[.string s] 9)).alloc (.cells (cellsT T0) 62)).alloc (.cells #[.int .i64 0] 3)) T0 62
  rw [e1] at r1
  rw [e3] at r3
  refine ⟨?_, ?_, ?_, (r1.on (grow _ _)).on (grow _ _), r3, (((grow w _).alloc (by simp) _).alloc (by simp; omega) _).alloc (by simp; omega) _⟩
  · rw [World.cell?_alloc_past _ _ _ (by rw [e3]; omega), World.cell?_alloc_past _ _ _ (by rw [e2]; omega), World.cell?_alloc_past _ _ _ (by rw [e1]; omega), World.cell?_alloc_new]
    rfl
  · rw [World.cell?_alloc_past _ _ _ (by rw [e3]; omega), ← e2, World.cell?_alloc_new]
    rfl
  · rw [World.frozen?_alloc_past _ _ _ (by rw [e3]; omega), ← e2, World.frozen?_alloc_new]

theorem parse_yes {s : ByteArray} (hs : s.size = 9) (h8 : byteN s 8 ≤ 1) (w : World) :
    Calls Tryz.prog 185 #[.string s] w fun e w' => e = .returned (.tuple #[.agg (cellsT ⟨valN s 0 4, valN s 4 4, (valN s 8 1 : Int) == 1⟩), .int .i64 0]) ∧ Below w.heap.size w w' := by
  obtain ⟨t1, t2, t3, t4, t5, t6, t7, t8, t9⟩ := tmRules
  obtain ⟨p0, p1, p2⟩ := tmParts
  obtain ⟨s0, s1, s2⟩ := tmSets
  have hb : s[8].toNat ≤ 1 := by rw [← byteN_in s 8 (by omega)]; exact h8
  have c1 := hide fun (x y : World) (b a : Nat) (h : Took x b a s 0 y) => take_any h 4 (by omega) (by omega) (by omega)
  have c2 := hide fun (x y : World) (b a : Nat) (h : Took x b a s (0 + 4) y) => take_any h 4 (by omega) (by omega) (by omega)
  have c3 := hide fun (x y : World) (b a : Nat) (h : Took x b a s (0 + 4 + 4) y) => take_any h 1 (by omega) (by omega) (by omega)
  simp only [Nat.zero_add, Nat.reduceAdd] at c1 c2 c3
  generalize (valN s 0 4 : Int) = v1 at *
  generalize (valN s 4 4 : Int) = v2 at *
  generalize (valN s 8 1 : Int) = v3 at *
  clear h8
  go_enter Tryz.func185, Tryz.ntmps185
  go_wp2_with fail
  have h := Way.start w s
  generalize (((w.alloc (.cells #[.string s] 9)).alloc (.cells (cellsT T0) 62)).alloc (.cells #[.int .i64 0] 3)).alloc (.cells (cellsT T0) 62) = x0 at *
  refine (c1.out _ _ _ _ h.took).mono ?_
  rintro e w1 ⟨rfl, hT⟩
  replace h := h.on hT
  have q1 := h.tm.cell 0
  have q2 := frozen_rowAt w1 _ 0 h.tm.1
  rw [p0] at q1
  replace h := h.put 0 (.int .u32 v1) (s0 _ _)
  replace h := hide h
  clear hT hb
  go_wp2_with fail
  clear q1 q2
  generalize w1.setCell ⟨w.heap.size + 1 + 1 + 1, 0, none⟩ (.int .u32 v1) = x1 at *
  refine (c2.out _ _ _ _ h.out.took).mono ?_
  rintro e w2 ⟨rfl, hT⟩
  replace h := h.out.on hT
  have q1 := h.tm.cell 1
  have q2 := frozen_rowAt w2 _ 1 h.tm.1
  rw [p1] at q1
  replace h := h.put 1 (.int .u32 v2) (s1 _ _)
  replace h := hide h
  clear hT
  go_wp2_with fail
  clear q1 q2
  generalize w2.setCell ⟨w.heap.size + 1 + 1 + 1, 1, none⟩ (.int .u32 v2) = x2 at *
  refine (c3.out _ _ _ _ h.out.took).mono ?_
  rintro e w3 ⟨rfl, hT⟩
  replace h := h.out.on hT
  have q1 := h.tm.cell 2
  have q2 := frozen_rowAt w3 _ 2 h.tm.1
  rw [p2] at q1
  replace h := h.put 2 (.bool (v3 == 1)) (s2 _ _)
  have l1 := h.tm.load
  have l2 := h.out.1
  have l3 := h.out.2.1
  replace h := hide h.below
  clear hT
  go_wp2
  exact bodyPost_ret (v := .tuple #[.agg (cellsT ⟨v1, v2, v3 == 1⟩), .int .i64 0]) (by simp [results, Tryz.results185, go_sem, t1, t9, l2]) rfl ⟨rfl, below_setRow h.out (by omega) _⟩

theorem parse_no {s : ByteArray} (hl : s.size ≤ maxLen) (hs : ¬ (s.size = 9 ∧ byteN s 8 ≤ 1)) (w : World) :
    Calls Tryz.prog 185 #[.string s] w fun e w' => e = .returned (.tuple #[.agg (cellsT T0), .int .i64 90]) ∧ Below w.heap.size w w' := by
  obtain ⟨t1, t2, t3, t4, t5, t6, t7, t8, t9⟩ := tmRules
  unfold maxLen at hl
  have fin : ∀ c d : Array Value, Below w.heap.size w ((w.alloc (.cells c 9)).alloc (.cells d 62)) := fun c d => (grow _ _).alloc (by simp) _
  replace fin := hide fin
  by_cases h9 : s.size = 9
  · have hb : 1 < s[8].toNat := by
      rw [← byteN_in s 8 (by omega)]
      omega
    clear hs
    go_enter Tryz.func185, Tryz.ntmps185
    go_wp2
    exact bodyPost_ret (v := .tuple #[.agg (cellsT T0), .int .i64 90]) (by simp [results, Tryz.results185, go_sem, t1, t3, t5, t6, t7]) rfl ⟨rfl, fin.out _ _⟩
  · have hd : ((s.size : Int) != 9) = true := by simp; omega
    clear hs
    go_enter Tryz.func185, Tryz.ntmps185
    go_wp2
    exact bodyPost_ret (v := .tuple #[.agg (cellsT T0), .int .i64 90]) (by simp [results, Tryz.results185, go_sem, t1, t3, t5, t6, t7]) rfl ⟨rfl, fin.out _ _⟩

end Go.Proofs.YthjcijlabpinkaaGreatDoor.Tm

/- Layer 9: a timer's bytes, and the timer of bytes, there and back. -/
namespace Go.Proofs.YthjcijlabpinkaaGreatDoor.Tm
open Go.RowKit
set_option linter.unusedVariables false
set_option maxRecDepth 100000

theorem byteN_nums (ns : List Int) (k : Nat) : byteN (strOfNums ns) k = (ns.map fun n => n.toNat % 256).getD k 0 := by
  unfold byteN
  rw [strOfNums_data, List.map_map]
  congr 1

theorem be4 (E : Nat) (h : E < 4294967296) : ((E / 16777216 % 256 * 256 + E / 65536 % 256) * 256 + E / 256 % 256) * 256 + E % 256 = E := by
  have e1 : E / 65536 = E / 256 / 256 := by rw [Nat.div_div_eq_div_mul]
  have e2 : E / 16777216 = E / 256 / 256 / 256 := by rw [Nat.div_div_eq_div_mul, Nat.div_div_eq_div_mul]
  have h3 : E / 256 / 256 / 256 < 256 := by rw [← e2]; exact Nat.div_lt_of_lt_mul (by omega)
  rw [e1, e2]
  generalize hA : E / 256 = A at *
  generalize hB : A / 256 = B at *
  generalize hC : B / 256 = C at *
  omega

theorem be4_int {e : Int} (h : W32 e) : ((((((e / 16777216).toNat % 256) * 256 + (e / 65536 % 256).toNat % 256) * 256 + (e / 256 % 256).toNat % 256) * 256 + (e % 256).toNat % 256 : Nat) : Int) = e := by
  obtain ⟨E, rfl⟩ := Int.eq_ofNat_of_zero_le h.1
  have h1 : E < 4294967296 := by have := h.2; omega
  have k := be4 E h1
  have q1 : ((E : Int) / 16777216).toNat = E / 16777216 := by omega
  have q2 : ((E : Int) / 65536 % 256).toNat % 256 = E / 65536 % 256 := by omega
  have q3 : ((E : Int) / 256 % 256).toNat % 256 = E / 256 % 256 := by omega
  have q4 : ((E : Int) % 256).toNat % 256 = E % 256 := by omega
  rw [q1, q2, q3, q4, k]

theorem val4 (s : ByteArray) (k : Nat) : valN s k 4 = ((byteN s k * 256 + byteN s (k + 1)) * 256 + byteN s (k + 2)) * 256 + byteN s (k + 3) := by
  simp [valN]

theorem val1 (s : ByteArray) (k : Nat) : valN s k 1 = byteN s k := by
  simp [valN]

theorem text_bytes (t : Tm) : byteN (textV t) 0 = (t.e / 16777216).toNat % 256 ∧ byteN (textV t) 1 = (t.e / 65536 % 256).toNat % 256 ∧ byteN (textV t) 2 = (t.e / 256 % 256).toNat % 256 ∧ byteN (textV t) 3 = (t.e % 256).toNat % 256 ∧
    byteN (textV t) 4 = (t.l / 16777216).toNat % 256 ∧ byteN (textV t) 5 = (t.l / 65536 % 256).toNat % 256 ∧ byteN (textV t) 6 = (t.l / 256 % 256).toNat % 256 ∧ byteN (textV t) 7 = (t.l % 256).toNat % 256 ∧ byteN (textV t) 8 = (one t.r).toNat % 256 := by
  unfold textV
  simp only [byteN_nums]
  exact ⟨rfl, rfl, rfl, rfl, rfl, rfl, rfl, rfl, rfl⟩

theorem text_last (t : Tm) : byteN (textV t) 8 = if t.r then 1 else 0 := by
  rw [(text_bytes t).2.2.2.2.2.2.2.2]
  cases t.r <;> rfl

theorem text_back {t : Tm} (ht : Wt t) : (⟨valN (textV t) 0 4, valN (textV t) 4 4, (valN (textV t) 8 1 : Int) == 1⟩ : Tm) = t := by
  obtain ⟨b0, b1, b2, b3, b4, b5, b6, b7, -⟩ := text_bytes t
  have b8 := text_last t
  rw [val4, val4, val1]
  simp only [Nat.zero_add, Nat.reduceAdd]
  rw [b0, b1, b2, b3, b4, b5, b6, b7, b8, be4_int ht.e, be4_int ht.l]
  obtain ⟨e, l, r⟩ := t
  cases r <;> rfl

def tmOf (s : ByteArray) : Tm := ⟨valN s 0 4, valN s 4 4, (valN s 8 1 : Int) == 1⟩

theorem tmOf_w (s : ByteArray) : Wt (tmOf s) := by
  have h1 := valN_lt s 0 4
  have h2 := valN_lt s 4 4
  simp only [show (256 : Nat) ^ 4 = 4294967296 from rfl] at h1 h2
  exact ⟨⟨by simp [tmOf], by simp only [tmOf]; omega⟩, ⟨by simp [tmOf], by simp only [tmOf]; omega⟩⟩

theorem byte_of (x : UInt8) (n : Int) (h : n = (x.toNat : Int)) : UInt8.ofNat n.toNat = x := by
  subst h
  simp

theorem tmOf_text {s : ByteArray} (hs : s.size = 9) (h8 : byteN s 8 ≤ 1) : textV (tmOf s) = s := by
  obtain ⟨⟨l⟩⟩ := s
  have hl : l.length = 9 := by simpa [ByteArray.size] using hs
  match l, hl with
  | [x0, x1, x2, x3, x4, x5, x6, x7, x8], _ =>
    have q0 := x0.toNat_lt
    have q1 := x1.toNat_lt
    have q2 := x2.toNat_lt
    have q3 := x3.toNat_lt
    have q4 := x4.toNat_lt
    have q5 := x5.toNat_lt
    have q6 := x6.toNat_lt
    have q7 := x7.toNat_lt
    have v1 : valN ⟨⟨[x0, x1, x2, x3, x4, x5, x6, x7, x8]⟩⟩ 0 4 = ((x0.toNat * 256 + x1.toNat) * 256 + x2.toNat) * 256 + x3.toNat := by rw [val4]; rfl
    have v2 : valN ⟨⟨[x0, x1, x2, x3, x4, x5, x6, x7, x8]⟩⟩ 4 4 = ((x4.toNat * 256 + x5.toNat) * 256 + x6.toNat) * 256 + x7.toNat := by rw [val4]; rfl
    have v3 : valN ⟨⟨[x0, x1, x2, x3, x4, x5, x6, x7, x8]⟩⟩ 8 1 = x8.toNat := by rw [val1]; rfl
    have h8' : x8.toNat ≤ 1 := h8
    unfold textV tmOf strOfNums
    simp only [v1, v2, v3]
    congr 2
    simp only [List.map_cons, List.map_nil]
    rw [byte_of x0 _ (by omega), byte_of x1 _ (by omega), byte_of x2 _ (by omega), byte_of x3 _ (by omega), byte_of x4 _ (by omega), byte_of x5 _ (by omega), byte_of x6 _ (by omega), byte_of x7 _ (by omega), byte_of x8 _ ?_]
    rcases (show x8.toNat = 0 ∨ x8.toNat = 1 by omega) with h | h <;> rw [h] <;> rfl

theorem tmOf_none {s : ByteArray} (h8 : ¬ byteN s 8 ≤ 1) : ¬ textV (tmOf s) = s := by
  intro h
  have := text_last (tmOf s)
  rw [h] at this
  split at this <;> omega

end Go.Proofs.YthjcijlabpinkaaGreatDoor.Tm
