/- Layer 9: a timer as a row of three cells: its parts, and when two are the same; many steps as one sum. -/
import Derived.Test.YtmegghgjllbamaaGreatDoorQWholeAt
import Derived.ChangeKeysEq
import Derived.Laws.AppendOwn
import Derived.OwnWalk
import Derived.Laws.BytesArg
import Derived.RegionTactic
import Derived.Deep.RegionLaw
namespace Go.Proofs.YtmegghgjllbamaaGreatDoor.Tm
open Go.RowKit
set_option linter.unusedVariables false
set_option maxRecDepth 100000

/-- A word. -/
def W32 (a : Int) : Prop := 0 ≤ a ∧ a < 4294967296

theorem w_of (a : Int) (h0 : 0 ≤ a) (h1 : a < 4294967296) : W32 a := ⟨h0, h1⟩

/-- A timer: Every, Left, does it ring? -/
structure Tm where
  e : Int
  l : Int
  r : Bool
deriving DecidableEq

/-- Both numbers are words. -/
structure Wt (t : Tm) : Prop where
  e : W32 t.e
  l : W32 t.l

def cellsT (t : Tm) : Array Value := #[.int .u32 t.e, .int .u32 t.l, .bool t.r]

/-- Three, so spelt that no walk opens a row of them. -/
def N3 : Nat := 3

/-- The timer of noughts. -/
def T0 : Tm := ⟨0, 0, false⟩

theorem T0_w : Wt T0 := ⟨⟨by decide, by decide⟩, ⟨by decide, by decide⟩⟩

theorem size_cellsT (t : Tm) : (cellsT t).size = N3 := rfl

theorem eqT (r q : Tm) (w : World) : (Op.equalIn 10000 55 (.agg (cellsT r)) (.agg (cellsT q))).run Tryz.prog w = .ok (decide (r = q)) w := by
  have hu : Tryz.prog.underlying 55 = some (.struct (Tryz.prog.fieldsOf 55)) := by kernel_rfl
  have hp : Tryz.prog.stoodInHeld 55 = false := by kernel_rfl
  rw [run_equalIn_agg w 9999 55 _ _ hu hp]
  obtain ⟨r0, r1, r2⟩ := r
  obtain ⟨q0, q1, q2⟩ := q
  simp only [cellsT, Tm.mk.injEq]
  simp [go_sem]
  repeat' split
  all_goals simp_all

theorem eqlT (r q : Tm) (w : World) : (binOp .eql 55 (.agg (cellsT r)) (.agg (cellsT q))).run Tryz.prog w = .ok (.bool (decide (r = q))) w := by
  rw [run_eql_struct, eqT]; rfl

theorem neqT (r q : Tm) (w : World) : (binOp .neq 55 (.agg (cellsT r)) (.agg (cellsT q))).run Tryz.prog w = .ok (.bool (!decide (r = q))) w := by
  rw [run_neq_struct, eqT]; rfl

theorem eq_self (r : Tm) (w : World) : (binOp .eql 55 (.agg (cellsT r)) (.agg (cellsT r))).run Tryz.prog w = .ok (.bool true) w := by
  rw [eqlT]; simp

theorem neq_self (r : Tm) (w : World) : (binOp .neq 55 (.agg (cellsT r)) (.agg (cellsT r))).run Tryz.prog w = .ok (.bool false) w := by
  rw [neqT]; simp

theorem sizeT (w : World) : (sizeOf 55).run Tryz.prog w = .ok N3 w := Tryz.sizeOf55 w

theorem zeroT (w : World) : (zeroValue 55).run Tryz.prog w = .ok (.agg (cellsT T0)) w := Tryz.zeroValue55 w

theorem loadT (w : World) (b : Nat) (h : isRow w b = true) (hn : (rowAt w b).size = N3) : (loadCellsFrom ⟨b, 0, none⟩ 0 N3 #[]).run Tryz.prog w = .ok (rowAt w b) w :=
  load_rowAt Tryz.prog w b N3 h hn

theorem storeT (r : Tm) (w : World) (b : Nat) (h : isRow w b = true) (hn : (rowAt w b).size = N3) : (storeCells ⟨b, 0, none⟩ (cellsT r).toList 0).run Tryz.prog w = .ok () (w.setRow b (cellsT r)) := by
  refine store_rowAt Tryz.prog w b _ h (by rw [hn, size_cellsT]) fun v hv => ?_
  simp only [cellsT, List.mem_cons] at hv
  rcases hv with rfl | rfl | rfl | hv
  all_goals first | rfl | simp at hv

theorem loadSetT (r : Tm) (w : World) (b : Nat) (h : isRow w b = true) : (loadCellsFrom ⟨b, 0, none⟩ 0 N3 #[]).run Tryz.prog (w.setRow b (cellsT r)) = .ok (cellsT r) (w.setRow b (cellsT r)) := by
  have := loadT (w.setRow b (cellsT r)) b (by rw [isRow_setRow, h]) (by rw [rowAt_setRow w b _ h, size_cellsT])
  rwa [rowAt_setRow w b _ h] at this

/-- What walks over timers are told. -/
theorem tmRules : (∀ w : World, (sizeOf 55).run Tryz.prog w = .ok N3 w) ∧ (∀ w : World, (zeroValue 55).run Tryz.prog w = .ok (.agg (cellsT T0)) w) ∧
    (∀ r : Tm, (cellsT r).size = N3) ∧
    (∀ (r : Tm) (w : World) (b : Nat), isRow w b = true → (rowAt w b).size = N3 → (storeCells ⟨b, 0, none⟩ (cellsT r).toList 0).run Tryz.prog w = .ok () (w.setRow b (cellsT r))) ∧
    (∀ (w : World) (b : Nat), isRow w b = true → (rowAt w b).size = N3 → (loadCellsFrom ⟨b, 0, none⟩ 0 N3 #[]).run Tryz.prog w = .ok (rowAt w b) w) ∧
    (∀ (w : World) (c : Array Value) (t : TypeId) (n : Nat), rowAt (w.alloc (.cells c t)) n = if n = w.heap.size then c else rowAt w n) ∧
    (∀ (w : World) (c : Array Value) (t : TypeId) (n : Nat), isRow (w.alloc (.cells c t)) n = if n = w.heap.size then true else isRow w n) ∧
    (∀ (w : World) (c c' : Array Value) (t : TypeId) (n : Nat), (w.alloc (.cells c t)).setRow n c' = if n = w.heap.size then w.alloc (.cells c' t) else (w.setRow n c').alloc (.cells c t)) ∧
    (∀ (r : Tm) (w : World) (b : Nat), isRow w b = true → (loadCellsFrom ⟨b, 0, none⟩ 0 N3 #[]).run Tryz.prog (w.setRow b (cellsT r)) = .ok (cellsT r) (w.setRow b (cellsT r))) :=
  ⟨sizeT, zeroT, size_cellsT, storeT, loadT, rowAt_alloc, isRow_alloc, setRow_alloc, loadSetT⟩

/-- The parts of a timer, and what a store into one makes of it. -/
theorem tmParts : (∀ r : Tm, (cellsT r)[0]? = some (.int .u32 r.e)) ∧ (∀ r : Tm, (cellsT r)[1]? = some (.int .u32 r.l)) ∧ (∀ r : Tm, (cellsT r)[2]? = some (.bool r.r)) :=
  ⟨fun _ => rfl, fun _ => rfl, fun _ => rfl⟩

theorem tmSets : (∀ (r : Tm) (x : Int), (cellsT r).setIfInBounds 0 (.int .u32 x) = cellsT { r with e := x }) ∧ (∀ (r : Tm) (x : Int), (cellsT r).setIfInBounds 1 (.int .u32 x) = cellsT { r with l := x }) ∧
    (∀ (r : Tm) (x : Bool), (cellsT r).setIfInBounds 2 (.bool x) = cellsT { r with r := x }) :=
  ⟨fun _ _ => rfl, fun _ _ => rfl, fun _ _ => rfl⟩

theorem tmDrew : (∀ (w : World) (b : Nat), rowAt w.drew b = rowAt w b) ∧ (∀ (w : World) (b : Nat), isRow w.drew b = isRow w b) ∧ (∀ (w : World) (n : Nat) (c : Array Value), w.drew.setRow n c = (w.setRow n c).drew) :=
  ⟨rowAt_drew, isRow_drew, fun _ _ _ => rfl⟩

/-- A timer that is built of its parts. -/
theorem tmBuild (a b : Int) (c : Bool) : (.agg #[.int .u32 a, .int .u32 b, .bool c] : Value) = .agg (cellsT ⟨a, b, c⟩) := rfl

theorem grow (w : World) (o : Obj) : Below w.heap.size w (w.alloc o) := (Below.refl _ w).alloc (Nat.le_refl _) o

theorem onto {n : Nat} {w x y : World} (h : Below n w x) (hn : n ≤ w.heap.size) (k : Below x.heap.size x y) : Below n w y := h.trans (k.mono (Nat.le_trans hn h.size))

/-- A timer in block b. -/
def Rat (w : World) (b : Nat) (r : Tm) : Prop := isRow w b = true ∧ rowAt w b = cellsT r ∧ b < w.heap.size

theorem Rat.on {w y : World} {b : Nat} {r : Tm} (h : Rat w b r) (hb : Below w.heap.size w y) : Rat y b r :=
  ⟨by rw [(brow hb).2 _ h.2.2]; exact h.1, by rw [(brow hb).1 _ h.2.2]; exact h.2.1, Nat.lt_of_lt_of_le h.2.2 hb.size⟩

theorem Rat.new (w : World) (r : Tm) (t : TypeId) : Rat (w.alloc (.cells (cellsT r) t)) w.heap.size r := ⟨isRow_new _ _ _, rowAt_new _ _ _, by simp⟩

theorem Rat.load {w : World} {b : Nat} {r : Tm} (h : Rat w b r) : (loadCellsFrom ⟨b, 0, none⟩ 0 N3 #[]).run Tryz.prog w = .ok (cellsT r) w := by
  have := loadT w b h.1 (by rw [h.2.1, size_cellsT])
  rwa [h.2.1] at this

theorem Rat.cell {w : World} {b : Nat} {r : Tm} (h : Rat w b r) (j : Nat) : w.cell? ⟨b, j, none⟩ = (cellsT r)[j]? := by
  rw [cell_rowAt w b j h.1, h.2.1]

theorem Rat.set {w : World} {b : Nat} {r : Tm} (h : Rat w b r) (q : Tm) : Rat (w.setRow b (cellsT q)) b q :=
  ⟨by rw [isRow_setRow]; exact h.1, rowAt_setRow w b _ h.1, by rw [setRow_size]; exact h.2.2⟩

theorem Rat.setFar {w : World} {b : Nat} {r : Tm} (h : Rat w b r) (g : Nat) (c : Array Value) (hg : b < g) : Rat (w.setRow g c) b r :=
  ⟨by rw [isRow_setRow]; exact h.1, by rw [rowAt_setRow_lt w g c b hg]; exact h.2.1, by rw [setRow_size]; exact h.2.2⟩

/-- One, if it is so. -/
def one (b : Bool) : Int := if b then 1 else 0

/-- A register, and whether there is one. -/
def readV (t : Tm) (g : Int) : Int := if g = 0 then t.e else if g = 4 then t.l else if g = 8 then one t.r else 0
def formV (g : Int) : Int := if g = 0 then 0 else if g = 4 then 0 else if g = 8 then 0 else 90

/-- What a write makes of a timer. -/
def writeV (t : Tm) (g v : Int) : Tm := if g = 0 then ⟨v, v, t.r⟩ else if g = 4 then ⟨t.e, v, t.r⟩ else if g = 8 then ⟨t.e, t.l, false⟩ else T0

theorem write_w {t : Tm} (ht : Wt t) (g : Int) {v : Int} (hv : W32 v) : Wt (writeV t g v) := by
  unfold writeV
  repeat' split
  · exact ⟨hv, hv⟩
  · exact ⟨ht.e, hv⟩
  · exact ⟨ht.e, ht.l⟩
  · exact T0_w

/-- A step. -/
def tickV (t : Tm) : Tm := if t.e = 0 then t else if 1 < t.l then ⟨t.e, t.l - 1, t.r⟩ else ⟨t.e, t.e, true⟩

/-- The first ring. -/
def firstV (t : Tm) : Int := if 1 ≤ t.l then t.l else 1

/-- n steps, of n from 1 on, of a timer that is set. -/
def goV (t : Tm) (n : Int) : Tm := if n < firstV t then ⟨t.e, t.l - n, t.r⟩ else ⟨t.e, t.e - (n - firstV t) % t.e, true⟩

/-- n steps at once. -/
def stepsV (t : Tm) (n : Int) : Tm := if t.e = 0 ∨ n ≤ 0 then t else goV t n

/-- So many steps are made of n. -/
def cutV (n : Int) : Int := if n ≤ 1099511627776 then n else 1099511627776

def ticksV (t : Tm) (n : Int) : Tm := stepsV t (cutV n)

theorem first_pos (t : Tm) : 1 ≤ firstV t := by unfold firstV; split <;> omega

theorem go_w {t : Tm} (ht : Wt t) (he : ¬ t.e = 0) {n : Int} (hn : 0 < n) : Wt (goV t n) := by
  obtain ⟨⟨e0, e1⟩, ⟨l0, l1⟩⟩ := ht
  unfold goV
  split
  next h =>
    unfold firstV at h
    refine ⟨⟨e0, e1⟩, ⟨?_, ?_⟩⟩ <;> show _ <;> simp only <;> split at h <;> omega
  next h =>
    have m0 := Int.emod_nonneg (n - firstV t) he
    have m1 := Int.emod_lt_of_pos (n - firstV t) (show 0 < t.e by omega)
    refine ⟨⟨e0, e1⟩, ⟨?_, ?_⟩⟩ <;> simp only <;> omega

theorem steps_w {t : Tm} (ht : Wt t) (n : Int) : Wt (stepsV t n) := by
  unfold stepsV
  split
  · exact ht
  next h => exact go_w ht (fun e => h (Or.inl e)) (by omega)

theorem ticks_w {t : Tm} (ht : Wt t) (n : Int) : Wt (ticksV t n) := steps_w ht _

theorem steps_zero (t : Tm) : stepsV t 0 = t := by unfold stepsV; rw [if_pos (Or.inr (Int.le_refl _))]

theorem steps_e (t : Tm) (n : Int) : (stepsV t n).e = t.e := by
  unfold stepsV goV
  repeat' split
  all_goals rfl

/-- A step, and then n more. -/
theorem go_add {t : Tm} (ht : Wt t) (he : ¬ t.e = 0) {n m : Int} (hn : 0 < n) (hm : 0 < m) : goV (goV t n) m = goV t (n + m) := by
  obtain ⟨e, l, r⟩ := t
  obtain ⟨⟨e0, e1⟩, ⟨l0, l1⟩⟩ := ht
  simp only at e0 e1 l0 l1 he
  have hf := first_pos ⟨e, l, r⟩
  generalize hF : firstV ⟨e, l, r⟩ = f at hf
  by_cases h1 : n < f
  · have hl : f = l := by unfold firstV at hF; simp only at hF; split at hF <;> omega
    subst hl
    have g1 : goV ⟨e, f, r⟩ n = ⟨e, f - n, r⟩ := by unfold goV; rw [hF, if_pos h1]
    have f2 : firstV ⟨e, f - n, r⟩ = f - n := by unfold firstV; rw [if_pos (by simp only; omega)]
    rw [g1]
    unfold goV
    rw [hF, f2]
    by_cases h2 : n + m < f
    · rw [if_pos h2, if_pos (by omega)]
      simp only
      congr 1
      omega
    · rw [if_neg h2, if_neg (by omega)]
      simp only
      congr 3
      omega
  · have g1 : goV ⟨e, l, r⟩ n = ⟨e, e - (n - f) % e, true⟩ := by unfold goV; rw [hF, if_neg h1]
    have m0 := Int.emod_nonneg (n - f) he
    have m1 := Int.emod_lt_of_pos (n - f) (show 0 < e by omega)
    have md := Int.mul_ediv_add_emod (n - f) e
    rw [g1]
    have f2 : firstV ⟨e, e - (n - f) % e, true⟩ = e - (n - f) % e := by unfold firstV; rw [if_pos (by simp only; omega)]
    unfold goV
    rw [hF, f2, if_neg (show ¬ n + m < f by omega)]
    generalize (n - f) % e = a at *
    generalize (n - f) / e = q at *
    have key : (n + m - f) % e = (a + m) % e := by
      rw [show n + m - f = a + m + e * q by omega, Int.add_mul_emod_self_left]
    rw [key]
    by_cases h2 : m < e - a
    · rw [if_pos h2, Int.emod_eq_of_lt (by omega) (by omega)]
      simp only
      congr 1
      omega
    · rw [if_neg h2, show m - (e - a) = a + m - e by omega, Int.sub_emod_right]

theorem steps_add {t : Tm} (ht : Wt t) {n m : Int} (hn : 0 ≤ n) (hm : 0 ≤ m) : stepsV (stepsV t n) m = stepsV t (n + m) := by
  by_cases he : t.e = 0
  · have h1 : ∀ k, stepsV t k = t := fun k => by unfold stepsV; rw [if_pos (Or.inl he)]
    rw [h1, h1, h1]
  · by_cases n0 : n = 0
    · subst n0; rw [steps_zero, Int.zero_add]
    · by_cases m0 : m = 0
      · subst m0; rw [steps_zero, Int.add_zero]
      · have h1 : ∀ (t : Tm) (k : Int), ¬ t.e = 0 → 0 < k → stepsV t k = goV t k := fun t k h hk => by unfold stepsV; rw [if_neg (by omega)]
        rw [h1 (stepsV t n) m (by rw [steps_e]; exact he) (by omega), h1 t n he (by omega), h1 t (n + m) he (by omega), go_add ht he (by omega) (by omega)]

theorem tick_is {t : Tm} (ht : Wt t) : stepsV t 1 = tickV t := by
  obtain ⟨e, l, r⟩ := t
  obtain ⟨⟨e0, e1⟩, ⟨l0, l1⟩⟩ := ht
  simp only at e0 e1 l0 l1
  unfold stepsV tickV goV firstV
  simp only
  by_cases he : e = 0
  · simp [he]
  · rw [if_neg (by omega), if_neg he]
    by_cases hl : 1 < l
    · rw [if_pos (show 1 ≤ l by omega), if_pos hl, if_pos hl]
    · rw [if_neg hl]
      by_cases h1 : 1 ≤ l
      · rw [if_pos h1, if_neg hl, show l = 1 by omega]
        simp
      · rw [if_neg h1, if_neg (by omega)]
        simp

theorem ticks_one {t : Tm} (ht : Wt t) : ticksV t 1 = tickV t := tick_is ht

theorem ticks_add {t : Tm} (ht : Wt t) {n m : Int} (hn : 0 ≤ n) (hm : 0 ≤ m) (hs : n + m ≤ 1099511627776) : ticksV (ticksV t n) m = ticksV t (n + m) := by
  unfold ticksV cutV
  rw [if_pos (by omega), if_pos (by omega), if_pos hs]
  exact steps_add ht hn hm

end Go.Proofs.YtmegghgjllbamaaGreatDoor.Tm

/- Layer 9: contracts of the registers and of the steps, the program's and the document's. -/
namespace Go.Proofs.YtmegghgjllbamaaGreatDoor.Tm
open Go.RowKit
set_option linter.unusedVariables false
set_option maxRecDepth 100000

theorem ring_any (t : Tm) (w : World) :
    Calls Tryz.prog 138 #[.agg (cellsT t)] w fun e w' => e = .returned (.int .u8 (one t.r)) ∧ w' = w.alloc (.cells (cellsT t) 55) := by
  obtain ⟨t1, t2, t3, t4, t5, t6, t7, t8, t9⟩ := tmRules
  obtain ⟨p0, p1, p2⟩ := tmParts
  obtain ⟨e, l, r⟩ := t
  cases r
  all_goals
    go_enter Tryz.func138, Tryz.ntmps138
    go_wp2
    go_ret
    exact ⟨rfl, rfl⟩

/-- None of the three. -/
def Nor (g : Int) : Prop := ¬ g = 0 ∧ ¬ g = 4 ∧ ¬ g = 8

theorem reg_is (g : Int) : g = 0 ∨ g = 4 ∨ g = 8 ∨ Nor g := by
  unfold Nor
  omega

theorem Nor.tests {g : Int} (h : Nor g) : (g == 0) = false ∧ (g == 4) = false ∧ (g == 8) = false := by
  unfold Nor at h
  simp [h]

theorem Nor.read {g : Int} (h : Nor g) (t : Tm) : readV t g = 0 := by simp [readV, h.1, h.2.1, h.2.2]
theorem Nor.form {g : Int} (h : Nor g) : formV g = 90 := by simp [formV, h.1, h.2.1, h.2.2]
theorem Nor.write {g : Int} (h : Nor g) (t : Tm) (v : Int) : writeV t g v = T0 := by simp [writeV, h.1, h.2.1, h.2.2]

theorem one_w (b : Bool) : 0 ≤ one b ∧ one b < 2 := by cases b <;> decide

theorem read_any (t : Tm) (g : Int) (w : World) :
    Calls Tryz.prog 133 #[.agg (cellsT t), .int .u32 g] w fun e w' => e = .returned (.tuple #[.int .u32 (readV t g), .int .i64 (formV g)]) ∧ Below w.heap.size w w' := by
  obtain ⟨t1, t2, t3, t4, t5, t6, t7, t8, t9⟩ := tmRules
  obtain ⟨p0, p1, p2⟩ := tmParts
  rcases reg_is g with rfl | rfl | rfl | h
  · go_enter Tryz.func133, Tryz.ntmps133
    go_wp2
    go_ret2
    exact ⟨rfl, grow _ _⟩
  · go_enter Tryz.func133, Tryz.ntmps133
    go_wp2
    go_ret2
    exact ⟨rfl, grow _ _⟩
  · obtain ⟨o0, o1⟩ := one_w t.r
    have c := hide fun W => ring_any t W
    obtain ⟨x, hx⟩ : ∃ x, one t.r = x := ⟨_, rfl⟩
    have hv : readV t 8 = x := hx
    rw [hv]
    rw [hx] at c o0 o1
    clear hx hv
    go_enter Tryz.func133, Tryz.ntmps133
    go_wp2_with fail
    refine (c.out _).mono ?_
    rintro e w' ⟨rfl, rfl⟩
    go_wp2
    go_ret2
    exact ⟨rfl, (grow _ _).alloc (by simp) _⟩
  · rw [h.read, h.form]
    obtain ⟨h0, h1, h2⟩ := h.tests
    clear h
    go_enter Tryz.func133, Tryz.ntmps133
    go_wp2
    go_ret2
    exact ⟨rfl, grow _ _⟩

theorem write_any (t : Tm) (g v : Int) (w : World) :
    Calls Tryz.prog 66 #[.agg (cellsT t), .int .u32 g, .int .u32 v] w fun e w' => e = .returned (.tuple #[.agg (cellsT (writeV t g v)), .int .i64 (formV g)]) ∧ Below w.heap.size w w' := by
  obtain ⟨t1, t2, t3, t4, t5, t6, t7, t8, t9⟩ := tmRules
  obtain ⟨p0, p1, p2⟩ := tmParts
  obtain ⟨s0, s1, s2⟩ := tmSets
  have fin : ∀ c d : Array Value, Below w.heap.size w ((w.alloc (.cells c 55)).alloc (.cells d 55)) := fun c d => (grow _ _).alloc (by simp) _
  replace fin := hide fin
  rcases reg_is g with rfl | rfl | rfl | h
  · go_enter Tryz.func66, Tryz.ntmps66
    go_wp2
    exact bodyPost_ret (v := .tuple #[.agg (cellsT (writeV t 0 v)), .int .i64 0]) (by simp [results, Tryz.results66, go_sem, t1, t3, t5, t6, t7, writeV]) rfl ⟨rfl, fin.out _ _⟩
  · go_enter Tryz.func66, Tryz.ntmps66
    go_wp2
    exact bodyPost_ret (v := .tuple #[.agg (cellsT (writeV t 4 v)), .int .i64 0]) (by simp [results, Tryz.results66, go_sem, t1, t3, t5, t6, t7, writeV]) rfl ⟨rfl, fin.out _ _⟩
  · go_enter Tryz.func66, Tryz.ntmps66
    go_wp2
    exact bodyPost_ret (v := .tuple #[.agg (cellsT (writeV t 8 v)), .int .i64 0]) (by simp [results, Tryz.results66, go_sem, t1, t3, t5, t6, t7, writeV]) rfl ⟨rfl, fin.out _ _⟩
  · rw [h.write, h.form]
    obtain ⟨h0, h1, h2⟩ := h.tests
    clear h
    go_enter Tryz.func66, Tryz.ntmps66
    go_wp2
    exact bodyPost_ret (v := .tuple #[.agg (cellsT T0), .int .i64 90]) (by simp [results, Tryz.results66, go_sem, t1, t3, t5, t6, t7]) rfl ⟨rfl, fin.out _ _⟩

end Go.Proofs.YtmegghgjllbamaaGreatDoor.Tm

/- Layer 9: contracts of the document's Write and Tick, and of the program's Ticks and Tick. -/
namespace Go.Proofs.YtmegghgjllbamaaGreatDoor.Tm
open Go.RowKit
set_option linter.unusedVariables false
set_option maxRecDepth 100000

theorem run_min (n : Int) (w : World) : (Builtin.min_ #[3, 3] 3 #[.int .i64 n, .int .i64 1099511627776]).run Tryz.prog w = .ok (.int .i64 (cutV n)) w := by
  rw [run_min_int2]
  unfold cutV
  congr 2
  split <;> split <;> omega

theorem run_max (n : Int) (w : World) : (Builtin.max_ #[3, 3] 3 #[.int .i64 n, .int .i64 1]).run Tryz.prog w = .ok (.int .i64 (if 1 ≤ n then n else 1)) w := by
  rw [run_max_int2]
  congr 2
  split <;> split <;> omega

theorem cut_le (n : Int) : cutV n ≤ 1099511627776 := by unfold cutV; split <;> omega

theorem ticks_any {t : Tm} (ht : Wt t) (n : Int) (w : World) :
    Calls Tryz.prog 80 #[.agg (cellsT t), .int .i64 n] w fun e w' => e = .returned (.agg (cellsT (ticksV t n))) ∧ Below w.heap.size w w' := by
  obtain ⟨t1, t2, t3, t4, t5, t6, t7, t8, t9⟩ := tmRules
  obtain ⟨p0, p1, p2⟩ := tmParts
  obtain ⟨s0, s1, s2⟩ := tmSets
  have fin : ∀ c d : Array Value, Below w.heap.size w ((w.alloc (.cells c 55)).alloc (.cells d 55)) := fun c d => (grow _ _).alloc (by simp) _
  replace fin := hide fin
  obtain ⟨⟨e0, e1⟩, ⟨l0, l1⟩⟩ := ht
  have hm := fun w => run_min n w
  have hx := fun w => run_max t.l w
  have hc := cut_le n
  unfold ticksV
  generalize cutV n = c at *
  obtain ⟨f, hf⟩ : ∃ f, firstV t = f := ⟨_, rfl⟩
  have hx' : ∀ w, (Builtin.max_ #[3, 3] 3 #[.int .i64 t.l, .int .i64 1]).run Tryz.prog w = .ok (.int .i64 f) w := by
    intro w
    rw [hx w, ← hf]
    rfl
  clear hx
  by_cases he : t.e = 0
  · have hd : (t.e == 0) = true := by simpa using he
    have hv : stepsV t c = t := by unfold stepsV; rw [if_pos (Or.inl he)]
    rw [hv]
    replace he := hide he
    clear hf
    go_enter Tryz.func80, Tryz.ntmps80
    go_wp2
    exact bodyPost_ret (v := .agg (cellsT t)) (by simp [results, Tryz.results80, go_sem, t1, t3, t5, t6, t7]) rfl ⟨rfl, fin.out _ _⟩
  · have hd : (t.e == 0) = false := by simpa using he
    by_cases h0 : c ≤ 0
    · have hv : stepsV t c = t := by unfold stepsV; rw [if_pos (Or.inr h0)]
      rw [hv]
      have hd2 : decide (c ≤ 0) = true := by simpa using h0
      replace he := hide he
      clear hf
      go_enter Tryz.func80, Tryz.ntmps80
      go_wp2
      exact bodyPost_ret (v := .agg (cellsT t)) (by simp [results, Tryz.results80, go_sem, t1, t3, t5, t6, t7]) rfl ⟨rfl, fin.out _ _⟩
    · have hd2 : decide (c ≤ 0) = false := by simpa using h0
      have hv : stepsV t c = goV t c := by unfold stepsV; rw [if_neg (by omega)]
      rw [hv]
      unfold goV
      rw [hf]
      have f1 : f = t.l ∨ f = 1 := by rw [← hf]; unfold firstV; split <;> simp
      have f2 := first_pos t
      rw [hf] at f2
      by_cases h1 : c < f
      · have hl : f = t.l := by omega
        subst hl
        rw [if_pos h1]
        clear hf f1 f2 he
        go_enter Tryz.func80, Tryz.ntmps80
        go_wp2
        exact bodyPost_ret (v := .agg (cellsT { t with l := t.l - c })) (by simp [results, Tryz.results80, go_sem, t1, t3, t5, t6, t7]) rfl ⟨rfl, fin.out _ _⟩
      · rw [if_neg h1]
        have r0 := Int.emod_nonneg (c - f) he
        have r1 := Int.emod_lt_of_pos (c - f) (show 0 < t.e by omega)
        have hr : (c - f).tmod t.e = (c - f) % t.e := Int.tmod_eq_emod_of_nonneg (by omega)
        generalize (c - f) % t.e = R at *
        clear hf hv
        obtain ⟨d1, d2, d3⟩ := tmDrew
        go_enter Tryz.func80, Tryz.ntmps80
        go_wp2
        go_region
        go_wp2
        exact bodyPost_ret (v := .agg (cellsT { t with l := t.e - R, r := true })) (by simp [results, Tryz.results80, go_sem, t1, t3, t5, t6, t7, d1, d2]) rfl ⟨rfl, (fin.out _ _).drew⟩

theorem tick_any {t : Tm} (ht : Wt t) (w : World) :
    Calls Tryz.prog 47 #[.agg (cellsT t)] w fun e w' => e = .returned (.agg (cellsT (tickV t))) ∧ Below w.heap.size w w' := by
  obtain ⟨t1, t2, t3, t4, t5, t6, t7, t8, t9⟩ := tmRules
  have c := hide fun W => ticks_any ht 1 W
  rw [ticks_one ht] at c
  go_enter Tryz.func47, Tryz.ntmps47
  go_wp2_with fail
  have R := Rat.new (w.alloc (.cells (cellsT t) 55)) T0 55
  have B := (grow w (.cells (cellsT t) 55)).alloc (by simp) (.cells (cellsT T0) 55)
  rw [show (w.alloc (.cells (cellsT t) 55)).heap.size = w.heap.size + 1 by simp] at R
  refine (c.out _).mono ?_
  rintro e w1 ⟨rfl, e1⟩
  replace R := R.on e1
  replace B := onto B (Nat.le_refl _) e1
  have x1 := R.1
  have x2 := R.2.1
  replace R := hide R
  replace B := hide B
  clear e1 c ht
  go_wp2
  exact bodyPost_ret (v := .agg (cellsT (tickV t))) (by simp [results, Tryz.results47, go_sem, t1, t9, x1]) rfl ⟨rfl, below_setRow B.out (by omega) _⟩

end Go.Proofs.YtmegghgjllbamaaGreatDoor.Tm

/- Layer 9: contracts of a timer's bytes, the program's. -/
namespace Go.Proofs.YtmegghgjllbamaaGreatDoor.Tm
open Go.RowKit
set_option linter.unusedVariables false
set_option maxRecDepth 100000

/-- A slice of n bytes of nine in block g, held in block b. -/
structure Buf (x : World) (b g n : Nat) (c : Array Value) : Prop where
  box : x.cell? ⟨b, 0, none⟩ = some (.slice (some ⟨g, 0, none⟩) n 9)
  free : x.frozen? ⟨b, 0, none⟩ = false
  row : x.heap[g]? = some (.cells c 5 (0, 0))
  ne : g < b
  lt : b < x.heap.size

/-- A number as four bytes. -/
def quad (v : Int) : List Value := [.int .u8 (v / 16777216), .int .u8 (v / 65536 % 256), .int .u8 (v / 256 % 256), .int .u8 (v % 256)]

/-- A row with some cells written. -/
def spliced (c : Array Value) (n : Nat) (l : List Value) : Array Value := (c.toList.take n ++ l ++ c.toList.drop (n + l.length)).toArray

theorem spliced_size (c : Array Value) (n : Nat) (l : List Value) (h : n + l.length ≤ c.size) : (spliced c n l).size = c.size := by
  unfold spliced
  simp
  omega

theorem append_room {x : World} {g n : Nat} {c : Array Value} (hr : x.heap[g]? = some (.cells c 5 (0, 0))) (l : List Value) (h1 : ∀ u ∈ l, u.oneCell' = true) (hg : g < x.heap.size) (hn : n + l.length ≤ 9) (hc : c.size = 9) :
    (Builtin.append_ #[53, 53] 53 #[.slice (some ⟨g, 0, none⟩) n 9, .slice (some ⟨x.heap.size, 0, none⟩) l.length l.length]).run Tryz.prog (x.alloc (.cells l.toArray 5)) =
      .ok (.slice (some ⟨g, 0, none⟩) (n + l.length) 9) ((x.alloc (.cells l.toArray 5)).setRow g (spliced c n l)) := by
  obtain ⟨i, hi, -, hsz, -⟩ := info_parts (show (Tryz.prog.info? 5).map (fun i => (i.zero, i.size, i.bytes)) = some (some (.int .u8 0), 1, 1) by kernel_rfl)
  have h := run_append_room (P := Tryz.prog) (x.alloc (.cells l.toArray 5)) 53 53 5 i Tryz.underlying53 hi g n 9 c (by rw [heap_alloc_old x _ hg]; exact hr) ⟨x.heap.size, 0, none⟩ l.length l.length l (by rw [hsz]; omega) (fun j u hu => by
    rw [Addr.add_lit, World.cell?_alloc_new]
    simpa using hu) h1 hn (by rw [hsz]; omega)
  rw [hsz] at h
  simpa [spliced] using h

/-- An append whose run is told. -/
theorem wpList_append_told {P : Program} {w w' : World} {ops : Array Oper} {rest : List Oper} {o : Oper} {a : Act} {Q : Exit → Act → World → Prop}
    (hg : o.guard = none) (s x : Operand) (t : TypeId) (hop : o.op = Op.call { callee := Callee.builtin Builtin.append, args := #[s, x], argTypes := #[t, t] })
    (u y v : Value) (hs : a.eval s = u) (hx : a.eval x = y) (hrun : (Builtin.append_ #[t, t] o.type #[u, y]).run P w = .ok v w')
    (hK : wpList P ops Q rest (a.put o.dst v) w') : wpList P ops Q (o :: rest) a w := by
  refine wpList_plain hg fun K hK' => ?_
  unfold Oper.wp
  simp [execOp, hop, resolve, invoke, builtin, hs, hx, hrun, Result.andThen]
  exact hK' _ _ hK

/-- Behind a put: four bytes more; all other blocks as they were. -/
theorem Buf.put {x : World} {b g n : Nat} {c : Array Value} (h : Buf x b g n c) (l : List Value) (n' : Nat) :
    Buf (((x.alloc (.cells l.toArray 5)).setRow g (spliced c n l)).setCell ⟨b, 0, none⟩ (.slice (some ⟨g, 0, none⟩) n' 9)) b g n' (spliced c n l) := by
  have hg : g < x.heap.size := Nat.lt_trans h.ne h.lt
  have h4 : ((x.alloc (.cells l.toArray 5)).setRow g (spliced c n l)).cell? ⟨b, 0, none⟩ = some (.slice (some ⟨g, 0, none⟩) n 9) := by
    rw [cell_setRow_gt _ _ _ _ _ h.ne, World.cell?_alloc_past _ _ _ h.lt, h.box]
  have h5 : ((x.alloc (.cells l.toArray 5)).setRow g (spliced c n l)).frozen? ⟨b, 0, none⟩ = false := by
    rw [frozen_setRow, World.frozen?_alloc_past _ _ _ h.lt, h.free]
  refine ⟨World.cell?_setCell_same _ _ _ h4, by rw [World.frozen?_setCell, h5], ?_, h.ne, ?_⟩
  · rw [Below.heap_setCell _ _ _ g (by show g ≠ b; have := h.ne; omega)]
    exact setRow_heap _ g c (spliced c n l) 5 (0, 0) (by rw [heap_alloc_old x _ hg, h.row])
  · rw [World.size_setCell, setRow_size]
    have := h.lt
    simp
    omega

theorem Buf.other {x : World} {b g n : Nat} {c : Array Value} (h : Buf x b g n c) (l : List Value) (n' : Nat) (k : Nat) (hk : k < x.heap.size) (hb : k ≠ b) (hg : k ≠ g) :
    (((x.alloc (.cells l.toArray 5)).setRow g (spliced c n l)).setCell ⟨b, 0, none⟩ (.slice (some ⟨g, 0, none⟩) n' 9)).heap[k]? = x.heap[k]? := by
  rw [Below.heap_setCell _ _ _ k (by show k ≠ b; exact hb), setRow_other _ g k _ hg, heap_alloc_old x _ hk]

theorem Buf.below {x : World} {b g n : Nat} {c : Array Value} (h : Buf x b g n c) (l : List Value) (n' : Nat) {N : Nat} {W : World} (hB : Below N W x) (hN : N ≤ g) :
    Below N W (((x.alloc (.cells l.toArray 5)).setRow g (spliced c n l)).setCell ⟨b, 0, none⟩ (.slice (some ⟨g, 0, none⟩) n' 9)) := by
  have := h.ne
  have := h.lt
  exact (below_setRow (hB.alloc (by omega) _) hN _).setCell (by show N ≤ b; omega) _

/-- Nine noughts. -/
def nine : Array Value := #[.int .u8 0, .int .u8 0, .int .u8 0, .int .u8 0, .int .u8 0, .int .u8 0, .int .u8 0, .int .u8 0, .int .u8 0]

theorem Buf.start (w : World) (c : Array Value) (t : TypeId) :
    Buf (((w.alloc (.cells c t)).alloc (.cells nine 5)).alloc (.cells #[.slice (some ⟨w.heap.size + 1, 0, none⟩) 0 9] 53)) (w.heap.size + 1 + 1) (w.heap.size + 1) 0 nine := by
  have e2 : ((w.alloc (.cells c t)).alloc (.cells nine 5)).heap.size = w.heap.size + 1 + 1 := by simp
  have e1 : (w.alloc (.cells c t)).heap.size = w.heap.size + 1 := by simp
  refine ⟨?_, ?_, ?_, by omega, by simp⟩
  · rw [← e2, World.cell?_alloc_new]
    rfl
  · rw [← e2, World.frozen?_alloc_new]
  · rw [heap_alloc_old _ _ (by simp), ← e1, heap_alloc_new]

theorem Rat.of_heap {w y : World} {b : Nat} {r : Tm} (h : Rat w b r) (e : y.heap[b]? = w.heap[b]?) : Rat y b r := by
  refine ⟨by rw [isRow_of e]; exact h.1, by rw [rowAt_of e]; exact h.2.1, ?_⟩
  have hl := h.2.2
  rw [Array.getElem?_eq_getElem hl] at e
  exact (Array.getElem?_eq_some_iff.1 e).1

/-- A timer's bytes. -/
def textV (t : Tm) : ByteArray := strOfNums [t.e / 16777216, t.e / 65536 % 256, t.e / 256 % 256, t.e % 256, t.l / 16777216, t.l / 65536 % 256, t.l / 256 % 256, t.l % 256, one t.r]

/-- An append whose run is told, in a region that draws its order. -/
theorem step_append_told {P : Program} {w w' : World} {ops : Array Oper} {o : Oper} {a : Act} {K : Act → World → Prop} {Q : Exit → Act → World → Prop} {E : Prop}
    (hg : o.guard = none) (s x : Operand) (t : TypeId) (hop : o.op = Op.call { callee := Callee.builtin Builtin.append, args := #[s, x], argTypes := #[t, t] })
    (u y v : Value) (hs : a.eval s = u) (hx : a.eval x = y) (hrun : (Builtin.append_ #[t, t] o.type #[u, y]).run P w = .ok v w')
    (hK : K (a.put o.dst v) w') : if Region.wanted o (yielded ops a.tmps) = true then Oper.wp P o a w K Q else E := by
  have hw : Region.wanted o (yielded ops a.tmps) = true := by simp [Region.wanted, hg]
  rw [if_pos hw]
  unfold Oper.wp
  simp [execOp, hop, resolve, invoke, builtin, hs, hx, hrun, Result.andThen]
  exact hK

/-- The next operation is an append of these. -/
theorem at_append {P : Program} {w : World} {ops : Array Oper} {o : Oper} {a : Act} {K : Act → World → Prop} {Q : Exit → Act → World → Prop} {E : Prop} (s x : Operand) (t : TypeId)
    (hop : o.op = Op.call { callee := Callee.builtin Builtin.append, args := #[s, x], argTypes := #[t, t] })
    (h : if Region.wanted o (yielded ops a.tmps) = true then Oper.wp P o a w K Q else E) : if Region.wanted o (yielded ops a.tmps) = true then Oper.wp P o a w K Q else E := h

/-- The next operation is a call of this function. -/
theorem at_func {P : Program} {w : World} {ops : Array Oper} {o : Oper} {a : Act} {K : Act → World → Prop} {Q : Exit → Act → World → Prop} {E : Prop} (f : FuncId) (x : Operand) (t : TypeId)
    (hop : o.op = Op.call { callee := Callee.value (Operand.func f), args := #[x], argTypes := #[t] })
    (h : if Region.wanted o (yielded ops a.tmps) = true then Oper.wp P o a w K Q else E) : if Region.wanted o (yielded ops a.tmps) = true then Oper.wp P o a w K Q else E := h

theorem drew_alloc (x : World) (o : Obj) : x.drew.alloc o = (x.alloc o).drew := rfl

/-- Text's blocks behind two puts: the timer, the row of bytes, the slice. -/
def Fit (w : World) (t : Tm) (l : List Value) (x : World) : Prop :=
  x.cell? ⟨w.heap.size + 1 + 1, 0, none⟩ = some (.slice (some ⟨w.heap.size + 1, 0, none⟩) 8 9) ∧ (loadCellsFrom ⟨w.heap.size, 0, none⟩ 0 N3 #[]).run Tryz.prog x = .ok (cellsT t) x ∧
    Rat x w.heap.size t ∧ w.heap.size + 1 + 1 < x.heap.size ∧ (∃ v, x.heap[w.heap.size + 1]? = some (.cells (l ++ [v]).toArray 5 (0, 0))) ∧ Below w.heap.size w x

theorem Fit.alloc {w x : World} {t : Tm} {l : List Value} (h : Fit w t l x) (o : Obj) : Fit w t l (x.alloc o) := by
  obtain ⟨h1, h2, h3, h4, ⟨v, h5⟩, h6⟩ := h
  refine ⟨by rw [World.cell?_alloc_past _ _ _ h4]; exact h1, (h3.on (grow _ _)).load, h3.on (grow _ _), by simp; omega, ⟨v, by rw [heap_alloc_old x _ (by omega)]; exact h5⟩, h6.alloc (by omega) _⟩

theorem Fit.drew {w x : World} {t : Tm} {l : List Value} (h : Fit w t l x) : Fit w t l x.drew := by
  obtain ⟨h1, h2, h3, h4, h5, h6⟩ := h
  have h3' : Rat x.drew w.heap.size t := h3
  exact ⟨h1, h3'.load, h3', h4, h5, h6.drew⟩

theorem Fit.app {w x : World} {t : Tm} {l : List Value} (h : Fit w t l x) (hl : l.length = 8) (v : Int) :
    (Builtin.append_ #[53, 53] 53 #[.slice (some ⟨w.heap.size + 1, 0, none⟩) 8 9, .slice (some ⟨x.heap.size, 0, none⟩) 1 1]).run Tryz.prog (x.alloc (.cells #[.int .u8 v] 5)) =
      .ok (.slice (some ⟨w.heap.size + 1, 0, none⟩) 9 9) ((x.alloc (.cells #[.int .u8 v] 5)).setRow (w.heap.size + 1) (l ++ [Value.int .u8 v]).toArray) ∧
    Fit w t l ((x.alloc (.cells #[.int .u8 v] 5)).setRow (w.heap.size + 1) (l ++ [Value.int .u8 v]).toArray) ∧
    ((x.alloc (.cells #[.int .u8 v] 5)).setRow (w.heap.size + 1) (l ++ [Value.int .u8 v]).toArray).heap[w.heap.size + 1]? = some (.cells (l ++ [Value.int .u8 v]).toArray 5 (0, 0)) := by
  have hA := h.alloc (.cells #[.int .u8 v] 5)
  obtain ⟨h1, h2, h3, h4, ⟨u, h5⟩, h6⟩ := hA
  obtain ⟨-, -, -, k4, ⟨u', k5⟩, k6⟩ := h
  have hr := append_room k5 (n := 8) [.int .u8 v] (by intro z hz; simp at hz; subst hz; rfl) (by omega) (by simp) (by simp [hl])
  have e : spliced (l ++ [u']).toArray 8 [.int .u8 v] = (l ++ [Value.int .u8 v]).toArray := by
    unfold spliced
    simp [← hl]
  rw [e] at hr
  have hrow := setRow_heap (x.alloc (.cells #[.int .u8 v] 5)) (w.heap.size + 1) _ (l ++ [Value.int .u8 v]).toArray 5 (0, 0) h5
  have hR := h3.of_heap (setRow_other (x.alloc (.cells #[.int .u8 v] 5)) (w.heap.size + 1) w.heap.size (l ++ [Value.int .u8 v]).toArray (by omega))
  refine ⟨hr, ⟨by rw [cell_setRow_gt _ _ _ _ _ (by omega)]; exact h1, hR.load, hR, by rw [setRow_size]; exact h4, ⟨_, hrow⟩, below_setRow h6 (by omega) _⟩, hrow⟩

theorem conv_list {g : Nat} {w : World} {ns : List Int} (hn : ns.length = 9) (h : w.heap[g]? = some (.cells (ns.map (Value.int .u8)).toArray 5 (0, 0))) :
    (convert 53 9 (.slice (some ⟨g, 0, none⟩) 9 9)).run Tryz.prog w = .ok (.string (strOfNums ns)) w := by
  refine run_convert_bytes_arg w 53 5 Tryz.underlying53 Tryz.underlying5 g 0 9 9 ns hn ?_ 9 Tryz.underlying9
  intro i hi
  rw [Nat.zero_add, cell_of_row w g i _ _ _ h]
  simp [List.getD, show i < ns.length by omega]

end Go.Proofs.YtmegghgjllbamaaGreatDoor.Tm

/- Layer 9: contracts of the timer of bytes, the program's. -/
namespace Go.Proofs.YtmegghgjllbamaaGreatDoor.Tm
open Go.RowKit
set_option linter.unusedVariables false
set_option maxRecDepth 100000

/-- Byte number k of a text (0 behind its end). -/
def byteN (s : ByteArray) (k : Nat) : Nat := (s.data.toList.map UInt8.toNat).getD k 0

theorem byteN_in (s : ByteArray) (k : Nat) (h : k < s.size) : byteN s k = s[k].toNat := by
  unfold byteN
  have h' : k < s.data.toList.length := by simpa using h
  rw [List.getD_eq_getElem?_getD, List.getElem?_map, List.getElem?_eq_getElem h']
  rfl

theorem byteN_lt (s : ByteArray) (k : Nat) : byteN s k < 256 := by
  unfold byteN
  rw [List.getD_eq_getElem?_getD, List.getElem?_map]
  cases s.data.toList[k]? with
  | none => decide
  | some b => exact b.toNat_lt

/-- The number of n bytes from the k-th on. -/
def valN (s : ByteArray) (k : Nat) : Nat → Nat
  | 0 => 0
  | n + 1 => valN s k n * 256 + byteN s (k + n)

theorem valN_lt (s : ByteArray) (k : Nat) : ∀ n, valN s k n < 256 ^ n
  | 0 => by simp [valN]
  | n + 1 => by
    have h1 := valN_lt s k n
    have h2 := byteN_lt s (k + n)
    simp only [valN, Nat.pow_succ]
    omega

theorem or_byte {a b : Nat} (ha : a < 16777216) (hb : b < 256) : bits .or .u32 ((a : Int) * 256) (b : Int) = (a : Int) * 256 + b := by
  rw [u32_or ((a : Int) * 256) (b : Int) (by omega) (by omega) (by omega) (by omega)]
  rw [show ((a : Int) * 256).toNat = a * 256 by omega, Int.toNat_natCast]
  have := Nat.shiftLeft_add_eq_or_of_lt (i := 8) (show b < 2 ^ 8 by omega) a
  rw [Nat.shiftLeft_eq] at this
  simp only [show (2 : Nat) ^ 8 = 256 from rfl] at this
  rw [← this]
  omega

/-- The bytes s in block b, the place k in block a; all other blocks are x's. -/
structure Took (x : World) (b a : Nat) (s : ByteArray) (k : Nat) (y : World) : Prop where
  box : y.cell? ⟨b, 0, none⟩ = some (.string s)
  at_ : y.cell? ⟨a, 0, none⟩ = some (.int .i64 k)
  free : y.frozen? ⟨a, 0, none⟩ = false
  ne : b ≠ a
  other : ∀ g, g ≠ a → y.heap[g]? = x.heap[g]?
  size : y.heap.size = x.heap.size
  below : ∀ N W, Below N W x → N ≤ a → Below N W y

theorem Took.next {x y : World} {b a : Nat} {s : ByteArray} {k : Nat} (h : Took x b a s k y) (k' : Nat) : Took x b a s k' (y.setCell ⟨a, 0, none⟩ (.int .i64 k')) := by
  refine ⟨?_, World.cell?_setCell_same _ _ _ h.at_, by rw [World.frozen?_setCell]; exact h.free, h.ne, fun g hg => ?_, by rw [World.size_setCell]; exact h.size, fun N W hB hN => (h.below N W hB hN).setCell hN _⟩
  · rw [World.cell?_setCell_other y _ _ _ (by intro c; injection c with c1; exact h.ne c1.symm)]
    exact h.box
  · rw [Below.heap_setCell _ _ _ g (by show g ≠ a; exact hg)]
    exact h.other g hg

end Go.Proofs.YtmegghgjllbamaaGreatDoor.Tm

/- Layer 9: contract of the program's Parse. -/
namespace Go.Proofs.YtmegghgjllbamaaGreatDoor.Tm
open Go.RowKit
set_option linter.unusedVariables false
set_option maxRecDepth 100000

/-- Parse's blocks: the bytes, the answer, the place, the timer on the way. -/
structure Way (w : World) (s : ByteArray) (k : Nat) (t : Tm) (x : World) : Prop where
  box : x.cell? ⟨w.heap.size, 0, none⟩ = some (.string s)
  at_ : x.cell? ⟨w.heap.size + 1 + 1, 0, none⟩ = some (.int .i64 k)
  free : x.frozen? ⟨w.heap.size + 1 + 1, 0, none⟩ = false
  out : Rat x (w.heap.size + 1) T0
  tm : Rat x (w.heap.size + 1 + 1 + 1) t
  below : Below w.heap.size w x

theorem Way.took {w x : World} {s : ByteArray} {k : Nat} {t : Tm} (h : Way w s k t x) : Took x w.heap.size (w.heap.size + 1 + 1) s k x :=
  ⟨h.box, h.at_, h.free, by omega, fun _ _ => rfl, rfl, fun _ _ hB _ => hB⟩

theorem Way.on {w x y : World} {s : ByteArray} {k k' : Nat} {t : Tm} (h : Way w s k t x) (hT : Took x w.heap.size (w.heap.size + 1 + 1) s k' y) : Way w s k' t y :=
  ⟨hT.box, hT.at_, hT.free, h.out.of_heap (hT.other _ (by omega)), h.tm.of_heap (hT.other _ (by omega)), hT.below _ _ h.below (by omega)⟩

theorem Rat.put {w : World} {b : Nat} {r q : Tm} (h : Rat w b r) (j : Nat) (v : Value) (hq : (cellsT r).setIfInBounds j v = cellsT q) : Rat (w.setCell ⟨b, j, none⟩ v) b q :=
  ⟨by rw [isRow_setCell]; exact h.1, by rw [rowAt_setCell, h.2.1, hq], by rw [World.size_setCell]; exact h.2.2⟩

theorem Way.put {w x : World} {s : ByteArray} {k : Nat} {t q : Tm} (h : Way w s k t x) (j : Nat) (v : Value) (hq : (cellsT t).setIfInBounds j v = cellsT q) : Way w s k q (x.setCell ⟨w.heap.size + 1 + 1 + 1, j, none⟩ v) := by
  have ho : ∀ g, g ≠ w.heap.size + 1 + 1 + 1 → (x.setCell ⟨w.heap.size + 1 + 1 + 1, j, none⟩ v).heap[g]? = x.heap[g]? := fun g hg => Below.heap_setCell _ _ _ g (by show g ≠ w.heap.size + 1 + 1 + 1; exact hg)
  refine ⟨?_, ?_, by rw [World.frozen?_setCell]; exact h.free, h.out.of_heap (ho _ (by omega)), h.tm.put j v hq, h.below.setCell (by show w.heap.size ≤ w.heap.size + 1 + 1 + 1; omega) _⟩
  · rw [World.cell?_setCell_other x _ _ _ (by intro c; injection c with c1; omega)]
    exact h.box
  · rw [World.cell?_setCell_other x _ _ _ (by intro c; injection c with c1; omega)]
    exact h.at_

theorem Way.start (w : World) (s : ByteArray) : Way w s 0 T0 ((((w.alloc (.cells #[.string s] 9)).alloc (.cells (cellsT T0) 55)).alloc (.cells #[.int .i64 0] 3)).alloc (.cells (cellsT T0) 55)) := by
  have e1 : (w.alloc (.cells #[.string s] 9)).heap.size = w.heap.size + 1 := by simp
  have e2 : ((w.alloc (.cells #[.string s] 9)).alloc (.cells (cellsT T0) 55)).heap.size = w.heap.size + 1 + 1 := by simp
  have e3 : (((w.alloc (.cells #[.string s] 9)).alloc (.cells (cellsT T0) 55)).alloc (.cells #[.int .i64 0] 3)).heap.size = w.heap.size + 1 + 1 + 1 := by simp
  have r1 := Rat.new (w.alloc (.cells #[.string s] 9)) T0 55
  have r3 := Rat.new (((w.alloc (.cells #[.string s] 9)).alloc (.cells (cellsT T0) 55)).alloc (.cells #[.int .i64 0] 3)) T0 55
  rw [e1] at r1
  rw [e3] at r3
  refine ⟨?_, ?_, ?_, (r1.on (grow _ _)).on (grow _ _), r3, (((grow w _).alloc (by simp) _).alloc (by simp; omega) _).alloc (by simp; omega) _⟩
  · rw [World.cell?_alloc_past _ _ _ (by rw [e3]; omega), World.cell?_alloc_past _ _ _ (by rw [e2]; omega), World.cell?_alloc_past _ _ _ (by rw [e1]; omega), World.cell?_alloc_new]
    rfl
  · rw [World.cell?_alloc_past _ _ _ (by rw [e3]; omega), ← e2, World.cell?_alloc_new]
    rfl
  · rw [World.frozen?_alloc_past _ _ _ (by rw [e3]; omega), ← e2, World.frozen?_alloc_new]

end Go.Proofs.YtmegghgjllbamaaGreatDoor.Tm

/- Layer 9: a timer's bytes, and the timer of bytes, there and back. -/
namespace Go.Proofs.YtmegghgjllbamaaGreatDoor.Tm
open Go.RowKit
set_option linter.unusedVariables false
set_option maxRecDepth 100000

theorem byteN_nums (ns : List Int) (k : Nat) : byteN (strOfNums ns) k = (ns.map fun n => n.toNat % 256).getD k 0 := by
  unfold byteN
  rw [strOfNums_data, List.map_map]
  congr 1

theorem be4 (E : Nat) (h : E < 4294967296) : ((E / 16777216 % 256 * 256 + E / 65536 % 256) * 256 + E / 256 % 256) * 256 + E % 256 = E := by
  have e1 : E / 65536 = E / 256 / 256 := by rw [Nat.div_div_eq_div_mul]
  have e2 : E / 16777216 = E / 256 / 256 / 256 := by rw [Nat.div_div_eq_div_mul, Nat.div_div_eq_div_mul]
  have h3 : E / 256 / 256 / 256 < 256 := by rw [← e2]; exact Nat.div_lt_of_lt_mul (by omega)
  rw [e1, e2]
  generalize hA : E / 256 = A at *
  generalize hB : A / 256 = B at *
  generalize hC : B / 256 = C at *
  omega

theorem be4_int {e : Int} (h : W32 e) : ((((((e / 16777216).toNat % 256) * 256 + (e / 65536 % 256).toNat % 256) * 256 + (e / 256 % 256).toNat % 256) * 256 + (e % 256).toNat % 256 : Nat) : Int) = e := by
  obtain ⟨E, rfl⟩ := Int.eq_ofNat_of_zero_le h.1
  have h1 : E < 4294967296 := by have := h.2; omega
  have k := be4 E h1
  have q1 : ((E : Int) / 16777216).toNat = E / 16777216 := by omega
  have q2 : ((E : Int) / 65536 % 256).toNat % 256 = E / 65536 % 256 := by omega
  have q3 : ((E : Int) / 256 % 256).toNat % 256 = E / 256 % 256 := by omega
  have q4 : ((E : Int) % 256).toNat % 256 = E % 256 := by omega
  rw [q1, q2, q3, q4, k]

theorem val4 (s : ByteArray) (k : Nat) : valN s k 4 = ((byteN s k * 256 + byteN s (k + 1)) * 256 + byteN s (k + 2)) * 256 + byteN s (k + 3) := by
  simp [valN]

theorem val1 (s : ByteArray) (k : Nat) : valN s k 1 = byteN s k := by
  simp [valN]

theorem text_size (t : Tm) : (textV t).size = 9 := by
  unfold textV
  rw [strOfNums_size]
  rfl

theorem text_bytes (t : Tm) : byteN (textV t) 0 = (t.e / 16777216).toNat % 256 ∧ byteN (textV t) 1 = (t.e / 65536 % 256).toNat % 256 ∧ byteN (textV t) 2 = (t.e / 256 % 256).toNat % 256 ∧ byteN (textV t) 3 = (t.e % 256).toNat % 256 ∧
    byteN (textV t) 4 = (t.l / 16777216).toNat % 256 ∧ byteN (textV t) 5 = (t.l / 65536 % 256).toNat % 256 ∧ byteN (textV t) 6 = (t.l / 256 % 256).toNat % 256 ∧ byteN (textV t) 7 = (t.l % 256).toNat % 256 ∧ byteN (textV t) 8 = (one t.r).toNat % 256 := by
  unfold textV
  simp only [byteN_nums]
  exact ⟨rfl, rfl, rfl, rfl, rfl, rfl, rfl, rfl, rfl⟩

theorem text_last (t : Tm) : byteN (textV t) 8 = if t.r then 1 else 0 := by
  rw [(text_bytes t).2.2.2.2.2.2.2.2]
  cases t.r <;> rfl

/-- What is laid is parsed as it was. -/
theorem text_back {t : Tm} (ht : Wt t) : (⟨valN (textV t) 0 4, valN (textV t) 4 4, (valN (textV t) 8 1 : Int) == 1⟩ : Tm) = t := by
  obtain ⟨b0, b1, b2, b3, b4, b5, b6, b7, -⟩ := text_bytes t
  have b8 := text_last t
  rw [val4, val4, val1]
  simp only [Nat.zero_add, Nat.reduceAdd]
  rw [b0, b1, b2, b3, b4, b5, b6, b7, b8, be4_int ht.e, be4_int ht.l]
  obtain ⟨e, l, r⟩ := t
  cases r <;> rfl

/-- The timer of nine bytes. -/
def tmOf (s : ByteArray) : Tm := ⟨valN s 0 4, valN s 4 4, (valN s 8 1 : Int) == 1⟩

theorem tmOf_w (s : ByteArray) : Wt (tmOf s) := by
  have h1 := valN_lt s 0 4
  have h2 := valN_lt s 4 4
  simp only [show (256 : Nat) ^ 4 = 4294967296 from rfl] at h1 h2
  exact ⟨⟨by simp [tmOf], by simp only [tmOf]; omega⟩, ⟨by simp [tmOf], by simp only [tmOf]; omega⟩⟩

theorem byte_of (x : UInt8) (n : Int) (h : n = (x.toNat : Int)) : UInt8.ofNat n.toNat = x := by
  subst h
  simp

/-- What is a timer's is laid as it was. -/
theorem tmOf_text {s : ByteArray} (hs : s.size = 9) (h8 : byteN s 8 ≤ 1) : textV (tmOf s) = s := by
  obtain ⟨⟨l⟩⟩ := s
  have hl : l.length = 9 := by simpa [ByteArray.size] using hs
  match l, hl with
  | [x0, x1, x2, x3, x4, x5, x6, x7, x8], _ =>
    have q0 := x0.toNat_lt
    have q1 := x1.toNat_lt
    have q2 := x2.toNat_lt
    have q3 := x3.toNat_lt
    have q4 := x4.toNat_lt
    have q5 := x5.toNat_lt
    have q6 := x6.toNat_lt
    have q7 := x7.toNat_lt
    have v1 : valN ⟨⟨[x0, x1, x2, x3, x4, x5, x6, x7, x8]⟩⟩ 0 4 = ((x0.toNat * 256 + x1.toNat) * 256 + x2.toNat) * 256 + x3.toNat := by rw [val4]; rfl
    have v2 : valN ⟨⟨[x0, x1, x2, x3, x4, x5, x6, x7, x8]⟩⟩ 4 4 = ((x4.toNat * 256 + x5.toNat) * 256 + x6.toNat) * 256 + x7.toNat := by rw [val4]; rfl
    have v3 : valN ⟨⟨[x0, x1, x2, x3, x4, x5, x6, x7, x8]⟩⟩ 8 1 = x8.toNat := by rw [val1]; rfl
    have h8' : x8.toNat ≤ 1 := h8
    unfold textV tmOf strOfNums
    simp only [v1, v2, v3]
    congr 2
    simp only [List.map_cons, List.map_nil]
    rw [byte_of x0 _ (by omega), byte_of x1 _ (by omega), byte_of x2 _ (by omega), byte_of x3 _ (by omega), byte_of x4 _ (by omega), byte_of x5 _ (by omega), byte_of x6 _ (by omega), byte_of x7 _ (by omega), byte_of x8 _ ?_]
    rcases (show x8.toNat = 0 ∨ x8.toNat = 1 by omega) with h | h <;> rw [h] <;> rfl

/-- What is none's is laid otherwise. -/
theorem tmOf_none {s : ByteArray} (h8 : ¬ byteN s 8 ≤ 1) : ¬ textV (tmOf s) = s := by
  intro h
  have := text_last (tmOf s)
  rw [h] at this
  split at this <;> omega

end Go.Proofs.YtmegghgjllbamaaGreatDoor.Tm
