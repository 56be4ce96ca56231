/- Layer 9: a timer as a row of three cells: its parts, and when two are the same; many steps as one sum. -/
import Derived.Test.YtdapjpbdplhgbaaWholeAt
import Derived.ChangeKeysEq
namespace Go.Proofs.Ytdapjpbdplhgbaa.Tm
open Go.RowKit
set_option linter.unusedVariables false
set_option maxRecDepth 100000

/-- A word. -/
def W32 (a : Int) : Prop := 0 ≤ a ∧ a < 4294967296

theorem w_of (a : Int) (h0 : 0 ≤ a) (h1 : a < 4294967296) : W32 a := ⟨h0, h1⟩

/-- A timer: Every, Left, does it ring? -/
structure Tm where
  e : Int
  l : Int
  r : Bool
deriving DecidableEq

/-- Both numbers are words. -/
structure Wt (t : Tm) : Prop where
  e : W32 t.e
  l : W32 t.l

def cellsT (t : Tm) : Array Value := #[.int .u32 t.e, .int .u32 t.l, .bool t.r]

/-- Three, so spelt that no walk opens a row of them. -/
def N3 : Nat := 3

/-- The timer of noughts. -/
def T0 : Tm := ⟨0, 0, false⟩

theorem T0_w : Wt T0 := ⟨⟨by decide, by decide⟩, ⟨by decide, by decide⟩⟩

theorem size_cellsT (t : Tm) : (cellsT t).size = N3 := rfl

theorem eqT (r q : Tm) (w : World) : (Op.equalIn 10000 62 (.agg (cellsT r)) (.agg (cellsT q))).run Try.prog w = .ok (decide (r = q)) w := by
  have hu : Try.prog.underlying 62 = some (.struct (Try.prog.fieldsOf 62)) := by kernel_rfl
  have hp : Try.prog.stoodInHeld 62 = false := by kernel_rfl
  rw [run_equalIn_agg w 9999 62 _ _ hu hp]
  obtain ⟨r0, r1, r2⟩ := r
  obtain ⟨q0, q1, q2⟩ := q
  simp only [cellsT, Tm.mk.injEq]
  simp [go_sem]
  repeat' split
  all_goals simp_all

theorem eqlT (r q : Tm) (w : World) : (binOp .eql 62 (.agg (cellsT r)) (.agg (cellsT q))).run Try.prog w = .ok (.bool (decide (r = q))) w := by
  rw [run_eql_struct, eqT]; rfl

theorem neqT (r q : Tm) (w : World) : (binOp .neq 62 (.agg (cellsT r)) (.agg (cellsT q))).run Try.prog w = .ok (.bool (!decide (r = q))) w := by
  rw [run_neq_struct, eqT]; rfl

theorem eq_self (r : Tm) (w : World) : (binOp .eql 62 (.agg (cellsT r)) (.agg (cellsT r))).run Try.prog w = .ok (.bool true) w := by
  rw [eqlT]; simp

theorem neq_self (r : Tm) (w : World) : (binOp .neq 62 (.agg (cellsT r)) (.agg (cellsT r))).run Try.prog w = .ok (.bool false) w := by
  rw [neqT]; simp

theorem sizeT (w : World) : (sizeOf 62).run Try.prog w = .ok N3 w := Try.sizeOf62 w

theorem zeroT (w : World) : (zeroValue 62).run Try.prog w = .ok (.agg (cellsT T0)) w := Try.zeroValue62 w

theorem loadT (w : World) (b : Nat) (h : isRow w b = true) (hn : (rowAt w b).size = N3) : (loadCellsFrom ⟨b, 0, none⟩ 0 N3 #[]).run Try.prog w = .ok (rowAt w b) w :=
  load_rowAt Try.prog w b N3 h hn

theorem storeT (r : Tm) (w : World) (b : Nat) (h : isRow w b = true) (hn : (rowAt w b).size = N3) : (storeCells ⟨b, 0, none⟩ (cellsT r).toList 0).run Try.prog w = .ok () (w.setRow b (cellsT r)) := by
  refine store_rowAt Try.prog w b _ h (by rw [hn, size_cellsT]) fun v hv => ?_
  simp only [cellsT, List.mem_cons] at hv
  rcases hv with rfl | rfl | rfl | hv
  all_goals first | rfl | simp at hv

theorem loadSetT (r : Tm) (w : World) (b : Nat) (h : isRow w b = true) : (loadCellsFrom ⟨b, 0, none⟩ 0 N3 #[]).run Try.prog (w.setRow b (cellsT r)) = .ok (cellsT r) (w.setRow b (cellsT r)) := by
  have := loadT (w.setRow b (cellsT r)) b (by rw [isRow_setRow, h]) (by rw [rowAt_setRow w b _ h, size_cellsT])
  rwa [rowAt_setRow w b _ h] at this

/-- What walks over timers are told. -/
theorem tmRules : (∀ w : World, (sizeOf 62).run Try.prog w = .ok N3 w) ∧ (∀ w : World, (zeroValue 62).run Try.prog w = .ok (.agg (cellsT T0)) w) ∧
    (∀ r : Tm, (cellsT r).size = N3) ∧
    (∀ (r : Tm) (w : World) (b : Nat), isRow w b = true → (rowAt w b).size = N3 → (storeCells ⟨b, 0, none⟩ (cellsT r).toList 0).run Try.prog w = .ok () (w.setRow b (cellsT r))) ∧
    (∀ (w : World) (b : Nat), isRow w b = true → (rowAt w b).size = N3 → (loadCellsFrom ⟨b, 0, none⟩ 0 N3 #[]).run Try.prog w = .ok (rowAt w b) w) ∧
    (∀ (w : World) (c : Array Value) (t : TypeId) (n : Nat), rowAt (w.alloc (.cells c t)) n = if n = w.heap.size then c else rowAt w n) ∧
    (∀ (w : World) (c : Array Value) (t : TypeId) (n : Nat), isRow (w.alloc (.cells c t)) n = if n = w.heap.size then true else isRow w n) ∧
    (∀ (w : World) (c c' : Array Value) (t : TypeId) (n : Nat), (w.alloc (.cells c t)).setRow n c' = if n = w.heap.size then w.alloc (.cells c' t) else (w.setRow n c').alloc (.cells c t)) ∧
    (∀ (r : Tm) (w : World) (b : Nat), isRow w b = true → (loadCellsFrom ⟨b, 0, none⟩ 0 N3 #[]).run Try.prog (w.setRow b (cellsT r)) = .ok (cellsT r) (w.setRow b (cellsT r))) :=
  ⟨sizeT, zeroT, size_cellsT, storeT, loadT, rowAt_alloc, isRow_alloc, setRow_alloc, loadSetT⟩

/-- The parts of a timer, and what a store into one makes of it. -/
theorem tmParts : (∀ r : Tm, (cellsT r)[0]? = some (.int .u32 r.e)) ∧ (∀ r : Tm, (cellsT r)[1]? = some (.int .u32 r.l)) ∧ (∀ r : Tm, (cellsT r)[2]? = some (.bool r.r)) :=
  ⟨fun _ => rfl, fun _ => rfl, fun _ => rfl⟩

theorem tmSets : (∀ (r : Tm) (x : Int), (cellsT r).setIfInBounds 0 (.int .u32 x) = cellsT { r with e := x }) ∧ (∀ (r : Tm) (x : Int), (cellsT r).setIfInBounds 1 (.int .u32 x) = cellsT { r with l := x }) ∧
    (∀ (r : Tm) (x : Bool), (cellsT r).setIfInBounds 2 (.bool x) = cellsT { r with r := x }) :=
  ⟨fun _ _ => rfl, fun _ _ => rfl, fun _ _ => rfl⟩

theorem tmDrew : (∀ (w : World) (b : Nat), rowAt w.drew b = rowAt w b) ∧ (∀ (w : World) (b : Nat), isRow w.drew b = isRow w b) ∧ (∀ (w : World) (n : Nat) (c : Array Value), w.drew.setRow n c = (w.setRow n c).drew) :=
  ⟨rowAt_drew, isRow_drew, fun _ _ _ => rfl⟩

/-- A timer that is built of its parts. -/
theorem tmBuild (a b : Int) (c : Bool) : (.agg #[.int .u32 a, .int .u32 b, .bool c] : Value) = .agg (cellsT ⟨a, b, c⟩) := rfl

theorem grow (w : World) (o : Obj) : Below w.heap.size w (w.alloc o) := (Below.refl _ w).alloc (Nat.le_refl _) o

theorem onto {n : Nat} {w x y : World} (h : Below n w x) (hn : n ≤ w.heap.size) (k : Below x.heap.size x y) : Below n w y := h.trans (k.mono (Nat.le_trans hn h.size))

/-- A timer in block b. -/
def Rat (w : World) (b : Nat) (r : Tm) : Prop := isRow w b = true ∧ rowAt w b = cellsT r ∧ b < w.heap.size

theorem Rat.on {w y : World} {b : Nat} {r : Tm} (h : Rat w b r) (hb : Below w.heap.size w y) : Rat y b r :=
  ⟨by rw [(brow hb).2 _ h.2.2]; exact h.1, by rw [(brow hb).1 _ h.2.2]; exact h.2.1, Nat.lt_of_lt_of_le h.2.2 hb.size⟩

theorem Rat.new (w : World) (r : Tm) (t : TypeId) : Rat (w.alloc (.cells (cellsT r) t)) w.heap.size r := ⟨isRow_new _ _ _, rowAt_new _ _ _, by simp⟩

theorem Rat.load {w : World} {b : Nat} {r : Tm} (h : Rat w b r) : (loadCellsFrom ⟨b, 0, none⟩ 0 N3 #[]).run Try.prog w = .ok (cellsT r) w := by
  have := loadT w b h.1 (by rw [h.2.1, size_cellsT])
  rwa [h.2.1] at this

theorem Rat.cell {w : World} {b : Nat} {r : Tm} (h : Rat w b r) (j : Nat) : w.cell? ⟨b, j, none⟩ = (cellsT r)[j]? := by
  rw [cell_rowAt w b j h.1, h.2.1]

theorem Rat.set {w : World} {b : Nat} {r : Tm} (h : Rat w b r) (q : Tm) : Rat (w.setRow b (cellsT q)) b q :=
  ⟨by rw [isRow_setRow]; exact h.1, rowAt_setRow w b _ h.1, by rw [setRow_size]; exact h.2.2⟩

theorem Rat.setFar {w : World} {b : Nat} {r : Tm} (h : Rat w b r) (g : Nat) (c : Array Value) (hg : b < g) : Rat (w.setRow g c) b r :=
  ⟨by rw [isRow_setRow]; exact h.1, by rw [rowAt_setRow_lt w g c b hg]; exact h.2.1, by rw [setRow_size]; exact h.2.2⟩

/-- One, if it is so. -/
def one (b : Bool) : Int := if b then 1 else 0

/-- A register, and whether there is one. -/
def readV (t : Tm) (g : Int) : Int := if g = 0 then t.e else if g = 4 then t.l else if g = 8 then one t.r else 0
def formV (g : Int) : Int := if g = 0 then 0 else if g = 4 then 0 else if g = 8 then 0 else 90

/-- What a write makes of a timer. -/
def writeV (t : Tm) (g v : Int) : Tm := if g = 0 then ⟨v, v, t.r⟩ else if g = 4 then ⟨t.e, v, t.r⟩ else if g = 8 then ⟨t.e, t.l, false⟩ else T0

theorem write_w {t : Tm} (ht : Wt t) (g : Int) {v : Int} (hv : W32 v) : Wt (writeV t g v) := by
  unfold writeV
  repeat' split
  · exact ⟨hv, hv⟩
  · exact ⟨ht.e, hv⟩
  · exact ⟨ht.e, ht.l⟩
  · exact T0_w

/-- A step. -/
def tickV (t : Tm) : Tm := if t.e = 0 then t else if 1 < t.l then ⟨t.e, t.l - 1, t.r⟩ else ⟨t.e, t.e, true⟩

/-- The first ring. -/
def firstV (t : Tm) : Int := if 1 ≤ t.l then t.l else 1

/-- n steps, of n from 1 on, of a timer that is set. -/
def goV (t : Tm) (n : Int) : Tm := if n < firstV t then ⟨t.e, t.l - n, t.r⟩ else ⟨t.e, t.e - (n - firstV t) % t.e, true⟩

/-- n steps at once. -/
def stepsV (t : Tm) (n : Int) : Tm := if t.e = 0 ∨ n ≤ 0 then t else goV t n

/-- So many steps are made of n. -/
def cutV (n : Int) : Int := if n ≤ 1099511627776 then n else 1099511627776

def ticksV (t : Tm) (n : Int) : Tm := stepsV t (cutV n)

theorem first_pos (t : Tm) : 1 ≤ firstV t := by unfold firstV; split <;> omega

theorem go_w {t : Tm} (ht : Wt t) (he : ¬ t.e = 0) {n : Int} (hn : 0 < n) : Wt (goV t n) := by
  obtain ⟨⟨e0, e1⟩, ⟨l0, l1⟩⟩ := ht
  unfold goV
  split
  next h =>
    unfold firstV at h
    refine ⟨⟨e0, e1⟩, ⟨?_, ?_⟩⟩ <;> show _ <;> simp only <;> split at h <;> omega
  next h =>
    have m0 := Int.emod_nonneg (n - firstV t) he
    have m1 := Int.emod_lt_of_pos (n - firstV t) (show 0 < t.e by omega)
    refine ⟨⟨e0, e1⟩, ⟨?_, ?_⟩⟩ <;> simp only <;> omega

theorem steps_w {t : Tm} (ht : Wt t) (n : Int) : Wt (stepsV t n) := by
  unfold stepsV
  split
  · exact ht
  next h => exact go_w ht (fun e => h (Or.inl e)) (by omega)

theorem ticks_w {t : Tm} (ht : Wt t) (n : Int) : Wt (ticksV t n) := steps_w ht _

theorem steps_zero (t : Tm) : stepsV t 0 = t := by unfold stepsV; rw [if_pos (Or.inr (Int.le_refl _))]

theorem steps_e (t : Tm) (n : Int) : (stepsV t n).e = t.e := by
  unfold stepsV goV
  repeat' split
  all_goals rfl

/-- A step, and then n more. -/
theorem go_add {t : Tm} (ht : Wt t) (he : ¬ t.e = 0) {n m : Int} (hn : 0 < n) (hm : 0 < m) : goV (goV t n) m = goV t (n + m) := by
  obtain ⟨e, l, r⟩ := t
  obtain ⟨⟨e0, e1⟩, ⟨l0, l1⟩⟩ := ht
  simp only at e0 e1 l0 l1 he
  have hf := first_pos ⟨e, l, r⟩
  generalize hF : firstV ⟨e, l, r⟩ = f at hf
  by_cases h1 : n < f
  · have hl : f = l := by unfold firstV at hF; simp only at hF; split at hF <;> omega
    subst hl
    have g1 : goV ⟨e, f, r⟩ n = ⟨e, f - n, r⟩ := by unfold goV; rw [hF, if_pos h1]
    have f2 : firstV ⟨e, f - n, r⟩ = f - n := by unfold firstV; rw [if_pos (by simp only; omega)]
    rw [g1]
    unfold goV
    rw [hF, f2]
    by_cases h2 : n + m < f
    · rw [if_pos h2, if_pos (by omega)]
      simp only
      congr 1
      omega
    · rw [if_neg h2, if_neg (by omega)]
      simp only
      congr 3
      omega
  · have g1 : goV ⟨e, l, r⟩ n = ⟨e, e - (n - f) % e, true⟩ := by unfold goV; rw [hF, if_neg h1]
    have m0 := Int.emod_nonneg (n - f) he
    have m1 := Int.emod_lt_of_pos (n - f) (show 0 < e by omega)
    have md := Int.mul_ediv_add_emod (n - f) e
    rw [g1]
    have f2 : firstV ⟨e, e - (n - f) % e, true⟩ = e - (n - f) % e := by unfold firstV; rw [if_pos (by simp only; omega)]
    unfold goV
    rw [hF, f2, if_neg (show ¬ n + m < f by omega)]
    generalize (n - f) % e = a at *
    generalize (n - f) / e = q at *
    have key : (n + m - f) % e = (a + m) % e := by
      rw [show n + m - f = a + m + e * q by omega, Int.add_mul_emod_self_left]
    rw [key]
    by_cases h2 : m < e - a
    · rw [if_pos h2, Int.emod_eq_of_lt (by omega) (by omega)]
      simp only
      congr 1
      omega
    · rw [if_neg h2, show m - (e - a) = a + m - e by omega, Int.sub_emod_right]

theorem steps_add {t : Tm} (ht : Wt t) {n m : Int} (hn : 0 ≤ n) (hm : 0 ≤ m) : stepsV (stepsV t n) m = stepsV t (n + m) := by
  by_cases he : t.e = 0
  · have h1 : ∀ k, stepsV t k = t := fun k => by unfold stepsV; rw [if_pos (Or.inl he)]
    rw [h1, h1, h1]
  · by_cases n0 : n = 0
    · subst n0; rw [steps_zero, Int.zero_add]
    · by_cases m0 : m = 0
      · subst m0; rw [steps_zero, Int.add_zero]
      · have h1 : ∀ (t : Tm) (k : Int), ¬ t.e = 0 → 0 < k → stepsV t k = goV t k := fun t k h hk => by unfold stepsV; rw [if_neg (by omega)]
        rw [h1 (stepsV t n) m (by rw [steps_e]; exact he) (by omega), h1 t n he (by omega), h1 t (n + m) he (by omega), go_add ht he (by omega) (by omega)]

theorem tick_is {t : Tm} (ht : Wt t) : stepsV t 1 = tickV t := by
  obtain ⟨e, l, r⟩ := t
  obtain ⟨⟨e0, e1⟩, ⟨l0, l1⟩⟩ := ht
  simp only at e0 e1 l0 l1
  unfold stepsV tickV goV firstV
  simp only
  by_cases he : e = 0
  · simp [he]
  · rw [if_neg (by omega), if_neg he]
    by_cases hl : 1 < l
    · rw [if_pos (show 1 ≤ l by omega), if_pos hl, if_pos hl]
    · rw [if_neg hl]
      by_cases h1 : 1 ≤ l
      · rw [if_pos h1, if_neg hl, show l = 1 by omega]
        simp
      · rw [if_neg h1, if_neg (by omega)]
        simp

theorem ticks_one {t : Tm} (ht : Wt t) : ticksV t 1 = tickV t := tick_is ht

theorem ticks_add {t : Tm} (ht : Wt t) {n m : Int} (hn : 0 ≤ n) (hm : 0 ≤ m) (hs : n + m ≤ 1099511627776) : ticksV (ticksV t n) m = ticksV t (n + m) := by
  unfold ticksV cutV
  rw [if_pos (by omega), if_pos (by omega), if_pos hs]
  exact steps_add ht hn hm

end Go.Proofs.Ytdapjpbdplhgbaa.Tm
