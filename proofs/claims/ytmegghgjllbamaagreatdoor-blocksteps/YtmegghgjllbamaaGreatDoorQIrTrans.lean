/- Layer 14: contracts of kindOf, filled, operation. -/
import Derived.Test.YtmegghgjllbamaaGreatDoorQIrUntil
namespace Go.Proofs.YtmegghgjllbamaaGreatDoor.Ir
open Go.RowKit
set_option linter.unusedVariables false
set_option maxRecDepth 100000
set_option linter.unusedSimpArgs false

/-- The kind of a plain instruction's operation. -/
def kindV (o : Int) : Int :=
  if o = 52 then 1 else if o = 21 ∨ o = 46 then 3 else if o = 23 then 4 else if o = 24 ∨ o = 49 then 5 else if o = 25 ∨ o = 50 then 6 else if o = 26 ∨ o = 51 then 7 else if o = 27 then 8
  else if o = 28 ∨ o = 47 then 9 else if o = 29 ∨ o = 48 then 10 else if o = 0 ∨ o = 3 then 11 else if o = 1 ∨ o = 4 then 12 else if o = 2 ∨ o = 5 then 13 else 0

/-- A plain instruction. -/
def isPl (o : Int) : Prop := (o = 52 ∨ o = 21 ∨ o = 46 ∨ o = 23 ∨ o = 24 ∨ o = 49 ∨ o = 25 ∨ o = 50 ∨ o = 26 ∨ o = 51 ∨ o = 27) ∨ o = 28 ∨ o = 47 ∨ o = 29 ∨ o = 48 ∨ o = 0 ∨ o = 3 ∨ o = 1 ∨ o = 4 ∨ o = 2 ∨ o = 5

instance (o : Int) : Decidable (isPl o) := by unfold isPl; infer_instance

theorem kind_no {o : Int} (h : ¬ isPl o) : kindV o = 0 := by
  unfold isPl at h
  unfold kindV
  repeat rw [if_neg (by omega)]

theorem kind_yes {o : Int} (h : isPl o) : 1 ≤ kindV o ∧ kindV o ≤ 13 := by
  unfold isPl at h
  rcases h with (rfl | rfl | rfl | rfl | rfl | rfl | rfl | rfl | rfl | rfl | rfl) | rfl | rfl | rfl | rfl | rfl | rfl | rfl | rfl | rfl | rfl
  all_goals decide

set_option maxHeartbeats 4000000 in
theorem kindOf_any (o : Int) (w : World) : Calls Tryz.prog 40 #[.int .i64 o] w fun e w' => e = .returned (.int .i64 (kindV o)) ∧ w' = w := by
  by_cases h : isPl o
  · unfold isPl at h
    rcases h with (rfl | rfl | rfl | rfl | rfl | rfl | rfl | rfl | rfl | rfl | rfl) | rfl | rfl | rfl | rfl | rfl | rfl | rfl | rfl | rfl | rfl
    all_goals
      go_enter Tryz.func40, Tryz.ntmps40
      go_wp2
      go_ret
      exact ⟨rfl, rfl⟩
  · rw [kind_no h]
    unfold isPl at h
    have e0 : (o == 0) = false := by simp; omega
    have e1 : (o == 1) = false := by simp; omega
    have e2 : (o == 2) = false := by simp; omega
    have e3 : (o == 3) = false := by simp; omega
    have e4 : (o == 4) = false := by simp; omega
    have e5 : (o == 5) = false := by simp; omega
    have e21 : (o == 21) = false := by simp; omega
    have e23 : (o == 23) = false := by simp; omega
    have e24 : (o == 24) = false := by simp; omega
    have e25 : (o == 25) = false := by simp; omega
    have e26 : (o == 26) = false := by simp; omega
    have e27 : (o == 27) = false := by simp; omega
    have e28 : (o == 28) = false := by simp; omega
    have e29 : (o == 29) = false := by simp; omega
    have e46 : (o == 46) = false := by simp; omega
    have e47 : (o == 47) = false := by simp; omega
    have e48 : (o == 48) = false := by simp; omega
    have e49 : (o == 49) = false := by simp; omega
    have e50 : (o == 50) = false := by simp; omega
    have e51 : (o == 51) = false := by simp; omega
    have e52 : (o == 52) = false := by simp; omega
    clear h
    go_enter Tryz.func40, Tryz.ntmps40
    go_wp2
    go_ret
    exact ⟨rfl, rfl⟩

/-- An instruction in a row. -/
def cellsI (o s t d a i : Int) : Array Value := #[.int .i64 o, .int .i64 s, .int .i64 t, .int .i64 d, .int .i64 a, .int .i64 i]

/-- The registers and the number of a plain instruction. -/
def fillV (o s t d a i : Int) : Mi :=
  if o = 52 then ⟨0, t, 0, 0, i % 4294967296 * 65536 % 4294967296, 0⟩ else if o = 0 ∨ o = 1 ∨ o = 2 then ⟨0, d, t, 32, a % 4294967296, 0⟩ else if o = 3 ∨ o = 4 ∨ o = 5 then ⟨0, d, t, s, 0, 0⟩
  else if 46 ≤ o ∧ o ≤ 51 then ⟨0, t, s, 32, i % 4294967296, 0⟩ else ⟨0, d, s, t, 0, 0⟩

theorem filled_lui (s t d a i : Int) (w : World) : Calls Tryz.prog 41 #[.agg (cellsI 52 s t d a i)] w fun e w' => e = .returned (.agg (cellsM (fillV 52 s t d a i))) ∧ Below w.heap.size w w' := by
  obtain ⟨r1, r2, r3, r4, r5, r6, r7, r8, r9⟩ := rowRules
  obtain ⟨s1, s2, s3, s4, s5, s6, s7, s8, s9, s10⟩ := irSizes
  obtain ⟨q1, q2, q3, q4, q5, q6⟩ := irWhole
  obtain ⟨t1, t2, t3, t4, t5, t6, t7⟩ := irSets
  unfold cellsI
  go_enter Tryz.func41, Tryz.ntmps41
  go_wp2
  refine bodyPost_ret (v := .agg (cellsM ⟨0, t, 0, 0, i % 4294967296 * 65536 % 4294967296, 0⟩)) (by simp [results, Tryz.results41, go_sem, M0, *]) rfl ⟨rfl, ?_⟩
  exact onto (grow _ _) (Nat.le_refl _) (grow _ _)

set_option maxHeartbeats 4000000 in
theorem filled_raw (o s t d a i : Int) (h52 : (o == 52) = false) (N : ByteArray) (w : World) (tb : De.Tabs w) (hN : ∀ w, De.Tabs w → Calls Tryz.prog 75 #[.int .i64 o] w fun e w' => e = .returned (.string N) ∧ Below w.heap.size w w') (m : Mi)
    (hm : (N.toList = [83, 72] ∧ m = ⟨0, d, t, 32, a % 4294967296, 0⟩) ∨ (N.toList = [83, 86] ∧ m = ⟨0, d, t, s, 0, 0⟩) ∨ (N.toList = [73] ∧ m = ⟨0, t, s, 32, i % 4294967296, 0⟩) ∨ (N.toList = [73, 85] ∧ m = ⟨0, t, s, 32, i % 4294967296, 0⟩) ∨ (N.toList = [82] ∧ m = ⟨0, d, s, t, 0, 0⟩)) :
    Calls Tryz.prog 41 #[.agg (cellsI o s t d a i)] w fun e w' => e = .returned (.agg (cellsM m)) ∧ Below w.heap.size w w' := by
  obtain ⟨r1, r2, r3, r4, r5, r6, r7, r8, r9⟩ := rowRules
  obtain ⟨s1, s2, s3, s4, s5, s6, s7, s8, s9, s10⟩ := irSizes
  obtain ⟨q1, q2, q3, q4, q5, q6⟩ := irWhole
  obtain ⟨t1, t2, t3, t4, t5, t6, t7⟩ := irSets
  obtain ⟨k1, k2⟩ := rowSets
  have b0 := Box.new w (cellsI o s t d a i) 73
  have b1 := Box.new (w.alloc (.cells (cellsI o s t d a i) 73)) (cellsM M0) 66
  have g := onto (grow w (.cells (cellsI o s t d a i) 73)) (Nat.le_refl _) (grow _ (.cells (cellsM M0) 66))
  simp only [World.size_alloc] at b1
  have b0 := b0.on (grow _ (.cells (cellsM M0) 66))
  have cf := hide (hN _ (tb.on g))
  clear hN tb
  rcases hm with ⟨hN, rfl⟩ | ⟨hN, rfl⟩ | ⟨hN, rfl⟩ | ⟨hN, rfl⟩ | ⟨hN, rfl⟩
  all_goals
    unfold cellsI at *
    go_enter Tryz.func41, Tryz.ntmps41
    go_wp2_with fail
    refine cf.out.mono ?_
    rintro e y ⟨rfl, hy⟩
    have c0 := b0.on hy
    obtain ⟨y1, y2, y3⟩ := b1.on hy
    have hB := onto g (Nat.le_refl _) hy
    have d1 : y.cell? ⟨w.heap.size, 1, none⟩ = some (.int .i64 s) := c0.cell 1
    have d2 : y.cell? ⟨w.heap.size, 2, none⟩ = some (.int .i64 t) := c0.cell 2
    have d3 : y.cell? ⟨w.heap.size, 3, none⟩ = some (.int .i64 d) := c0.cell 3
    have d4 : y.cell? ⟨w.heap.size, 4, none⟩ = some (.int .i64 a) := c0.cell 4
    have d5 : y.cell? ⟨w.heap.size, 5, none⟩ = some (.int .i64 i) := c0.cell 5
    clear c0 hy cf b0 b1 g
    go_wp2
    first
      | refine bodyPost_ret (v := .agg (cellsM ⟨0, d, t, 32, a % 4294967296, 0⟩)) (by simp [results, Tryz.results41, go_sem, M0, *]; done) rfl ⟨rfl, ?_⟩
      | refine bodyPost_ret (v := .agg (cellsM ⟨0, d, t, s, 0, 0⟩)) (by simp [results, Tryz.results41, go_sem, M0, *]; done) rfl ⟨rfl, ?_⟩
      | refine bodyPost_ret (v := .agg (cellsM ⟨0, t, s, 32, i % 4294967296, 0⟩)) (by simp [results, Tryz.results41, go_sem, M0, *]; done) rfl ⟨rfl, ?_⟩
      | refine bodyPost_ret (v := .agg (cellsM ⟨0, d, s, t, 0, 0⟩)) (by simp [results, Tryz.results41, go_sem, M0, *]; done) rfl ⟨rfl, ?_⟩
    exact below_setRow hB (by omega) _

theorem filled_any {o : Int} (ho : isPl o) (s t d a i : Int) (w : World) (tb : De.Tabs w) : Calls Tryz.prog 41 #[.agg (cellsI o s t d a i)] w fun e w' => e = .returned (.agg (cellsM (fillV o s t d a i))) ∧ Below w.heap.size w w' := by
  unfold isPl at ho
  rcases ho with (rfl | rfl | rfl | rfl | rfl | rfl | rfl | rfl | rfl | rfl | rfl) | rfl | rfl | rfl | rfl | rfl | rfl | rfl | rfl | rfl | rfl
  · exact filled_lui s t d a i w
  all_goals
    first
      | exact filled_raw _ s t d a i (by decide) ⟨#[82]⟩ w tb (fun w tb => De.form_any _ w tb) _ (Or.inr (Or.inr (Or.inr (Or.inr ⟨by rw [ByteArray.toList_eq], rfl⟩))))
      | exact filled_raw _ s t d a i (by decide) ⟨#[73]⟩ w tb (fun w tb => De.form_any _ w tb) _ (Or.inr (Or.inr (Or.inl ⟨by rw [ByteArray.toList_eq], rfl⟩)))
      | exact filled_raw _ s t d a i (by decide) ⟨#[73, 85]⟩ w tb (fun w tb => De.form_any _ w tb) _ (Or.inr (Or.inr (Or.inr (Or.inl ⟨by rw [ByteArray.toList_eq], rfl⟩))))
      | exact filled_raw _ s t d a i (by decide) ⟨#[83, 72]⟩ w tb (fun w tb => De.form_any _ w tb) _ (Or.inl ⟨by rw [ByteArray.toList_eq], rfl⟩)
      | exact filled_raw _ s t d a i (by decide) ⟨#[83, 86]⟩ w tb (fun w tb => De.form_any _ w tb) _ (Or.inr (Or.inl ⟨by rw [ByteArray.toList_eq], rfl⟩))

end Go.Proofs.YtmegghgjllbamaaGreatDoor.Ir
