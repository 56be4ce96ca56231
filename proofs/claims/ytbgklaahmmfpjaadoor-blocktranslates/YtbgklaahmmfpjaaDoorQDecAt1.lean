/- The contract of the document's table, rows 0 to 22. -/
import Derived.Test.YtbgklaahmmfpjaaDoorQDeAll
namespace Go.Proofs.YtbgklaahmmfpjaaDoor.De
open Go.RowKit
set_option linter.unusedVariables false
set_option maxRecDepth 100000

theorem first_0 (w : World) :
    Calls Tryd.prog 17 #[.int .i64 0] w fun e w' => e = .returned (.agg #[.string (Dec.name 0), .string (Dec.lname (Dec.fm 0)), .int .i64 (Dec.mj 0 : Nat), .int .i64 (Dec.mn 0 : Nat)]) ∧ Below w.heap.size w w' := by
  go_enter Tryd.func17, Tryd.ntmps17
  go_wp2
  refine bodyPost_ret (v := .agg #[.string (Dec.name 0), .string (Dec.lname (Dec.fm 0)), .int .i64 (Dec.mj 0 : Nat), .int .i64 (Dec.mn 0 : Nat)]) ?_ rfl ⟨rfl, (Below.refl _ _).alloc (Nat.le_refl _) _⟩
  simp [results, Tryd.results17, go_sem]
  exact ⟨rfl, rfl, rfl, rfl⟩

theorem first_1 (w : World) :
    Calls Tryd.prog 17 #[.int .i64 1] w fun e w' => e = .returned (.agg #[.string (Dec.name 1), .string (Dec.lname (Dec.fm 1)), .int .i64 (Dec.mj 1 : Nat), .int .i64 (Dec.mn 1 : Nat)]) ∧ Below w.heap.size w w' := by
  go_enter Tryd.func17, Tryd.ntmps17
  go_wp2
  refine bodyPost_ret (v := .agg #[.string (Dec.name 1), .string (Dec.lname (Dec.fm 1)), .int .i64 (Dec.mj 1 : Nat), .int .i64 (Dec.mn 1 : Nat)]) ?_ rfl ⟨rfl, (Below.refl _ _).alloc (Nat.le_refl _) _⟩
  simp [results, Tryd.results17, go_sem]
  exact ⟨rfl, rfl, rfl, rfl⟩

theorem first_2 (w : World) :
    Calls Tryd.prog 17 #[.int .i64 2] w fun e w' => e = .returned (.agg #[.string (Dec.name 2), .string (Dec.lname (Dec.fm 2)), .int .i64 (Dec.mj 2 : Nat), .int .i64 (Dec.mn 2 : Nat)]) ∧ Below w.heap.size w w' := by
  go_enter Tryd.func17, Tryd.ntmps17
  go_wp2
  refine bodyPost_ret (v := .agg #[.string (Dec.name 2), .string (Dec.lname (Dec.fm 2)), .int .i64 (Dec.mj 2 : Nat), .int .i64 (Dec.mn 2 : Nat)]) ?_ rfl ⟨rfl, (Below.refl _ _).alloc (Nat.le_refl _) _⟩
  simp [results, Tryd.results17, go_sem]
  exact ⟨rfl, rfl, rfl, rfl⟩

theorem first_3 (w : World) :
    Calls Tryd.prog 17 #[.int .i64 3] w fun e w' => e = .returned (.agg #[.string (Dec.name 3), .string (Dec.lname (Dec.fm 3)), .int .i64 (Dec.mj 3 : Nat), .int .i64 (Dec.mn 3 : Nat)]) ∧ Below w.heap.size w w' := by
  go_enter Tryd.func17, Tryd.ntmps17
  go_wp2
  refine bodyPost_ret (v := .agg #[.string (Dec.name 3), .string (Dec.lname (Dec.fm 3)), .int .i64 (Dec.mj 3 : Nat), .int .i64 (Dec.mn 3 : Nat)]) ?_ rfl ⟨rfl, (Below.refl _ _).alloc (Nat.le_refl _) _⟩
  simp [results, Tryd.results17, go_sem]
  exact ⟨rfl, rfl, rfl, rfl⟩

theorem first_4 (w : World) :
    Calls Tryd.prog 17 #[.int .i64 4] w fun e w' => e = .returned (.agg #[.string (Dec.name 4), .string (Dec.lname (Dec.fm 4)), .int .i64 (Dec.mj 4 : Nat), .int .i64 (Dec.mn 4 : Nat)]) ∧ Below w.heap.size w w' := by
  go_enter Tryd.func17, Tryd.ntmps17
  go_wp2
  refine bodyPost_ret (v := .agg #[.string (Dec.name 4), .string (Dec.lname (Dec.fm 4)), .int .i64 (Dec.mj 4 : Nat), .int .i64 (Dec.mn 4 : Nat)]) ?_ rfl ⟨rfl, (Below.refl _ _).alloc (Nat.le_refl _) _⟩
  simp [results, Tryd.results17, go_sem]
  exact ⟨rfl, rfl, rfl, rfl⟩

theorem first_5 (w : World) :
    Calls Tryd.prog 17 #[.int .i64 5] w fun e w' => e = .returned (.agg #[.string (Dec.name 5), .string (Dec.lname (Dec.fm 5)), .int .i64 (Dec.mj 5 : Nat), .int .i64 (Dec.mn 5 : Nat)]) ∧ Below w.heap.size w w' := by
  go_enter Tryd.func17, Tryd.ntmps17
  go_wp2
  refine bodyPost_ret (v := .agg #[.string (Dec.name 5), .string (Dec.lname (Dec.fm 5)), .int .i64 (Dec.mj 5 : Nat), .int .i64 (Dec.mn 5 : Nat)]) ?_ rfl ⟨rfl, (Below.refl _ _).alloc (Nat.le_refl _) _⟩
  simp [results, Tryd.results17, go_sem]
  exact ⟨rfl, rfl, rfl, rfl⟩

theorem first_6 (w : World) :
    Calls Tryd.prog 17 #[.int .i64 6] w fun e w' => e = .returned (.agg #[.string (Dec.name 6), .string (Dec.lname (Dec.fm 6)), .int .i64 (Dec.mj 6 : Nat), .int .i64 (Dec.mn 6 : Nat)]) ∧ Below w.heap.size w w' := by
  go_enter Tryd.func17, Tryd.ntmps17
  go_wp2
  refine bodyPost_ret (v := .agg #[.string (Dec.name 6), .string (Dec.lname (Dec.fm 6)), .int .i64 (Dec.mj 6 : Nat), .int .i64 (Dec.mn 6 : Nat)]) ?_ rfl ⟨rfl, (Below.refl _ _).alloc (Nat.le_refl _) _⟩
  simp [results, Tryd.results17, go_sem]
  exact ⟨rfl, rfl, rfl, rfl⟩

theorem first_7 (w : World) :
    Calls Tryd.prog 17 #[.int .i64 7] w fun e w' => e = .returned (.agg #[.string (Dec.name 7), .string (Dec.lname (Dec.fm 7)), .int .i64 (Dec.mj 7 : Nat), .int .i64 (Dec.mn 7 : Nat)]) ∧ Below w.heap.size w w' := by
  go_enter Tryd.func17, Tryd.ntmps17
  go_wp2
  refine bodyPost_ret (v := .agg #[.string (Dec.name 7), .string (Dec.lname (Dec.fm 7)), .int .i64 (Dec.mj 7 : Nat), .int .i64 (Dec.mn 7 : Nat)]) ?_ rfl ⟨rfl, (Below.refl _ _).alloc (Nat.le_refl _) _⟩
  simp [results, Tryd.results17, go_sem]
  exact ⟨rfl, rfl, rfl, rfl⟩

theorem first_8 (w : World) :
    Calls Tryd.prog 17 #[.int .i64 8] w fun e w' => e = .returned (.agg #[.string (Dec.name 8), .string (Dec.lname (Dec.fm 8)), .int .i64 (Dec.mj 8 : Nat), .int .i64 (Dec.mn 8 : Nat)]) ∧ Below w.heap.size w w' := by
  go_enter Tryd.func17, Tryd.ntmps17
  go_wp2
  refine bodyPost_ret (v := .agg #[.string (Dec.name 8), .string (Dec.lname (Dec.fm 8)), .int .i64 (Dec.mj 8 : Nat), .int .i64 (Dec.mn 8 : Nat)]) ?_ rfl ⟨rfl, (Below.refl _ _).alloc (Nat.le_refl _) _⟩
  simp [results, Tryd.results17, go_sem]
  exact ⟨rfl, rfl, rfl, rfl⟩

theorem first_9 (w : World) :
    Calls Tryd.prog 17 #[.int .i64 9] w fun e w' => e = .returned (.agg #[.string (Dec.name 9), .string (Dec.lname (Dec.fm 9)), .int .i64 (Dec.mj 9 : Nat), .int .i64 (Dec.mn 9 : Nat)]) ∧ Below w.heap.size w w' := by
  go_enter Tryd.func17, Tryd.ntmps17
  go_wp2
  refine bodyPost_ret (v := .agg #[.string (Dec.name 9), .string (Dec.lname (Dec.fm 9)), .int .i64 (Dec.mj 9 : Nat), .int .i64 (Dec.mn 9 : Nat)]) ?_ rfl ⟨rfl, (Below.refl _ _).alloc (Nat.le_refl _) _⟩
  simp [results, Tryd.results17, go_sem]
  exact ⟨rfl, rfl, rfl, rfl⟩

theorem first_10 (w : World) :
    Calls Tryd.prog 17 #[.int .i64 10] w fun e w' => e = .returned (.agg #[.string (Dec.name 10), .string (Dec.lname (Dec.fm 10)), .int .i64 (Dec.mj 10 : Nat), .int .i64 (Dec.mn 10 : Nat)]) ∧ Below w.heap.size w w' := by
  go_enter Tryd.func17, Tryd.ntmps17
  go_wp2
  refine bodyPost_ret (v := .agg #[.string (Dec.name 10), .string (Dec.lname (Dec.fm 10)), .int .i64 (Dec.mj 10 : Nat), .int .i64 (Dec.mn 10 : Nat)]) ?_ rfl ⟨rfl, (Below.refl _ _).alloc (Nat.le_refl _) _⟩
  simp [results, Tryd.results17, go_sem]
  exact ⟨rfl, rfl, rfl, rfl⟩

theorem first_11 (w : World) :
    Calls Tryd.prog 17 #[.int .i64 11] w fun e w' => e = .returned (.agg #[.string (Dec.name 11), .string (Dec.lname (Dec.fm 11)), .int .i64 (Dec.mj 11 : Nat), .int .i64 (Dec.mn 11 : Nat)]) ∧ Below w.heap.size w w' := by
  go_enter Tryd.func17, Tryd.ntmps17
  go_wp2
  refine bodyPost_ret (v := .agg #[.string (Dec.name 11), .string (Dec.lname (Dec.fm 11)), .int .i64 (Dec.mj 11 : Nat), .int .i64 (Dec.mn 11 : Nat)]) ?_ rfl ⟨rfl, (Below.refl _ _).alloc (Nat.le_refl _) _⟩
  simp [results, Tryd.results17, go_sem]
  exact ⟨rfl, rfl, rfl, rfl⟩

theorem first_12 (w : World) :
    Calls Tryd.prog 17 #[.int .i64 12] w fun e w' => e = .returned (.agg #[.string (Dec.name 12), .string (Dec.lname (Dec.fm 12)), .int .i64 (Dec.mj 12 : Nat), .int .i64 (Dec.mn 12 : Nat)]) ∧ Below w.heap.size w w' := by
  go_enter Tryd.func17, Tryd.ntmps17
  go_wp2
  refine bodyPost_ret (v := .agg #[.string (Dec.name 12), .string (Dec.lname (Dec.fm 12)), .int .i64 (Dec.mj 12 : Nat), .int .i64 (Dec.mn 12 : Nat)]) ?_ rfl ⟨rfl, (Below.refl _ _).alloc (Nat.le_refl _) _⟩
  simp [results, Tryd.results17, go_sem]
  exact ⟨rfl, rfl, rfl, rfl⟩

theorem first_13 (w : World) :
    Calls Tryd.prog 17 #[.int .i64 13] w fun e w' => e = .returned (.agg #[.string (Dec.name 13), .string (Dec.lname (Dec.fm 13)), .int .i64 (Dec.mj 13 : Nat), .int .i64 (Dec.mn 13 : Nat)]) ∧ Below w.heap.size w w' := by
  go_enter Tryd.func17, Tryd.ntmps17
  go_wp2
  refine bodyPost_ret (v := .agg #[.string (Dec.name 13), .string (Dec.lname (Dec.fm 13)), .int .i64 (Dec.mj 13 : Nat), .int .i64 (Dec.mn 13 : Nat)]) ?_ rfl ⟨rfl, (Below.refl _ _).alloc (Nat.le_refl _) _⟩
  simp [results, Tryd.results17, go_sem]
  exact ⟨rfl, rfl, rfl, rfl⟩

theorem first_14 (w : World) :
    Calls Tryd.prog 17 #[.int .i64 14] w fun e w' => e = .returned (.agg #[.string (Dec.name 14), .string (Dec.lname (Dec.fm 14)), .int .i64 (Dec.mj 14 : Nat), .int .i64 (Dec.mn 14 : Nat)]) ∧ Below w.heap.size w w' := by
  go_enter Tryd.func17, Tryd.ntmps17
  go_wp2
  refine bodyPost_ret (v := .agg #[.string (Dec.name 14), .string (Dec.lname (Dec.fm 14)), .int .i64 (Dec.mj 14 : Nat), .int .i64 (Dec.mn 14 : Nat)]) ?_ rfl ⟨rfl, (Below.refl _ _).alloc (Nat.le_refl _) _⟩
  simp [results, Tryd.results17, go_sem]
  exact ⟨rfl, rfl, rfl, rfl⟩

theorem first_15 (w : World) :
    Calls Tryd.prog 17 #[.int .i64 15] w fun e w' => e = .returned (.agg #[.string (Dec.name 15), .string (Dec.lname (Dec.fm 15)), .int .i64 (Dec.mj 15 : Nat), .int .i64 (Dec.mn 15 : Nat)]) ∧ Below w.heap.size w w' := by
  go_enter Tryd.func17, Tryd.ntmps17
  go_wp2
  refine bodyPost_ret (v := .agg #[.string (Dec.name 15), .string (Dec.lname (Dec.fm 15)), .int .i64 (Dec.mj 15 : Nat), .int .i64 (Dec.mn 15 : Nat)]) ?_ rfl ⟨rfl, (Below.refl _ _).alloc (Nat.le_refl _) _⟩
  simp [results, Tryd.results17, go_sem]
  exact ⟨rfl, rfl, rfl, rfl⟩

theorem first_16 (w : World) :
    Calls Tryd.prog 17 #[.int .i64 16] w fun e w' => e = .returned (.agg #[.string (Dec.name 16), .string (Dec.lname (Dec.fm 16)), .int .i64 (Dec.mj 16 : Nat), .int .i64 (Dec.mn 16 : Nat)]) ∧ Below w.heap.size w w' := by
  go_enter Tryd.func17, Tryd.ntmps17
  go_wp2
  refine bodyPost_ret (v := .agg #[.string (Dec.name 16), .string (Dec.lname (Dec.fm 16)), .int .i64 (Dec.mj 16 : Nat), .int .i64 (Dec.mn 16 : Nat)]) ?_ rfl ⟨rfl, (Below.refl _ _).alloc (Nat.le_refl _) _⟩
  simp [results, Tryd.results17, go_sem]
  exact ⟨rfl, rfl, rfl, rfl⟩

theorem first_17 (w : World) :
    Calls Tryd.prog 17 #[.int .i64 17] w fun e w' => e = .returned (.agg #[.string (Dec.name 17), .string (Dec.lname (Dec.fm 17)), .int .i64 (Dec.mj 17 : Nat), .int .i64 (Dec.mn 17 : Nat)]) ∧ Below w.heap.size w w' := by
  go_enter Tryd.func17, Tryd.ntmps17
  go_wp2
  refine bodyPost_ret (v := .agg #[.string (Dec.name 17), .string (Dec.lname (Dec.fm 17)), .int .i64 (Dec.mj 17 : Nat), .int .i64 (Dec.mn 17 : Nat)]) ?_ rfl ⟨rfl, (Below.refl _ _).alloc (Nat.le_refl _) _⟩
  simp [results, Tryd.results17, go_sem]
  exact ⟨rfl, rfl, rfl, rfl⟩

theorem first_18 (w : World) :
    Calls Tryd.prog 17 #[.int .i64 18] w fun e w' => e = .returned (.agg #[.string (Dec.name 18), .string (Dec.lname (Dec.fm 18)), .int .i64 (Dec.mj 18 : Nat), .int .i64 (Dec.mn 18 : Nat)]) ∧ Below w.heap.size w w' := by
  go_enter Tryd.func17, Tryd.ntmps17
  go_wp2
  refine bodyPost_ret (v := .agg #[.string (Dec.name 18), .string (Dec.lname (Dec.fm 18)), .int .i64 (Dec.mj 18 : Nat), .int .i64 (Dec.mn 18 : Nat)]) ?_ rfl ⟨rfl, (Below.refl _ _).alloc (Nat.le_refl _) _⟩
  simp [results, Tryd.results17, go_sem]
  exact ⟨rfl, rfl, rfl, rfl⟩

theorem first_19 (w : World) :
    Calls Tryd.prog 17 #[.int .i64 19] w fun e w' => e = .returned (.agg #[.string (Dec.name 19), .string (Dec.lname (Dec.fm 19)), .int .i64 (Dec.mj 19 : Nat), .int .i64 (Dec.mn 19 : Nat)]) ∧ Below w.heap.size w w' := by
  go_enter Tryd.func17, Tryd.ntmps17
  go_wp2
  refine bodyPost_ret (v := .agg #[.string (Dec.name 19), .string (Dec.lname (Dec.fm 19)), .int .i64 (Dec.mj 19 : Nat), .int .i64 (Dec.mn 19 : Nat)]) ?_ rfl ⟨rfl, (Below.refl _ _).alloc (Nat.le_refl _) _⟩
  simp [results, Tryd.results17, go_sem]
  exact ⟨rfl, rfl, rfl, rfl⟩

theorem first_20 (w : World) :
    Calls Tryd.prog 17 #[.int .i64 20] w fun e w' => e = .returned (.agg #[.string (Dec.name 20), .string (Dec.lname (Dec.fm 20)), .int .i64 (Dec.mj 20 : Nat), .int .i64 (Dec.mn 20 : Nat)]) ∧ Below w.heap.size w w' := by
  go_enter Tryd.func17, Tryd.ntmps17
  go_wp2
  refine bodyPost_ret (v := .agg #[.string (Dec.name 20), .string (Dec.lname (Dec.fm 20)), .int .i64 (Dec.mj 20 : Nat), .int .i64 (Dec.mn 20 : Nat)]) ?_ rfl ⟨rfl, (Below.refl _ _).alloc (Nat.le_refl _) _⟩
  simp [results, Tryd.results17, go_sem]
  exact ⟨rfl, rfl, rfl, rfl⟩

theorem first_21 (w : World) :
    Calls Tryd.prog 17 #[.int .i64 21] w fun e w' => e = .returned (.agg #[.string (Dec.name 21), .string (Dec.lname (Dec.fm 21)), .int .i64 (Dec.mj 21 : Nat), .int .i64 (Dec.mn 21 : Nat)]) ∧ Below w.heap.size w w' := by
  go_enter Tryd.func17, Tryd.ntmps17
  go_wp2
  refine bodyPost_ret (v := .agg #[.string (Dec.name 21), .string (Dec.lname (Dec.fm 21)), .int .i64 (Dec.mj 21 : Nat), .int .i64 (Dec.mn 21 : Nat)]) ?_ rfl ⟨rfl, (Below.refl _ _).alloc (Nat.le_refl _) _⟩
  simp [results, Tryd.results17, go_sem]
  exact ⟨rfl, rfl, rfl, rfl⟩

theorem first_22 (w : World) :
    Calls Tryd.prog 17 #[.int .i64 22] w fun e w' => e = .returned (.agg #[.string (Dec.name 22), .string (Dec.lname (Dec.fm 22)), .int .i64 (Dec.mj 22 : Nat), .int .i64 (Dec.mn 22 : Nat)]) ∧ Below w.heap.size w w' := by
  go_enter Tryd.func17, Tryd.ntmps17
  go_wp2
  refine bodyPost_ret (v := .agg #[.string (Dec.name 22), .string (Dec.lname (Dec.fm 22)), .int .i64 (Dec.mj 22 : Nat), .int .i64 (Dec.mn 22 : Nat)]) ?_ rfl ⟨rfl, (Below.refl _ _).alloc (Nat.le_refl _) _⟩
  simp [results, Tryd.results17, go_sem]
  exact ⟨rfl, rfl, rfl, rfl⟩

theorem first_none (op : Int) (h : op < 0) (w : World) :
    Calls Tryd.prog 17 #[.int .i64 op] w fun e w' => e = .returned (.agg #[.string (Dec.name 69), .string (Dec.lname (Dec.fm 69)), .int .i64 (Dec.mj 69 : Nat), .int .i64 (Dec.mn 69 : Nat)]) ∧ Below w.heap.size w w' := by
  have h0 : (op == 0) = false := by simp; omega
  have h1 : (op == 1) = false := by simp; omega
  have h2 : (op == 2) = false := by simp; omega
  have h3 : (op == 3) = false := by simp; omega
  have h4 : (op == 4) = false := by simp; omega
  have h5 : (op == 5) = false := by simp; omega
  have h6 : (op == 6) = false := by simp; omega
  have h7 : (op == 7) = false := by simp; omega
  have h8 : (op == 8) = false := by simp; omega
  have h9 : (op == 9) = false := by simp; omega
  have h10 : (op == 10) = false := by simp; omega
  have h11 : (op == 11) = false := by simp; omega
  have h12 : (op == 12) = false := by simp; omega
  have h13 : (op == 13) = false := by simp; omega
  have h14 : (op == 14) = false := by simp; omega
  have h15 : (op == 15) = false := by simp; omega
  have h16 : (op == 16) = false := by simp; omega
  have h17 : (op == 17) = false := by simp; omega
  have h18 : (op == 18) = false := by simp; omega
  have h19 : (op == 19) = false := by simp; omega
  have h20 : (op == 20) = false := by simp; omega
  have h21 : (op == 21) = false := by simp; omega
  have h22 : (op == 22) = false := by simp; omega
  clear h
  go_enter Tryd.func17, Tryd.ntmps17
  go_wp2
  refine bodyPost_ret (v := .agg #[.string (Dec.name 69), .string (Dec.lname (Dec.fm 69)), .int .i64 (Dec.mj 69 : Nat), .int .i64 (Dec.mn 69 : Nat)]) ?_ rfl ⟨rfl, (Below.refl _ _).alloc (Nat.le_refl _) _⟩
  simp [results, Tryd.results17, go_sem]
  exact ⟨rfl, rfl, rfl, rfl⟩

theorem first_any (op : Nat) (h1 : 0 ≤ op) (h2 : op < 23) (w : World) :
    Calls Tryd.prog 17 #[.int .i64 (op : Int)] w fun e w' => e = .returned (.agg #[.string (Dec.name op), .string (Dec.lname (Dec.fm op)), .int .i64 (Dec.mj op : Nat), .int .i64 (Dec.mn op : Nat)]) ∧ Below w.heap.size w w' := by
  obtain ⟨k, rfl⟩ : ∃ k, op = 0 + k := ⟨op - 0, by omega⟩
  match k, h2 with
  | 0, _ => exact first_0 w
  | 1, _ => exact first_1 w
  | 2, _ => exact first_2 w
  | 3, _ => exact first_3 w
  | 4, _ => exact first_4 w
  | 5, _ => exact first_5 w
  | 6, _ => exact first_6 w
  | 7, _ => exact first_7 w
  | 8, _ => exact first_8 w
  | 9, _ => exact first_9 w
  | 10, _ => exact first_10 w
  | 11, _ => exact first_11 w
  | 12, _ => exact first_12 w
  | 13, _ => exact first_13 w
  | 14, _ => exact first_14 w
  | 15, _ => exact first_15 w
  | 16, _ => exact first_16 w
  | 17, _ => exact first_17 w
  | 18, _ => exact first_18 w
  | 19, _ => exact first_19 w
  | 20, _ => exact first_20 w
  | 21, _ => exact first_21 w
  | 22, _ => exact first_22 w
  | n + 23, h => exact absurd h (by omega)

end Go.Proofs.YtbgklaahmmfpjaaDoor.De
