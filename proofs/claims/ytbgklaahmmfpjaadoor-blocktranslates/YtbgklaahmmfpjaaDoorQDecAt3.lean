/- The contract of the document's table, rows 46 to 68. -/
import Derived.Test.YtbgklaahmmfpjaaDoorQDeAll
namespace Go.Proofs.YtbgklaahmmfpjaaDoor.De
open Go.RowKit
set_option linter.unusedVariables false
set_option maxRecDepth 100000

theorem third_46 (w : World) :
    Calls Tryd.prog 19 #[.int .i64 46] w fun e w' => e = .returned (.agg #[.string (Dec.name 46), .string (Dec.lname (Dec.fm 46)), .int .i64 (Dec.mj 46 : Nat), .int .i64 (Dec.mn 46 : Nat)]) ∧ Below w.heap.size w w' := by
  go_enter Tryd.func19, Tryd.ntmps19
  go_wp2
  refine bodyPost_ret (v := .agg #[.string (Dec.name 46), .string (Dec.lname (Dec.fm 46)), .int .i64 (Dec.mj 46 : Nat), .int .i64 (Dec.mn 46 : Nat)]) ?_ rfl ⟨rfl, (Below.refl _ _).alloc (Nat.le_refl _) _⟩
  simp [results, Tryd.results19, go_sem]
  exact ⟨rfl, rfl, rfl, rfl⟩

theorem third_47 (w : World) :
    Calls Tryd.prog 19 #[.int .i64 47] w fun e w' => e = .returned (.agg #[.string (Dec.name 47), .string (Dec.lname (Dec.fm 47)), .int .i64 (Dec.mj 47 : Nat), .int .i64 (Dec.mn 47 : Nat)]) ∧ Below w.heap.size w w' := by
  go_enter Tryd.func19, Tryd.ntmps19
  go_wp2
  refine bodyPost_ret (v := .agg #[.string (Dec.name 47), .string (Dec.lname (Dec.fm 47)), .int .i64 (Dec.mj 47 : Nat), .int .i64 (Dec.mn 47 : Nat)]) ?_ rfl ⟨rfl, (Below.refl _ _).alloc (Nat.le_refl _) _⟩
  simp [results, Tryd.results19, go_sem]
  exact ⟨rfl, rfl, rfl, rfl⟩

theorem third_48 (w : World) :
    Calls Tryd.prog 19 #[.int .i64 48] w fun e w' => e = .returned (.agg #[.string (Dec.name 48), .string (Dec.lname (Dec.fm 48)), .int .i64 (Dec.mj 48 : Nat), .int .i64 (Dec.mn 48 : Nat)]) ∧ Below w.heap.size w w' := by
  go_enter Tryd.func19, Tryd.ntmps19
  go_wp2
  refine bodyPost_ret (v := .agg #[.string (Dec.name 48), .string (Dec.lname (Dec.fm 48)), .int .i64 (Dec.mj 48 : Nat), .int .i64 (Dec.mn 48 : Nat)]) ?_ rfl ⟨rfl, (Below.refl _ _).alloc (Nat.le_refl _) _⟩
  simp [results, Tryd.results19, go_sem]
  exact ⟨rfl, rfl, rfl, rfl⟩

theorem third_49 (w : World) :
    Calls Tryd.prog 19 #[.int .i64 49] w fun e w' => e = .returned (.agg #[.string (Dec.name 49), .string (Dec.lname (Dec.fm 49)), .int .i64 (Dec.mj 49 : Nat), .int .i64 (Dec.mn 49 : Nat)]) ∧ Below w.heap.size w w' := by
  go_enter Tryd.func19, Tryd.ntmps19
  go_wp2
  refine bodyPost_ret (v := .agg #[.string (Dec.name 49), .string (Dec.lname (Dec.fm 49)), .int .i64 (Dec.mj 49 : Nat), .int .i64 (Dec.mn 49 : Nat)]) ?_ rfl ⟨rfl, (Below.refl _ _).alloc (Nat.le_refl _) _⟩
  simp [results, Tryd.results19, go_sem]
  exact ⟨rfl, rfl, rfl, rfl⟩

theorem third_50 (w : World) :
    Calls Tryd.prog 19 #[.int .i64 50] w fun e w' => e = .returned (.agg #[.string (Dec.name 50), .string (Dec.lname (Dec.fm 50)), .int .i64 (Dec.mj 50 : Nat), .int .i64 (Dec.mn 50 : Nat)]) ∧ Below w.heap.size w w' := by
  go_enter Tryd.func19, Tryd.ntmps19
  go_wp2
  refine bodyPost_ret (v := .agg #[.string (Dec.name 50), .string (Dec.lname (Dec.fm 50)), .int .i64 (Dec.mj 50 : Nat), .int .i64 (Dec.mn 50 : Nat)]) ?_ rfl ⟨rfl, (Below.refl _ _).alloc (Nat.le_refl _) _⟩
  simp [results, Tryd.results19, go_sem]
  exact ⟨rfl, rfl, rfl, rfl⟩

theorem third_51 (w : World) :
    Calls Tryd.prog 19 #[.int .i64 51] w fun e w' => e = .returned (.agg #[.string (Dec.name 51), .string (Dec.lname (Dec.fm 51)), .int .i64 (Dec.mj 51 : Nat), .int .i64 (Dec.mn 51 : Nat)]) ∧ Below w.heap.size w w' := by
  go_enter Tryd.func19, Tryd.ntmps19
  go_wp2
  refine bodyPost_ret (v := .agg #[.string (Dec.name 51), .string (Dec.lname (Dec.fm 51)), .int .i64 (Dec.mj 51 : Nat), .int .i64 (Dec.mn 51 : Nat)]) ?_ rfl ⟨rfl, (Below.refl _ _).alloc (Nat.le_refl _) _⟩
  simp [results, Tryd.results19, go_sem]
  exact ⟨rfl, rfl, rfl, rfl⟩

theorem third_52 (w : World) :
    Calls Tryd.prog 19 #[.int .i64 52] w fun e w' => e = .returned (.agg #[.string (Dec.name 52), .string (Dec.lname (Dec.fm 52)), .int .i64 (Dec.mj 52 : Nat), .int .i64 (Dec.mn 52 : Nat)]) ∧ Below w.heap.size w w' := by
  go_enter Tryd.func19, Tryd.ntmps19
  go_wp2
  refine bodyPost_ret (v := .agg #[.string (Dec.name 52), .string (Dec.lname (Dec.fm 52)), .int .i64 (Dec.mj 52 : Nat), .int .i64 (Dec.mn 52 : Nat)]) ?_ rfl ⟨rfl, (Below.refl _ _).alloc (Nat.le_refl _) _⟩
  simp [results, Tryd.results19, go_sem]
  exact ⟨rfl, rfl, rfl, rfl⟩

theorem third_53 (w : World) :
    Calls Tryd.prog 19 #[.int .i64 53] w fun e w' => e = .returned (.agg #[.string (Dec.name 53), .string (Dec.lname (Dec.fm 53)), .int .i64 (Dec.mj 53 : Nat), .int .i64 (Dec.mn 53 : Nat)]) ∧ Below w.heap.size w w' := by
  go_enter Tryd.func19, Tryd.ntmps19
  go_wp2
  refine bodyPost_ret (v := .agg #[.string (Dec.name 53), .string (Dec.lname (Dec.fm 53)), .int .i64 (Dec.mj 53 : Nat), .int .i64 (Dec.mn 53 : Nat)]) ?_ rfl ⟨rfl, (Below.refl _ _).alloc (Nat.le_refl _) _⟩
  simp [results, Tryd.results19, go_sem]
  exact ⟨rfl, rfl, rfl, rfl⟩

theorem third_54 (w : World) :
    Calls Tryd.prog 19 #[.int .i64 54] w fun e w' => e = .returned (.agg #[.string (Dec.name 54), .string (Dec.lname (Dec.fm 54)), .int .i64 (Dec.mj 54 : Nat), .int .i64 (Dec.mn 54 : Nat)]) ∧ Below w.heap.size w w' := by
  go_enter Tryd.func19, Tryd.ntmps19
  go_wp2
  refine bodyPost_ret (v := .agg #[.string (Dec.name 54), .string (Dec.lname (Dec.fm 54)), .int .i64 (Dec.mj 54 : Nat), .int .i64 (Dec.mn 54 : Nat)]) ?_ rfl ⟨rfl, (Below.refl _ _).alloc (Nat.le_refl _) _⟩
  simp [results, Tryd.results19, go_sem]
  exact ⟨rfl, rfl, rfl, rfl⟩

theorem third_55 (w : World) :
    Calls Tryd.prog 19 #[.int .i64 55] w fun e w' => e = .returned (.agg #[.string (Dec.name 55), .string (Dec.lname (Dec.fm 55)), .int .i64 (Dec.mj 55 : Nat), .int .i64 (Dec.mn 55 : Nat)]) ∧ Below w.heap.size w w' := by
  go_enter Tryd.func19, Tryd.ntmps19
  go_wp2
  refine bodyPost_ret (v := .agg #[.string (Dec.name 55), .string (Dec.lname (Dec.fm 55)), .int .i64 (Dec.mj 55 : Nat), .int .i64 (Dec.mn 55 : Nat)]) ?_ rfl ⟨rfl, (Below.refl _ _).alloc (Nat.le_refl _) _⟩
  simp [results, Tryd.results19, go_sem]
  exact ⟨rfl, rfl, rfl, rfl⟩

theorem third_56 (w : World) :
    Calls Tryd.prog 19 #[.int .i64 56] w fun e w' => e = .returned (.agg #[.string (Dec.name 56), .string (Dec.lname (Dec.fm 56)), .int .i64 (Dec.mj 56 : Nat), .int .i64 (Dec.mn 56 : Nat)]) ∧ Below w.heap.size w w' := by
  go_enter Tryd.func19, Tryd.ntmps19
  go_wp2
  refine bodyPost_ret (v := .agg #[.string (Dec.name 56), .string (Dec.lname (Dec.fm 56)), .int .i64 (Dec.mj 56 : Nat), .int .i64 (Dec.mn 56 : Nat)]) ?_ rfl ⟨rfl, (Below.refl _ _).alloc (Nat.le_refl _) _⟩
  simp [results, Tryd.results19, go_sem]
  exact ⟨rfl, rfl, rfl, rfl⟩

theorem third_57 (w : World) :
    Calls Tryd.prog 19 #[.int .i64 57] w fun e w' => e = .returned (.agg #[.string (Dec.name 57), .string (Dec.lname (Dec.fm 57)), .int .i64 (Dec.mj 57 : Nat), .int .i64 (Dec.mn 57 : Nat)]) ∧ Below w.heap.size w w' := by
  go_enter Tryd.func19, Tryd.ntmps19
  go_wp2
  refine bodyPost_ret (v := .agg #[.string (Dec.name 57), .string (Dec.lname (Dec.fm 57)), .int .i64 (Dec.mj 57 : Nat), .int .i64 (Dec.mn 57 : Nat)]) ?_ rfl ⟨rfl, (Below.refl _ _).alloc (Nat.le_refl _) _⟩
  simp [results, Tryd.results19, go_sem]
  exact ⟨rfl, rfl, rfl, rfl⟩

theorem third_58 (w : World) :
    Calls Tryd.prog 19 #[.int .i64 58] w fun e w' => e = .returned (.agg #[.string (Dec.name 58), .string (Dec.lname (Dec.fm 58)), .int .i64 (Dec.mj 58 : Nat), .int .i64 (Dec.mn 58 : Nat)]) ∧ Below w.heap.size w w' := by
  go_enter Tryd.func19, Tryd.ntmps19
  go_wp2
  refine bodyPost_ret (v := .agg #[.string (Dec.name 58), .string (Dec.lname (Dec.fm 58)), .int .i64 (Dec.mj 58 : Nat), .int .i64 (Dec.mn 58 : Nat)]) ?_ rfl ⟨rfl, (Below.refl _ _).alloc (Nat.le_refl _) _⟩
  simp [results, Tryd.results19, go_sem]
  exact ⟨rfl, rfl, rfl, rfl⟩

theorem third_59 (w : World) :
    Calls Tryd.prog 19 #[.int .i64 59] w fun e w' => e = .returned (.agg #[.string (Dec.name 59), .string (Dec.lname (Dec.fm 59)), .int .i64 (Dec.mj 59 : Nat), .int .i64 (Dec.mn 59 : Nat)]) ∧ Below w.heap.size w w' := by
  go_enter Tryd.func19, Tryd.ntmps19
  go_wp2
  refine bodyPost_ret (v := .agg #[.string (Dec.name 59), .string (Dec.lname (Dec.fm 59)), .int .i64 (Dec.mj 59 : Nat), .int .i64 (Dec.mn 59 : Nat)]) ?_ rfl ⟨rfl, (Below.refl _ _).alloc (Nat.le_refl _) _⟩
  simp [results, Tryd.results19, go_sem]
  exact ⟨rfl, rfl, rfl, rfl⟩

theorem third_60 (w : World) :
    Calls Tryd.prog 19 #[.int .i64 60] w fun e w' => e = .returned (.agg #[.string (Dec.name 60), .string (Dec.lname (Dec.fm 60)), .int .i64 (Dec.mj 60 : Nat), .int .i64 (Dec.mn 60 : Nat)]) ∧ Below w.heap.size w w' := by
  go_enter Tryd.func19, Tryd.ntmps19
  go_wp2
  refine bodyPost_ret (v := .agg #[.string (Dec.name 60), .string (Dec.lname (Dec.fm 60)), .int .i64 (Dec.mj 60 : Nat), .int .i64 (Dec.mn 60 : Nat)]) ?_ rfl ⟨rfl, (Below.refl _ _).alloc (Nat.le_refl _) _⟩
  simp [results, Tryd.results19, go_sem]
  exact ⟨rfl, rfl, rfl, rfl⟩

theorem third_61 (w : World) :
    Calls Tryd.prog 19 #[.int .i64 61] w fun e w' => e = .returned (.agg #[.string (Dec.name 61), .string (Dec.lname (Dec.fm 61)), .int .i64 (Dec.mj 61 : Nat), .int .i64 (Dec.mn 61 : Nat)]) ∧ Below w.heap.size w w' := by
  go_enter Tryd.func19, Tryd.ntmps19
  go_wp2
  refine bodyPost_ret (v := .agg #[.string (Dec.name 61), .string (Dec.lname (Dec.fm 61)), .int .i64 (Dec.mj 61 : Nat), .int .i64 (Dec.mn 61 : Nat)]) ?_ rfl ⟨rfl, (Below.refl _ _).alloc (Nat.le_refl _) _⟩
  simp [results, Tryd.results19, go_sem]
  exact ⟨rfl, rfl, rfl, rfl⟩

theorem third_62 (w : World) :
    Calls Tryd.prog 19 #[.int .i64 62] w fun e w' => e = .returned (.agg #[.string (Dec.name 62), .string (Dec.lname (Dec.fm 62)), .int .i64 (Dec.mj 62 : Nat), .int .i64 (Dec.mn 62 : Nat)]) ∧ Below w.heap.size w w' := by
  go_enter Tryd.func19, Tryd.ntmps19
  go_wp2
  refine bodyPost_ret (v := .agg #[.string (Dec.name 62), .string (Dec.lname (Dec.fm 62)), .int .i64 (Dec.mj 62 : Nat), .int .i64 (Dec.mn 62 : Nat)]) ?_ rfl ⟨rfl, (Below.refl _ _).alloc (Nat.le_refl _) _⟩
  simp [results, Tryd.results19, go_sem]
  exact ⟨rfl, rfl, rfl, rfl⟩

theorem third_63 (w : World) :
    Calls Tryd.prog 19 #[.int .i64 63] w fun e w' => e = .returned (.agg #[.string (Dec.name 63), .string (Dec.lname (Dec.fm 63)), .int .i64 (Dec.mj 63 : Nat), .int .i64 (Dec.mn 63 : Nat)]) ∧ Below w.heap.size w w' := by
  go_enter Tryd.func19, Tryd.ntmps19
  go_wp2
  refine bodyPost_ret (v := .agg #[.string (Dec.name 63), .string (Dec.lname (Dec.fm 63)), .int .i64 (Dec.mj 63 : Nat), .int .i64 (Dec.mn 63 : Nat)]) ?_ rfl ⟨rfl, (Below.refl _ _).alloc (Nat.le_refl _) _⟩
  simp [results, Tryd.results19, go_sem]
  exact ⟨rfl, rfl, rfl, rfl⟩

theorem third_64 (w : World) :
    Calls Tryd.prog 19 #[.int .i64 64] w fun e w' => e = .returned (.agg #[.string (Dec.name 64), .string (Dec.lname (Dec.fm 64)), .int .i64 (Dec.mj 64 : Nat), .int .i64 (Dec.mn 64 : Nat)]) ∧ Below w.heap.size w w' := by
  go_enter Tryd.func19, Tryd.ntmps19
  go_wp2
  refine bodyPost_ret (v := .agg #[.string (Dec.name 64), .string (Dec.lname (Dec.fm 64)), .int .i64 (Dec.mj 64 : Nat), .int .i64 (Dec.mn 64 : Nat)]) ?_ rfl ⟨rfl, (Below.refl _ _).alloc (Nat.le_refl _) _⟩
  simp [results, Tryd.results19, go_sem]
  exact ⟨rfl, rfl, rfl, rfl⟩

theorem third_65 (w : World) :
    Calls Tryd.prog 19 #[.int .i64 65] w fun e w' => e = .returned (.agg #[.string (Dec.name 65), .string (Dec.lname (Dec.fm 65)), .int .i64 (Dec.mj 65 : Nat), .int .i64 (Dec.mn 65 : Nat)]) ∧ Below w.heap.size w w' := by
  go_enter Tryd.func19, Tryd.ntmps19
  go_wp2
  refine bodyPost_ret (v := .agg #[.string (Dec.name 65), .string (Dec.lname (Dec.fm 65)), .int .i64 (Dec.mj 65 : Nat), .int .i64 (Dec.mn 65 : Nat)]) ?_ rfl ⟨rfl, (Below.refl _ _).alloc (Nat.le_refl _) _⟩
  simp [results, Tryd.results19, go_sem]
  exact ⟨rfl, rfl, rfl, rfl⟩

theorem third_66 (w : World) :
    Calls Tryd.prog 19 #[.int .i64 66] w fun e w' => e = .returned (.agg #[.string (Dec.name 66), .string (Dec.lname (Dec.fm 66)), .int .i64 (Dec.mj 66 : Nat), .int .i64 (Dec.mn 66 : Nat)]) ∧ Below w.heap.size w w' := by
  go_enter Tryd.func19, Tryd.ntmps19
  go_wp2
  refine bodyPost_ret (v := .agg #[.string (Dec.name 66), .string (Dec.lname (Dec.fm 66)), .int .i64 (Dec.mj 66 : Nat), .int .i64 (Dec.mn 66 : Nat)]) ?_ rfl ⟨rfl, (Below.refl _ _).alloc (Nat.le_refl _) _⟩
  simp [results, Tryd.results19, go_sem]
  exact ⟨rfl, rfl, rfl, rfl⟩

theorem third_67 (w : World) :
    Calls Tryd.prog 19 #[.int .i64 67] w fun e w' => e = .returned (.agg #[.string (Dec.name 67), .string (Dec.lname (Dec.fm 67)), .int .i64 (Dec.mj 67 : Nat), .int .i64 (Dec.mn 67 : Nat)]) ∧ Below w.heap.size w w' := by
  go_enter Tryd.func19, Tryd.ntmps19
  go_wp2
  refine bodyPost_ret (v := .agg #[.string (Dec.name 67), .string (Dec.lname (Dec.fm 67)), .int .i64 (Dec.mj 67 : Nat), .int .i64 (Dec.mn 67 : Nat)]) ?_ rfl ⟨rfl, (Below.refl _ _).alloc (Nat.le_refl _) _⟩
  simp [results, Tryd.results19, go_sem]
  exact ⟨rfl, rfl, rfl, rfl⟩

theorem third_68 (w : World) :
    Calls Tryd.prog 19 #[.int .i64 68] w fun e w' => e = .returned (.agg #[.string (Dec.name 68), .string (Dec.lname (Dec.fm 68)), .int .i64 (Dec.mj 68 : Nat), .int .i64 (Dec.mn 68 : Nat)]) ∧ Below w.heap.size w w' := by
  go_enter Tryd.func19, Tryd.ntmps19
  go_wp2
  refine bodyPost_ret (v := .agg #[.string (Dec.name 68), .string (Dec.lname (Dec.fm 68)), .int .i64 (Dec.mj 68 : Nat), .int .i64 (Dec.mn 68 : Nat)]) ?_ rfl ⟨rfl, (Below.refl _ _).alloc (Nat.le_refl _) _⟩
  simp [results, Tryd.results19, go_sem]
  exact ⟨rfl, rfl, rfl, rfl⟩

theorem third_none (op : Int) (h : 69 ≤ op) (w : World) :
    Calls Tryd.prog 19 #[.int .i64 op] w fun e w' => e = .returned (.agg #[.string (Dec.name 69), .string (Dec.lname (Dec.fm 69)), .int .i64 (Dec.mj 69 : Nat), .int .i64 (Dec.mn 69 : Nat)]) ∧ Below w.heap.size w w' := by
  have h46 : (op == 46) = false := by simp; omega
  have h47 : (op == 47) = false := by simp; omega
  have h48 : (op == 48) = false := by simp; omega
  have h49 : (op == 49) = false := by simp; omega
  have h50 : (op == 50) = false := by simp; omega
  have h51 : (op == 51) = false := by simp; omega
  have h52 : (op == 52) = false := by simp; omega
  have h53 : (op == 53) = false := by simp; omega
  have h54 : (op == 54) = false := by simp; omega
  have h55 : (op == 55) = false := by simp; omega
  have h56 : (op == 56) = false := by simp; omega
  have h57 : (op == 57) = false := by simp; omega
  have h58 : (op == 58) = false := by simp; omega
  have h59 : (op == 59) = false := by simp; omega
  have h60 : (op == 60) = false := by simp; omega
  have h61 : (op == 61) = false := by simp; omega
  have h62 : (op == 62) = false := by simp; omega
  have h63 : (op == 63) = false := by simp; omega
  have h64 : (op == 64) = false := by simp; omega
  have h65 : (op == 65) = false := by simp; omega
  have h66 : (op == 66) = false := by simp; omega
  have h67 : (op == 67) = false := by simp; omega
  have h68 : (op == 68) = false := by simp; omega
  clear h
  go_enter Tryd.func19, Tryd.ntmps19
  go_wp2
  refine bodyPost_ret (v := .agg #[.string (Dec.name 69), .string (Dec.lname (Dec.fm 69)), .int .i64 (Dec.mj 69 : Nat), .int .i64 (Dec.mn 69 : Nat)]) ?_ rfl ⟨rfl, (Below.refl _ _).alloc (Nat.le_refl _) _⟩
  simp [results, Tryd.results19, go_sem]
  exact ⟨rfl, rfl, rfl, rfl⟩

theorem third_any (op : Nat) (h1 : 46 ≤ op) (h2 : op < 69) (w : World) :
    Calls Tryd.prog 19 #[.int .i64 (op : Int)] w fun e w' => e = .returned (.agg #[.string (Dec.name op), .string (Dec.lname (Dec.fm op)), .int .i64 (Dec.mj op : Nat), .int .i64 (Dec.mn op : Nat)]) ∧ Below w.heap.size w w' := by
  obtain ⟨k, rfl⟩ : ∃ k, op = 46 + k := ⟨op - 46, by omega⟩
  match k, h2 with
  | 0, _ => exact third_46 w
  | 1, _ => exact third_47 w
  | 2, _ => exact third_48 w
  | 3, _ => exact third_49 w
  | 4, _ => exact third_50 w
  | 5, _ => exact third_51 w
  | 6, _ => exact third_52 w
  | 7, _ => exact third_53 w
  | 8, _ => exact third_54 w
  | 9, _ => exact third_55 w
  | 10, _ => exact third_56 w
  | 11, _ => exact third_57 w
  | 12, _ => exact third_58 w
  | 13, _ => exact third_59 w
  | 14, _ => exact third_60 w
  | 15, _ => exact third_61 w
  | 16, _ => exact third_62 w
  | 17, _ => exact third_63 w
  | 18, _ => exact third_64 w
  | 19, _ => exact third_65 w
  | 20, _ => exact third_66 w
  | 21, _ => exact third_67 w
  | 22, _ => exact third_68 w
  | n + 23, h => exact absurd h (by omega)

end Go.Proofs.YtbgklaahmmfpjaaDoor.De
