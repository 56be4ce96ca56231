/- The contract of the document's table, rows 23 to 45. -/
import Derived.Test.YtbgklaahmmfpjaaDoorQDeAll
namespace Go.Proofs.YtbgklaahmmfpjaaDoor.De
open Go.RowKit
set_option linter.unusedVariables false
set_option maxRecDepth 100000

theorem second_23 (w : World) :
    Calls Tryd.prog 18 #[.int .i64 23] w fun e w' => e = .returned (.agg #[.string (Dec.name 23), .string (Dec.lname (Dec.fm 23)), .int .i64 (Dec.mj 23 : Nat), .int .i64 (Dec.mn 23 : Nat)]) ∧ Below w.heap.size w w' := by
  go_enter Tryd.func18, Tryd.ntmps18
  go_wp2
  refine bodyPost_ret (v := .agg #[.string (Dec.name 23), .string (Dec.lname (Dec.fm 23)), .int .i64 (Dec.mj 23 : Nat), .int .i64 (Dec.mn 23 : Nat)]) ?_ rfl ⟨rfl, (Below.refl _ _).alloc (Nat.le_refl _) _⟩
  simp [results, Tryd.results18, go_sem]
  exact ⟨rfl, rfl, rfl, rfl⟩

theorem second_24 (w : World) :
    Calls Tryd.prog 18 #[.int .i64 24] w fun e w' => e = .returned (.agg #[.string (Dec.name 24), .string (Dec.lname (Dec.fm 24)), .int .i64 (Dec.mj 24 : Nat), .int .i64 (Dec.mn 24 : Nat)]) ∧ Below w.heap.size w w' := by
  go_enter Tryd.func18, Tryd.ntmps18
  go_wp2
  refine bodyPost_ret (v := .agg #[.string (Dec.name 24), .string (Dec.lname (Dec.fm 24)), .int .i64 (Dec.mj 24 : Nat), .int .i64 (Dec.mn 24 : Nat)]) ?_ rfl ⟨rfl, (Below.refl _ _).alloc (Nat.le_refl _) _⟩
  simp [results, Tryd.results18, go_sem]
  exact ⟨rfl, rfl, rfl, rfl⟩

theorem second_25 (w : World) :
    Calls Tryd.prog 18 #[.int .i64 25] w fun e w' => e = .returned (.agg #[.string (Dec.name 25), .string (Dec.lname (Dec.fm 25)), .int .i64 (Dec.mj 25 : Nat), .int .i64 (Dec.mn 25 : Nat)]) ∧ Below w.heap.size w w' := by
  go_enter Tryd.func18, Tryd.ntmps18
  go_wp2
  refine bodyPost_ret (v := .agg #[.string (Dec.name 25), .string (Dec.lname (Dec.fm 25)), .int .i64 (Dec.mj 25 : Nat), .int .i64 (Dec.mn 25 : Nat)]) ?_ rfl ⟨rfl, (Below.refl _ _).alloc (Nat.le_refl _) _⟩
  simp [results, Tryd.results18, go_sem]
  exact ⟨rfl, rfl, rfl, rfl⟩

theorem second_26 (w : World) :
    Calls Tryd.prog 18 #[.int .i64 26] w fun e w' => e = .returned (.agg #[.string (Dec.name 26), .string (Dec.lname (Dec.fm 26)), .int .i64 (Dec.mj 26 : Nat), .int .i64 (Dec.mn 26 : Nat)]) ∧ Below w.heap.size w w' := by
  go_enter Tryd.func18, Tryd.ntmps18
  go_wp2
  refine bodyPost_ret (v := .agg #[.string (Dec.name 26), .string (Dec.lname (Dec.fm 26)), .int .i64 (Dec.mj 26 : Nat), .int .i64 (Dec.mn 26 : Nat)]) ?_ rfl ⟨rfl, (Below.refl _ _).alloc (Nat.le_refl _) _⟩
  simp [results, Tryd.results18, go_sem]
  exact ⟨rfl, rfl, rfl, rfl⟩

theorem second_27 (w : World) :
    Calls Tryd.prog 18 #[.int .i64 27] w fun e w' => e = .returned (.agg #[.string (Dec.name 27), .string (Dec.lname (Dec.fm 27)), .int .i64 (Dec.mj 27 : Nat), .int .i64 (Dec.mn 27 : Nat)]) ∧ Below w.heap.size w w' := by
  go_enter Tryd.func18, Tryd.ntmps18
  go_wp2
  refine bodyPost_ret (v := .agg #[.string (Dec.name 27), .string (Dec.lname (Dec.fm 27)), .int .i64 (Dec.mj 27 : Nat), .int .i64 (Dec.mn 27 : Nat)]) ?_ rfl ⟨rfl, (Below.refl _ _).alloc (Nat.le_refl _) _⟩
  simp [results, Tryd.results18, go_sem]
  exact ⟨rfl, rfl, rfl, rfl⟩

theorem second_28 (w : World) :
    Calls Tryd.prog 18 #[.int .i64 28] w fun e w' => e = .returned (.agg #[.string (Dec.name 28), .string (Dec.lname (Dec.fm 28)), .int .i64 (Dec.mj 28 : Nat), .int .i64 (Dec.mn 28 : Nat)]) ∧ Below w.heap.size w w' := by
  go_enter Tryd.func18, Tryd.ntmps18
  go_wp2
  refine bodyPost_ret (v := .agg #[.string (Dec.name 28), .string (Dec.lname (Dec.fm 28)), .int .i64 (Dec.mj 28 : Nat), .int .i64 (Dec.mn 28 : Nat)]) ?_ rfl ⟨rfl, (Below.refl _ _).alloc (Nat.le_refl _) _⟩
  simp [results, Tryd.results18, go_sem]
  exact ⟨rfl, rfl, rfl, rfl⟩

theorem second_29 (w : World) :
    Calls Tryd.prog 18 #[.int .i64 29] w fun e w' => e = .returned (.agg #[.string (Dec.name 29), .string (Dec.lname (Dec.fm 29)), .int .i64 (Dec.mj 29 : Nat), .int .i64 (Dec.mn 29 : Nat)]) ∧ Below w.heap.size w w' := by
  go_enter Tryd.func18, Tryd.ntmps18
  go_wp2
  refine bodyPost_ret (v := .agg #[.string (Dec.name 29), .string (Dec.lname (Dec.fm 29)), .int .i64 (Dec.mj 29 : Nat), .int .i64 (Dec.mn 29 : Nat)]) ?_ rfl ⟨rfl, (Below.refl _ _).alloc (Nat.le_refl _) _⟩
  simp [results, Tryd.results18, go_sem]
  exact ⟨rfl, rfl, rfl, rfl⟩

theorem second_30 (w : World) :
    Calls Tryd.prog 18 #[.int .i64 30] w fun e w' => e = .returned (.agg #[.string (Dec.name 30), .string (Dec.lname (Dec.fm 30)), .int .i64 (Dec.mj 30 : Nat), .int .i64 (Dec.mn 30 : Nat)]) ∧ Below w.heap.size w w' := by
  go_enter Tryd.func18, Tryd.ntmps18
  go_wp2
  refine bodyPost_ret (v := .agg #[.string (Dec.name 30), .string (Dec.lname (Dec.fm 30)), .int .i64 (Dec.mj 30 : Nat), .int .i64 (Dec.mn 30 : Nat)]) ?_ rfl ⟨rfl, (Below.refl _ _).alloc (Nat.le_refl _) _⟩
  simp [results, Tryd.results18, go_sem]
  exact ⟨rfl, rfl, rfl, rfl⟩

theorem second_31 (w : World) :
    Calls Tryd.prog 18 #[.int .i64 31] w fun e w' => e = .returned (.agg #[.string (Dec.name 31), .string (Dec.lname (Dec.fm 31)), .int .i64 (Dec.mj 31 : Nat), .int .i64 (Dec.mn 31 : Nat)]) ∧ Below w.heap.size w w' := by
  go_enter Tryd.func18, Tryd.ntmps18
  go_wp2
  refine bodyPost_ret (v := .agg #[.string (Dec.name 31), .string (Dec.lname (Dec.fm 31)), .int .i64 (Dec.mj 31 : Nat), .int .i64 (Dec.mn 31 : Nat)]) ?_ rfl ⟨rfl, (Below.refl _ _).alloc (Nat.le_refl _) _⟩
  simp [results, Tryd.results18, go_sem]
  exact ⟨rfl, rfl, rfl, rfl⟩

theorem second_32 (w : World) :
    Calls Tryd.prog 18 #[.int .i64 32] w fun e w' => e = .returned (.agg #[.string (Dec.name 32), .string (Dec.lname (Dec.fm 32)), .int .i64 (Dec.mj 32 : Nat), .int .i64 (Dec.mn 32 : Nat)]) ∧ Below w.heap.size w w' := by
  go_enter Tryd.func18, Tryd.ntmps18
  go_wp2
  refine bodyPost_ret (v := .agg #[.string (Dec.name 32), .string (Dec.lname (Dec.fm 32)), .int .i64 (Dec.mj 32 : Nat), .int .i64 (Dec.mn 32 : Nat)]) ?_ rfl ⟨rfl, (Below.refl _ _).alloc (Nat.le_refl _) _⟩
  simp [results, Tryd.results18, go_sem]
  exact ⟨rfl, rfl, rfl, rfl⟩

theorem second_33 (w : World) :
    Calls Tryd.prog 18 #[.int .i64 33] w fun e w' => e = .returned (.agg #[.string (Dec.name 33), .string (Dec.lname (Dec.fm 33)), .int .i64 (Dec.mj 33 : Nat), .int .i64 (Dec.mn 33 : Nat)]) ∧ Below w.heap.size w w' := by
  go_enter Tryd.func18, Tryd.ntmps18
  go_wp2
  refine bodyPost_ret (v := .agg #[.string (Dec.name 33), .string (Dec.lname (Dec.fm 33)), .int .i64 (Dec.mj 33 : Nat), .int .i64 (Dec.mn 33 : Nat)]) ?_ rfl ⟨rfl, (Below.refl _ _).alloc (Nat.le_refl _) _⟩
  simp [results, Tryd.results18, go_sem]
  exact ⟨rfl, rfl, rfl, rfl⟩

theorem second_34 (w : World) :
    Calls Tryd.prog 18 #[.int .i64 34] w fun e w' => e = .returned (.agg #[.string (Dec.name 34), .string (Dec.lname (Dec.fm 34)), .int .i64 (Dec.mj 34 : Nat), .int .i64 (Dec.mn 34 : Nat)]) ∧ Below w.heap.size w w' := by
  go_enter Tryd.func18, Tryd.ntmps18
  go_wp2
  refine bodyPost_ret (v := .agg #[.string (Dec.name 34), .string (Dec.lname (Dec.fm 34)), .int .i64 (Dec.mj 34 : Nat), .int .i64 (Dec.mn 34 : Nat)]) ?_ rfl ⟨rfl, (Below.refl _ _).alloc (Nat.le_refl _) _⟩
  simp [results, Tryd.results18, go_sem]
  exact ⟨rfl, rfl, rfl, rfl⟩

theorem second_35 (w : World) :
    Calls Tryd.prog 18 #[.int .i64 35] w fun e w' => e = .returned (.agg #[.string (Dec.name 35), .string (Dec.lname (Dec.fm 35)), .int .i64 (Dec.mj 35 : Nat), .int .i64 (Dec.mn 35 : Nat)]) ∧ Below w.heap.size w w' := by
  go_enter Tryd.func18, Tryd.ntmps18
  go_wp2
  refine bodyPost_ret (v := .agg #[.string (Dec.name 35), .string (Dec.lname (Dec.fm 35)), .int .i64 (Dec.mj 35 : Nat), .int .i64 (Dec.mn 35 : Nat)]) ?_ rfl ⟨rfl, (Below.refl _ _).alloc (Nat.le_refl _) _⟩
  simp [results, Tryd.results18, go_sem]
  exact ⟨rfl, rfl, rfl, rfl⟩

theorem second_36 (w : World) :
    Calls Tryd.prog 18 #[.int .i64 36] w fun e w' => e = .returned (.agg #[.string (Dec.name 36), .string (Dec.lname (Dec.fm 36)), .int .i64 (Dec.mj 36 : Nat), .int .i64 (Dec.mn 36 : Nat)]) ∧ Below w.heap.size w w' := by
  go_enter Tryd.func18, Tryd.ntmps18
  go_wp2
  refine bodyPost_ret (v := .agg #[.string (Dec.name 36), .string (Dec.lname (Dec.fm 36)), .int .i64 (Dec.mj 36 : Nat), .int .i64 (Dec.mn 36 : Nat)]) ?_ rfl ⟨rfl, (Below.refl _ _).alloc (Nat.le_refl _) _⟩
  simp [results, Tryd.results18, go_sem]
  exact ⟨rfl, rfl, rfl, rfl⟩

theorem second_37 (w : World) :
    Calls Tryd.prog 18 #[.int .i64 37] w fun e w' => e = .returned (.agg #[.string (Dec.name 37), .string (Dec.lname (Dec.fm 37)), .int .i64 (Dec.mj 37 : Nat), .int .i64 (Dec.mn 37 : Nat)]) ∧ Below w.heap.size w w' := by
  go_enter Tryd.func18, Tryd.ntmps18
  go_wp2
  refine bodyPost_ret (v := .agg #[.string (Dec.name 37), .string (Dec.lname (Dec.fm 37)), .int .i64 (Dec.mj 37 : Nat), .int .i64 (Dec.mn 37 : Nat)]) ?_ rfl ⟨rfl, (Below.refl _ _).alloc (Nat.le_refl _) _⟩
  simp [results, Tryd.results18, go_sem]
  exact ⟨rfl, rfl, rfl, rfl⟩

theorem second_38 (w : World) :
    Calls Tryd.prog 18 #[.int .i64 38] w fun e w' => e = .returned (.agg #[.string (Dec.name 38), .string (Dec.lname (Dec.fm 38)), .int .i64 (Dec.mj 38 : Nat), .int .i64 (Dec.mn 38 : Nat)]) ∧ Below w.heap.size w w' := by
  go_enter Tryd.func18, Tryd.ntmps18
  go_wp2
  refine bodyPost_ret (v := .agg #[.string (Dec.name 38), .string (Dec.lname (Dec.fm 38)), .int .i64 (Dec.mj 38 : Nat), .int .i64 (Dec.mn 38 : Nat)]) ?_ rfl ⟨rfl, (Below.refl _ _).alloc (Nat.le_refl _) _⟩
  simp [results, Tryd.results18, go_sem]
  exact ⟨rfl, rfl, rfl, rfl⟩

theorem second_39 (w : World) :
    Calls Tryd.prog 18 #[.int .i64 39] w fun e w' => e = .returned (.agg #[.string (Dec.name 39), .string (Dec.lname (Dec.fm 39)), .int .i64 (Dec.mj 39 : Nat), .int .i64 (Dec.mn 39 : Nat)]) ∧ Below w.heap.size w w' := by
  go_enter Tryd.func18, Tryd.ntmps18
  go_wp2
  refine bodyPost_ret (v := .agg #[.string (Dec.name 39), .string (Dec.lname (Dec.fm 39)), .int .i64 (Dec.mj 39 : Nat), .int .i64 (Dec.mn 39 : Nat)]) ?_ rfl ⟨rfl, (Below.refl _ _).alloc (Nat.le_refl _) _⟩
  simp [results, Tryd.results18, go_sem]
  exact ⟨rfl, rfl, rfl, rfl⟩

theorem second_40 (w : World) :
    Calls Tryd.prog 18 #[.int .i64 40] w fun e w' => e = .returned (.agg #[.string (Dec.name 40), .string (Dec.lname (Dec.fm 40)), .int .i64 (Dec.mj 40 : Nat), .int .i64 (Dec.mn 40 : Nat)]) ∧ Below w.heap.size w w' := by
  go_enter Tryd.func18, Tryd.ntmps18
  go_wp2
  refine bodyPost_ret (v := .agg #[.string (Dec.name 40), .string (Dec.lname (Dec.fm 40)), .int .i64 (Dec.mj 40 : Nat), .int .i64 (Dec.mn 40 : Nat)]) ?_ rfl ⟨rfl, (Below.refl _ _).alloc (Nat.le_refl _) _⟩
  simp [results, Tryd.results18, go_sem]
  exact ⟨rfl, rfl, rfl, rfl⟩

theorem second_41 (w : World) :
    Calls Tryd.prog 18 #[.int .i64 41] w fun e w' => e = .returned (.agg #[.string (Dec.name 41), .string (Dec.lname (Dec.fm 41)), .int .i64 (Dec.mj 41 : Nat), .int .i64 (Dec.mn 41 : Nat)]) ∧ Below w.heap.size w w' := by
  go_enter Tryd.func18, Tryd.ntmps18
  go_wp2
  refine bodyPost_ret (v := .agg #[.string (Dec.name 41), .string (Dec.lname (Dec.fm 41)), .int .i64 (Dec.mj 41 : Nat), .int .i64 (Dec.mn 41 : Nat)]) ?_ rfl ⟨rfl, (Below.refl _ _).alloc (Nat.le_refl _) _⟩
  simp [results, Tryd.results18, go_sem]
  exact ⟨rfl, rfl, rfl, rfl⟩

theorem second_42 (w : World) :
    Calls Tryd.prog 18 #[.int .i64 42] w fun e w' => e = .returned (.agg #[.string (Dec.name 42), .string (Dec.lname (Dec.fm 42)), .int .i64 (Dec.mj 42 : Nat), .int .i64 (Dec.mn 42 : Nat)]) ∧ Below w.heap.size w w' := by
  go_enter Tryd.func18, Tryd.ntmps18
  go_wp2
  refine bodyPost_ret (v := .agg #[.string (Dec.name 42), .string (Dec.lname (Dec.fm 42)), .int .i64 (Dec.mj 42 : Nat), .int .i64 (Dec.mn 42 : Nat)]) ?_ rfl ⟨rfl, (Below.refl _ _).alloc (Nat.le_refl _) _⟩
  simp [results, Tryd.results18, go_sem]
  exact ⟨rfl, rfl, rfl, rfl⟩

theorem second_43 (w : World) :
    Calls Tryd.prog 18 #[.int .i64 43] w fun e w' => e = .returned (.agg #[.string (Dec.name 43), .string (Dec.lname (Dec.fm 43)), .int .i64 (Dec.mj 43 : Nat), .int .i64 (Dec.mn 43 : Nat)]) ∧ Below w.heap.size w w' := by
  go_enter Tryd.func18, Tryd.ntmps18
  go_wp2
  refine bodyPost_ret (v := .agg #[.string (Dec.name 43), .string (Dec.lname (Dec.fm 43)), .int .i64 (Dec.mj 43 : Nat), .int .i64 (Dec.mn 43 : Nat)]) ?_ rfl ⟨rfl, (Below.refl _ _).alloc (Nat.le_refl _) _⟩
  simp [results, Tryd.results18, go_sem]
  exact ⟨rfl, rfl, rfl, rfl⟩

theorem second_44 (w : World) :
    Calls Tryd.prog 18 #[.int .i64 44] w fun e w' => e = .returned (.agg #[.string (Dec.name 44), .string (Dec.lname (Dec.fm 44)), .int .i64 (Dec.mj 44 : Nat), .int .i64 (Dec.mn 44 : Nat)]) ∧ Below w.heap.size w w' := by
  go_enter Tryd.func18, Tryd.ntmps18
  go_wp2
  refine bodyPost_ret (v := .agg #[.string (Dec.name 44), .string (Dec.lname (Dec.fm 44)), .int .i64 (Dec.mj 44 : Nat), .int .i64 (Dec.mn 44 : Nat)]) ?_ rfl ⟨rfl, (Below.refl _ _).alloc (Nat.le_refl _) _⟩
  simp [results, Tryd.results18, go_sem]
  exact ⟨rfl, rfl, rfl, rfl⟩

theorem second_45 (w : World) :
    Calls Tryd.prog 18 #[.int .i64 45] w fun e w' => e = .returned (.agg #[.string (Dec.name 45), .string (Dec.lname (Dec.fm 45)), .int .i64 (Dec.mj 45 : Nat), .int .i64 (Dec.mn 45 : Nat)]) ∧ Below w.heap.size w w' := by
  go_enter Tryd.func18, Tryd.ntmps18
  go_wp2
  refine bodyPost_ret (v := .agg #[.string (Dec.name 45), .string (Dec.lname (Dec.fm 45)), .int .i64 (Dec.mj 45 : Nat), .int .i64 (Dec.mn 45 : Nat)]) ?_ rfl ⟨rfl, (Below.refl _ _).alloc (Nat.le_refl _) _⟩
  simp [results, Tryd.results18, go_sem]
  exact ⟨rfl, rfl, rfl, rfl⟩

theorem second_any (op : Nat) (h1 : 23 ≤ op) (h2 : op < 46) (w : World) :
    Calls Tryd.prog 18 #[.int .i64 (op : Int)] w fun e w' => e = .returned (.agg #[.string (Dec.name op), .string (Dec.lname (Dec.fm op)), .int .i64 (Dec.mj op : Nat), .int .i64 (Dec.mn op : Nat)]) ∧ Below w.heap.size w w' := by
  obtain ⟨k, rfl⟩ : ∃ k, op = 23 + k := ⟨op - 23, by omega⟩
  match k, h2 with
  | 0, _ => exact second_23 w
  | 1, _ => exact second_24 w
  | 2, _ => exact second_25 w
  | 3, _ => exact second_26 w
  | 4, _ => exact second_27 w
  | 5, _ => exact second_28 w
  | 6, _ => exact second_29 w
  | 7, _ => exact second_30 w
  | 8, _ => exact second_31 w
  | 9, _ => exact second_32 w
  | 10, _ => exact second_33 w
  | 11, _ => exact second_34 w
  | 12, _ => exact second_35 w
  | 13, _ => exact second_36 w
  | 14, _ => exact second_37 w
  | 15, _ => exact second_38 w
  | 16, _ => exact second_39 w
  | 17, _ => exact second_40 w
  | 18, _ => exact second_41 w
  | 19, _ => exact second_42 w
  | 20, _ => exact second_43 w
  | 21, _ => exact second_44 w
  | 22, _ => exact second_45 w
  | n + 23, h => exact absurd h (by omega)

end Go.Proofs.YtbgklaahmmfpjaaDoor.De
