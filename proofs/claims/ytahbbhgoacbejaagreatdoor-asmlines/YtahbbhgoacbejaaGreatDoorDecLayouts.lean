/- The contract of the program's layouts, one form after another. -/
import Derived.Test.YtahbbhgoacbejaaGreatDoorDecWalks
namespace Go.Proofs.YtahbbhgoacbejaaGreatDoor
open Go.RowKit
set_option linter.unusedVariables false

theorem layout_0 (w : World) :
    Calls Tryz.prog 44 #[.int .i64 0] w fun e w' => e = .returned (layV 0) ∧ Below w.heap.size w w' := by
  go_enter Tryz.func44, Tryz.ntmps44
  go_wp2
  refine bodyPost_ret (v := layV 0) ?_ rfl ⟨rfl, (Below.refl _ _).alloc (Nat.le_refl _) _⟩
  simp [results, Tryz.results44, go_sem]
  rfl

theorem layout_1 (w : World) :
    Calls Tryz.prog 44 #[.int .i64 1] w fun e w' => e = .returned (layV 1) ∧ Below w.heap.size w w' := by
  go_enter Tryz.func44, Tryz.ntmps44
  go_wp2
  refine bodyPost_ret (v := layV 1) ?_ rfl ⟨rfl, (Below.refl _ _).alloc (Nat.le_refl _) _⟩
  simp [results, Tryz.results44, go_sem]
  rfl

theorem layout_2 (w : World) :
    Calls Tryz.prog 44 #[.int .i64 2] w fun e w' => e = .returned (layV 2) ∧ Below w.heap.size w w' := by
  go_enter Tryz.func44, Tryz.ntmps44
  go_wp2
  refine bodyPost_ret (v := layV 2) ?_ rfl ⟨rfl, (Below.refl _ _).alloc (Nat.le_refl _) _⟩
  simp [results, Tryz.results44, go_sem]
  rfl

theorem layout_3 (w : World) :
    Calls Tryz.prog 44 #[.int .i64 3] w fun e w' => e = .returned (layV 3) ∧ Below w.heap.size w w' := by
  go_enter Tryz.func44, Tryz.ntmps44
  go_wp2
  refine bodyPost_ret (v := layV 3) ?_ rfl ⟨rfl, (Below.refl _ _).alloc (Nat.le_refl _) _⟩
  simp [results, Tryz.results44, go_sem]
  rfl

theorem layout_4 (w : World) :
    Calls Tryz.prog 44 #[.int .i64 4] w fun e w' => e = .returned (layV 4) ∧ Below w.heap.size w w' := by
  go_enter Tryz.func44, Tryz.ntmps44
  go_wp2
  refine bodyPost_ret (v := layV 4) ?_ rfl ⟨rfl, (Below.refl _ _).alloc (Nat.le_refl _) _⟩
  simp [results, Tryz.results44, go_sem]
  rfl

theorem layout_5 (w : World) :
    Calls Tryz.prog 44 #[.int .i64 5] w fun e w' => e = .returned (layV 5) ∧ Below w.heap.size w w' := by
  go_enter Tryz.func44, Tryz.ntmps44
  go_wp2
  refine bodyPost_ret (v := layV 5) ?_ rfl ⟨rfl, (Below.refl _ _).alloc (Nat.le_refl _) _⟩
  simp [results, Tryz.results44, go_sem]
  rfl

theorem layout_6 (w : World) :
    Calls Tryz.prog 44 #[.int .i64 6] w fun e w' => e = .returned (layV 6) ∧ Below w.heap.size w w' := by
  go_enter Tryz.func44, Tryz.ntmps44
  go_wp2
  refine bodyPost_ret (v := layV 6) ?_ rfl ⟨rfl, (Below.refl _ _).alloc (Nat.le_refl _) _⟩
  simp [results, Tryz.results44, go_sem]
  rfl

theorem layout_7 (w : World) :
    Calls Tryz.prog 44 #[.int .i64 7] w fun e w' => e = .returned (layV 7) ∧ Below w.heap.size w w' := by
  go_enter Tryz.func44, Tryz.ntmps44
  go_wp2
  refine bodyPost_ret (v := layV 7) ?_ rfl ⟨rfl, (Below.refl _ _).alloc (Nat.le_refl _) _⟩
  simp [results, Tryz.results44, go_sem]
  rfl

theorem layout_8 (w : World) :
    Calls Tryz.prog 44 #[.int .i64 8] w fun e w' => e = .returned (layV 8) ∧ Below w.heap.size w w' := by
  go_enter Tryz.func44, Tryz.ntmps44
  go_wp2
  refine bodyPost_ret (v := layV 8) ?_ rfl ⟨rfl, (Below.refl _ _).alloc (Nat.le_refl _) _⟩
  simp [results, Tryz.results44, go_sem]
  rfl

theorem layout_9 (w : World) :
    Calls Tryz.prog 44 #[.int .i64 9] w fun e w' => e = .returned (layV 9) ∧ Below w.heap.size w w' := by
  go_enter Tryz.func44, Tryz.ntmps44
  go_wp2
  refine bodyPost_ret (v := layV 9) ?_ rfl ⟨rfl, (Below.refl _ _).alloc (Nat.le_refl _) _⟩
  simp [results, Tryz.results44, go_sem]
  rfl

theorem layout_10 (w : World) :
    Calls Tryz.prog 44 #[.int .i64 10] w fun e w' => e = .returned (layV 10) ∧ Below w.heap.size w w' := by
  go_enter Tryz.func44, Tryz.ntmps44
  go_wp2
  refine bodyPost_ret (v := layV 10) ?_ rfl ⟨rfl, (Below.refl _ _).alloc (Nat.le_refl _) _⟩
  simp [results, Tryz.results44, go_sem]
  rfl

theorem layout_11 (w : World) :
    Calls Tryz.prog 44 #[.int .i64 11] w fun e w' => e = .returned (layV 11) ∧ Below w.heap.size w w' := by
  go_enter Tryz.func44, Tryz.ntmps44
  go_wp2
  refine bodyPost_ret (v := layV 11) ?_ rfl ⟨rfl, (Below.refl _ _).alloc (Nat.le_refl _) _⟩
  simp [results, Tryz.results44, go_sem]
  rfl

theorem layout_12 (w : World) :
    Calls Tryz.prog 44 #[.int .i64 12] w fun e w' => e = .returned (layV 12) ∧ Below w.heap.size w w' := by
  go_enter Tryz.func44, Tryz.ntmps44
  go_wp2
  refine bodyPost_ret (v := layV 12) ?_ rfl ⟨rfl, (Below.refl _ _).alloc (Nat.le_refl _) _⟩
  simp [results, Tryz.results44, go_sem]
  rfl

theorem layout_13 (w : World) :
    Calls Tryz.prog 44 #[.int .i64 13] w fun e w' => e = .returned (layV 13) ∧ Below w.heap.size w w' := by
  go_enter Tryz.func44, Tryz.ntmps44
  go_wp2
  refine bodyPost_ret (v := layV 13) ?_ rfl ⟨rfl, (Below.refl _ _).alloc (Nat.le_refl _) _⟩
  simp [results, Tryz.results44, go_sem]
  rfl

theorem layout_14 (w : World) :
    Calls Tryz.prog 44 #[.int .i64 14] w fun e w' => e = .returned (layV 14) ∧ Below w.heap.size w w' := by
  go_enter Tryz.func44, Tryz.ntmps44
  go_wp2
  refine bodyPost_ret (v := layV 14) ?_ rfl ⟨rfl, (Below.refl _ _).alloc (Nat.le_refl _) _⟩
  simp [results, Tryz.results44, go_sem]
  rfl

theorem layout_15 (w : World) :
    Calls Tryz.prog 44 #[.int .i64 15] w fun e w' => e = .returned (layV 15) ∧ Below w.heap.size w w' := by
  go_enter Tryz.func44, Tryz.ntmps44
  go_wp2
  refine bodyPost_ret (v := layV 15) ?_ rfl ⟨rfl, (Below.refl _ _).alloc (Nat.le_refl _) _⟩
  simp [results, Tryz.results44, go_sem]
  rfl

theorem layout_16 (w : World) :
    Calls Tryz.prog 44 #[.int .i64 16] w fun e w' => e = .returned (layV 16) ∧ Below w.heap.size w w' := by
  go_enter Tryz.func44, Tryz.ntmps44
  go_wp2
  refine bodyPost_ret (v := layV 16) ?_ rfl ⟨rfl, (Below.refl _ _).alloc (Nat.le_refl _) _⟩
  simp [results, Tryz.results44, go_sem]
  rfl

theorem layout_17 (w : World) :
    Calls Tryz.prog 44 #[.int .i64 17] w fun e w' => e = .returned (layV 17) ∧ Below w.heap.size w w' := by
  go_enter Tryz.func44, Tryz.ntmps44
  go_wp2
  refine bodyPost_ret (v := layV 17) ?_ rfl ⟨rfl, (Below.refl _ _).alloc (Nat.le_refl _) _⟩
  simp [results, Tryz.results44, go_sem]
  rfl

theorem layout_18 (w : World) :
    Calls Tryz.prog 44 #[.int .i64 18] w fun e w' => e = .returned (layV 18) ∧ Below w.heap.size w w' := by
  go_enter Tryz.func44, Tryz.ntmps44
  go_wp2
  refine bodyPost_ret (v := layV 18) ?_ rfl ⟨rfl, (Below.refl _ _).alloc (Nat.le_refl _) _⟩
  simp [results, Tryz.results44, go_sem]
  rfl

theorem layout_19 (w : World) :
    Calls Tryz.prog 44 #[.int .i64 19] w fun e w' => e = .returned (layV 19) ∧ Below w.heap.size w w' := by
  go_enter Tryz.func44, Tryz.ntmps44
  go_wp2
  refine bodyPost_ret (v := layV 19) ?_ rfl ⟨rfl, (Below.refl _ _).alloc (Nat.le_refl _) _⟩
  simp [results, Tryz.results44, go_sem]
  rfl

theorem layout_any (f : Nat) (hf : f < 20) (w : World) :
    Calls Tryz.prog 44 #[.int .i64 (f : Int)] w fun e w' => e = .returned (layV f) ∧ Below w.heap.size w w' := by
  match f, hf with
  | 0, _ => exact layout_0 w
  | 1, _ => exact layout_1 w
  | 2, _ => exact layout_2 w
  | 3, _ => exact layout_3 w
  | 4, _ => exact layout_4 w
  | 5, _ => exact layout_5 w
  | 6, _ => exact layout_6 w
  | 7, _ => exact layout_7 w
  | 8, _ => exact layout_8 w
  | 9, _ => exact layout_9 w
  | 10, _ => exact layout_10 w
  | 11, _ => exact layout_11 w
  | 12, _ => exact layout_12 w
  | 13, _ => exact layout_13 w
  | 14, _ => exact layout_14 w
  | 15, _ => exact layout_15 w
  | 16, _ => exact layout_16 w
  | 17, _ => exact layout_17 w
  | 18, _ => exact layout_18 w
  | 19, _ => exact layout_19 w
  | n + 20, h => exact absurd h (by omega)

end Go.Proofs.YtahbbhgoacbejaaGreatDoor
