/- Contracts of a place made of numbers, of its next one, and of one that is stirred. -/
import Derived.Test.YtdapjpbdplhgbaaRngWalks
import Derived.Deep.RegionHeld3
namespace Go.Proofs.Ytdapjpbdplhgbaa.Rng
open Go.RowKit
set_option linter.unusedVariables false
set_option maxRecDepth 100000

theorem store_complex (w : World) (a : Addr) (m : Mode) (k : FloatKind) (x y : Nat) : (store a (.complex k x y) m).run Try.prog w = stored Try.prog w a (.complex k x y) m := run_store Try.prog w a _ m rfl

set_option maxHeartbeats 2000000 in
theorem placeOf_raw (f : Int → Nat) (hn : ∀ a b w, Calls Try.prog 50 #[.int .i64 a, .int .i64 b] w fun e w' => e = .returned (.complex .f64 (f a) (f b)) ∧ w' = w) (a b c d : Int) (w : World) :
    Calls Try.prog 87 #[.agg #[.int .i64 a, .int .i64 b, .int .i64 c, .int .i64 d]] w fun e w' =>
      e = .returned (.agg #[.complex .f64 (f a) (f b), .complex .f64 (f c) (f d)]) ∧ Below w.heap.size w w' := by
  go_enter Try.func87, Try.ntmps87
  go_wp2
  generalize hW : (w.alloc (.cells #[.int .i64 a, .int .i64 b, .int .i64 c, .int .i64 d] 58)).alloc (.cells #[.complex .f64 0 0, .complex .f64 0 0] 107) = W
  have hb : Below w.heap.size w W := hW ▸ ((Below.refl _ _).alloc (Nat.le_refl _) _).alloc (by simp) _
  have k0 : W.cell? ⟨w.heap.size, 0, none⟩ = some (.int .i64 a) := by rw [← hW]; simp [go_sem]
  have k1 : W.cell? ⟨w.heap.size, 1, none⟩ = some (.int .i64 b) := by rw [← hW]; simp [go_sem]
  have k2 : W.cell? ⟨w.heap.size, 2, none⟩ = some (.int .i64 c) := by rw [← hW]; simp [go_sem]
  have k3 : W.cell? ⟨w.heap.size, 3, none⟩ = some (.int .i64 d) := by rw [← hW]; simp [go_sem]
  have r0 : W.cell? ⟨w.heap.size + 1, 0, none⟩ = some (.complex .f64 0 0) := by rw [← hW]; simp [go_sem]
  have r1 : W.cell? ⟨w.heap.size + 1, 1, none⟩ = some (.complex .f64 0 0) := by rw [← hW]; simp [go_sem]
  have f0 : W.frozen? ⟨w.heap.size + 1, 0, none⟩ = false := by rw [← hW]; simp [go_sem]
  have f1 : W.frozen? ⟨w.heap.size + 1, 1, none⟩ = false := by rw [← hW]; simp [go_sem]
  clear hW
  have hst := store_complex
  go_region_held3 (fun x => x.cell? ⟨w.heap.size, 0, none⟩ = some (.int .i64 a) ∧ x.cell? ⟨w.heap.size, 1, none⟩ = some (.int .i64 b) ∧ x.cell? ⟨w.heap.size, 2, none⟩ = some (.int .i64 c) ∧ x.cell? ⟨w.heap.size, 3, none⟩ = some (.int .i64 d)) (go_keep) (first | (go_at_call 50; refine (hn _ _ _).mono ?_; rintro e w' ⟨rfl, rfl⟩))
  go_wp2
  refine bodyPost_ret (v := .agg #[.complex .f64 (f a) (f b), .complex .f64 (f c) (f d)]) (by simp [results, Try.results87, go_sem, r0, r1]) rfl ⟨rfl, ?_⟩
  exact ((hb.setCell (by simp) _).setCell (by simp) _).drew

set_option maxHeartbeats 2000000 in
theorem next_raw {A B C D M1 M2 S1 S2 E F : Nat} (hm : cMulBits A B A B = some (M1, M2)) (hs : cSumBits .add .f64 M1 M2 C D = some (S1, S2))
    (hr : ∀ w, Calls Try.prog 98 #[.complex .f64 S1 S2] w fun e w' => e = .returned (.complex .f64 E F) ∧ w' = w) (w : World) :
    Calls Try.prog 100 #[.agg #[.complex .f64 A B, .complex .f64 C D]] w fun e w' =>
      e = .returned (.agg #[.complex .f64 E F, .complex .f64 C D]) ∧ Below w.heap.size w w' := by
  have o1 := fun t w => run_complex_mul (P := Try.prog) w t A B A B M1 M2 hm
  have o2 := fun t w => run_complex_sum (P := Try.prog) w .add (Or.inl rfl) t .f64 M1 M2 C D S1 S2 hs
  clear hm hs
  go_enter Try.func100, Try.ntmps100
  go_wp2
  generalize hW : (w.alloc (.cells #[.complex .f64 A B, .complex .f64 C D] 107)).alloc (.cells #[.complex .f64 0 0, .complex .f64 0 0] 107) = W
  have hb : Below w.heap.size w W := hW ▸ ((Below.refl _ _).alloc (Nat.le_refl _) _).alloc (by simp) _
  have k0 : W.cell? ⟨w.heap.size, 0, none⟩ = some (.complex .f64 A B) := by rw [← hW]; simp [go_sem]
  have k1 : W.cell? ⟨w.heap.size, 1, none⟩ = some (.complex .f64 C D) := by rw [← hW]; simp [go_sem]
  have r0 : W.cell? ⟨w.heap.size + 1, 0, none⟩ = some (.complex .f64 0 0) := by rw [← hW]; simp [go_sem]
  have r1 : W.cell? ⟨w.heap.size + 1, 1, none⟩ = some (.complex .f64 0 0) := by rw [← hW]; simp [go_sem]
  have f0 : W.frozen? ⟨w.heap.size + 1, 0, none⟩ = false := by rw [← hW]; simp [go_sem]
  have f1 : W.frozen? ⟨w.heap.size + 1, 1, none⟩ = false := by rw [← hW]; simp [go_sem]
  clear hW
  have hst := store_complex
  go_region_held3 (fun x => x.cell? ⟨w.heap.size, 0, none⟩ = some (.complex .f64 A B) ∧ x.cell? ⟨w.heap.size, 1, none⟩ = some (.complex .f64 C D)) (go_keep) (first | (go_at_call 98; refine (hr _).mono ?_; rintro e w' ⟨rfl, rfl⟩))
  go_wp2
  refine bodyPost_ret (v := .agg #[.complex .f64 E F, .complex .f64 C D]) (by simp [results, Try.results100, go_sem, r0, r1]) rfl ⟨rfl, ?_⟩
  exact ((hb.setCell (by simp) _).setCell (by simp) _).drew

set_option maxHeartbeats 2000000 in
theorem stirred_raw {A B C D H1 H2 S1 S2 E F : Nat} {n : Int} (hh : ∀ w, Calls Try.prog 49 #[.int .u32 n] w fun e w' => e = .returned (.complex .f64 H1 H2) ∧ w' = w) (hs : cSumBits .add .f64 A B H1 H2 = some (S1, S2))
    (hr : ∀ w, Calls Try.prog 98 #[.complex .f64 S1 S2] w fun e w' => e = .returned (.complex .f64 E F) ∧ w' = w) (w : World) :
    Calls Try.prog 88 #[.agg #[.complex .f64 A B, .complex .f64 C D], .int .u32 n] w fun e w' =>
      e = .returned (.agg #[.complex .f64 E F, .complex .f64 C D]) ∧ Below w.heap.size w w' := by
  have o2 := fun t w => run_complex_sum (P := Try.prog) w .add (Or.inl rfl) t .f64 A B H1 H2 S1 S2 hs
  clear hs
  go_enter Try.func88, Try.ntmps88
  go_wp2
  generalize hW : (w.alloc (.cells #[.complex .f64 A B, .complex .f64 C D] 107)).alloc (.cells #[.complex .f64 0 0, .complex .f64 0 0] 107) = W
  have hb : Below w.heap.size w W := hW ▸ ((Below.refl _ _).alloc (Nat.le_refl _) _).alloc (by simp) _
  have k0 : W.cell? ⟨w.heap.size, 0, none⟩ = some (.complex .f64 A B) := by rw [← hW]; simp [go_sem]
  have k1 : W.cell? ⟨w.heap.size, 1, none⟩ = some (.complex .f64 C D) := by rw [← hW]; simp [go_sem]
  have r0 : W.cell? ⟨w.heap.size + 1, 0, none⟩ = some (.complex .f64 0 0) := by rw [← hW]; simp [go_sem]
  have r1 : W.cell? ⟨w.heap.size + 1, 1, none⟩ = some (.complex .f64 0 0) := by rw [← hW]; simp [go_sem]
  have f0 : W.frozen? ⟨w.heap.size + 1, 0, none⟩ = false := by rw [← hW]; simp [go_sem]
  have f1 : W.frozen? ⟨w.heap.size + 1, 1, none⟩ = false := by rw [← hW]; simp [go_sem]
  clear hW
  have hst := store_complex
  go_region_held3 (fun x => x.cell? ⟨w.heap.size, 0, none⟩ = some (.complex .f64 A B) ∧ x.cell? ⟨w.heap.size, 1, none⟩ = some (.complex .f64 C D)) (go_keep) (first | (go_at_call 98; refine (hr _).mono ?_; rintro e w' ⟨rfl, rfl⟩) | (go_at_call 49; refine (hh _).mono ?_; rintro e w' ⟨rfl, rfl⟩))
  go_wp2
  refine bodyPost_ret (v := .agg #[.complex .f64 E F, .complex .f64 C D]) (by simp [results, Try.results88, go_sem, r0, r1]) rfl ⟨rfl, ?_⟩
  exact ((hb.setCell (by simp) _).setCell (by simp) _).drew

end Go.Proofs.Ytdapjpbdplhgbaa.Rng
