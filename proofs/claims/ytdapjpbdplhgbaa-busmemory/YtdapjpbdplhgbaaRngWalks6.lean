/- Contracts of the document's answers of layer 3: a number modulo 65521, and a place with its parts modulo 65521. -/
import Derived.Test.YtdapjpbdplhgbaaRngWalks5
namespace Go.Proofs.Ytdapjpbdplhgbaa.Rng
open Go.RowKit
set_option linter.unusedVariables false
set_option maxRecDepth 100000

theorem tmod_neg (n : Int) (h : n.tmod 65521 < 0) : n.tmod 65521 + 65521 = n % 65521 := by
  have e := part_eq n
  rw [Int.tmod_eq_emod_of_nonneg (by
    have := Int.tmod_lt_of_pos (-n) (b := 65521) (by decide)
    rw [Int.neg_tmod] at this; omega)] at e
  have := Int.tmod_lt_of_pos (-n) (b := 65521) (by decide)
  rw [Int.neg_tmod] at this
  omega

theorem tmod_pos (n : Int) (h : ¬ n.tmod 65521 < 0) : n.tmod 65521 = n % 65521 := by
  have e := part_eq n
  rw [Int.tmod_eq_emod_of_nonneg (by omega)] at e
  have := Int.tmod_lt_of_pos n (b := 65521) (by decide)
  omega

theorem mod_any (n : Int) (w : World) :
    Calls Try.prog 58 #[.int .i64 n] w fun e w' => e = .returned (.int .i64 (n % 65521)) ∧ w' = w := by
  have h := part_in n
  by_cases hn : n.tmod 65521 < 0
  · go_enter Try.func58, Try.ntmps58
    go_wp2
    go_ret
    exact ⟨ret_int (by first | exact tmod_neg n hn | (rw [h]; exact tmod_neg n hn)), rfl⟩
  · go_enter Try.func58, Try.ntmps58
    go_wp2
    go_ret
    exact ⟨ret_int (tmod_pos n (by omega)), rfl⟩

set_option maxHeartbeats 4000000 in
theorem least_over (f : Int → Int) (hm : ∀ n w, Calls Try.prog 58 #[.int .i64 n] w fun e w' => e = .returned (.int .i64 (f n)) ∧ w' = w) (a b c d : Int) (w : World) :
    Calls Try.prog 32 #[.agg #[.int .i64 a, .int .i64 b, .int .i64 c, .int .i64 d]] w fun e w' =>
      e = .returned (.agg #[.int .i64 (f a), .int .i64 (f b), .int .i64 (f c), .int .i64 (f d)]) ∧ Below w.heap.size w w' := by
  go_enter Try.func32, Try.ntmps32
  go_wp2
  generalize hW : (w.alloc (.cells #[.int .i64 a, .int .i64 b, .int .i64 c, .int .i64 d] 58)).alloc (.cells #[.int .i64 0, .int .i64 0, .int .i64 0, .int .i64 0] 58) = W
  have hb : Below w.heap.size w W := hW ▸ ((Below.refl _ _).alloc (Nat.le_refl _) _).alloc (by simp) _
  have k0 : W.cell? ⟨w.heap.size, 0, none⟩ = some (.int .i64 a) := by rw [← hW]; simp [go_sem]
  have k1 : W.cell? ⟨w.heap.size, 1, none⟩ = some (.int .i64 b) := by rw [← hW]; simp [go_sem]
  have k2 : W.cell? ⟨w.heap.size, 2, none⟩ = some (.int .i64 c) := by rw [← hW]; simp [go_sem]
  have k3 : W.cell? ⟨w.heap.size, 3, none⟩ = some (.int .i64 d) := by rw [← hW]; simp [go_sem]
  have r0 : W.cell? ⟨w.heap.size + 1, 0, none⟩ = some (.int .i64 0) := by rw [← hW]; simp [go_sem]
  have r1 : W.cell? ⟨w.heap.size + 1, 1, none⟩ = some (.int .i64 0) := by rw [← hW]; simp [go_sem]
  have r2 : W.cell? ⟨w.heap.size + 1, 2, none⟩ = some (.int .i64 0) := by rw [← hW]; simp [go_sem]
  have r3 : W.cell? ⟨w.heap.size + 1, 3, none⟩ = some (.int .i64 0) := by rw [← hW]; simp [go_sem]
  have f0 : ∀ o, W.frozen? ⟨w.heap.size + 1, o, none⟩ = false := by intro o; rw [← hW]; simp [go_sem]
  clear hW
  go_region_held3 (fun x => x.cell? ⟨w.heap.size, 0, none⟩ = some (.int .i64 a) ∧ x.cell? ⟨w.heap.size, 1, none⟩ = some (.int .i64 b) ∧ x.cell? ⟨w.heap.size, 2, none⟩ = some (.int .i64 c) ∧ x.cell? ⟨w.heap.size, 3, none⟩ = some (.int .i64 d)) (go_keep) (first | (go_at_call 58; refine (hm _ _).mono ?_; rintro e w' ⟨rfl, rfl⟩))
  all_goals
    go_wp2
    refine bodyPost_ret (v := .agg #[.int .i64 (f a), .int .i64 (f b), .int .i64 (f c), .int .i64 (f d)]) (by simp [results, Try.results32, go_sem, r0, r1, r2, r3]) rfl ⟨rfl, ?_⟩
    exact (set4 hb (by omega)).drew

theorem least_any (a b c d : Int) (w : World) :
    Calls Try.prog 32 #[.agg #[.int .i64 a, .int .i64 b, .int .i64 c, .int .i64 d]] w fun e w' =>
      e = .returned (.agg #[.int .i64 (a % 65521), .int .i64 (b % 65521), .int .i64 (c % 65521), .int .i64 (d % 65521)]) ∧ Below w.heap.size w w' :=
  least_over (fun n => n % 65521) mod_any a b c d w

end Go.Proofs.Ytdapjpbdplhgbaa.Rng
