/- Contracts of the document's four calls of layer 3. -/
import Derived.Test.YtdapjpbdplhgbaaRngWalks6
namespace Go.Proofs.Ytdapjpbdplhgbaa.Rng
open Go.RowKit
set_option linter.unusedVariables false
set_option maxRecDepth 100000

theorem rseed_over {n x y : Int} (h1 : 0 ≤ n) (h2 : n ≤ 4294967295)
    (hl : ∀ w, Calls Try.prog 32 #[.agg #[.int .i64 (n % 65536), .int .i64 (n / 65536), .int .i64 12345, .int .i64 6789]] w fun e w' => e = .returned (.agg #[.int .i64 x, .int .i64 y, .int .i64 12345, .int .i64 6789]) ∧ Below w.heap.size w w') (w : World) :
    Calls Try.prog 26 #[.int .u32 n] w fun e w' =>
      e = .returned (.agg #[.int .i64 x, .int .i64 y, .int .i64 12345, .int .i64 6789]) ∧ Below w.heap.size w w' := by
  go_enter Try.func26, Try.ntmps26
  go_wp2_with fail
  refine (hl _).mono ?_
  rintro e w1 ⟨rfl, hb⟩
  obtain ⟨hc, hf⟩ := bcell hb
  go_wp2
  refine bodyPost_ret (v := .agg #[.int .i64 x, .int .i64 y, .int .i64 12345, .int .i64 6789]) (by simp [results, Try.results26, go_sem, hc]) rfl ⟨rfl, ?_⟩
  exact set4 (((Below.refl _ w).alloc (Nat.le_refl _) _).trans (hb.mono (by simp))) (Nat.le_refl _)

theorem rseed_any (n : Int) (hn : 0 ≤ n ∧ n ≤ 4294967295) (w : World) :
    Calls Try.prog 26 #[.int .u32 n] w fun e w' =>
      e = .returned (.agg #[.int .i64 (n % 65536 % 65521), .int .i64 (n / 65536 % 65521), .int .i64 12345, .int .i64 6789]) ∧ Below w.heap.size w w' :=
  rseed_over hn.1 hn.2 (fun w => least_any (n % 65536) (n / 65536) 12345 6789 w) w

end Go.Proofs.Ytdapjpbdplhgbaa.Rng
