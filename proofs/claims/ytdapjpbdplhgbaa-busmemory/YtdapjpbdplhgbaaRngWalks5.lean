/- What the program's four calls answer, over whole numbers: for every place and word. -/
import Derived.Test.YtdapjpbdplhgbaaRngWalks4
import Derived.Test.YtdapjpbdplhgbaaRngPlain
namespace Go.Proofs.Ytdapjpbdplhgbaa.Rng
open Go.RowKit
set_option linter.unusedVariables false
set_option maxRecDepth 100000

theorem place_any (a b c d : Int) (w : World) :
    Calls Try.prog 87 #[.agg #[.int .i64 a, .int .i64 b, .int .i64 c, .int .i64 d]] w fun e w' =>
      e = .returned (.agg #[.complex .f64 (num (a % 65521)) (num (b % 65521)), .complex .f64 (num (c % 65521)) (num (d % 65521))]) ∧ Below w.heap.size w w' :=
  placeOf_raw (fun n => num (n % 65521)) number_any a b c d w

theorem pnext_any (x y u v : Int) (hx : 0 ≤ x ∧ x ≤ 65520) (hy : 0 ≤ y ∧ y ≤ 65520) (hu : 0 ≤ u ∧ u ≤ 65520) (hv : 0 ≤ v ∧ v ≤ 65520) (w : World) :
    Calls Try.prog 100 #[.agg #[.complex .f64 (num x) (num y), .complex .f64 (num u) (num v)]] w fun e w' =>
      e = .returned (.agg #[.complex .f64 (num (Rng.nre x y u)) (num (Rng.nim x y v)), .complex .f64 (num u) (num v)]) ∧ Below w.heap.size w w' := by
  obtain ⟨m1, m2, hm, i1, i2⟩ := Whole.sq_is (num_is x hx.1 hx.2) (num_is y hy.1 hy.2) hx hy
  have h1 := Rng.sq_in x x hx hx
  have h2 := Rng.sq_in y y hy hy
  have h3 := Rng.sq_in x y hx hy
  obtain ⟨s1, s2, hs, j1, j2⟩ := Whole.plus_is i1 i2 (num_is u hu.1 hu.2) (num_is v hv.1 hv.2) (by omega) (by omega)
  exact next_raw hm hs (fun w => reduced_any j1 j2 (by omega) (by omega) (by omega) (by omega) w) w

theorem pstir_any (x y u v n : Int) (hx : 0 ≤ x ∧ x ≤ 65520) (hy : 0 ≤ y ∧ y ≤ 65520) (hn : 0 ≤ n ∧ n ≤ 4294967295) (w : World) :
    Calls Try.prog 88 #[.agg #[.complex .f64 (num x) (num y), .complex .f64 (num u) (num v)], .int .u32 n] w fun e w' =>
      e = .returned (.agg #[.complex .f64 (num ((x + n % 65536 % 65521) % 65521)) (num ((y + n / 65536 % 65521) % 65521)), .complex .f64 (num u) (num v)]) ∧ Below w.heap.size w w' := by
  obtain ⟨s1, s2, hs, j1, j2⟩ := Whole.plus_is (num_is x hx.1 hx.2) (num_is y hy.1 hy.2) (num_is (n % 65536 % 65521) (by omega) (by omega)) (num_is (n / 65536 % 65521) (by omega) (by omega)) (by omega) (by omega)
  exact stirred_raw (fun w => halves_any n hn.1 hn.2 w) hs (fun w => reduced_any j1 j2 (by omega) (by omega) (by omega) (by omega) w) w

theorem seed_any (n : Int) (hn : 0 ≤ n ∧ n ≤ 4294967295) (w : World) :
    Calls Try.prog 24 #[.int .u32 n] w fun e w' =>
      e = .returned (.agg #[.int .i64 (n % 65536 % 65521), .int .i64 (n / 65536 % 65521), .int .i64 12345, .int .i64 6789]) ∧ Below w.heap.size w w' :=
  seed_raw (fun w => halves_any n hn.1 hn.2 w) (fun w => number_any 12345 6789 w)
    (fun w => told_any _ _ 12345 6789 (by omega) (by omega) (by omega) (by omega) (by omega) (by omega) (by omega) (by omega) w) w

theorem next_any (a b c d : Int) (w : World) :
    Calls Try.prog 96 #[.agg #[.int .i64 a, .int .i64 b, .int .i64 c, .int .i64 d]] w fun e w' =>
      e = .returned (.tuple #[.int .u32 (Rng.nre (a % 65521) (b % 65521) (c % 65521) + 65536 * Rng.nim (a % 65521) (b % 65521) (d % 65521)),
        .agg #[.int .i64 (Rng.nre (a % 65521) (b % 65521) (c % 65521)), .int .i64 (Rng.nim (a % 65521) (b % 65521) (d % 65521)), .int .i64 (c % 65521), .int .i64 (d % 65521)]]) ∧ Below w.heap.size w w' := by
  have h1 := Rng.nre_in (a % 65521) (b % 65521) (c % 65521)
  have h2 := Rng.nim_in (a % 65521) (b % 65521) (d % 65521)
  have h3 := Rng.md_in c
  have h4 := Rng.md_in d
  exact next_over (fun w => place_any a b c d w) (fun w => pnext_any _ _ _ _ (Rng.md_in a) (Rng.md_in b) h3 h4 w)
    (fun w => word_any _ _ _ _ h1.1 h1.2 h2.1 h2.2 w) (fun w => told_any _ _ _ _ h1.1 h1.2 h2.1 h2.2 h3.1 h3.2 h4.1 h4.2 w) w

theorem stir_any (a b c d n : Int) (hn : 0 ≤ n ∧ n ≤ 4294967295) (w : World) :
    Calls Try.prog 69 #[.agg #[.int .i64 a, .int .i64 b, .int .i64 c, .int .i64 d], .int .u32 n] w fun e w' =>
      e = .returned (.agg #[.int .i64 ((a % 65521 + n % 65536 % 65521) % 65521), .int .i64 ((b % 65521 + n / 65536 % 65521) % 65521), .int .i64 (c % 65521), .int .i64 (d % 65521)]) ∧ Below w.heap.size w w' := by
  have h1 := Rng.md_in (a % 65521 + n % 65536 % 65521)
  have h2 := Rng.md_in (b % 65521 + n / 65536 % 65521)
  have h3 := Rng.md_in c
  have h4 := Rng.md_in d
  exact stir_raw (fun w => place_any a b c d w) (fun w => pstir_any _ _ _ _ n (Rng.md_in a) (Rng.md_in b) hn w)
    (fun w => told_any _ _ _ _ h1.1 h1.2 h2.1 h2.2 h3.1 h3.2 h4.1 h4.2 w) w

end Go.Proofs.Ytdapjpbdplhgbaa.Rng
