/- Contracts of what the program makes complex numbers of, and of its parts. -/
import Derived.Test.YtdapjpbdplhgbaaRows
import Derived.Test.YtdapjpbdplhgbaaRngFloat
import Derived.WalkKit
import Derived.WalkSpells
import Derived.WalkLawsBesides
namespace Go.Proofs.Ytdapjpbdplhgbaa.Rng
open Go.RowKit
set_option linter.unusedVariables false
set_option maxRecDepth 100000

theorem hide {p : Prop} (h : p) : Hid p := h

theorem ret_int {k : IntKind} {a b : Int} (h : a = b) : Ending.returned (.int k a) = .returned (.int k b) := by rw [h]

/-- The double of a whole number. -/
def num (n : Int) : Nat := floatOfInt .f64 n

theorem num_is (n : Int) (h1 : 0 ≤ n) (h2 : n ≤ 65520) : Whole.Is (num n) n := Whole.of_int n (by omega)

theorem part_eq (n : Int) : (n.tmod 65521 + 65521).tmod 65521 = n % 65521 := by
  have h : n.tmod 65521 = if 0 ≤ n then n % 65521 else -((-n) % 65521) := by
    split
    · rename_i h; exact Int.tmod_eq_emod_of_nonneg h
    · rename_i h
      have e : n.tmod 65521 = -((-n).tmod 65521) := by rw [Int.neg_tmod, Int.neg_neg]
      rw [e, Int.tmod_eq_emod_of_nonneg (by omega)]
  rw [h]
  split
  · rw [Int.tmod_eq_emod_of_nonneg (by omega)]; omega
  · rw [Int.tmod_eq_emod_of_nonneg (by omega)]; omega

theorem part_in (n : Int) : wrap64 (n.tmod 65521 + 65521) = n.tmod 65521 + 65521 := by
  have h1 := Int.tmod_lt_of_pos n (b := 65521) (by decide)
  have h2 : -65521 < n.tmod 65521 := by
    have := Int.tmod_lt_of_pos (-n) (b := 65521) (by decide)
    rw [Int.neg_tmod] at this; omega
  unfold wrap64
  omega

theorem part_any (n : Int) (w : World) :
    Calls Try.prog 75 #[.int .i64 n] w fun e w' => e = .returned (.int .i64 (n % 65521)) ∧ w' = w := by
  go_enter Try.func75, Try.ntmps75
  go_wp2
  go_ret
  exact ⟨ret_int (by rw [part_in]; exact part_eq n), rfl⟩

theorem number_any (a b : Int) (w : World) :
    Calls Try.prog 50 #[.int .i64 a, .int .i64 b] w fun e w' => e = .returned (.complex .f64 (num (a % 65521)) (num (b % 65521))) ∧ w' = w := by
  go_enter Try.func50, Try.ntmps50
  go_wp2_with fail
  refine (part_any a _).mono ?_
  rintro e w' ⟨rfl, rfl⟩
  go_wp2_with fail
  refine (part_any b _).mono ?_
  rintro e w' ⟨rfl, rfl⟩
  go_wp2
  go_ret
  exact ⟨rfl, rfl⟩

theorem halves_any (n : Int) (h1 : 0 ≤ n) (h2 : n ≤ 4294967295) (w : World) :
    Calls Try.prog 49 #[.int .u32 n] w fun e w' => e = .returned (.complex .f64 (num (n % 65536 % 65521)) (num (n / 65536 % 65521))) ∧ w' = w := by
  go_enter Try.func49, Try.ntmps49
  go_wp2_with fail
  refine (number_any (n % 65536) (n / 65536) _).mono ?_
  rintro e w' ⟨rfl, rfl⟩
  go_wp2
  go_ret
  exact ⟨rfl, rfl⟩

theorem conv_int {a : Nat} {x : Int} (h : Whole.Is a x) (h1 : -9223372036854775808 ≤ x) (h2 : x ≤ 9223372036854775807) (w : World) : (convert 138 3 (.float .f64 a)).run Try.prog w = .ok (.int .i64 x) w :=
  run_convert_float_int w 138 3 .f64 .i64 a x (by rw [Try.underlying138]; rfl) Try.underlying3 (Whole.to_int h .i64 h1 h2)

theorem conv_word {a : Nat} {x : Int} (h : Whole.Is a x) (h1 : 0 ≤ x) (h2 : x ≤ 4294967295) (w : World) : (convert 138 34 (.float .f64 a)).run Try.prog w = .ok (.int .u32 x) w :=
  run_convert_float_int w 138 34 .f64 .u32 a x (by rw [Try.underlying138]; rfl) Try.underlying34 (Whole.to_int h .u32 h1 h2)

theorem reduced_any {a b : Nat} {x y : Int} (ha : Whole.Is a x) (hb : Whole.Is b y) (h1 : -10000000000 ≤ x) (h2 : x ≤ 10000000000) (h3 : -10000000000 ≤ y) (h4 : y ≤ 10000000000) (w : World) :
    Calls Try.prog 98 #[.complex .f64 a b] w fun e w' => e = .returned (.complex .f64 (num (x % 65521)) (num (y % 65521))) ∧ w' = w := by
  have c1 := conv_int ha (by omega) (by omega)
  have c2 := conv_int hb (by omega) (by omega)
  clear ha hb
  go_enter Try.func98, Try.ntmps98
  go_wp2_with fail
  refine (number_any x y _).mono ?_
  rintro e w' ⟨rfl, rfl⟩
  go_wp2
  go_ret
  exact ⟨rfl, rfl⟩

theorem told_any (x y u v : Int) (x1 : 0 ≤ x) (x2 : x ≤ 65520) (y1 : 0 ≤ y) (y2 : y ≤ 65520) (u1 : 0 ≤ u) (u2 : u ≤ 65520) (v1 : 0 ≤ v) (v2 : v ≤ 65520) (w : World) :
    Calls Try.prog 51 #[.agg #[.complex .f64 (num x) (num y), .complex .f64 (num u) (num v)]] w fun e w' =>
      e = .returned (.agg #[.int .i64 x, .int .i64 y, .int .i64 u, .int .i64 v]) ∧ Below w.heap.size w w' := by
  have c1 := conv_int (num_is x x1 x2) (by omega) (by omega)
  have c2 := conv_int (num_is y y1 y2) (by omega) (by omega)
  have c3 := conv_int (num_is u u1 u2) (by omega) (by omega)
  have c4 := conv_int (num_is v v1 v2) (by omega) (by omega)
  go_enter Try.func51, Try.ntmps51
  go_wp2
  refine bodyPost_ret (v := .agg #[.int .i64 x, .int .i64 y, .int .i64 u, .int .i64 v]) (by simp [results, Try.results51, go_sem]) rfl ⟨rfl, ?_⟩
  exact ((Below.refl _ _).alloc (Nat.le_refl _) _).alloc (by simp) _

theorem word_any (x y u v : Int) (x1 : 0 ≤ x) (x2 : x ≤ 65520) (y1 : 0 ≤ y) (y2 : y ≤ 65520) (w : World) :
    Calls Try.prog 101 #[.agg #[.complex .f64 (num x) (num y), .complex .f64 (num u) (num v)]] w fun e w' =>
      e = .returned (.int .u32 (x + 65536 * y)) ∧ Below w.heap.size w w' := by
  have c1 := conv_word (num_is x x1 x2) (by omega) (by omega)
  have c2 := conv_word (num_is y y1 y2) (by omega) (by omega)
  go_enter Try.func101, Try.ntmps101
  go_wp2
  go_ret
  exact ⟨rfl, (Below.refl _ _).alloc (Nat.le_refl _) _⟩

end Go.Proofs.Ytdapjpbdplhgbaa.Rng
